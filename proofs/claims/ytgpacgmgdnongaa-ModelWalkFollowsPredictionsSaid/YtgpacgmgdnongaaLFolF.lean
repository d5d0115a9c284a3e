/-
  A walk of ModelWalkFollowsPredictions.
-/
import Derived.Test.YtgpacgmgdnongaaLFolA
namespace Go.Proofs.Ytgpacgmgdnongaa.lawFol
open Go.RowKit

set_option maxRecDepth 100000 in
set_option maxHeartbeats 8000000 in
theorem walk_f (d : Nat) (hd : d ≤ 2) (zs : List Int) (last : Int) (hl : zs.length < 8192) (k : Nat) (hk : k < zs.length) (h1 : ∀ j, j < k → isB (zs.getD j 0)) (h2 : ¬ isB (zs.getD k 0)) (l : List Bool) (hlk : l.length = k) (hlb : ∀ j, j < k → zs.getD j 0 = (((l.getD j false).toNat : Nat) : Int)) (A : Option Addr) (cp : Nat) (hcp : zs.length ≤ cp) (w : World) (hS : Sl w w.heap.size A zs.length (zl zs)) :
    Calls Try.prog 6 #[.int .i64 d, .slice A zs.length cp, .int .i64 last] w fun e w' => e = .returned (.bool true) ∧ Below w.heap.size w w' := by
  have hmf : ∀ (fn : Fn) (first cap : Array Value) (w : World), (Instr.makeFunc fn first cap).run Try.prog w = .ok (.func fn first cap) w := fun _ _ _ _ => rfl
  have HS := Lib.hid hS
  clear hS
  go_enter Try.func6, Try.ntmps6
  go_upto_region 2 with fail
  refine wp_world (F := fun W => Row W w.heap.size 22 #[.slice A zs.length cp] ∧ Row W (w.heap.size + 1) 3 #[.int .i64 last] ∧ Row W (w.heap.size + 2) 22 #[.slice none 0 0] ∧ W.heap.size = w.heap.size + 3 ∧ Below w.heap.size w W) ⟨((Row.newEq _ _ _ _ _ rfl rfl).alloc _).alloc _, (Row.newEq _ _ _ _ _ (by simp) rfl).alloc _, Row.newEq _ _ _ _ _ (by simp) rfl, by simp, (((Below.refl _ _).alloc (Nat.le_refl _) _).alloc (by simp) _).alloc (by simp; omega) _⟩ ?_
  rintro W1 ⟨rH, rL, rP, hsz, hb⟩
  have hCI : CI w W1 W1 (w.heap.size + 2) (w.heap.size + 3) (.slice none 0 0) [] := ⟨hb, fun _ _ _ => rfl, rP, by rw [nl_nil]; exact World.ownsRow_nil _ _ _ _, by omega, by omega, by omega, fun e => by cases e⟩
  have c0 : W1.cell? ⟨w.heap.size, 0, none⟩ = some (.slice A zs.length cp) := (rH.cell 0).trans rfl
  have hwk : Calls Try.prog 14 #[.int .i64 d, .int .i64 ((zs.length : Int) + 1), .func (.func 15) #[] #[.pointer (some ⟨w.heap.size + 1 + 1, 0, none⟩), .pointer (some ⟨w.heap.size, 0, none⟩), .pointer (some ⟨w.heap.size + 1, 0, none⟩)]] W1 fun e w' => e = .returned (.agg (flt 6 k)) ∧ ∃ v, CI w W1 w' (w.heap.size + 2) (w.heap.size + 3) v (preds d l (k + 1)) := by
    have hf := walk_follow d hd zs last hl l (by omega) (zs.getD k 0) ⟨fun e => h2 (.inl e), fun e => h2 (.inr e)⟩ (fun i hi => by unfold ansF; rw [if_pos (by omega)]; exact hlb i (by omega)) (fun _ => by unfold ansF; rw [hlk, if_pos hk]) w W1 (w.heap.size + 2) w.heap.size (w.heap.size + 1) (w.heap.size + 3) _ hCI (by omega) A cp hcp rH (by omega) (by omega) rL (by omega) (by omega) HS.out
    rw [if_pos (by omega), if_pos (by omega), hlk] at hf
    exact hf
  have HW := Lib.hid hwk
  clear hwk hCI rP hb
  go_upto_region 3 with (first
    | (go_at_call 14; refine HW.out.mono ?_; rintro e w17 ⟨rfl, v, hCI⟩)
    | (refine wpList_store_row rfl 24 _ _ rfl w17.heap.size (flt 6 k) rfl rfl 24 (flt 0 0) (Row.newEq _ _ _ _ _ rfl rfl) (by rw [flt_size]; exact cellsF) rfl (all_one (flt_one _ _)) ?_))
  have hk1 := blw_new1 w17 (.cells #[.int .i64 0, .int .i64 0] 24) (flt 6 k)
  have hlen := hCI.ow
  obtain ⟨M, hM⟩ : ∃ M, M = k + 1 := ⟨_, rfl⟩
  rw [preds_length] at hlen
  replace hlen : w17.ownsRow (w.heap.size + 3) 3 1 v M (nl (preds d l (k + 1))) := by rw [hM]; exact hlen
  obtain ⟨Av, cv, rfl, _, _⟩ := own_form hlen
  have rH2 : Row w17 w.heap.size 22 #[.slice A zs.length cp] := (hCI.fix _ (by omega) (by omega)).trans rH
  have rL2 : Row w17 (w.heap.size + 1) 3 #[.int .i64 last] := (hCI.fix _ (by omega) (by omega)).trans rL
  refine wp_world (F := fun W => Row W w17.heap.size 24 (flt 6 k) ∧ Row W (w.heap.size + 2) 22 #[.slice Av M cv] ∧ Sl W w17.heap.size Av M (nl (preds d l (k + 1))) ∧ Row W w.heap.size 22 #[.slice A zs.length cp] ∧ Row W (w.heap.size + 1) 3 #[.int .i64 last] ∧ w.heap.size + 2 < w17.heap.size ∧ Below w.heap.size w W) ⟨row_new1 _ _ _ _, hCI.rp.below hk1 hCI.rp.lt, (Sl.of_own hlen).below hk1, rH2.below hk1 rH2.lt, rL2.below hk1 rL2.lt, hCI.rp.lt, up_call hCI.bl hk1⟩ ?_
  generalize w17.heap.size = g8
  clear hk1 hlen rH rL rH2 rL2 hCI HW c0 hsz w17 W1
  rintro W2 ⟨r8, rP, hSg, rH, rL, hlt8, hb⟩
  have c0 : W2.cell? ⟨w.heap.size, 0, none⟩ = some (.slice A zs.length cp) := (rH.cell 0).trans rfl
  have hpf : Calls Try.prog 9 #[.int .i64 d, .slice A zs.length cp] W2 fun e w' => e = .returned (.agg (flt 6 k)) ∧ Below W2.heap.size W2 w' := by
    exact pfl_form zs d (by omega) hl k hk h1 h2 A cp W2 (HS.out.up hb)
  have HPF := Lib.hid hpf
  clear hpf
  go_upto_region 4 with (first
    | (go_at_call 9; refine HPF.out.mono ?_; rintro e w20 ⟨rfl, hb20⟩)
    | (refine wpList_store_row rfl 24 _ _ rfl w20.heap.size (flt 6 k) rfl rfl 24 (flt 0 0) (Row.newEq _ _ _ _ _ rfl rfl) (by rw [flt_size]; exact cellsF) rfl (all_one (flt_one _ _)) ?_))
  have hk1 := up_call hb20 (blw_new1 w20 (.cells #[.int .i64 0, .int .i64 0] 24) (flt 6 k))
  refine wp_world (F := fun W => Row W g8 24 (flt 6 k) ∧ Row W w20.heap.size 24 (flt 6 k) ∧ Row W (w.heap.size + 2) 22 #[.slice Av M cv] ∧ Sl W g8 Av M (nl (preds d l (k + 1))) ∧ Row W w.heap.size 22 #[.slice A zs.length cp] ∧ Row W (w.heap.size + 1) 3 #[.int .i64 last] ∧ g8 < w20.heap.size ∧ Below w.heap.size w W) ⟨r8.below hk1 r8.lt, row_new1 _ _ _ _, rP.below hk1 rP.lt, hSg.below (hk1.mono (Nat.le_of_lt r8.lt)), rH.below hk1 rH.lt, rL.below hk1 rL.lt, Nat.lt_of_lt_of_le r8.lt hb20.size, up_call hb hk1⟩ ?_
  generalize w20.heap.size = g9
  clear hk1 hb20 HPF r8 rP hSg rH rL hb c0 w20 W2
  rintro W3 ⟨r8, r9, rP, hSg, rH, rL, hlt9, hb⟩
  subst hM
  have heq1 : ∀ w, (binOp .eql 24 (.agg #[.int .i64 6, .int .i64 k]) (.agg #[.int .i64 6, .int .i64 k])).run Try.prog w = .ok (.bool true) w := fun w => by have h := eql_flt 6 k 6 k w; simp only [beq_self_eq_true, Bool.and_self] at h; exact h
  have heq2 : ∀ w, (Op.equalIn 10000 24 (.agg #[.int .i64 6, .int .i64 k]) (.agg #[.int .i64 6, .int .i64 k])).run Try.prog w = .ok true w := fun w => by have h := eqin_flt 6 k 6 k w; simp only [beq_self_eq_true, Bool.and_self] at h; exact h
  clear hSg rH rL h1 h2 hlb
  go_wp2_with (first
    | (go_at_call 10; refine (predicts_any _).mono ?_; rintro e w21 ⟨rfl, hb21⟩; have q8 := r8.below hb21 r8.lt; have q9 := r9.below hb21 r9.lt; have qP := rP.below hb21 rP.lt; have hb2 := up_call hb hb21; have k0 : w21.cell? ⟨g9, 0, none⟩ = some (.int .i64 6) := (q9.cell 0).trans rfl; have k2 : w21.cell? ⟨g9, 1, none⟩ = some (.int .i64 k) := (q9.cell 1).trans rfl; have k4 : w21.cell? ⟨g8, 0, none⟩ = some (.int .i64 6) := (q8.cell 0).trans rfl; have k5 : w21.cell? ⟨g8, 1, none⟩ = some (.int .i64 k) := (q8.cell 1).trans rfl; have k1 : w21.cell? ⟨w.heap.size + 2, 0, none⟩ = some (.slice Av (k + 1) cv) := (qP.cell 0).trans rfl))
  go_ret
  exact ⟨ret_bool (by simp), hb2⟩
end Go.Proofs.Ytgpacgmgdnongaa.lawFol
