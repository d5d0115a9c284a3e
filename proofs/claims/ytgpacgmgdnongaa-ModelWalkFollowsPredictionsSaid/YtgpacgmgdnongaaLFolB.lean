/-
  A walk of ModelWalkFollowsPredictions.
-/
import Derived.Test.YtgpacgmgdnongaaLFolA
namespace Go.Proofs.Ytgpacgmgdnongaa.lawFol
open Go.RowKit

set_option maxRecDepth 100000 in
set_option maxHeartbeats 8000000 in
theorem walk_b (d : Nat) (hd : d ≤ 2) (l : List Bool) (hl : l.length < 8192) (zs : List Int) (hz : zs = bz l) (hzl : zs.length = l.length) (last : Int) (b : Bool) (hbl : last = ((b.toNat : Nat) : Int)) (A : Option Addr) (cp : Nat) (hcp : zs.length ≤ cp) (w : World) (hS : Sl w w.heap.size A zs.length (zl zs)) :
    Calls Try.prog 6 #[.int .i64 d, .slice A zs.length cp, .int .i64 last] w fun e w' => e = .returned (.bool true) ∧ Below w.heap.size w w' := by
  have hzs : zs.length < 8192 := by omega
  have HZ := Lib.hid (And.intro hz hzl)
  clear hz hzl hl
  have HBL := Lib.hid hbl
  clear hbl
  have hmf : ∀ (fn : Fn) (first cap : Array Value) (w : World), (Instr.makeFunc fn first cap).run Try.prog w = .ok (.func fn first cap) w := fun _ _ _ _ => rfl
  have HS := Lib.hid hS
  clear hS
  go_enter Try.func6, Try.ntmps6
  go_upto_region 2 with fail
  refine wp_world (F := fun W => Row W w.heap.size 22 #[.slice A zs.length cp] ∧ Row W (w.heap.size + 1) 3 #[.int .i64 last] ∧ Row W (w.heap.size + 2) 22 #[.slice none 0 0] ∧ W.heap.size = w.heap.size + 3 ∧ Below w.heap.size w W) ⟨((Row.newEq _ _ _ _ _ rfl rfl).alloc _).alloc _, (Row.newEq _ _ _ _ _ (by simp) rfl).alloc _, Row.newEq _ _ _ _ _ (by simp) rfl, by simp, (((Below.refl _ _).alloc (Nat.le_refl _) _).alloc (by simp) _).alloc (by simp; omega) _⟩ ?_
  rintro W1 ⟨rH, rL, rP, hsz, hb⟩
  have hCI : CI w W1 W1 (w.heap.size + 2) (w.heap.size + 3) (.slice none 0 0) [] := ⟨hb, fun _ _ _ => rfl, rP, by rw [nl_nil]; exact World.ownsRow_nil _ _ _ _, by omega, by omega, by omega, fun e => by cases e⟩
  have c0 : W1.cell? ⟨w.heap.size, 0, none⟩ = some (.slice A zs.length cp) := (rH.cell 0).trans rfl
  have hwk : Calls Try.prog 14 #[.int .i64 d, .int .i64 ((zs.length : Int) + 1), .func (.func 15) #[] #[.pointer (some ⟨w.heap.size + 1 + 1, 0, none⟩), .pointer (some ⟨w.heap.size, 0, none⟩), .pointer (some ⟨w.heap.size + 1, 0, none⟩)]] W1 fun e w' => e = .returned (.agg (flt 0 0)) ∧ ∃ v, CI w W1 w' (w.heap.size + 2) (w.heap.size + 3) v (preds d l (zs.length + 1)) := by
    obtain ⟨hz, hzl⟩ := HZ.out
    have hf := walk_follow d hd zs last (by omega) (l ++ [b]) (by simp; omega) 2 (by decide) (fun i hi => by
        unfold ansF
        by_cases hil : i < l.length
        · rw [if_pos (by omega), getD_snoc l b i hil, hz, bz_getD]
        · have : i = l.length := by simp at hi; omega
          rw [if_neg (by omega), this, getD_last]
          exact HBL.out) (fun h => by simp at h; omega) w W1 (w.heap.size + 2) w.heap.size (w.heap.size + 1) (w.heap.size + 3) _ hCI (by omega) A cp hcp rH (by omega) (by omega) rL (by omega) (by omega) HS.out
    rw [if_neg (by simp; omega), if_neg (by simp; omega), preds_congr d (l ++ [b]) l (zs.length + 1) (by simp; omega) (by omega) (by rw [Nat.add_sub_cancel, List.take_append_of_le_length (by omega)])] at hf
    exact hf
  have HW := Lib.hid hwk
  clear hwk hCI rP hb
  go_upto_region 3 with (first
    | (go_at_call 14; refine HW.out.mono ?_; rintro e w17 ⟨rfl, v, hCI⟩)
    | (refine wpList_store_row rfl 24 _ _ rfl w17.heap.size (flt 0 0) rfl rfl 24 (flt 0 0) (Row.newEq _ _ _ _ _ rfl rfl) (by rw [flt_size]; exact cellsF) rfl (all_one (flt_one _ _)) ?_))
  have hk1 := blw_new1 w17 (.cells #[.int .i64 0, .int .i64 0] 24) (flt 0 0)
  have hlen := hCI.ow
  obtain ⟨M, hM⟩ : ∃ M, M = zs.length + 1 := ⟨_, rfl⟩
  rw [preds_length] at hlen
  replace hlen : w17.ownsRow (w.heap.size + 3) 3 1 v M (nl (preds d l (zs.length + 1))) := by rw [hM]; exact hlen
  obtain ⟨Av, cv, rfl, _, _⟩ := own_form hlen
  have rH2 : Row w17 w.heap.size 22 #[.slice A zs.length cp] := (hCI.fix _ (by omega) (by omega)).trans rH
  have rL2 : Row w17 (w.heap.size + 1) 3 #[.int .i64 last] := (hCI.fix _ (by omega) (by omega)).trans rL
  refine wp_world (F := fun W => Row W w17.heap.size 24 (flt 0 0) ∧ Row W (w.heap.size + 2) 22 #[.slice Av M cv] ∧ Sl W w17.heap.size Av M (nl (preds d l (zs.length + 1))) ∧ Row W w.heap.size 22 #[.slice A zs.length cp] ∧ Row W (w.heap.size + 1) 3 #[.int .i64 last] ∧ w.heap.size + 2 < w17.heap.size ∧ Below w.heap.size w W) ⟨row_new1 _ _ _ _, hCI.rp.below hk1 hCI.rp.lt, (Sl.of_own hlen).below hk1, rH2.below hk1 rH2.lt, rL2.below hk1 rL2.lt, hCI.rp.lt, up_call hCI.bl hk1⟩ ?_
  generalize w17.heap.size = g8
  clear hk1 hlen rH rL rH2 rL2 hCI HW c0 hsz w17 W1
  rintro W2 ⟨r8, rP, hSg, rH, rL, hlt8, hb⟩
  have c0 : W2.cell? ⟨w.heap.size, 0, none⟩ = some (.slice A zs.length cp) := (rH.cell 0).trans rfl
  have hpf : Calls Try.prog 9 #[.int .i64 d, .slice A zs.length cp] W2 fun e w' => e = .returned (.agg (flt 0 0)) ∧ Below W2.heap.size W2 w' := by
    obtain ⟨hz, hzl⟩ := HZ.out
    have h := pfl_ok d hd l (by omega) A cp W2 (by rw [← hzl, ← zl_bz, ← hz]; exact HS.out.up hb)
    rw [← hzl] at h
    exact h
  have HPF := Lib.hid hpf
  clear hpf
  go_upto_region 4 with (first
    | (go_at_call 9; refine HPF.out.mono ?_; rintro e w20 ⟨rfl, hb20⟩)
    | (refine wpList_store_row rfl 24 _ _ rfl w20.heap.size (flt 0 0) rfl rfl 24 (flt 0 0) (Row.newEq _ _ _ _ _ rfl rfl) (by rw [flt_size]; exact cellsF) rfl (all_one (flt_one _ _)) ?_))
  have hk1 := up_call hb20 (blw_new1 w20 (.cells #[.int .i64 0, .int .i64 0] 24) (flt 0 0))
  refine wp_world (F := fun W => Row W g8 24 (flt 0 0) ∧ Row W w20.heap.size 24 (flt 0 0) ∧ Row W (w.heap.size + 2) 22 #[.slice Av M cv] ∧ Sl W g8 Av M (nl (preds d l (zs.length + 1))) ∧ Row W w.heap.size 22 #[.slice A zs.length cp] ∧ Row W (w.heap.size + 1) 3 #[.int .i64 last] ∧ g8 < w20.heap.size ∧ Below w.heap.size w W) ⟨r8.below hk1 r8.lt, row_new1 _ _ _ _, rP.below hk1 rP.lt, hSg.below (hk1.mono (Nat.le_of_lt r8.lt)), rH.below hk1 rH.lt, rL.below hk1 rL.lt, Nat.lt_of_lt_of_le r8.lt hb20.size, up_call hb hk1⟩ ?_
  generalize w20.heap.size = g9
  clear hk1 hb20 HPF r8 rP hSg rH rL hb c0 w20 W2
  rintro W3 ⟨r8, r9, rP, hSg, rH, rL, hlt9, hb⟩
  have hpd : ∀ W, Below w.heap.size w W → Calls Try.prog 8 #[.int .i64 d, .slice A zs.length cp] W fun e w' => ∃ A1 c1, e = .returned (.tuple #[.slice A1 M c1, .agg (flt 0 0)]) ∧ Sl w' w'.heap.size A1 M (nl (preds d l (zs.length + 1))) ∧ (∀ k, (Value.slice A1 M c1).ownBlock = some k → W.heap.size ≤ k) ∧ Below W.heap.size W w' := fun W hW => by
    obtain ⟨hz, hzl⟩ := HZ.out
    have h := predict_ok d hd l (by omega) A cp (by rw [← hzl]; exact hcp) W (by rw [← hzl, ← zl_bz, ← hz]; exact HS.out.up hW)
    rw [← hzl] at h
    refine h.mono fun e w' ⟨v, h1, h2, h3⟩ => ?_
    obtain ⟨A1, c1, rfl, _, _⟩ := own_form h2
    exact ⟨A1, c1, by rw [h1, hM], by rw [hM]; exact Sl.of_own h2, fun k hk => Nat.le_of_succ_le (Nat.le_of_succ_le (h2.lt k (by rw [← hM]; exact hk)).1), h3⟩
  have HPD := Lib.hid hpd
  have HM := Lib.hid hM
  have hMle : M ≤ 100000 := by omega
  clear hpd hM HS
  go_upto_region 10 with (first
    | (go_at_call 10; refine (predicts_any _).mono ?_; rintro e w21 ⟨rfl, hb21⟩; have k0 : w21.cell? ⟨g9, 0, none⟩ = some (.int .i64 0) := ((r9.below hb21 r9.lt).cell 0).trans rfl))
  refine wp_world (F := fun W => Row W g8 24 (flt 0 0) ∧ Row W g9 24 (flt 0 0) ∧ Row W (w.heap.size + 2) 22 #[.slice Av M cv] ∧ Sl W g8 Av M (nl (preds d l (zs.length + 1))) ∧ Row W w.heap.size 22 #[.slice A zs.length cp] ∧ Row W (w.heap.size + 1) 3 #[.int .i64 last] ∧ Below w.heap.size w W) ⟨r8.below hb21 r8.lt, r9.below hb21 r9.lt, rP.below hb21 rP.lt, hSg.below (hb21.mono (Nat.le_of_lt r8.lt)), rH.below hb21 rH.lt, rL.below hb21 rL.lt, up_call hb hb21⟩ ?_
  clear k0 hb21 r8 r9 rP hSg rH rL hb w21 W3
  rintro W4 ⟨r8, r9, rP, hSg, rH, rL, hb⟩
  have c0 : W4.cell? ⟨w.heap.size, 0, none⟩ = some (.slice A zs.length cp) := (rH.cell 0).trans rfl
  go_upto_region 11 with (first
    | (go_at_call 8; refine (HPD.out _ hb).mono ?_; rintro e w66 ⟨A1, c1, rfl, hS1, hA1, hb66⟩)
    | (refine wpList_store_row rfl 24 _ _ rfl w66.heap.size (flt 0 0) rfl rfl 24 (flt 0 0) (Row.newEq _ _ _ _ _ rfl rfl) (by rw [flt_size]; exact cellsF) rfl (all_one (flt_one _ _)) ?_))
  have hk0 := blw_new1 w66 (.cells #[.int .i64 0, .int .i64 0] 24) (flt 0 0)
  have hk1 := up_call hb66 hk0
  refine wp_world (F := fun W => Row W g8 24 (flt 0 0) ∧ Row W g9 24 (flt 0 0) ∧ Row W w66.heap.size 24 (flt 0 0) ∧ Row W (w.heap.size + 2) 22 #[.slice Av M cv] ∧ Sl W g8 Av M (nl (preds d l (zs.length + 1))) ∧ Sl W W.heap.size A1 M (nl (preds d l (zs.length + 1))) ∧ Row W w.heap.size 22 #[.slice A zs.length cp] ∧ Row W (w.heap.size + 1) 3 #[.int .i64 last] ∧ g9 < w66.heap.size ∧ (∀ k, (Value.slice A1 M c1).ownBlock = some k → g9 + 1 ≤ k) ∧ Below w.heap.size w W) ⟨r8.below hk1 r8.lt, r9.below hk1 r9.lt, row_new1 _ _ _ _, rP.below hk1 rP.lt, hSg.below (hk1.mono (Nat.le_of_lt r8.lt)), hS1.up hk0, rH.below hk1 rH.lt, rL.below hk1 rL.lt, by have := r9.lt; have := hb66.size; omega, fun k hk => by have := hA1 k hk; have := r9.lt; omega, up_call hb hk1⟩ ?_
  generalize w66.heap.size = g11
  clear hk0 hk1 hS1 hA1 hb66 c0 r8 r9 rP hSg rH rL hb w66 W4 HPD
  rintro W5 ⟨r8, r9, r11, rP, hSg, hS1, rH, rL, hlt11, hA1, hb⟩
  have c0 : W5.cell? ⟨w.heap.size, 0, none⟩ = some (.slice A zs.length cp) := (rH.cell 0).trans rfl
  have cL : W5.cell? ⟨w.heap.size + 1, 0, none⟩ = some (.int .i64 last) := (rL.cell 0).trans rfl
  have heq1 : ∀ w, (binOp .eql 24 (.agg #[.int .i64 0, .int .i64 0]) (.agg #[.int .i64 0, .int .i64 0])).run Try.prog w = .ok (.bool true) w := fun w => by have h := eql_flt 0 0 0 0 w; simp only [beq_self_eq_true, Bool.and_self] at h; exact h
  have heq2 : ∀ w, (Op.equalIn 10000 24 (.agg #[.int .i64 0, .int .i64 0]) (.agg #[.int .i64 0, .int .i64 0])).run Try.prog w = .ok true w := fun w => by have h := eqin_flt 0 0 0 0 w; simp only [beq_self_eq_true, Bool.and_self] at h; exact h
  have k4 : W5.cell? ⟨g8, 0, none⟩ = some (.int .i64 0) := (r8.cell 0).trans rfl
  have k5 : W5.cell? ⟨g8, 1, none⟩ = some (.int .i64 0) := (r8.cell 1).trans rfl
  have k6 : W5.cell? ⟨g9, 0, none⟩ = some (.int .i64 0) := (r9.cell 0).trans rfl
  have k7 : W5.cell? ⟨g9, 1, none⟩ = some (.int .i64 0) := (r9.cell 1).trans rfl
  have k8 : W5.cell? ⟨g11, 0, none⟩ = some (.int .i64 0) := (r11.cell 0).trans rfl
  have k9 : W5.cell? ⟨w.heap.size + 1 + 1, 0, none⟩ = some (.slice Av M cv) := (rP.cell 0).trans rfl
  have HI := Lib.hid (ints_yes (preds d l (zs.length + 1)) M (by rw [preds_length, HM.out]) hMle Av A1 cv c1 W5 (hSg.wider (Nat.le_of_lt r8.lt)) hS1)
  clear r8 r9 r11 rP hSg hS1 hA1 rH rL HM HZ
  cases b with
  | false =>
    have e0 : last = 0 := HBL.out
    subst e0
    go_wp2_with (first
      | (go_at_call 13; refine HI.out.mono ?_; rintro e w89 ⟨rfl, hb89⟩))
    go_ret
    exact ⟨rfl, up_call hb hb89⟩
  | true =>
    have e0 : last = 1 := HBL.out
    subst e0
    go_wp2_with (first
      | (go_at_call 13; refine HI.out.mono ?_; rintro e w89 ⟨rfl, hb89⟩))
    go_ret
    exact ⟨rfl, up_call hb hb89⟩
end Go.Proofs.Ytgpacgmgdnongaa.lawFol
