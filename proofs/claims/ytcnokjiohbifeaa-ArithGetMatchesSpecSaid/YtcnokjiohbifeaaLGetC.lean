/-
  ArithGetMatchesSpec: less than two bits, and the probability is none.
-/
import Derived.Test.YtcnokjiohbifeaaLGetK
import Derived.Test.YtcnokjiohbifeaaAArgs
import Derived.Test.YtcnokjiohbifeaaRBits2
import Derived.Test.YtcnokjiohbifeaaRBits3
import Derived.Test.YtcnokjiohbifeaaRNum
import Derived.Test.YtcnokjiohbifeaaRSteps
import Derived.Test.YtcnokjiohbifeaaAGetF
import Derived.Deep.RegionHeld3
import Derived.BigQuiet
namespace Go.Proofs.Ytcnokjiohbifeaa.lawGet
open Go.RowKit
attribute [local go_sem ↓] wp_load_flat run_load_flat
attribute [local go_sem] isRow_drewN rowAt_drewN blkOf_ptr cells_agg sizedDc sizeTDc aggDc sizedB sizeTB aggB sizedF sizeTF aggF

set_option maxRecDepth 100000 in
set_option maxHeartbeats 8000000 in
theorem walk_short_prob (a b v i : Int) (l : List Bool) (p : Int) (hd : DecoderZ a b v i) (hl : l.length ≤ 131072) (hpr : ¬ (1 ≤ p ∧ p ≤ 4095)) (h2 : l.length < 2) (A : Option Addr) (cp : Nat) (w : World) (hS : Sl w w.heap.size A (pack l).length (bl (pack l))) :
    Calls Try.prog 4 #[.agg (dcs a b v i), .agg (bcs A (pack l).length cp l.length), .int .i64 p] w fun e w' => e = .returned (.bool true) ∧ Below w.heap.size w w' := by
  obtain ⟨C, hC⟩ : ∃ C : Nat → Bool, C = fun j => l.getD j false := ⟨_, rfl⟩
  have hop := fun (w : World) (hS : Sl w w.heap.size A (pack l).length (bl (pack l))) => Open_bad (pack l) l.length _ _ (.short hl h2) A cp w hS
  have hge := fun (w : World) (hS : Sl w w.heap.size A (pack l).length (bl (pack l))) => Get_bad a b v i (pack l) l.length p _ _ (.prob hd hl hpr) A cp w hS
  have hok := ok_yes (pack l) l (pack_rep l) hl A cp
  have hbi := rbits_any (pack l) l (pack_rep l) hl A cp
  have hdo := decoderok_any a b v i
  rw [decide_eq_true hd] at hdo
  have hin := in_any p 1 4095
  rw [decide_eq_false hpr] at hin
  have HC := Lib.hid hC
  obtain ⟨n, hn⟩ : ∃ n, n = l.length := ⟨_, rfl⟩
  have hnl : l.length = n := hn.symm
  rw [← hn] at hop hge hok hbi hl h2 ⊢
  have HNL := Lib.hid hnl
  have hnb := hl
  have HBI := Lib.hid hbi
  have t2 : decide ((n : Int) < 2) = true := decide_eq_true (by omega)
  have t2n : decide (n < 2) = true := decide_eq_true h2
  clear hl hn hnl hbi hd h2 hC hpr
  obtain ⟨i0, hi, hz0, hz1, hz2⟩ := info_parts infoI
  go_enter Try.func4, Try.ntmps4
  go_upto_region 1 with (fail)
  refine wp_world (F := fun W => Row W w.heap.size 47 (dcs a b v i) ∧ Row W (w.heap.size + 1) 26 (bcs A (pack l).length cp n) ∧ Sl W W.heap.size A (pack l).length (bl (pack l)) ∧ Below w.heap.size w W)
    ⟨(Row.newEq _ _ _ _ _ rfl rfl).alloc _, Row.newEq _ _ _ _ _ (by simp) rfl, hS.up (((Below.refl _ _).alloc (Nat.le_refl _) _).alloc (by simp) _), ((Below.refl _ _).alloc (Nat.le_refl _) _).alloc (by simp) _⟩ ?_
  clear hS
  rintro W0 ⟨r0, r1, hS, hb⟩
  go_upto_region 2 with (first
    | (refine wpList_load_row rfl 26 _ rfl (w.heap.size + 1) rfl 26 (bcs A (pack l).length cp n) (0, 0) _ r1 Try.underlying26 rfl (by rw [bcs_size]; exact cellsB) ?_)
    | (go_at_call 22; refine (hop _ hS).mono ?_; rintro e w1 ⟨rfl, hb1⟩)
    | (refine wpList_store_row rfl 47 _ _ rfl w1.heap.size (dcs 0 0 0 0) rfl rfl 47 (dcs 0 0 0 0) ((Row.newEq _ _ _ _ _ rfl rfl).alloc _) (by rw [dcs_size]; exact cellsDc) rfl (all_one (dcs_one _ _ _ _)) ?_)
    | (refine wpList_store_row rfl 28 _ _ rfl (w1.heap.size + 1) (flt 15 (-1)) rfl rfl 28 (flt 0 0) (row_far_new2 _ _ _ _ _ _) (by rw [flt_size]; exact cellsF) rfl (all_one (flt_one _ _)) ?_))
  have hk0 := blw_new2 w1 (.cells #[.int .i64 0, .int .i64 0, .int .i64 0, .int .i64 0] 47) (.cells #[.int .i64 0, .int .i64 0] 28) (dcs 0 0 0 0) (flt 15 (-1))
  have hk := up_call hb1 hk0
  refine wp_world (F := fun W => Row W w.heap.size 47 (dcs a b v i) ∧ Row W (w.heap.size + 1) 26 (bcs A (pack l).length cp n) ∧ (Row W w1.heap.size 47 (dcs 0 0 0 0) ∧ Row W (w1.heap.size + 1) 28 (flt 15 (-1))) ∧ Sl W W.heap.size A (pack l).length (bl (pack l)) ∧ Below w.heap.size w W)
    ⟨r0.below hk r0.lt, r1.below hk r1.lt, ⟨row_new2a _ _ _ _ _ _ _, row_new2b _ _ _ _ _ _ _⟩, hS.up hk, up_call hb hk⟩ ?_
  have hl7 : w.heap.size + 1 < w1.heap.size := Nat.lt_of_lt_of_le r1.lt hb1.size
  generalize w1.heap.size = g7 at hl7
  clear hk hk0 hb1 r0 r1 hS hb w1 hop
  rintro W1 ⟨r0, r1, r78, hS, hb⟩
  go_upto_region 3 with (first
    | (refine wpList_load_row rfl 47 _ rfl w.heap.size rfl 47 (dcs a b v i) (0, 0) _ r0 Try.underlying47 rfl (by rw [dcs_size]; exact cellsDc) ?_)
    | (refine wpList_load_row rfl 26 _ rfl (w.heap.size + 1) rfl 26 (bcs A (pack l).length cp n) (0, 0) _ r1 Try.underlying26 rfl (by rw [bcs_size]; exact cellsB) ?_)
    | (go_at_call 23; refine (hge _ hS).mono ?_; rintro e w2 ⟨rfl, hb2⟩)
    | (refine wpList_store_row rfl 47 _ _ rfl w2.heap.size (dcs 0 0 0 0) rfl rfl 47 (dcs 0 0 0 0) ((Row.newEq _ _ _ _ _ rfl rfl).alloc _) (by rw [dcs_size]; exact cellsDc) rfl (all_one (dcs_one _ _ _ _)) ?_)
    | (refine wpList_store_row rfl 28 _ _ rfl (w2.heap.size + 1) (flt 4 (-3)) rfl rfl 28 (flt 0 0) (row_far_new2 _ _ _ _ _ _) (by rw [flt_size]; exact cellsF) rfl (all_one (flt_one _ _)) ?_))
  have hk0 := blw_new2 w2 (.cells #[.int .i64 0, .int .i64 0, .int .i64 0, .int .i64 0] 47) (.cells #[.int .i64 0, .int .i64 0] 28) (dcs 0 0 0 0) (flt 4 (-3))
  have hk := up_call hb2 hk0
  refine wp_world (F := fun W => Six W w.heap.size g7 w2.heap.size (dcs a b v i) (bcs A (pack l).length cp n) (dcs 0 0 0 0) (flt 15 (-1)) (dcs 0 0 0 0) (flt 4 (-3)) ∧ Sl W W.heap.size A (pack l).length (bl (pack l)) ∧ Below w.heap.size w W)
    ⟨⟨⟨r0.below hk r0.lt, r1.below hk r1.lt⟩, ⟨r78.1.below hk r78.1.lt, r78.2.below hk r78.2.lt⟩, row_new2a _ _ _ _ _ _ _, row_new2b _ _ _ _ _ _ _⟩, hS.up hk, up_call hb hk⟩ ?_
  have hl10 : g7 + 1 < w2.heap.size := Nat.lt_of_lt_of_le r78.2.lt hb2.size
  generalize w2.heap.size = g10 at hl10
  clear hk hk0 hb2 r0 r1 r78 hS hb w2 hge
  rintro W2 ⟨R, hS, hb⟩
  go_upto_region 10 with (first
    | (go_at_call 13; refine (codes_any _).mono ?_; rintro e w3 ⟨rfl, hb3⟩; have R3 := R.below hb3; have s3 := hS.up hb3; have q1 := R3.r1; have hba := up_call hb hb3)
    | (refine wpList_load_row rfl 26 _ rfl (w.heap.size + 1) rfl 26 (bcs A (pack l).length cp n) (0, 0) _ q1 Try.underlying26 rfl (by rw [bcs_size]; exact cellsB) ?_)
    | (go_at_call 24; refine (hok _ s3).mono ?_; rintro e w4 ⟨rfl, hb4⟩; have R4 := R3.below hb4; have s4 := s3.up hb4; have q4 := R4.r1; have hbb := up_call hba hb4)
    | (refine wpList_load_row rfl 26 _ rfl (w.heap.size + 1) rfl 26 (bcs A (pack l).length cp n) (0, 0) _ q4 Try.underlying26 rfl (by rw [bcs_size]; exact cellsB) ?_)
    | (go_at_call 25; refine (HBI.out _ s4).mono ?_; rintro e w5 ⟨v5, rfl, ho5, hb5⟩))
  have own0 := own_lower ho5 (Nat.le_succ _)
  clear R hS hb hb3 R3 s3 q1 hba hb4 hok q4 ho5
  go_loopw [13, 14] (fun s i wr => ∃ j : Nat, i = .int .i64 j ∧ j ≤ 32 ∧ wr.ownsRow w4.heap.size 3 1 s (n + j) (il (l ++ List.replicate j false)) ∧ Below w4.heap.size w4 wr) (fun _ i _ => 32 - (intOf i).toNat)
  case atStart => exact ⟨0, rfl, Nat.zero_le _, by rw [Nat.add_zero, List.replicate_zero, List.append_nil]; exact own0, hb5⟩
  case round =>
    clear own0 hb5
    obtain ⟨j, rfl, hj, ho, hbl⟩ := hrel
    by_cases hlt : j < 32
    · have HO := Lib.hid ho
      have t0 : decide ((j : Int) < 32) = true := decide_eq_true (by omega)
      have t1 : decide (j < 32) = true := decide_eq_true hlt
      clear ho
      go_wp2_with (first
        | (at_builtin; refine wpList_app _ rfl _ _ _ rfl w4.heap.size 3 i0 (.int .i64 0) 8 Try.underlying38 hi hz0 hz1 hz2 rfl _ (n + j) _ rfl (HO.out.alloc _) (wr.heap.size + 1) _ 1 _ [_] rfl (Sl.one _ _ _) (fun u hu => by obtain rfl := List.mem_singleton.1 hu; rfl) (by unfold maxLen; omega) (by omega) (Nat.le_trans hbl.size (by simp)) ?_; intro v2 w2 hown2 hgr2; have hb2 : Below w4.heap.size w4 w2 := blw_grown (hbl.alloc hbl.size _) hgr2 (Nat.le_trans hbl.size (by simp)) (HO.out.alloc _) (Nat.le_refl _)))
      go_roundw
      case rel => exact ⟨j + 1, by go_num, by omega, by rw [il_pad]; exact hown2, hb2⟩
      case measure => simp [intOf]; omega
    · obtain rfl : j = 32 := by omega
      obtain ⟨gl, cl, hvl, hcl, hcm⟩ := own_atc ho (by omega)
      subst hvl
      have sL := Sl.of_own ho
      have R := R4.below hbl
      have sS := s4.up hbl
      have hbw := up_call hbb hbl
      clear ho R4 s4 hbb hbl hlt hj HBI
      go_upto_region 14 with (first
        | (refine wpList_store_row rfl 28 _ _ rfl wr.heap.size (flt 0 0) rfl rfl 28 (flt 0 0) (Row.newEq _ _ _ _ _ rfl rfl) (by rw [flt_size]; exact cellsF) rfl (all_one (flt_one _ _)) ?_))
      refine wp_world (F := fun W => Row W wr.heap.size 28 (flt 0 0) ∧ Below wr.heap.size wr W) ⟨row_new1 _ _ _ _, blw_new1 wr (.cells #[.int .i64 0, .int .i64 0] 28) (flt 0 0)⟩ ?_
      rintro W3 ⟨r15, hbc⟩
      have k1 : W3.cell? ⟨w.heap.size + 1, 1, none⟩ = some (.int .i64 n) := ((R.below hbc).r1.cell 1).trans rfl
      go_upto_region 18 with (first
        | (go_at_call 16; refine (at_any 15 (-1) _).mono ?_; rintro e w17 ⟨rfl, hb17⟩)
        | (refine wpList_store_row rfl 28 _ _ rfl wr.heap.size (flt 15 (-1)) rfl rfl 28 (flt 0 0) (r15.below hb17 r15.lt) (by rw [flt_size]; exact cellsF) rfl (all_one (flt_one _ _)) ?_))
      refine wp_world (F := fun W => Row W wr.heap.size 28 (flt 15 (-1)) ∧ Below wr.heap.size wr W) ⟨Row.row (r15.below hb17 r15.lt) _, blw_row (up_call hbc hb17) (Nat.le_refl _) _⟩ ?_
      clear r15 hbc hb17 k1 w17 W3
      rintro W4 ⟨r15, hbc⟩
      have x80 : W4.cell? ⟨g7 + 1, 0, none⟩ = some (.int .i64 15) := ((R.below hbc).r8.cell 0).trans rfl
      have x81 : W4.cell? ⟨g7 + 1, 1, none⟩ = some (.int .i64 (-1)) := ((R.below hbc).r8.cell 1).trans rfl
      have y0 : W4.cell? ⟨wr.heap.size, 0, none⟩ = some (.int .i64 15) := (r15.cell 0).trans rfl
      have y1 : W4.cell? ⟨wr.heap.size, 1, none⟩ = some (.int .i64 (-1)) := (r15.cell 1).trans rfl
      have z0 : W4.cell? ⟨g7, 0, none⟩ = some (.int .i64 0) := ((R.below hbc).r7.cell 0).trans rfl
      have z1 : W4.cell? ⟨g7, 1, none⟩ = some (.int .i64 0) := ((R.below hbc).r7.cell 1).trans rfl
      have z2 : W4.cell? ⟨g7, 2, none⟩ = some (.int .i64 0) := ((R.below hbc).r7.cell 2).trans rfl
      have z3 : W4.cell? ⟨g7, 3, none⟩ = some (.int .i64 0) := ((R.below hbc).r7.cell 3).trans rfl
      have hnf : ∀ w : World, (binOp .neq 28 (.agg #[.int .i64 15, .int .i64 (-1)]) (.agg #[.int .i64 15, .int .i64 (-1)])).run Try.prog w = .ok (.bool false) w := fun w => by have h := neq_flt 15 (-1) 15 (-1) w; simp only [beq_self_eq_true, Bool.and_self, Bool.not_true] at h; exact h
      have hnf2 : ∀ w : World, (Op.equalIn 10000 28 (.agg #[.int .i64 15, .int .i64 (-1)]) (.agg #[.int .i64 15, .int .i64 (-1)])).run Try.prog w = .ok true w := fun w => by have h := eqin_flt 15 (-1) 15 (-1) w; simp only [beq_self_eq_true, Bool.and_self] at h; exact h
      have hnd : ∀ w : World, (binOp .neq 47 (.agg #[.int .i64 0, .int .i64 0, .int .i64 0, .int .i64 0]) (.agg #[.int .i64 0, .int .i64 0, .int .i64 0, .int .i64 0])).run Try.prog w = .ok (.bool false) w := fun w => neq_dcs 0 0 0 0 0 0 0 0 w
      have hnd2 : ∀ w : World, (Op.equalIn 10000 47 (.agg #[.int .i64 0, .int .i64 0, .int .i64 0, .int .i64 0]) (.agg #[.int .i64 0, .int .i64 0, .int .i64 0, .int .i64 0])).run Try.prog w = .ok true w := fun w => eqin_dcs 0 0 0 0 0 0 0 0 w
      simp only [Act.put]
      go_quiet (fail)
      clear hnf hnf2 hnd hnd2 x80 x81 y0 y1 z0 z1 z2 z3
      go_upto_region 21 with (first
        | (refine wpList_store_row rfl 28 _ _ rfl wr.heap.size (flt 0 0) rfl rfl 28 (flt 15 (-1)) (r15.drewN _) (by rw [flt_size]; exact cellsF) rfl (all_one (flt_one _ _)) ?_))
      refine wp_world (F := fun W => Row W wr.heap.size 28 (flt 0 0) ∧ Below wr.heap.size wr W) ⟨Row.row (r15.drewN _) _, blw_row (blw_drewN hbc _) (Nat.le_refl _) _⟩ ?_
      clear r15 hbc W4
      rintro W5 ⟨r15, hbc⟩
      have q0 := (R.below hbc).r0
      go_upto_region 27 with (first
        | (refine wpList_load_row rfl 47 _ rfl w.heap.size rfl 47 (dcs a b v i) (0, 0) _ q0 Try.underlying47 rfl (by rw [dcs_size]; exact cellsDc) ?_)
        | (go_at_call 27; refine (hdo _).mono ?_; rintro e w21 ⟨rfl, hb21⟩; have r15b := r15.below hb21 r15.lt; have hbd := up_call hbc hb21)
        | (go_at_call 20; refine (hin _).mono ?_; rintro e w9 ⟨rfl, h9⟩; subst w9)
        | (go_at_call 16; refine (at_any 4 (-3) _).mono ?_; rintro e w22 ⟨rfl, hb22⟩; have r15c := r15b.below hb22 r15b.lt; have hbe := up_call hbd hb22)
        | (refine wpList_store_row rfl 28 _ _ rfl wr.heap.size (flt 4 (-3)) rfl rfl 28 (flt 0 0) r15c (by rw [flt_size]; exact cellsF) rfl (all_one (flt_one _ _)) ?_))
      refine wp_world (F := fun W => Row W wr.heap.size 28 (flt 4 (-3)) ∧ Below wr.heap.size wr W) ⟨Row.row r15c _, blw_row hbe (Nat.le_refl _) _⟩ ?_
      clear r15 r15b r15c hbc hbd hbe hb21 hb22 q0 w22
      rintro W6 ⟨r15, hbc⟩
      have q10 := (R.below hbc).r10
      have q11 := (R.below hbc).r11
      have k0 : W6.cell? ⟨wr.heap.size, 0, none⟩ = some (.int .i64 4) := (r15.cell 0).trans rfl
      have hef : ∀ w : World, (binOp .eql 28 (.agg (flt 4 (-3))) (.agg (flt 4 (-3)))).run Try.prog w = .ok (.bool true) w := fun w => by have h := eql_flt 4 (-3) 4 (-3) w; simp only [beq_self_eq_true, Bool.and_self] at h; exact h
      have hed : ∀ w : World, (binOp .eql 47 (.agg (dcs 0 0 0 0)) (.agg #[.int .i64 0, .int .i64 0, .int .i64 0, .int .i64 0])).run Try.prog w = .ok (.bool true) w := fun w => eql_dcs 0 0 0 0 0 0 0 0 w
      go_wp2_with (first
        | (refine wpList_load_row rfl 28 _ rfl (g10 + 1) rfl 28 (flt 4 (-3)) (0, 0) _ q11 Try.underlying28 rfl (by rw [flt_size]; exact cellsF) ?_)
        | (refine wpList_load_row rfl 28 _ rfl wr.heap.size rfl 28 (flt 4 (-3)) (0, 0) _ r15 Try.underlying28 rfl (by rw [flt_size]; exact cellsF) ?_)
        | (refine wpList_load_rowG (by simp [Region.wanted, yielded, Act.put]) 47 _ rfl g10 rfl 47 (dcs 0 0 0 0) (0, 0) _ q10 Try.underlying47 rfl (by rw [dcs_size]; exact cellsDc) ?_))
      go_ret
      exact ⟨rfl, up_call hbw hbc⟩

end Go.Proofs.Ytcnokjiohbifeaa.lawGet
