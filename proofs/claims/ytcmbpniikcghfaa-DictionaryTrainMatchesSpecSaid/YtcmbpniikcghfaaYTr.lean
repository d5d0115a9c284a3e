/-
  The walks of DictionaryTrainMatchesSpec, where package dictionary keeps its contracts. (Written by cards/gen_DiTr.py.)
-/
import Derived.Test.YtcmbpniikcghfaaYP
import Derived.Test.YtcmbpniikcghfaaRSam
import Derived.Test.YtcmbpniikcghfaaRTrn
import Derived.Test.YtcmbpniikcghfaaRTot
import Derived.BigQuiet
namespace Go.Proofs.Ytcmbpniikcghfaa.lawDiTr
open Go.RowKit Go.Proofs.Ytcmbpniikcghfaa

theorem neq_f (a b : Int) (w : World) : (binOp .neq 25 (.agg (flt a b)) (.agg (flt a b))).run Try.prog w = .ok (.bool false) w := by
  have h := neq_flt a b a b w
  simp only [beq_self_eq_true, Bool.and_self, Bool.not_true] at h
  exact h
theorem eql_f (a b : Int) (w : World) : (binOp .eql 25 (.agg (flt a b)) (.agg (flt a b))).run Try.prog w = .ok (.bool true) w := by
  have h := eql_flt a b a b w
  simp only [beq_self_eq_true, Bool.and_self] at h
  exact h
set_option maxRecDepth 100000 in
set_option maxHeartbeats 16000000 in
theorem walk_bad1 (hp : PTrains) (h : PTrainBad) (Ss : List (List UInt8)) (N : Nat) (size : Int) (hN : N = Ss.length) (hi : i64R size) (hz : ¬ (smF Ss (-1)).1 = 0) (A : Option Addr) (c : Nat) (w : World) (hml : ML w) (hA : Sls w w.heap.size A N Ss) :
    Calls Try.prog 3 #[.slice A N c, .int .i64 size] w fun e w' => e = .returned (.bool true) ∧ Below w.heap.size w w' := by
  have hal : trF Ss size (-1) (-2) = smF Ss (-1) := by unfold trF; rw [if_neg hz]
  have hb0 := h Ss N size hN hi (by rw [hal]; exact hz) A c w hA
  have hs := fun (w : World) hS => samplesfault_any Ss N hN (-1) A c w hS
  rw [hal] at hb0
  obtain ⟨k, i, hk⟩ : ∃ k i, smF Ss (-1) = (k, i) := ⟨_, _, rfl⟩
  rw [hk] at hb0 hs hz
  simp only at hb0 hs hz
  have e1 : (k == 0) = false := beq_eq_false_iff_ne.2 hz
  have e2 : (k != 0) = true := by rw [bne, e1]; rfl
  have hne := neq_f k i
  have heq := eql_f k i
  clear hk hal
  have HB := Lib.hid hb0
  have HS := Lib.hid hs
  have HP := Lib.hid hp
  have HML := Lib.hid hml
  have HA := Lib.hid hA
  clear hml hz hb0 hs hp h hA hN hi
  go_enter Try.func3, Try.ntmps3
  go_upto_region 2 with (first
    | (go_at_call 8; refine HB.out.mono ?_; rintro e w1 ⟨⟨G, g, rfl⟩, hb1⟩)
    | (refine wpList_store_row rfl 25 _ _ rfl w1.heap.size (flt k i) rfl rfl 25 (flt 0 0) (Row.newEq _ _ _ _ _ rfl rfl) (by rw [flt_size]; exact cellsF) rfl (all_one (flt_one _ _)) ?_))
  have hk2 := up_call hb1 (blw_new1 w1 (.cells #[.int .i64 0, .int .i64 0] 25) (flt k i))
  refine wp_world (F := fun W => Row W w1.heap.size 25 (flt k i) ∧ Sls W W.heap.size A N Ss ∧ Below w.heap.size w W) ⟨row_new1 _ _ _ _, HA.out.up hk2, hk2⟩ ?_
  generalize w1.heap.size = g6
  clear hb1 hk2 HB HA
  rintro W1 ⟨r6, sA, hb⟩
  go_upto_region 3 with (first
    | (go_at_call 9; refine (HS.out _ sA).mono ?_; rintro e w2 ⟨rfl, hb2⟩)
    | (refine wpList_store_row rfl 25 _ _ rfl w2.heap.size (flt k i) rfl rfl 25 (flt 0 0) (Row.newEq _ _ _ _ _ rfl rfl) (by rw [flt_size]; exact cellsF) rfl (all_one (flt_one _ _)) ?_))
  have hk1 := blw_new1 w2 (.cells #[.int .i64 0, .int .i64 0] 25) (flt k i)
  have hk2 := up_call hb2 hk1
  refine wp_world (F := fun W => Row W w2.heap.size 25 (flt k i) ∧ Row W g6 25 (flt k i) ∧ g6 < w2.heap.size ∧ w.heap.size ≤ w2.heap.size ∧ Below w.heap.size w W) ⟨row_new1 _ _ _ _, r6.below hk2 r6.lt, Nat.lt_of_lt_of_le r6.lt hb2.size, (up_call hb hb2).size, up_call hb hk2⟩ ?_
  generalize w2.heap.size = g7
  clear hk1 hk2 hb2 w2 r6 hb sA HS
  rintro W2 ⟨r7, r6, hlt, hle, hb⟩
  have k7 : W2.cell? ⟨g7, 0, none⟩ = some (.int .i64 k) := (r7.cell 0).trans rfl
  go_upto_region 5 with (fail)
  go_upto_region 6 with (first
    | (go_at_call 12; refine (HP.out W2 (HML.out.below (by first | assumption | exact up_call hb hb4 | exact up_call hbb hb6 | exact up_call hbb hb5 | exact up_call (up_call hb hb4) hb5 | exact up_call (up_call hb hb4) hb6))).mono ?_; rintro e w4 ⟨rfl, hb4⟩; have q6 := r6.below hb4 r6.lt; have q7 := r7.below hb4 r7.lt; have z7 : w4.cell? ⟨g7, 0, none⟩ = some (.int .i64 k) := (q7.cell 0).trans rfl)
    | (refine wpList_load_rowG (by simp [Region.wanted, yielded, Act.put]) 25 _ rfl g6 rfl 25 (flt k i) (0, 0) _ (q6) Try.underlying25 rfl (by rw [flt_size]; exact cellsF) ?_)
    | (refine wpList_load_rowG (by simp [Region.wanted, yielded, Act.put]) 25 _ rfl g7 rfl 25 (flt k i) (0, 0) _ (q7) Try.underlying25 rfl (by rw [flt_size]; exact cellsF) ?_))
  go_wp2_with (first
    | (go_at_call 12; refine (HP.out w4 (HML.out.below (by first | assumption | exact up_call hb hb4 | exact up_call hbb hb6 | exact up_call hbb hb5 | exact up_call (up_call hb hb4) hb5 | exact up_call (up_call hb hb4) hb6))).mono ?_; rintro e w5 ⟨rfl, hb5⟩; have y6 := q6.below hb5 q6.lt; have y7 := q7.below hb5 q7.lt)
    | (refine wpList_load_rowG (by simp [Region.wanted, yielded, Act.put]) 25 _ rfl g6 rfl 25 (flt k i) (0, 0) _ (y6) Try.underlying25 rfl (by rw [flt_size]; exact cellsF) ?_)
    | (refine wpList_load_rowG (by simp [Region.wanted, yielded, Act.put]) 25 _ rfl g7 rfl 25 (flt k i) (0, 0) _ (y7) Try.underlying25 rfl (by rw [flt_size]; exact cellsF) ?_))
  go_ret
  exact ⟨rfl, up_call (up_call hb hb4) hb5⟩

set_option maxRecDepth 100000 in
set_option maxHeartbeats 16000000 in
theorem walk_bad2 (hp : PTrains) (h : PTrainBad) (Ss : List (List UInt8)) (N : Nat) (size : Int) (hN : N = Ss.length) (hi : i64R size) (hz : (smF Ss (-1)).1 = 0) (hr : ¬ (0 ≤ size ∧ size ≤ 512)) (A : Option Addr) (c : Nat) (w : World) (hml : ML w) (hA : Sls w w.heap.size A N Ss) :
    Calls Try.prog 3 #[.slice A N c, .int .i64 size] w fun e w' => e = .returned (.bool true) ∧ Below w.heap.size w w' := by
  have hal : trF Ss size (-1) (-2) = (4, -2) := by unfold trF; rw [if_pos hz, if_neg hr]
  have hb0 := h Ss N size hN hi (by rw [hal]; exact (show ¬ ((4 : Int) = 0) by decide)) A c w hA
  have hs := fun (w : World) hS => samplesfault_any Ss N hN (-1) A c w hS
  rw [hal] at hb0
  rw [(smF_ok hz).1] at hs
  simp only at hb0 hs
  have hin := fun w => in_no size 0 512 (by omega) w
  have hne := neq_f 4 (-2)
  have heq := eql_f 4 (-2)
  clear hal
  have HI := Lib.hid hin
  have HB := Lib.hid hb0
  have HS := Lib.hid hs
  have HP := Lib.hid hp
  have HML := Lib.hid hml
  have HA := Lib.hid hA
  clear hml hz hb0 hs hp h hA hN hi hin hr
  go_enter Try.func3, Try.ntmps3
  go_upto_region 2 with (first
    | (go_at_call 8; refine HB.out.mono ?_; rintro e w1 ⟨⟨G, g, rfl⟩, hb1⟩)
    | (refine wpList_store_row rfl 25 _ _ rfl w1.heap.size (flt 4 (-2)) rfl rfl 25 (flt 0 0) (Row.newEq _ _ _ _ _ rfl rfl) (by rw [flt_size]; exact cellsF) rfl (all_one (flt_one _ _)) ?_))
  have hk2 := up_call hb1 (blw_new1 w1 (.cells #[.int .i64 0, .int .i64 0] 25) (flt 4 (-2)))
  refine wp_world (F := fun W => Row W w1.heap.size 25 (flt 4 (-2)) ∧ Sls W W.heap.size A N Ss ∧ Below w.heap.size w W) ⟨row_new1 _ _ _ _, HA.out.up hk2, hk2⟩ ?_
  generalize w1.heap.size = g6
  clear hb1 hk2 HB HA
  rintro W1 ⟨r6, sA, hb⟩
  go_upto_region 3 with (first
    | (go_at_call 9; refine (HS.out _ sA).mono ?_; rintro e w2 ⟨rfl, hb2⟩)
    | (refine wpList_store_row rfl 25 _ _ rfl w2.heap.size (flt 0 0) rfl rfl 25 (flt 0 0) (Row.newEq _ _ _ _ _ rfl rfl) (by rw [flt_size]; exact cellsF) rfl (all_one (flt_one _ _)) ?_))
  have hk1 := blw_new1 w2 (.cells #[.int .i64 0, .int .i64 0] 25) (flt 0 0)
  have hk2 := up_call hb2 hk1
  refine wp_world (F := fun W => Row W w2.heap.size 25 (flt 0 0) ∧ Row W g6 25 (flt 4 (-2)) ∧ g6 < w2.heap.size ∧ w.heap.size ≤ w2.heap.size ∧ Below w.heap.size w W) ⟨row_new1 _ _ _ _, r6.below hk2 r6.lt, Nat.lt_of_lt_of_le r6.lt hb2.size, (up_call hb hb2).size, up_call hb hk2⟩ ?_
  generalize w2.heap.size = g7
  clear hk1 hk2 hb2 w2 r6 hb sA HS
  rintro W2 ⟨r7, r6, hlt, hle, hb⟩
  have k7 : W2.cell? ⟨g7, 0, none⟩ = some (.int .i64 0) := (r7.cell 0).trans rfl
  go_upto_region 5 with (first
    | (go_at_call 10; refine (HI.out _).mono ?_; rintro e w9 ⟨rfl, h9⟩; subst w9)
    | (go_at_call 11; refine (at_any 4 (-2) _).mono ?_; rintro e w3 ⟨rfl, hb3⟩; have x7 := r7.below hb3 r7.lt)
    | (refine wpList_store_row rfl 25 _ _ rfl g7 (flt 4 (-2)) rfl rfl 25 (flt 0 0) x7 (by rw [flt_size]; exact cellsF) rfl (all_one (flt_one _ _)) ?_))
  refine wp_world (F := fun W => Row W g7 25 (flt 4 (-2)) ∧ Row W g6 25 (flt 4 (-2)) ∧ Below w.heap.size w W) ⟨Row.row x7 _, (r6.below hb3 r6.lt).rowFar (by omega) _, blw_row (up_call hb hb3) hle _⟩ ?_
  clear k7 x7 hb3 hb r6 r7
  rintro W3 ⟨r7, r6, hb⟩
  go_upto_region 6 with (first
    | (go_at_call 12; refine (HP.out W3 (HML.out.below (by first | assumption | exact up_call hb hb4 | exact up_call hbb hb6 | exact up_call hbb hb5 | exact up_call (up_call hb hb4) hb5 | exact up_call (up_call hb hb4) hb6))).mono ?_; rintro e w4 ⟨rfl, hb4⟩; have q6 := r6.below hb4 r6.lt; have q7 := r7.below hb4 r7.lt; have z7 : w4.cell? ⟨g7, 0, none⟩ = some (.int .i64 4) := (q7.cell 0).trans rfl)
    | (refine wpList_load_rowG (by simp [Region.wanted, yielded, Act.put]) 25 _ rfl g6 rfl 25 (flt 4 (-2)) (0, 0) _ (q6) Try.underlying25 rfl (by rw [flt_size]; exact cellsF) ?_)
    | (refine wpList_load_rowG (by simp [Region.wanted, yielded, Act.put]) 25 _ rfl g7 rfl 25 (flt 4 (-2)) (0, 0) _ (q7) Try.underlying25 rfl (by rw [flt_size]; exact cellsF) ?_))
  go_wp2_with (first
    | (go_at_call 12; refine (HP.out w4 (HML.out.below (by first | assumption | exact up_call hb hb4 | exact up_call hbb hb6 | exact up_call hbb hb5 | exact up_call (up_call hb hb4) hb5 | exact up_call (up_call hb hb4) hb6))).mono ?_; rintro e w5 ⟨rfl, hb5⟩; have y6 := q6.below hb5 q6.lt; have y7 := q7.below hb5 q7.lt)
    | (refine wpList_load_rowG (by simp [Region.wanted, yielded, Act.put]) 25 _ rfl g6 rfl 25 (flt 4 (-2)) (0, 0) _ (y6) Try.underlying25 rfl (by rw [flt_size]; exact cellsF) ?_)
    | (refine wpList_load_rowG (by simp [Region.wanted, yielded, Act.put]) 25 _ rfl g7 rfl 25 (flt 4 (-2)) (0, 0) _ (y7) Try.underlying25 rfl (by rw [flt_size]; exact cellsF) ?_))
  go_ret
  exact ⟨rfl, up_call (up_call hb hb4) hb5⟩

set_option maxRecDepth 100000 in
set_option maxHeartbeats 16000000 in
theorem walk_ok (hp : PTrains) (h : PTrain) (Ss : List (List UInt8)) (N size : Nat) (hN : N = Ss.length) (hz : ¬ (trF Ss size (-1) (-2)).1 ≠ 0) (A : Option Addr) (c : Nat) (hc : N ≤ c) (w : World) (hml : ML w) (hA : Sls w w.heap.size A N Ss) :
    Calls Try.prog 3 #[.slice A N c, .int .i64 (size : Nat)] w fun e w' => e = .returned (.bool true) ∧ Below w.heap.size w w' := by
  obtain ⟨hal, hN64, hle, hs0, hs5⟩ := trF_ok hz
  have hsm : smF Ss (-1) = (0, 0) := by
    unfold trF at hal
    split at hal
    · rename_i h2
      exact (smF_ok h2).1
    · exact hal
  have hb0 := h Ss N size hN hal A c hc w hml hA
  have hs := fun (w : World) hS => samplesfault_any Ss N hN (-1) A c w hS
  rw [hsm] at hs
  simp only at hs
  have hin := fun w => in_yes (size : Int) 0 512 hs0 hs5 w
  have htot := fun w hS => total_any Ss N (by omega) hle 160 (by omega) A c w hS
  have htr := fun w hS => trained_any Ss N (by omega) hle size (by omega) A c w hS
  have hne := neq_f 0 0
  have heq := eql_f 0 0
  have HI := Lib.hid hin
  have HB0 := Lib.hid hb0
  have HS := Lib.hid hs
  have HP := Lib.hid hp
  have HML := Lib.hid hml
  have HA := Lib.hid hA
  have HTO := Lib.hid htot
  have HTR := Lib.hid htr
  clear hml hz hb0 hs hp h hA hN hle hsm hal hin htot htr hs0
  go_enter Try.func3, Try.ntmps3
  go_upto_region 2 with (first
    | (go_at_call 8; refine HB0.out.mono ?_; rintro e w1 ⟨⟨R, G, g, hR, rfl, _, sR⟩, hb1⟩)
    | (refine wpList_store_row rfl 25 _ _ rfl w1.heap.size (flt 0 0) rfl rfl 25 (flt 0 0) (Row.newEq _ _ _ _ _ rfl rfl) (by rw [flt_size]; exact cellsF) rfl (all_one (flt_one _ _)) ?_))
  have hRl := train_len hR
  obtain ⟨m, hm⟩ : ∃ m, m = R.length := ⟨_, rfl⟩
  rw [← hm] at hRl sR ⊢
  have HM := Lib.hid hm
  have HR := Lib.hid hR
  clear hm hR
  have hk1 := blw_new1 w1 (.cells #[.int .i64 0, .int .i64 0] 25) (flt 0 0)
  have hk2 := up_call hb1 hk1
  refine wp_world (F := fun W => Row W w1.heap.size 25 (flt 0 0) ∧ Sls W W.heap.size A N Ss ∧ Sl W W.heap.size G m (bl R) ∧ Below w.heap.size w W) ⟨row_new1 _ _ _ _, HA.out.up hk2, sR.up hk1, hk2⟩ ?_
  generalize w1.heap.size = g6
  clear hb1 hk1 hk2 HA HB0 sR
  rintro W1 ⟨r6, sA, sR, hb⟩
  go_upto_region 3 with (first
    | (go_at_call 9; refine (HS.out _ sA).mono ?_; rintro e w2 ⟨rfl, hb2⟩)
    | (refine wpList_store_row rfl 25 _ _ rfl w2.heap.size (flt 0 0) rfl rfl 25 (flt 0 0) (Row.newEq _ _ _ _ _ rfl rfl) (by rw [flt_size]; exact cellsF) rfl (all_one (flt_one _ _)) ?_))
  have hk1 := blw_new1 w2 (.cells #[.int .i64 0, .int .i64 0] 25) (flt 0 0)
  have hk2 := up_call hb2 hk1
  refine wp_world (F := fun W => Row W w2.heap.size 25 (flt 0 0) ∧ Row W g6 25 (flt 0 0) ∧ Sls W W.heap.size A N Ss ∧ Sl W W.heap.size G m (bl R) ∧ Below w.heap.size w W) ⟨row_new1 _ _ _ _, r6.below hk2 r6.lt, sA.up hk2, sR.up hk2, up_call hb hk2⟩ ?_
  generalize w2.heap.size = g7
  clear hk1 hk2 hb2 w2 r6 hb sA sR HS
  rintro W2 ⟨r7, r6, sA, sR, hb⟩
  have k7 : W2.cell? ⟨g7, 0, none⟩ = some (.int .i64 0) := (r7.cell 0).trans rfl
  go_upto_region 5 with (first
    | (go_at_call 10; refine (HI.out _).mono ?_; rintro e w9 ⟨rfl, h9⟩; subst w9))
  go_upto_region 7 with (first
    | (go_at_call 12; refine (HP.out W2 (HML.out.below (by first | assumption | exact up_call hb hb4 | exact up_call hbb hb6 | exact up_call hbb hb5 | exact up_call (up_call hb hb4) hb5 | exact up_call (up_call hb hb4) hb6))).mono ?_; rintro e w4 ⟨rfl, hb4⟩; have q6 := r6.below hb4 r6.lt; have q7 := r7.below hb4 r7.lt; have z7 : w4.cell? ⟨g7, 0, none⟩ = some (.int .i64 0) := (q7.cell 0).trans rfl)
    | (refine wpList_load_rowG (by simp [Region.wanted, yielded, Act.put]) 25 _ rfl g6 rfl 25 (flt 0 0) (0, 0) _ (q6) Try.underlying25 rfl (by rw [flt_size]; exact cellsF) ?_)
    | (refine wpList_load_rowG (by simp [Region.wanted, yielded, Act.put]) 25 _ rfl g7 rfl 25 (flt 0 0) (0, 0) _ (q7) Try.underlying25 rfl (by rw [flt_size]; exact cellsF) ?_))
  have uA := sA.up hb4
  have uR := sR.up hb4
  have hbb := up_call hb hb4
  clear k7 z7 q6 q7 r6 r7 sA sR hb hb4
  have t1 : decide ((m : Int) ≤ (size : Int)) = true := decide_eq_true (by omega)
  go_wp2_with (first
    | (go_at_call 13; refine (HTO.out _ uA).mono ?_; rintro e w5 ⟨⟨t, ht, rfl⟩, rfl⟩; have t2 : (decide ((160 : Int) < (t : Int)) = true) ∨ (decide ((160 : Int) < (t : Int)) = false) := by cases decide ((160 : Int) < (t : Int)); exact .inr rfl; exact .inl rfl)
    | (go_at_call 15; refine (HTR.out _ uA).mono ?_; rintro e w6 ⟨⟨R2, G2, g2, hR2, rfl, _, s2⟩, hb6⟩; obtain rfl := train_one HR.out hR2; rw [← HM.out] at s2; rw [← HM.out])
    | (go_at_call 14; refine (same_any _ _ R R m m _ _ _ (uR.up hb6) s2).mono ?_; rintro e w7 ⟨rfl, h7⟩; subst w7; rw [decide_eq_true rfl]))
  all_goals
    go_ret
    exact ⟨rfl, by first | exact hbb | exact up_call hbb hb6⟩
end Go.Proofs.Ytcmbpniikcghfaa.lawDiTr
