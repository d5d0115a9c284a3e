/-
  The walks of DictionaryIsComplete, where package dictionary keeps its contracts. (Written by cards/gen_DiCo.py.)
-/
import Derived.Test.YtcmbpniikcghfaaYP
import Derived.Test.YtcmbpniikcghfaaROcc
import Derived.Test.YtcmbpniikcghfaaRTot
import Derived.BigQuiet
namespace Go.Proofs.Ytcmbpniikcghfaa.lawDiCo
open Go.RowKit Go.Proofs.Ytcmbpniikcghfaa

theorem many_take (Ss : List (List UInt8)) (i : Nat) (X : List UInt8) (h : Ss[i]? = some X) : manyS (Ss.take (i + 1)) = manyS (Ss.take i) + (X.length - 7) := by
  obtain ⟨hi, h⟩ := List.getElem?_eq_some_iff.1 h
  unfold manyS
  rw [List.take_succ_eq_append_getElem hi, List.map_append, List.sum_append, h]
  simp

set_option maxRecDepth 100000 in
set_option maxHeartbeats 16000000 in
theorem walk_bad (hp : PTrains) (h : PTrainBad) (Ss : List (List UInt8)) (N : Nat) (at_ from_ : Int) (hN : N = Ss.length) (hz : (trF Ss 512 (-1) (-2)).1 ≠ 0) (A : Option Addr) (c : Nat) (w : World) (hml : ML w) (hA : Sls w w.heap.size A N Ss) :
    Calls Try.prog 6 #[.slice A N c, .int .i64 at_, .int .i64 from_] w fun e w' => e = .returned (.bool true) ∧ Below w.heap.size w w' := by
  have hb0 := h Ss N 512 hN ⟨by decide, by decide⟩ hz A c w hA
  obtain ⟨k, i, hk⟩ : ∃ k i, trF Ss 512 (-1) (-2) = (k, i) := ⟨_, _, rfl⟩
  rw [hk] at hb0 hz
  simp only at hb0 hz
  have e1 : (k == 0) = false := beq_eq_false_iff_ne.2 hz
  have e2 : (k != 0) = true := by rw [bne, e1]; rfl
  clear hk
  have HB := Lib.hid hb0
  have HP := Lib.hid hp
  have HML := Lib.hid hml
  clear hml hz hb0 hp h hA hN
  go_enter Try.func6, Try.ntmps6
  go_upto_region 2 with (first
    | (go_at_call 8; refine HB.out.mono ?_; rintro e w1 ⟨⟨G, g, rfl⟩, hb1⟩)
    | (refine wpList_store_row rfl 25 _ _ rfl w1.heap.size (flt k i) rfl rfl 25 (flt 0 0) (Row.newEq _ _ _ _ _ rfl rfl) (by rw [flt_size]; exact cellsF) rfl (all_one (flt_one _ _)) ?_))
  have hk2 := up_call hb1 (blw_new1 w1 (.cells #[.int .i64 0, .int .i64 0] 25) (flt k i))
  refine wp_world (F := fun W => Row W w1.heap.size 25 (flt k i) ∧ Below w.heap.size w W) ⟨row_new1 _ _ _ _, hk2⟩ ?_
  generalize w1.heap.size = g8
  clear hb1 hk2 HB
  rintro W1 ⟨r8, hb⟩
  go_wp2_with (first
    | (go_at_call 12; refine (HP.out W1 (HML.out.below (by first | assumption | exact up_call hb hb4 | exact up_call hbb hb6 | exact up_call hbb hb5 | exact up_call (up_call hb hb4) hb5 | exact up_call (up_call hb hb4) hb6))).mono ?_; rintro e w4 ⟨rfl, hb4⟩; have q4 := r8.below hb4 r8.lt; have z4 : w4.cell? ⟨g8, 0, none⟩ = some (.int .i64 k) := (q4.cell 0).trans rfl)
    | (go_at_call 12; refine (HP.out w4 (HML.out.below (by first | assumption | exact up_call hb hb4 | exact up_call hbb hb6 | exact up_call hbb hb5 | exact up_call (up_call hb hb4) hb5 | exact up_call (up_call hb hb4) hb6))).mono ?_; rintro e w5 ⟨rfl, hb5⟩; have q5 := q4.below hb5 q4.lt; have z5 : w5.cell? ⟨g8, 0, none⟩ = some (.int .i64 k) := (q5.cell 0).trans rfl))
  go_ret
  exact ⟨rfl, up_call (up_call hb hb4) hb5⟩

set_option maxRecDepth 100000 in
set_option maxHeartbeats 16000000 in
theorem walk_long (hp : PTrains) (h : PTrain) (Ss : List (List UInt8)) (N : Nat) (at_ from_ : Int) (hN : N = Ss.length) (hz : ¬ (trF Ss (512 : Nat) (-1) (-2)).1 ≠ 0) (ht : ¬ totL Ss ≤ 500) (A : Option Addr) (c : Nat) (hc : N ≤ c) (w : World) (hml : ML w) (hA : Sls w w.heap.size A N Ss) :
    Calls Try.prog 6 #[.slice A N c, .int .i64 at_, .int .i64 from_] w fun e w' => e = .returned (.bool true) ∧ Below w.heap.size w w' := by
  obtain ⟨hal, hN64, hle, _, _⟩ := trF_ok hz
  have hN6 : N ≤ 64 := by omega
  have hb0 : Calls Try.prog 8 #[.slice A N c, .int .i64 512] w fun e w' => (∃ R G g, TrainIs Ss 512 R ∧ e = .returned (.tuple #[.slice G R.length g, .agg (flt 0 0)]) ∧ R.length ≤ g ∧ Sl w' w'.heap.size G R.length (bl R)) ∧ Below w.heap.size w w' := h Ss N 512 hN hal A c hc w hml hA
  have htot : ∀ W : World, Sls W W.heap.size A N Ss → Calls Try.prog 13 #[.slice A N c, .int .i64 500] W fun e w' => (∃ t : Nat, (t ≤ 500 ↔ totL Ss ≤ 500) ∧ e = .returned (.int .i64 t)) ∧ w' = W := fun W hS => total_any Ss N hN6 hle 500 (by omega) A c W hS
  have HB0 := Lib.hid hb0
  have HP := Lib.hid hp
  have HML := Lib.hid hml
  have HA := Lib.hid hA
  have HTO := Lib.hid htot
  clear hml hz hb0 hp h hA hN hal htot
  go_enter Try.func6, Try.ntmps6
  go_upto_region 2 with (first
    | (go_at_call 8; refine HB0.out.mono ?_; rintro e w1 ⟨⟨R, G, g, hR, rfl, hgR, sR⟩, hb1⟩)
    | (refine wpList_store_row rfl 25 _ _ rfl w1.heap.size (flt 0 0) rfl rfl 25 (flt 0 0) (Row.newEq _ _ _ _ _ rfl rfl) (by rw [flt_size]; exact cellsF) rfl (all_one (flt_one _ _)) ?_))
  have hk1 := blw_new1 w1 (.cells #[.int .i64 0, .int .i64 0] 25) (flt 0 0)
  have hk2 := up_call hb1 hk1
  refine wp_world (F := fun W => Row W w1.heap.size 25 (flt 0 0) ∧ Below w.heap.size w W) ⟨row_new1 _ _ _ _, hk2⟩ ?_
  generalize w1.heap.size = g8
  clear hb1 hk1 hk2 HB0 sR hR hgR
  rintro W1 ⟨r8, hb⟩
  go_wp2_with (first
    | (go_at_call 12; refine (HP.out W1 (HML.out.below (by first | assumption | exact up_call hb hb4 | exact up_call hbb hb6 | exact up_call hbb hb5 | exact up_call (up_call hb hb4) hb5 | exact up_call (up_call hb hb4) hb6))).mono ?_; rintro e w4 ⟨rfl, hb4⟩; have q4 := r8.below hb4 r8.lt; have z4 : w4.cell? ⟨g8, 0, none⟩ = some (.int .i64 0) := (q4.cell 0).trans rfl)
    | (go_at_call 13; refine (HTO.out _ (HA.out.up (up_call hb hb4))).mono ?_; rintro e w6 ⟨⟨t, ht, rfl⟩, rfl⟩; have t2 : decide ((500 : Int) < (t : Int)) = true := decide_eq_true (by omega))
    | (go_at_call 12; refine (HP.out _ (HML.out.below (by first | assumption | exact up_call hb hb4 | exact up_call hbb hb6 | exact up_call hbb hb5 | exact up_call (up_call hb hb4) hb5 | exact up_call (up_call hb hb4) hb6))).mono ?_; rintro e w5 ⟨rfl, hb5⟩; have q5 := q4.below hb5 q4.lt; have z5 : w5.cell? ⟨g8, 0, none⟩ = some (.int .i64 0) := (q5.cell 0).trans rfl))
  go_ret
  exact ⟨rfl, up_call (up_call hb hb4) hb5⟩

set_option maxRecDepth 100000 in
set_option maxHeartbeats 16000000 in
theorem walk_out1 (hp : PTrains) (h : PTrain) (Ss : List (List UInt8)) (N : Nat) (at_ from_ : Int) (hN : N = Ss.length) (hz : ¬ (trF Ss (512 : Nat) (-1) (-2)).1 ≠ 0) (ht : totL Ss ≤ 500) (ha : ¬ (0 ≤ at_ ∧ at_ ≤ (N : Int) - 1)) (A : Option Addr) (c : Nat) (hc : N ≤ c) (w : World) (hml : ML w) (hA : Sls w w.heap.size A N Ss) :
    Calls Try.prog 6 #[.slice A N c, .int .i64 at_, .int .i64 from_] w fun e w' => e = .returned (.bool true) ∧ Below w.heap.size w w' := by
  obtain ⟨hal, hN64, hle, _, _⟩ := trF_ok hz
  have hN6 : N ≤ 64 := by omega
  have hb0 : Calls Try.prog 8 #[.slice A N c, .int .i64 512] w fun e w' => (∃ R G g, TrainIs Ss 512 R ∧ e = .returned (.tuple #[.slice G R.length g, .agg (flt 0 0)]) ∧ R.length ≤ g ∧ Sl w' w'.heap.size G R.length (bl R)) ∧ Below w.heap.size w w' := h Ss N 512 hN hal A c hc w hml hA
  have htot : ∀ W : World, Sls W W.heap.size A N Ss → Calls Try.prog 13 #[.slice A N c, .int .i64 500] W fun e w' => (∃ t : Nat, (t ≤ 500 ↔ totL Ss ≤ 500) ∧ e = .returned (.int .i64 t)) ∧ w' = W := fun W hS => total_any Ss N hN6 hle 500 (by omega) A c W hS
  have hin := fun w => in_no at_ 0 ((N : Int) - 1) (by omega) w
  have HI := Lib.hid hin
  have HB0 := Lib.hid hb0
  have HP := Lib.hid hp
  have HML := Lib.hid hml
  have HA := Lib.hid hA
  have HTO := Lib.hid htot
  clear hml hz hb0 hp h hA hN hal htot hin ha
  go_enter Try.func6, Try.ntmps6
  go_upto_region 2 with (first
    | (go_at_call 8; refine HB0.out.mono ?_; rintro e w1 ⟨⟨R, G, g, hR, rfl, hgR, sR⟩, hb1⟩)
    | (refine wpList_store_row rfl 25 _ _ rfl w1.heap.size (flt 0 0) rfl rfl 25 (flt 0 0) (Row.newEq _ _ _ _ _ rfl rfl) (by rw [flt_size]; exact cellsF) rfl (all_one (flt_one _ _)) ?_))
  have hk1 := blw_new1 w1 (.cells #[.int .i64 0, .int .i64 0] 25) (flt 0 0)
  have hk2 := up_call hb1 hk1
  refine wp_world (F := fun W => Row W w1.heap.size 25 (flt 0 0) ∧ Below w.heap.size w W) ⟨row_new1 _ _ _ _, hk2⟩ ?_
  generalize w1.heap.size = g8
  clear hb1 hk1 hk2 HB0 sR hR hgR
  rintro W1 ⟨r8, hb⟩
  go_wp2_with (first
    | (go_at_call 12; refine (HP.out W1 (HML.out.below (by first | assumption | exact up_call hb hb4 | exact up_call hbb hb6 | exact up_call hbb hb5 | exact up_call (up_call hb hb4) hb5 | exact up_call (up_call hb hb4) hb6))).mono ?_; rintro e w4 ⟨rfl, hb4⟩; have q4 := r8.below hb4 r8.lt; have z4 : w4.cell? ⟨g8, 0, none⟩ = some (.int .i64 0) := (q4.cell 0).trans rfl)
    | (go_at_call 13; refine (HTO.out _ (HA.out.up (up_call hb hb4))).mono ?_; rintro e w6 ⟨⟨t, ht, rfl⟩, rfl⟩; have t2 : decide ((500 : Int) < (t : Int)) = false := decide_eq_false (by omega); clear ht)
    | (go_at_call 10; refine (HI.out _).mono ?_; rintro e w9 ⟨rfl, h9⟩; subst w9))
  go_ret
  exact ⟨rfl, up_call hb hb4⟩

set_option maxRecDepth 100000 in
set_option maxHeartbeats 16000000 in
theorem walk_out2 (hp : PTrains) (h : PTrain) (Ss : List (List UInt8)) (N : Nat) (j n : Nat) (from_ : Int) (hN : N = Ss.length) (hz : ¬ (trF Ss (512 : Nat) (-1) (-2)).1 ≠ 0) (ht : totL Ss ≤ 500) (hj : j < N) (Y : List UInt8) (hY : Ss[j]? = some Y) (hYL : n = Y.length) (ha : ¬ (0 ≤ from_ ∧ from_ ≤ (n : Int) - 8)) (A : Option Addr) (c : Nat) (hc : N ≤ c) (w : World) (hml : ML w) (hA : Sls w w.heap.size A N Ss) :
    Calls Try.prog 6 #[.slice A N c, .int .i64 (j : Nat), .int .i64 from_] w fun e w' => e = .returned (.bool true) ∧ Below w.heap.size w w' := by
  obtain ⟨hal, hN64, hle, _, _⟩ := trF_ok hz
  have hN6 : N ≤ 64 := by omega
  have hb0 : Calls Try.prog 8 #[.slice A N c, .int .i64 512] w fun e w' => (∃ R G g, TrainIs Ss 512 R ∧ e = .returned (.tuple #[.slice G R.length g, .agg (flt 0 0)]) ∧ R.length ≤ g ∧ Sl w' w'.heap.size G R.length (bl R)) ∧ Below w.heap.size w w' := h Ss N 512 hN hal A c hc w hml hA
  have htot : ∀ W : World, Sls W W.heap.size A N Ss → Calls Try.prog 13 #[.slice A N c, .int .i64 500] W fun e w' => (∃ t : Nat, (t ≤ 500 ↔ totL Ss ≤ 500) ∧ e = .returned (.int .i64 t)) ∧ w' = W := fun W hS => total_any Ss N hN6 hle 500 (by omega) A c W hS
  have hn : n ≤ 1024 := by rw [hYL]; exact hle Y (List.mem_of_getElem? hY)
  have hin := fun w => in_yes (j : Int) 0 ((N : Int) - 1) (by omega) (by omega) w
  have hin2 := fun w => in_no from_ 0 ((n : Int) - 8) (by omega) w
  have HI := Lib.hid hin
  have HI2 := Lib.hid hin2
  have HY := Lib.hid hY
  have HYL := Lib.hid hYL
  have HB0 := Lib.hid hb0
  have HP := Lib.hid hp
  have HML := Lib.hid hml
  have HA := Lib.hid hA
  have HTO := Lib.hid htot
  clear hml hz hb0 hp h hA hN hal htot hin hin2 ha hY hYL
  go_enter Try.func6, Try.ntmps6
  go_upto_region 2 with (first
    | (go_at_call 8; refine HB0.out.mono ?_; rintro e w1 ⟨⟨R, G, g, hR, rfl, hgR, sR⟩, hb1⟩)
    | (refine wpList_store_row rfl 25 _ _ rfl w1.heap.size (flt 0 0) rfl rfl 25 (flt 0 0) (Row.newEq _ _ _ _ _ rfl rfl) (by rw [flt_size]; exact cellsF) rfl (all_one (flt_one _ _)) ?_))
  have hk1 := blw_new1 w1 (.cells #[.int .i64 0, .int .i64 0] 25) (flt 0 0)
  have hk2 := up_call hb1 hk1
  refine wp_world (F := fun W => Row W w1.heap.size 25 (flt 0 0) ∧ Below w.heap.size w W) ⟨row_new1 _ _ _ _, hk2⟩ ?_
  generalize w1.heap.size = g8
  clear hb1 hk1 hk2 HB0 sR hR hgR
  rintro W1 ⟨r8, hb⟩
  go_upto_region 4 with (first
    | (go_at_call 12; refine (HP.out W1 (HML.out.below (by first | assumption | exact up_call hb hb4 | exact up_call hbb hb6 | exact up_call hbb hb5 | exact up_call (up_call hb hb4) hb5 | exact up_call (up_call hb hb4) hb6))).mono ?_; rintro e w4 ⟨rfl, hb4⟩; have q4 := r8.below hb4 r8.lt; have z4 : w4.cell? ⟨g8, 0, none⟩ = some (.int .i64 0) := (q4.cell 0).trans rfl)
    | (go_at_call 13; refine (HTO.out _ (HA.out.up (up_call hb hb4))).mono ?_; rintro e w6 ⟨⟨t, ht, rfl⟩, rfl⟩; have t2 : decide ((500 : Int) < (t : Int)) = false := decide_eq_false (by omega); clear ht))
  have hbb := up_call hb hb4
  clear q4 z4 r8 hb hb4
  have uA := HA.out.up hbb
  obtain ⟨ad, X, Ai, ci, rfl, hadb, hg, hci, _, k1, sX⟩ := uA.at_ hj
  obtain rfl : X = Y := by rw [HY.out] at hg; exact (Option.some.inj hg).symm
  rw [← HYL.out] at k1 sX hci
  have i1 : (0 : Int) ≤ (j : Int) := by omega
  have i2 : (j : Int) < (N : Int) := by omega
  go_wp2_with (first
    | (go_at_call 10; (with_reducible refine (HI.out _).mono ?_); rintro e w9 ⟨rfl, h9⟩; subst w9)
    | (go_at_call 10; (with_reducible refine (HI2.out _).mono ?_); rintro e w8 ⟨rfl, h8⟩; subst w8))
  go_ret
  exact ⟨rfl, hbb⟩

set_option maxRecDepth 100000 in
set_option maxHeartbeats 16000000 in
theorem walk_ok (hp : PTrains) (h : PTrain) (Ss : List (List UInt8)) (N : Nat) (j n k : Nat) (hN : N = Ss.length) (hz : ¬ (trF Ss (512 : Nat) (-1) (-2)).1 ≠ 0) (ht : totL Ss ≤ 500) (hj : j < N) (Y : List UInt8) (hY : Ss[j]? = some Y) (hYL : n = Y.length) (hk : k + 8 ≤ n) (A : Option Addr) (c : Nat) (hc : N ≤ c) (w : World) (hml : ML w) (hA : Sls w w.heap.size A N Ss) :
    Calls Try.prog 6 #[.slice A N c, .int .i64 (j : Nat), .int .i64 (k : Nat)] w fun e w' => e = .returned (.bool true) ∧ Below w.heap.size w w' := by
  obtain ⟨hal, hN64, hle, _, _⟩ := trF_ok hz
  have hN6 : N ≤ 64 := by omega
  have hb0 : Calls Try.prog 8 #[.slice A N c, .int .i64 512] w fun e w' => (∃ R G g, TrainIs Ss 512 R ∧ e = .returned (.tuple #[.slice G R.length g, .agg (flt 0 0)]) ∧ R.length ≤ g ∧ Sl w' w'.heap.size G R.length (bl R)) ∧ Below w.heap.size w w' := h Ss N 512 hN hal A c hc w hml hA
  have htot : ∀ W : World, Sls W W.heap.size A N Ss → Calls Try.prog 13 #[.slice A N c, .int .i64 500] W fun e w' => (∃ t : Nat, (t ≤ 500 ↔ totL Ss ≤ 500) ∧ e = .returned (.int .i64 t)) ∧ w' = W := fun W hS => total_any Ss N hN6 hle 500 (by omega) A c W hS
  have hn : n ≤ 1024 := by rw [hYL]; exact hle Y (List.mem_of_getElem? hY)
  obtain ⟨P, hP⟩ : ∃ P, P = (Y.drop k).take 8 := ⟨_, rfl⟩
  have h8 : P.length = 8 := by rw [hP, List.length_take, List.length_drop, ← hYL]; omega
  have hin := fun w => in_yes (j : Int) 0 ((N : Int) - 1) (by omega) (by omega) w
  have hin2 := fun w => in_yes (k : Int) 0 ((n : Int) - 8) (by omega) (by omega) w
  have hfr := fun (W : World) B d hS hP => frequency_any Ss P N 8 hN6 hle h8.symm (by omega) (by omega) A B c d W hS hP
  have HI := Lib.hid hin
  have HI2 := Lib.hid hin2
  have HY := Lib.hid hY
  have HYL := Lib.hid hYL
  have HFR := Lib.hid hfr
  have HPP := Lib.hid (And.intro hP h8)
  have HLE := Lib.hid hle
  have hlen := Lib.hid hN
  have HB0 := Lib.hid hb0
  have HP := Lib.hid hp
  have HML := Lib.hid hml
  have HA := Lib.hid hA
  have HTO := Lib.hid htot
  clear hml hz hb0 hp h hA hN hal htot hin hin2 hY hYL hfr hP h8 hle
  go_enter Try.func6, Try.ntmps6
  go_upto_region 2 with (first
    | (go_at_call 8; refine HB0.out.mono ?_; rintro e w1 ⟨⟨R, G, g, hR, rfl, hgR, sR⟩, hb1⟩)
    | (refine wpList_store_row rfl 25 _ _ rfl w1.heap.size (flt 0 0) rfl rfl 25 (flt 0 0) (Row.newEq _ _ _ _ _ rfl rfl) (by rw [flt_size]; exact cellsF) rfl (all_one (flt_one _ _)) ?_))
  obtain ⟨m, hm⟩ : ∃ m, m = R.length := ⟨_, rfl⟩
  have hRl := train_len hR
  rw [← hm] at sR hgR hRl ⊢
  have HM := Lib.hid hm
  have HR := Lib.hid hR
  have hk1 := blw_new1 w1 (.cells #[.int .i64 0, .int .i64 0] 25) (flt 0 0)
  have hk2 := up_call hb1 hk1
  refine wp_world (F := fun W => Row W w1.heap.size 25 (flt 0 0) ∧ Sl W W.heap.size G m (bl R) ∧ Below w.heap.size w W) ⟨row_new1 _ _ _ _, sR.up hk1, hk2⟩ ?_
  generalize w1.heap.size = g8
  clear hb1 hk1 hk2 HB0 sR hR hm
  rintro W1 ⟨r8, sR, hb⟩
  go_upto_region 4 with (first
    | (go_at_call 12; refine (HP.out W1 (HML.out.below (by first | assumption | exact up_call hb hb4 | exact up_call hbb hb6 | exact up_call hbb hb5 | exact up_call (up_call hb hb4) hb5 | exact up_call (up_call hb hb4) hb6))).mono ?_; rintro e w4 ⟨rfl, hb4⟩; have q4 := r8.below hb4 r8.lt; have z4 : w4.cell? ⟨g8, 0, none⟩ = some (.int .i64 0) := (q4.cell 0).trans rfl)
    | (go_at_call 13; refine (HTO.out _ (HA.out.up (up_call hb hb4))).mono ?_; rintro e w6 ⟨⟨t, ht, rfl⟩, rfl⟩; have t2 : decide ((500 : Int) < (t : Int)) = false := decide_eq_false (by omega); clear ht))
  have hbb := up_call hb hb4
  have uR := sR.up hb4
  clear q4 z4 r8 hb hb4 sR
  have uA := HA.out.up hbb
  obtain ⟨ad, X, Ai, ci, rfl, hadb, hg, hci, _, k1, sX⟩ := uA.at_ hj
  obtain rfl : X = Y := by rw [HY.out] at hg; exact (Option.some.inj hg).symm
  rw [← HYL.out] at k1 sX hci
  have i1 : (0 : Int) ≤ (j : Int) := by omega
  have i2 : (j : Int) < (N : Int) := by omega
  go_upto_region 6 with (first
    | (go_at_call 10; (with_reducible refine (HI.out _).mono ?_); rintro e w9 ⟨rfl, h9⟩; subst w9)
    | (go_at_call 10; (with_reducible refine (HI2.out _).mono ?_); rintro e w8 ⟨rfl, h8⟩; subst w8))
  obtain ⟨ai, rfl, _, _⟩ := sX.2 (by omega)
  have sW := sX.bytes k 8 (by omega) hk hci
  rw [← HPP.out.1] at sW
  have hck : ¬ ci = k := by omega
  have k0 : (0 : Int) ≤ (k : Int) := by omega
  have k5 : (k : Int) + 8 ≤ (n : Int) := by omega
  have k6 : (n : Int) ≤ (ci : Int) := by omega
  go_upto_region 9 with (fail)
  clear HI HI2 sX k1
  go_loopw [10, 11] (fun v i wr => ∃ r q : Nat, wr = w6 ∧ r ≤ N ∧ i = .int .i64 r ∧ v = .int .i64 q ∧ q ≤ 1024 * r ∧ Hid (q = manyS (Ss.take r))) (fun _ i _ => N - (intOf i).toNat)
  case atStart => exact ⟨0, 0, rfl, Nat.zero_le _, rfl, rfl, Nat.le_refl _, Lib.hid rfl⟩
  case round =>
    obtain ⟨r, q, rfl, hr, rfl, rfl, hq, HQ⟩ := hrel
    by_cases hlt : r < N
    · have t1 : decide ((r : Int) < (N : Int)) = true := decide_eq_true (by omega)
      obtain ⟨ad2, Z, Bi, di, he, _, hgz, _, _, k2, _⟩ := uA.at_ hlt
      obtain rfl := Option.some.inj he
      have hz8 := HLE.out Z (List.mem_of_getElem? hgz)
      have hmt := many_take Ss r Z hgz
      obtain ⟨l, hl⟩ : ∃ l, l = Z.length := ⟨_, rfl⟩
      rw [← hl] at k2 hz8 hmt
      rw [← HQ.out] at hmt
      have i3 : (0 : Int) ≤ (r : Int) := by omega
      have i4 : (r : Int) < (N : Int) := by omega
      by_cases hl7 : 7 < l
      · obtain ⟨x, hx⟩ : ∃ x, x = l - 7 := ⟨_, rfl⟩
        have ww : IntKind.i64.wrap ((l : Int) - 7) = (x : Int) := by rw [IntKind.wrap_i64]; omega
        have x0 : (0 : Int) < (x : Int) := by omega
        rw [← hx] at hmt
        have HN : Hid (q + x = manyS (Ss.take (r + 1))) := Lib.hid hmt.symm
        have hx8 : x ≤ 1024 := by omega
        clear hmt hx hl hgz
        go_wp2
        go_roundw
        case rel => exact ⟨r + 1, q + x, trivial, by omega, by go_num, by go_num, by omega, HN⟩
        case measure => simp [intOf]; omega
      · obtain ⟨z, hz⟩ : ∃ z, z = (l : Int) - 7 := ⟨_, rfl⟩
        have ww : IntKind.i64.wrap ((l : Int) - 7) = z := by rw [IntKind.wrap_i64]; omega
        have z0 : ¬ (0 < z) := by omega
        have z1 : decide (0 < z) = false := decide_eq_false z0
        rw [show l - 7 = 0 by omega] at hmt
        have HN : Hid (q = manyS (Ss.take (r + 1))) := Lib.hid hmt.symm
        clear hmt hz hl hgz
        go_wp2
        go_roundw
        case rel => exact ⟨r + 1, q, trivial, by omega, by go_num, by go_num, by omega, HN⟩
        case measure => simp [intOf]; omega
    · obtain rfl : N = r := by omega
      have t1 : decide ((N : Int) < (N : Int)) = false := decide_eq_false (by omega)
      have hqm : q = manyS Ss := by rw [HQ.out, List.take_of_length_le (by rw [hlen.out]; exact Nat.le_refl _)]
      have HQM := Lib.hid hqm
      clear hqm HQ
      by_cases h4 : 512 < 4 * q
      · have t5 : decide ((512 : Int) < 4 * (q : Int)) = true := decide_eq_true (by omega)
        go_wp2
        go_ret
        exact ⟨rfl, hbb⟩
      · have t5 : decide ((512 : Int) < 4 * (q : Int)) = false := decide_eq_false (by omega)
        by_cases hf : freqB Ss P < 2
        · have hfc := fun B d hP => HFR.out wr B d uA hP
          obtain ⟨f, hff⟩ : ∃ f, f = freqB Ss P := ⟨_, rfl⟩
          rw [← hff] at hf hfc
          have HFC := Lib.hid hfc
          have t6 : decide ((f : Int) < 2) = true := decide_eq_true (by omega)
          clear hfc hff
          go_wp2_with (first
            | (go_at_call 17; refine (HFC.out _ _ sW).mono ?_; rintro e w5 ⟨rfl, h5⟩; subst w5))
          go_ret
          exact ⟨rfl, hbb⟩
        · have hocc := train_has HR.out (by rw [← HQM.out]; omega) (⟨HPP.out.2, by omega⟩ : isSeg Ss P)
          have hfc := fun B d hP => HFR.out wr B d uA hP
          obtain ⟨f, hff⟩ : ∃ f, f = freqB Ss P := ⟨_, rfl⟩
          rw [← hff] at hf hfc
          have HFC := Lib.hid hfc
          have hoc := fun d => occurs_any R P m 8 HM.out HPP.out.2.symm (by omega) (by omega) (by omega) G (some (ai.add k)) g d hgR wr uR sW
          rw [hocc] at hoc
          have HOC := Lib.hid hoc
          have t6 : decide ((f : Int) < 2) = false := decide_eq_false (by omega)
          clear hfc hff hoc hocc
          go_wp2_with (first
            | (go_at_call 17; refine (HFC.out _ _ sW).mono ?_; rintro e w5 ⟨rfl, h5⟩; subst w5)
            | (go_at_call 18; refine (HOC.out _).mono ?_; rintro e w7 ⟨rfl, h7⟩; subst w7))
          go_ret
          exact ⟨rfl, hbb⟩
end Go.Proofs.Ytcmbpniikcghfaa.lawDiCo
