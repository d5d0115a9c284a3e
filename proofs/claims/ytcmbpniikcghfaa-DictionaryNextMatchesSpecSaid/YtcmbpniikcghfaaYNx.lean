/-
  The walks of DictionaryNextMatchesSpec, where package dictionary keeps its contracts. (Written by cards/gen_DiNx.py.)
-/
import Derived.Test.YtcmbpniikcghfaaYP
import Derived.Test.YtcmbpniikcghfaaRSam
import Derived.Test.YtcmbpniikcghfaaRKit
import Derived.Test.YtcmbpniikcghfaaGFlatF
import Derived.Test.YtcmbpniikcghfaaRSub
import Derived.BigQuiet
namespace Go.Proofs.Ytcmbpniikcghfaa.lawDiNx
open Go.RowKit Go.Proofs.Ytcmbpniikcghfaa

theorem neq_f (a b : Int) (w : World) : (binOp .neq 25 (.agg (flt a b)) (.agg (flt a b))).run Try.prog w = .ok (.bool false) w := by
  have h := neq_flt a b a b w
  simp only [beq_self_eq_true, Bool.and_self, Bool.not_true] at h
  exact h
theorem eql_f (a b : Int) (w : World) : (binOp .eql 25 (.agg (flt a b)) (.agg (flt a b))).run Try.prog w = .ok (.bool true) w := by
  have h := eql_flt a b a b w
  simp only [beq_self_eq_true, Bool.and_self] at h
  exact h
theorem own_some {w : World} {base : Nat} {e : TypeId} {n c : Nat} {A : Option Addr} {xs : List Value} (h : w.ownsRow base e 1 (.slice A n c) n xs) (hc : c ≠ 0) : ∃ a, A = some a := by
  rcases h.2 with ⟨h1, _⟩ | ⟨g, cap, cur, h1, _⟩
  · injection h1 with h1 h2 h3
    exact absurd h3 hc
  · injection h1 with h1
    exact ⟨_, h1⟩
set_option maxRecDepth 100000 in
set_option maxHeartbeats 16000000 in
theorem walk_bad1 (hp : PTrains) (h : PNextBad) (Ss : List (List UInt8)) (N D : Nat) (size : Int) (hN : N = Ss.length) (hi : i64R size) (hz : 512 < D) (A B : Option Addr) (c d : Nat) (w : World) (hml : ML w) (hA : Sls w w.heap.size A N Ss) :
    Calls Try.prog 4 #[.slice B D d, .slice A N c, .int .i64 size] w fun e w' => e = .returned (.bool true) ∧ Below w.heap.size w w' := by
  have hal : nxF D Ss size = (3, -1) := if_pos hz
  have hb0 := h Ss N D size hN hi (by rw [hal]; decide) A B c d w hA
  rw [hal] at hb0
  simp only at hb0
  have t1 : decide ((512 : Int) < (D : Int)) = true := decide_eq_true (by omega)
  have hne := neq_f 3 (-1)
  have heq := eql_f 3 (-1)
  clear hal
  have HB := Lib.hid hb0
  have HP := Lib.hid hp
  have HML := Lib.hid hml
  have HA := Lib.hid hA
  clear hml hz hb0 hp h hA hN hi
  go_enter Try.func4, Try.ntmps4
  go_upto_region 2 with (first
    | (go_at_call 16; refine HB.out.mono ?_; rintro e w1 ⟨⟨G, g, rfl⟩, hb1⟩)
    | (refine wpList_store_row rfl 25 _ _ rfl w1.heap.size (flt 3 (-1)) rfl rfl 25 (flt 0 0) (Row.newEq _ _ _ _ _ rfl rfl) (by rw [flt_size]; exact cellsF) rfl (all_one (flt_one _ _)) ?_))
  have hk2 := up_call hb1 (blw_new1 w1 (.cells #[.int .i64 0, .int .i64 0] 25) (flt 3 (-1)))
  refine wp_world (F := fun W => Row W w1.heap.size 25 (flt 3 (-1)) ∧ Sls W W.heap.size A N Ss ∧ Below w.heap.size w W) ⟨row_new1 _ _ _ _, HA.out.up hk2, hk2⟩ ?_
  generalize w1.heap.size = g6
  clear hb1 hk2 HB HA
  rintro W1 ⟨r6, sA, hb⟩
  go_upto_region 3 with (first
    | (refine wpList_store_row rfl 25 _ _ rfl W1.heap.size (flt 0 0) rfl rfl 25 (flt 0 0) (Row.newEq _ _ _ _ _ rfl rfl) (by rw [flt_size]; exact cellsF) rfl (all_one (flt_one _ _)) ?_))
  have hk1 := blw_new1 W1 (.cells #[.int .i64 0, .int .i64 0] 25) (flt 0 0)
  refine wp_world (F := fun W => Row W W1.heap.size 25 (flt 0 0) ∧ Row W g6 25 (flt 3 (-1)) ∧ g6 < W1.heap.size ∧ w.heap.size ≤ W1.heap.size ∧ Sls W W.heap.size A N Ss ∧ Below w.heap.size w W) ⟨row_new1 _ _ _ _, r6.below hk1 r6.lt, r6.lt, hb.size, sA.up hk1, up_call hb hk1⟩ ?_
  generalize W1.heap.size = g7
  clear hk1 r6 sA hb W1
  rintro W2 ⟨r7, r6, hlt, hle, sA, hb⟩
  go_upto_region 5 with (first
    | (go_at_call 11; refine (at_any 3 (-1) _).mono ?_; rintro e w3 ⟨rfl, hb3⟩; have x7 := r7.below hb3 r7.lt)
    | (refine wpList_store_row rfl 25 _ _ rfl g7 (flt 3 (-1)) rfl rfl 25 (flt 0 0) x7 (by rw [flt_size]; exact cellsF) rfl (all_one (flt_one _ _)) ?_))
  refine wp_world (F := fun W => Row W g7 25 (flt 3 (-1)) ∧ Row W g6 25 (flt 3 (-1)) ∧ Below w.heap.size w W) ⟨Row.row x7 _, (r6.below hb3 r6.lt).rowFar (by omega) _, blw_row (up_call hb hb3) hle _⟩ ?_
  clear x7 hb3 hb r6 r7
  rintro W3 ⟨r7, r6, hb⟩
  have k7 : W3.cell? ⟨g7, 0, none⟩ = some (.int .i64 3) := (r7.cell 0).trans rfl
  go_upto_region 9 with (fail)
  go_upto_region 10 with (first
    | (go_at_call 12; refine (HP.out W3 (HML.out.below (by first | assumption | exact up_call hb hb4 | exact up_call hbb hb6 | exact up_call hbb hb5 | exact up_call (up_call hb hb4) hb5 | exact up_call (up_call hb hb4) hb6))).mono ?_; rintro e w4 ⟨rfl, hb4⟩; have q6 := r6.below hb4 r6.lt; have q7 := r7.below hb4 r7.lt; have z7 : w4.cell? ⟨g7, 0, none⟩ = some (.int .i64 3) := (q7.cell 0).trans rfl)
    | (refine wpList_load_rowG (by simp [Region.wanted, yielded, Act.put]) 25 _ rfl g6 rfl 25 (flt 3 (-1)) (0, 0) _ (q6) Try.underlying25 rfl (by rw [flt_size]; exact cellsF) ?_)
    | (refine wpList_load_rowG (by simp [Region.wanted, yielded, Act.put]) 25 _ rfl g7 rfl 25 (flt 3 (-1)) (0, 0) _ (q7) Try.underlying25 rfl (by rw [flt_size]; exact cellsF) ?_))
  go_wp2_with (first
    | (go_at_call 12; refine (HP.out w4 (HML.out.below (by first | assumption | exact up_call hb hb4 | exact up_call hbb hb6 | exact up_call hbb hb5 | exact up_call (up_call hb hb4) hb5 | exact up_call (up_call hb hb4) hb6))).mono ?_; rintro e w5 ⟨rfl, hb5⟩; have y6 := q6.below hb5 q6.lt; have y7 := q7.below hb5 q7.lt)
    | (refine wpList_load_rowG (by simp [Region.wanted, yielded, Act.put]) 25 _ rfl g6 rfl 25 (flt 3 (-1)) (0, 0) _ (y6) Try.underlying25 rfl (by rw [flt_size]; exact cellsF) ?_)
    | (refine wpList_load_rowG (by simp [Region.wanted, yielded, Act.put]) 25 _ rfl g7 rfl 25 (flt 3 (-1)) (0, 0) _ (y7) Try.underlying25 rfl (by rw [flt_size]; exact cellsF) ?_))
  go_ret
  exact ⟨rfl, up_call (up_call hb hb4) hb5⟩

set_option maxRecDepth 100000 in
set_option maxHeartbeats 16000000 in
theorem walk_bad2 (hp : PTrains) (h : PNextBad) (Ss : List (List UInt8)) (N D : Nat) (size : Int) (hN : N = Ss.length) (hi : i64R size) (hD : D ≤ 512) (hz : ¬ (smF Ss (-2)).1 = 0) (A B : Option Addr) (c d : Nat) (w : World) (hml : ML w) (hA : Sls w w.heap.size A N Ss) :
    Calls Try.prog 4 #[.slice B D d, .slice A N c, .int .i64 size] w fun e w' => e = .returned (.bool true) ∧ Below w.heap.size w w' := by
  have hal : nxF D Ss size = smF Ss (-2) := by unfold nxF trF; rw [if_neg (by omega), if_neg hz]
  have hb0 := h Ss N D size hN hi (by rw [hal]; exact hz) A B c d w hA
  have hs := fun (w : World) hS => samplesfault_any Ss N hN (-2) A c w hS
  rw [hal] at hb0
  obtain ⟨k, i, hk⟩ : ∃ k i, smF Ss (-2) = (k, i) := ⟨_, _, rfl⟩
  rw [hk] at hb0 hs hz
  simp only at hb0 hs hz
  have t1 : decide ((512 : Int) < (D : Int)) = false := decide_eq_false (by omega)
  have e1 : (k == 0) = false := beq_eq_false_iff_ne.2 hz
  have e2 : (k != 0) = true := by rw [bne, e1]; rfl
  have hne := neq_f k i
  have heq := eql_f k i
  clear hk hal
  have HB := Lib.hid hb0
  have HS := Lib.hid hs
  have HP := Lib.hid hp
  have HML := Lib.hid hml
  have HA := Lib.hid hA
  clear hml hz hb0 hs hp h hA hN hi
  go_enter Try.func4, Try.ntmps4
  go_upto_region 2 with (first
    | (go_at_call 16; refine HB.out.mono ?_; rintro e w1 ⟨⟨G, g, rfl⟩, hb1⟩)
    | (refine wpList_store_row rfl 25 _ _ rfl w1.heap.size (flt k i) rfl rfl 25 (flt 0 0) (Row.newEq _ _ _ _ _ rfl rfl) (by rw [flt_size]; exact cellsF) rfl (all_one (flt_one _ _)) ?_))
  have hk2 := up_call hb1 (blw_new1 w1 (.cells #[.int .i64 0, .int .i64 0] 25) (flt k i))
  refine wp_world (F := fun W => Row W w1.heap.size 25 (flt k i) ∧ Sls W W.heap.size A N Ss ∧ Below w.heap.size w W) ⟨row_new1 _ _ _ _, HA.out.up hk2, hk2⟩ ?_
  generalize w1.heap.size = g6
  clear hb1 hk2 HB HA
  rintro W1 ⟨r6, sA, hb⟩
  go_upto_region 3 with (first
    | (refine wpList_store_row rfl 25 _ _ rfl W1.heap.size (flt 0 0) rfl rfl 25 (flt 0 0) (Row.newEq _ _ _ _ _ rfl rfl) (by rw [flt_size]; exact cellsF) rfl (all_one (flt_one _ _)) ?_))
  have hk1 := blw_new1 W1 (.cells #[.int .i64 0, .int .i64 0] 25) (flt 0 0)
  refine wp_world (F := fun W => Row W W1.heap.size 25 (flt 0 0) ∧ Row W g6 25 (flt k i) ∧ g6 < W1.heap.size ∧ w.heap.size ≤ W1.heap.size ∧ Sls W W.heap.size A N Ss ∧ Below w.heap.size w W) ⟨row_new1 _ _ _ _, r6.below hk1 r6.lt, r6.lt, hb.size, sA.up hk1, up_call hb hk1⟩ ?_
  generalize W1.heap.size = g7
  clear hk1 r6 sA hb W1
  rintro W2 ⟨r7, r6, hlt, hle, sA, hb⟩
  have k7 : W2.cell? ⟨g7, 0, none⟩ = some (.int .i64 0) := (r7.cell 0).trans rfl
  go_upto_region 7 with (first
    | (go_at_call 9; refine (HS.out _ sA).mono ?_; rintro e w3 ⟨rfl, hb3⟩; have x7 := r7.below hb3 r7.lt)
    | (refine wpList_store_row rfl 25 _ _ rfl g7 (flt k i) rfl rfl 25 (flt 0 0) x7 (by rw [flt_size]; exact cellsF) rfl (all_one (flt_one _ _)) ?_))
  refine wp_world (F := fun W => Row W g7 25 (flt k i) ∧ Row W g6 25 (flt k i) ∧ Below w.heap.size w W) ⟨Row.row x7 _, (r6.below hb3 r6.lt).rowFar (by omega) _, blw_row (up_call hb hb3) hle _⟩ ?_
  clear k7 x7 hb3 hb r6 r7
  rintro W3 ⟨r7, r6, hb⟩
  have k7 : W3.cell? ⟨g7, 0, none⟩ = some (.int .i64 k) := (r7.cell 0).trans rfl
  go_upto_region 9 with (fail)
  go_upto_region 10 with (first
    | (go_at_call 12; refine (HP.out W3 (HML.out.below (by first | assumption | exact up_call hb hb4 | exact up_call hbb hb6 | exact up_call hbb hb5 | exact up_call (up_call hb hb4) hb5 | exact up_call (up_call hb hb4) hb6))).mono ?_; rintro e w4 ⟨rfl, hb4⟩; have q6 := r6.below hb4 r6.lt; have q7 := r7.below hb4 r7.lt; have z7 : w4.cell? ⟨g7, 0, none⟩ = some (.int .i64 k) := (q7.cell 0).trans rfl)
    | (refine wpList_load_rowG (by simp [Region.wanted, yielded, Act.put]) 25 _ rfl g6 rfl 25 (flt k i) (0, 0) _ (q6) Try.underlying25 rfl (by rw [flt_size]; exact cellsF) ?_)
    | (refine wpList_load_rowG (by simp [Region.wanted, yielded, Act.put]) 25 _ rfl g7 rfl 25 (flt k i) (0, 0) _ (q7) Try.underlying25 rfl (by rw [flt_size]; exact cellsF) ?_))
  go_wp2_with (first
    | (go_at_call 12; refine (HP.out w4 (HML.out.below (by first | assumption | exact up_call hb hb4 | exact up_call hbb hb6 | exact up_call hbb hb5 | exact up_call (up_call hb hb4) hb5 | exact up_call (up_call hb hb4) hb6))).mono ?_; rintro e w5 ⟨rfl, hb5⟩; have y6 := q6.below hb5 q6.lt; have y7 := q7.below hb5 q7.lt)
    | (refine wpList_load_rowG (by simp [Region.wanted, yielded, Act.put]) 25 _ rfl g6 rfl 25 (flt k i) (0, 0) _ (y6) Try.underlying25 rfl (by rw [flt_size]; exact cellsF) ?_)
    | (refine wpList_load_rowG (by simp [Region.wanted, yielded, Act.put]) 25 _ rfl g7 rfl 25 (flt k i) (0, 0) _ (y7) Try.underlying25 rfl (by rw [flt_size]; exact cellsF) ?_))
  go_ret
  exact ⟨rfl, up_call (up_call hb hb4) hb5⟩

set_option maxRecDepth 100000 in
set_option maxHeartbeats 16000000 in
theorem walk_bad3 (hp : PTrains) (h : PNextBad) (Ss : List (List UInt8)) (N D : Nat) (size : Int) (hN : N = Ss.length) (hi : i64R size) (hD : D ≤ 512) (hz : (smF Ss (-2)).1 = 0) (hr : ¬ (0 ≤ size ∧ size ≤ 512)) (A B : Option Addr) (c d : Nat) (w : World) (hml : ML w) (hA : Sls w w.heap.size A N Ss) :
    Calls Try.prog 4 #[.slice B D d, .slice A N c, .int .i64 size] w fun e w' => e = .returned (.bool true) ∧ Below w.heap.size w w' := by
  have hal : nxF D Ss size = (4, -3) := by unfold nxF trF; rw [if_neg (by omega), if_pos hz, if_neg hr]
  have hb0 := h Ss N D size hN hi (by rw [hal]; exact (show ¬ ((4 : Int) = 0) by decide)) A B c d w hA
  have hs := fun (w : World) hS => samplesfault_any Ss N hN (-2) A c w hS
  rw [hal] at hb0
  rw [(smF_ok hz).1] at hs
  simp only at hb0 hs
  have t1 : decide ((512 : Int) < (D : Int)) = false := decide_eq_false (by omega)
  have hin := fun w => in_no size 0 512 (by omega) w
  have hne := neq_f 4 (-3)
  have heq := eql_f 4 (-3)
  clear hal
  have HI := Lib.hid hin
  have HB := Lib.hid hb0
  have HS := Lib.hid hs
  have HP := Lib.hid hp
  have HML := Lib.hid hml
  have HA := Lib.hid hA
  clear hml hz hb0 hs hp h hA hN hi hin hr
  go_enter Try.func4, Try.ntmps4
  go_upto_region 2 with (first
    | (go_at_call 16; refine HB.out.mono ?_; rintro e w1 ⟨⟨G, g, rfl⟩, hb1⟩)
    | (refine wpList_store_row rfl 25 _ _ rfl w1.heap.size (flt 4 (-3)) rfl rfl 25 (flt 0 0) (Row.newEq _ _ _ _ _ rfl rfl) (by rw [flt_size]; exact cellsF) rfl (all_one (flt_one _ _)) ?_))
  have hk2 := up_call hb1 (blw_new1 w1 (.cells #[.int .i64 0, .int .i64 0] 25) (flt 4 (-3)))
  refine wp_world (F := fun W => Row W w1.heap.size 25 (flt 4 (-3)) ∧ Sls W W.heap.size A N Ss ∧ Below w.heap.size w W) ⟨row_new1 _ _ _ _, HA.out.up hk2, hk2⟩ ?_
  generalize w1.heap.size = g6
  clear hb1 hk2 HB HA
  rintro W1 ⟨r6, sA, hb⟩
  go_upto_region 3 with (first
    | (refine wpList_store_row rfl 25 _ _ rfl W1.heap.size (flt 0 0) rfl rfl 25 (flt 0 0) (Row.newEq _ _ _ _ _ rfl rfl) (by rw [flt_size]; exact cellsF) rfl (all_one (flt_one _ _)) ?_))
  have hk1 := blw_new1 W1 (.cells #[.int .i64 0, .int .i64 0] 25) (flt 0 0)
  refine wp_world (F := fun W => Row W W1.heap.size 25 (flt 0 0) ∧ Row W g6 25 (flt 4 (-3)) ∧ g6 < W1.heap.size ∧ w.heap.size ≤ W1.heap.size ∧ Sls W W.heap.size A N Ss ∧ Below w.heap.size w W) ⟨row_new1 _ _ _ _, r6.below hk1 r6.lt, r6.lt, hb.size, sA.up hk1, up_call hb hk1⟩ ?_
  generalize W1.heap.size = g7
  clear hk1 r6 sA hb W1
  rintro W2 ⟨r7, r6, hlt, hle, sA, hb⟩
  have k7 : W2.cell? ⟨g7, 0, none⟩ = some (.int .i64 0) := (r7.cell 0).trans rfl
  go_upto_region 7 with (first
    | (go_at_call 9; refine (HS.out _ sA).mono ?_; rintro e w3 ⟨rfl, hb3⟩; have x7 := r7.below hb3 r7.lt)
    | (refine wpList_store_row rfl 25 _ _ rfl g7 (flt 0 0) rfl rfl 25 (flt 0 0) x7 (by rw [flt_size]; exact cellsF) rfl (all_one (flt_one _ _)) ?_))
  refine wp_world (F := fun W => Row W g7 25 (flt 0 0) ∧ Row W g6 25 (flt 4 (-3)) ∧ Below w.heap.size w W) ⟨Row.row x7 _, (r6.below hb3 r6.lt).rowFar (by omega) _, blw_row (up_call hb hb3) hle _⟩ ?_
  clear k7 x7 hb3 hb r6 r7
  rintro W5 ⟨r7, r6, hb⟩
  have k7 : W5.cell? ⟨g7, 0, none⟩ = some (.int .i64 0) := (r7.cell 0).trans rfl
  go_upto_region 9 with (first
    | (go_at_call 10; refine (HI.out _).mono ?_; rintro e w9 ⟨rfl, h9⟩; subst w9)
    | (go_at_call 11; refine (at_any 4 (-3) _).mono ?_; rintro e w3 ⟨rfl, hb3⟩; have x7 := r7.below hb3 r7.lt)
    | (refine wpList_store_row rfl 25 _ _ rfl g7 (flt 4 (-3)) rfl rfl 25 (flt 0 0) x7 (by rw [flt_size]; exact cellsF) rfl (all_one (flt_one _ _)) ?_))
  refine wp_world (F := fun W => Row W g7 25 (flt 4 (-3)) ∧ Row W g6 25 (flt 4 (-3)) ∧ Below w.heap.size w W) ⟨Row.row x7 _, (r6.below hb3 r6.lt).rowFar (by omega) _, blw_row (up_call hb hb3) hle _⟩ ?_
  clear k7 x7 hb3 hb r6 r7
  rintro W3 ⟨r7, r6, hb⟩
  go_upto_region 10 with (first
    | (go_at_call 12; refine (HP.out W3 (HML.out.below (by first | assumption | exact up_call hb hb4 | exact up_call hbb hb6 | exact up_call hbb hb5 | exact up_call (up_call hb hb4) hb5 | exact up_call (up_call hb hb4) hb6))).mono ?_; rintro e w4 ⟨rfl, hb4⟩; have q6 := r6.below hb4 r6.lt; have q7 := r7.below hb4 r7.lt; have z7 : w4.cell? ⟨g7, 0, none⟩ = some (.int .i64 4) := (q7.cell 0).trans rfl)
    | (refine wpList_load_rowG (by simp [Region.wanted, yielded, Act.put]) 25 _ rfl g6 rfl 25 (flt 4 (-3)) (0, 0) _ (q6) Try.underlying25 rfl (by rw [flt_size]; exact cellsF) ?_)
    | (refine wpList_load_rowG (by simp [Region.wanted, yielded, Act.put]) 25 _ rfl g7 rfl 25 (flt 4 (-3)) (0, 0) _ (q7) Try.underlying25 rfl (by rw [flt_size]; exact cellsF) ?_))
  go_wp2_with (first
    | (go_at_call 12; refine (HP.out w4 (HML.out.below (by first | assumption | exact up_call hb hb4 | exact up_call hbb hb6 | exact up_call hbb hb5 | exact up_call (up_call hb hb4) hb5 | exact up_call (up_call hb hb4) hb6))).mono ?_; rintro e w5 ⟨rfl, hb5⟩; have y6 := q6.below hb5 q6.lt; have y7 := q7.below hb5 q7.lt)
    | (refine wpList_load_rowG (by simp [Region.wanted, yielded, Act.put]) 25 _ rfl g6 rfl 25 (flt 4 (-3)) (0, 0) _ (y6) Try.underlying25 rfl (by rw [flt_size]; exact cellsF) ?_)
    | (refine wpList_load_rowG (by simp [Region.wanted, yielded, Act.put]) 25 _ rfl g7 rfl 25 (flt 4 (-3)) (0, 0) _ (y7) Try.underlying25 rfl (by rw [flt_size]; exact cellsF) ?_))
  go_ret
  exact ⟨rfl, up_call (up_call hb hb4) hb5⟩

set_option maxRecDepth 100000 in
set_option maxHeartbeats 16000000 in
theorem walk_ok (hp : PTrains) (h : PNext) (ht : PTrain) (E : List UInt8) (Ss : List (List UInt8)) (N D size : Nat) (hN : N = Ss.length) (hD : D = E.length) (hz : ¬ (nxF D Ss size).1 ≠ 0) (A B : Option Addr) (c d : Nat) (hc : N ≤ c) (hd : D ≤ d) (w : World) (hml : ML w) (hA : Sls w w.heap.size A N Ss) (hB : Sl w w.heap.size B D (bl E)) :
    Calls Try.prog 4 #[.slice B D d, .slice A N c, .int .i64 (size : Nat)] w fun e w' => e = .returned (.bool true) ∧ Below w.heap.size w w' := by
  obtain ⟨i0, hi0, hz0, hz1, hz2⟩ := info_parts infoU8
  obtain ⟨hal, hD5, hN64, hle, hs0, hs5⟩ := nxF_ok hz
  have hal2 : trF Ss size (-2) (-3) = (0, 0) := by
    unfold nxF at hal
    rw [if_neg (by omega)] at hal
    exact hal
  have hsm : smF Ss (-2) = (0, 0) := by
    unfold trF at hal2
    split at hal2
    · rename_i h2
      exact (smF_ok h2).1
    · exact hal2
  have hsm1 : smF Ss (-1) = (0, 0) := by
    unfold smF at hsm ⊢
    rw [if_neg (by omega)] at hsm ⊢
    exact hsm
  have hal1 : trF Ss size (-1) (-2) = (0, 0) := by
    unfold trF
    rw [hsm1]
    exact (if_pos rfl).trans (if_pos ⟨hs0, hs5⟩)
  have hb0 := h E Ss N D size hN hD hal A B c d hc hd w hml hA hB
  have hs := fun (w : World) hS => samplesfault_any Ss N hN (-2) A c w hS
  rw [hsm] at hs
  simp only at hs
  have htr := fun (w : World) hM hS => ht Ss N size hN hal1 A c hc w hM hS
  have hin := fun w => in_yes (size : Int) 0 512 hs0 hs5 w
  have t1 : decide ((512 : Int) < (D : Int)) = false := decide_eq_false (by omega)
  have hne := neq_f 0 0
  have heq := eql_f 0 0
  have HI := Lib.hid hin
  have HB0 := Lib.hid hb0
  have HS := Lib.hid hs
  have HP := Lib.hid hp
  have HML := Lib.hid hml
  have HA := Lib.hid hA
  have HSB := Lib.hid hB
  have HTR := Lib.hid htr
  have HDL := Lib.hid hD
  clear hml hz hb0 hs hp h ht hA hB hN hD hle hsm hsm1 hal hal1 hal2 hin htr
  go_enter Try.func4, Try.ntmps4
  go_upto_region 2 with (first
    | (go_at_call 16; refine HB0.out.mono ?_; rintro e w1 ⟨⟨R, G, g, hR, rfl, _, sR⟩, hb1⟩)
    | (refine wpList_store_row rfl 25 _ _ rfl w1.heap.size (flt 0 0) rfl rfl 25 (flt 0 0) (Row.newEq _ _ _ _ _ rfl rfl) (by rw [flt_size]; exact cellsF) rfl (all_one (flt_one _ _)) ?_))
  have hRl := train_len hR
  obtain ⟨m, hm⟩ : ∃ m, m = R.length := ⟨_, rfl⟩
  rw [← hm] at hRl
  obtain ⟨T, hT⟩ : ∃ T, T = lastL size (E ++ R) := ⟨_, rfl⟩
  rw [← hT] at sR ⊢
  obtain ⟨tl, htl⟩ : ∃ t, t = T.length := ⟨_, rfl⟩
  rw [← htl] at sR ⊢
  have HM := Lib.hid hm
  have HR := Lib.hid hR
  have HT := Lib.hid (And.intro hT htl)
  clear hm hR hT htl
  have hk1 := blw_new1 w1 (.cells #[.int .i64 0, .int .i64 0] 25) (flt 0 0)
  have hk2 := up_call hb1 hk1
  refine wp_world (F := fun W => Row W w1.heap.size 25 (flt 0 0) ∧ Sl W W.heap.size G tl (bl T) ∧ Below w.heap.size w W) ⟨row_new1 _ _ _ _, sR.up hk1, hk2⟩ ?_
  generalize w1.heap.size = g6
  clear hb1 hk1 hk2 HB0 sR
  rintro W1 ⟨r6, sR, hb⟩
  have hlt := r6.lt
  have hle := hb.size
  go_upto_region 3 with (first
    | (refine wpList_store_row rfl 25 _ _ rfl W1.heap.size (flt 0 0) rfl rfl 25 (flt 0 0) (Row.newEq _ _ _ _ _ rfl rfl) (by rw [flt_size]; exact cellsF) rfl (all_one (flt_one _ _)) ?_))
  have hk1 := blw_new1 W1 (.cells #[.int .i64 0, .int .i64 0] 25) (flt 0 0)
  refine wp_world (F := fun W => Row W W1.heap.size 25 (flt 0 0) ∧ Row W g6 25 (flt 0 0) ∧ Below W1.heap.size W1 W) ⟨row_new1 _ _ _ _, r6.below hk1 r6.lt, hk1⟩ ?_
  have HSR := Lib.hid sR
  clear hk1 r6 sR
  generalize hg : W1.heap.size = g7 at hlt hle ⊢
  have HG := Lib.hid hg
  clear hg
  rintro W2 ⟨r7, r6, hbW⟩
  have k7 : W2.cell? ⟨g7, 0, none⟩ = some (.int .i64 0) := (r7.cell 0).trans rfl
  have hw2 := hb.trans (hbW.mono hle)
  go_upto_region 7 with (first
    | (go_at_call 9; refine (HS.out _ (HA.out.up hw2)).mono ?_; rintro e w3 ⟨rfl, hb3⟩; have x7 := r7.below hb3 r7.lt)
    | (refine wpList_store_row rfl 25 _ _ rfl g7 (flt 0 0) rfl rfl 25 (flt 0 0) x7 (by rw [flt_size]; exact cellsF) rfl (all_one (flt_one _ _)) ?_))
  refine wp_world (F := fun W => Row W g7 25 (flt 0 0) ∧ Row W g6 25 (flt 0 0) ∧ Below g7 W1 W) ⟨Row.row x7 _, (r6.below hb3 r6.lt).rowFar (by omega) _, blw_row (hbW.trans (hb3.mono (Nat.le_of_lt r7.lt))) (Nat.le_refl _) _⟩ ?_
  clear k7 x7 hb3 hbW r6 r7 hw2
  rintro W3 ⟨r7, r6, hbW⟩
  have k7 : W3.cell? ⟨g7, 0, none⟩ = some (.int .i64 0) := (r7.cell 0).trans rfl
  have hw3 := hb.trans (hbW.mono hle)
  go_upto_region 9 with (first
    | (go_at_call 10; refine (HI.out _).mono ?_; rintro e w9 ⟨rfl, h9⟩; subst w9))
  go_upto_region 11 with (first
    | (go_at_call 12; refine (HP.out W3 (HML.out.below (by first | assumption | exact up_call hb hb4 | exact up_call hbb hb6 | exact up_call hbb hb5 | exact up_call (up_call hb hb4) hb5 | exact up_call (up_call hb hb4) hb6))).mono ?_; rintro e w4 ⟨rfl, hb4⟩; have q6 := r6.below hb4 r6.lt; have q7 := r7.below hb4 r7.lt; have z7 : w4.cell? ⟨g7, 0, none⟩ = some (.int .i64 0) := (q7.cell 0).trans rfl)
    | (refine wpList_load_rowG (by simp [Region.wanted, yielded, Act.put]) 25 _ rfl g6 rfl 25 (flt 0 0) (0, 0) _ (q6) Try.underlying25 rfl (by rw [flt_size]; exact cellsF) ?_)
    | (refine wpList_load_rowG (by simp [Region.wanted, yielded, Act.put]) 25 _ rfl g7 rfl 25 (flt 0 0) (0, 0) _ (q7) Try.underlying25 rfl (by rw [flt_size]; exact cellsF) ?_))
  have hbb := up_call hw3 hb4
  have uA := HA.out.up hbb
  have uB := HSB.out.up hbb
  have uR := HSR.out.up (by rw [HG.out]; exact hbW.trans (hb4.mono (Nat.le_of_lt r7.lt)))
  clear k7 z7 q6 q7 r6 r7 hb hb4 hbW hw3 HA HSB HSR HG hlt hle
  go_upto_region 12 with (first
    | (go_at_call 8; refine (HTR.out _ (HML.out.below hbb) uA).mono ?_; rintro e w5 ⟨⟨R2, G2, g2, hR2, rfl, _, s2⟩, hb5⟩; obtain rfl := train_one HR.out hR2; rw [← HM.out] at s2; rw [← HM.out])
    | (refine wpList_store_row rfl 25 _ _ rfl w5.heap.size (flt 0 0) rfl rfl 25 (flt 0 0) (Row.newEq _ _ _ _ _ rfl rfl) (by rw [flt_size]; exact cellsF) rfl (all_one (flt_one _ _)) ?_))
  have hk1 := blw_new1 w5 (.cells #[.int .i64 0, .int .i64 0] 25) (flt 0 0)
  have hk2 := up_call hb5 hk1
  refine wp_world (F := fun W => Row W w5.heap.size 25 (flt 0 0) ∧ Sl W W.heap.size B D (bl E) ∧ Sl W W.heap.size G2 m (bl R) ∧ Sl W W.heap.size G tl (bl T) ∧ Below w.heap.size w W) ⟨row_new1 _ _ _ _, uB.up hk2, s2.up hk1, uR.up hk2, up_call hbb hk2⟩ ?_
  generalize w5.heap.size = g11
  clear hb5 hk1 hk2 s2 uA uB uR hbb hR2 HML HTR
  rintro W6 ⟨r11, sB, s2, sR, hb⟩
  go_upto_region 15 with (first
    | (at_builtin; refine wpList_app _ rfl _ _ _ rfl W6.heap.size 5 i0 (.int .u8 0) 1 Try.underlying23 hi0 hz0 hz1 hz2 rfl (.slice none 0 0) 0 [] rfl (World.ownsRow_nil _ _ _ _) W6.heap.size B D d _ rfl sB (bl_one _) (by unfold maxLen; omega) (by omega) (Nat.le_refl _) ?_; intro v7 w7 hown7 hg7; have hb7 := blw_grown (Below.refl W6.heap.size W6) hg7 (Nat.le_refl _) (World.ownsRow_nil W6 W6.heap.size 5 1) (Nat.le_refl _); rw [List.nil_append, Nat.zero_add] at hown7; have HV7 := Lib.hid hown7; clear hown7 hg7; obtain ⟨A7, c7, hv7, _, _⟩ := own_form HV7.out; subst hv7; have s27 := s2.up hb7)
    | (at_builtin; refine wpList_app _ rfl _ _ _ rfl W6.heap.size 5 i0 (.int .u8 0) 1 Try.underlying23 hi0 hz0 hz1 hz2 rfl _ D _ rfl HV7.out w7.heap.size G2 m g2 _ rfl s27 (bl_one _) (by unfold maxLen; omega) (by omega) hb7.size ?_; intro v9 w9 hown9 hg9; have hb9 := blw_grown hb7 hg9 hb7.size HV7.out (Nat.le_refl _)))
  rw [← bl_append] at hown9
  obtain ⟨l, hl⟩ : ∃ l, l = D + m := ⟨_, rfl⟩
  rw [← hl] at hown9
  have hll : l = (E ++ R).length := by rw [List.length_append, ← HM.out, ← HDL.out, hl]
  have HV9 := Lib.hid hown9
  obtain ⟨A9, c9, hv9, hc9, hm9⟩ := own_form HV9.out
  subst hv9
  have s9 := Sl.of_own HV9.out
  obtain ⟨k, hk⟩ : ∃ k, k = l - size := ⟨_, rfl⟩
  have hTk : T = (E ++ R).drop k := by rw [HT.out.1, lastL, ← hll, hk]
  have htl : tl = l - k := by rw [HT.out.2, hTk, List.length_drop, ← hll]
  have sR9 := sR.up hb9
  have hbb := up_call hb hb9
  have y11 := (r11.below hb9 r11.lt)
  have k11 : w9.cell? ⟨g11, 0, none⟩ = some (.int .i64 0) := (y11.cell 0).trans rfl
  by_cases hls : size < l
  · have ww : IntKind.i64.wrap ((l : Int) - (size : Int)) = (k : Int) := by rw [IntKind.wrap_i64]; omega
    have k0 : (0 : Int) < (k : Int) := by omega
    have k1 : (k : Int) ≤ (l : Int) := by omega
    have k2 : (l : Int) ≤ (c9 : Int) := by omega
    have sK := s9.cut (k := k) (cap := c9) (by omega) hc9
    rw [bl_drop, ← hTk] at sK
    by_cases hck : c9 = k
    · have h1 : c9 = l := by omega
      have h2 : k = l := by omega
      rw [if_pos hck] at sK
      have hl0 : l - k = 0 := by omega
      rw [hl0] at sK
      clear hk hTk hl hll hown9 hg9 hb9 hb7 y11 r11 sB s2 sR s27 HV7 HV9 s9 hb HT hm9 hck hl0 htl hls
      subst h1 h2
      go_wp2_with (first
        | (go_at_call 14; refine (same_any _ _ T T tl _ _ _ _ sR9 sK).mono ?_; rintro e w7 ⟨rfl, h7⟩; subst w7; rw [decide_eq_true rfl]))
      go_ret
      exact ⟨rfl, hbb⟩
    · rw [if_neg hck] at sK
      obtain ⟨a9, rfl⟩ := own_some HV9.out (by omega)
      clear hk hTk hl hll hown9 hg9 hb9 hb7 y11 r11 sB s2 sR s27 HV7 HV9 s9 hb HT hm9 htl hls
      go_wp2_with (first
        | (go_at_call 14; refine (same_any _ _ T T tl _ _ _ _ sR9 sK).mono ?_; rintro e w7 ⟨rfl, h7⟩; subst w7; rw [decide_eq_true rfl]))
      go_ret
      exact ⟨rfl, hbb⟩
  · obtain ⟨z, hz⟩ : ∃ z, z = (l : Int) - (size : Int) := ⟨_, rfl⟩
    have ww : IntKind.i64.wrap ((l : Int) - (size : Int)) = z := by rw [IntKind.wrap_i64]; omega
    have z0 : ¬ (0 < z) := by omega
    have z1 : decide (0 < z) = false := decide_eq_false z0
    have z2 : max (0 : Int) z = 0 := by omega
    have hk0 : k = 0 := by omega
    have k2 : (l : Int) ≤ (c9 : Int) := by omega
    rw [hk0, List.drop_zero] at hTk
    have sK := s9
    rw [← hTk] at sK
    by_cases hck : c9 = 0
    · have h1 : l = 0 := by omega
      clear hz hk0 hk hTk hll hown9 hg9 hb9 hb7 y11 r11 sB s2 sR s27 HV7 HV9 s9 hb HT hm9 htl hls hl
      subst hck h1
      go_wp2_with (first
        | (go_at_call 14; refine (same_any _ _ T T tl _ _ _ _ sR9 sK).mono ?_; rintro e w7 ⟨rfl, h7⟩; subst w7; rw [decide_eq_true rfl]))
      go_ret
      exact ⟨rfl, hbb⟩
    · obtain ⟨a9, rfl⟩ := own_some HV9.out hck
      clear hz hk0 hk hTk hl hll hown9 hg9 hb9 hb7 y11 r11 sB s2 sR s27 HV7 HV9 s9 hb HT hm9 htl hls
      go_wp2_with (first
        | (go_at_call 14; refine (same_any _ _ T T tl _ _ _ _ sR9 sK).mono ?_; rintro e w7 ⟨rfl, h7⟩; subst w7; rw [decide_eq_true rfl]))
      go_ret
      exact ⟨rfl, hbb⟩
end Go.Proofs.Ytcmbpniikcghfaa.lawDiNx
