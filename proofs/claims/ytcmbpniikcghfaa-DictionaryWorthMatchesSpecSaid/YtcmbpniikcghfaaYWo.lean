/-
  The walks of DictionaryWorthMatchesSpec, where packages dictionary and lz keep their contracts. (Written by cards/gen_DiWo.py.)
-/
import Derived.Test.YtcmbpniikcghfaaYP
import Derived.Test.YtcmbpniikcghfaaRSam
import Derived.Test.YtcmbpniikcghfaaLzQ
import Derived.Test.YtcmbpniikcghfaaLzC
import Derived.Test.YtcmbpniikcghfaaYPi
import Derived.Test.YtcmbpniikcghfaaGFlatF
import Derived.BigQuiet
namespace Go.Proofs.Ytcmbpniikcghfaa.lawDiWo
open Go.RowKit Go.Proofs.Ytcmbpniikcghfaa

theorem neq_f (a b : Int) (w : World) : (binOp .neq 25 (.agg (flt a b)) (.agg (flt a b))).run Try.prog w = .ok (.bool false) w := by
  have h := neq_flt a b a b w
  simp only [beq_self_eq_true, Bool.and_self, Bool.not_true] at h
  exact h
theorem eql_f (a b : Int) (w : World) : (binOp .eql 25 (.agg (flt a b)) (.agg (flt a b))).run Try.prog w = .ok (.bool true) w := by
  have h := eql_flt a b a b w
  simp only [beq_self_eq_true, Bool.and_self] at h
  exact h
set_option maxRecDepth 100000 in
set_option maxHeartbeats 16000000 in
theorem walk_bad1 (hp : PTrains) (h : PWorthBad) (Ss : List (List UInt8)) (N D : Nat) (hN : N = Ss.length) (hz : ¬ (smF Ss (-1)).1 = 0) (A B : Option Addr) (c d : Nat) (w : World) (hml : ML w) (hA : Sls w w.heap.size A N Ss) :
    Calls Try.prog 7 #[.slice A N c, .slice B D d] w fun e w' => e = .returned (.bool true) ∧ Below w.heap.size w w' := by
  have hal : woF Ss D = smF Ss (-1) := by unfold woF; rw [if_neg hz]
  have hb0 := h Ss N D hN (by rw [hal]; exact hz) A B c d w hA
  have hs := fun (w : World) hS => samplesfault_any Ss N hN (-1) A c w hS
  rw [hal] at hb0
  obtain ⟨k, i, hk⟩ : ∃ k i, smF Ss (-1) = (k, i) := ⟨_, _, rfl⟩
  rw [hk] at hb0 hs hz
  simp only at hb0 hs hz
  have e1 : (k == 0) = false := beq_eq_false_iff_ne.2 hz
  have e2 : (k != 0) = true := by rw [bne, e1]; rfl
  have hne := neq_f k i
  have heq := eql_f k i
  clear hk hal
  have HB := Lib.hid hb0
  have HS := Lib.hid hs
  have HP := Lib.hid hp
  have HML := Lib.hid hml
  have HA := Lib.hid hA
  clear hml hz hb0 hs hp h hA hN
  go_enter Try.func7, Try.ntmps7
  go_upto_region 2 with (first
    | (go_at_call 19; refine HB.out.mono ?_; rintro e w1 ⟨rfl, hb1⟩)
    | (refine wpList_store_row rfl 25 _ _ rfl w1.heap.size (flt k i) rfl rfl 25 (flt 0 0) (Row.newEq _ _ _ _ _ rfl rfl) (by rw [flt_size]; exact cellsF) rfl (all_one (flt_one _ _)) ?_))
  have hk2 := up_call hb1 (blw_new1 w1 (.cells #[.int .i64 0, .int .i64 0] 25) (flt k i))
  refine wp_world (F := fun W => Row W w1.heap.size 25 (flt k i) ∧ Sls W W.heap.size A N Ss ∧ Below w.heap.size w W) ⟨row_new1 _ _ _ _, HA.out.up hk2, hk2⟩ ?_
  generalize w1.heap.size = g6
  clear hb1 hk2 HB HA
  rintro W1 ⟨r6, sA, hb⟩
  go_upto_region 3 with (first
    | (go_at_call 9; refine (HS.out _ sA).mono ?_; rintro e w2 ⟨rfl, hb2⟩)
    | (refine wpList_store_row rfl 25 _ _ rfl w2.heap.size (flt k i) rfl rfl 25 (flt 0 0) (Row.newEq _ _ _ _ _ rfl rfl) (by rw [flt_size]; exact cellsF) rfl (all_one (flt_one _ _)) ?_))
  have hk1 := blw_new1 w2 (.cells #[.int .i64 0, .int .i64 0] 25) (flt k i)
  have hk2 := up_call hb2 hk1
  refine wp_world (F := fun W => Row W w2.heap.size 25 (flt k i) ∧ Row W g6 25 (flt k i) ∧ g6 < w2.heap.size ∧ w.heap.size ≤ w2.heap.size ∧ Below w.heap.size w W) ⟨row_new1 _ _ _ _, r6.below hk2 r6.lt, Nat.lt_of_lt_of_le r6.lt hb2.size, (up_call hb hb2).size, up_call hb hk2⟩ ?_
  generalize w2.heap.size = g7
  clear hk1 hk2 hb2 w2 r6 hb sA HS
  rintro W2 ⟨r7, r6, hlt, hle, hb⟩
  have k7 : W2.cell? ⟨g7, 0, none⟩ = some (.int .i64 k) := (r7.cell 0).trans rfl
  go_upto_region 5 with (fail)
  go_upto_region 6 with (first
    | (go_at_call 12; refine (HP.out W2 (HML.out.below (by first | assumption | exact up_call hb hb4 | exact up_call hbb hb6 | exact up_call hbb hb5 | exact up_call (up_call hb hb4) hb5 | exact up_call (up_call hb hb4) hb6))).mono ?_; rintro e w4 ⟨rfl, hb4⟩; have q6 := r6.below hb4 r6.lt; have q7 := r7.below hb4 r7.lt; have z7 : w4.cell? ⟨g7, 0, none⟩ = some (.int .i64 k) := (q7.cell 0).trans rfl)
    | (refine wpList_load_rowG (by simp [Region.wanted, yielded, Act.put]) 25 _ rfl g6 rfl 25 (flt k i) (0, 0) _ (q6) Try.underlying25 rfl (by rw [flt_size]; exact cellsF) ?_)
    | (refine wpList_load_rowG (by simp [Region.wanted, yielded, Act.put]) 25 _ rfl g7 rfl 25 (flt k i) (0, 0) _ (q7) Try.underlying25 rfl (by rw [flt_size]; exact cellsF) ?_))
  go_wp2_with (first
    | (go_at_call 12; refine (HP.out w4 (HML.out.below (by first | assumption | exact up_call hb hb4 | exact up_call hbb hb6 | exact up_call hbb hb5 | exact up_call (up_call hb hb4) hb5 | exact up_call (up_call hb hb4) hb6))).mono ?_; rintro e w5 ⟨rfl, hb5⟩; have y6 := q6.below hb5 q6.lt; have y7 := q7.below hb5 q7.lt)
    | (refine wpList_load_rowG (by simp [Region.wanted, yielded, Act.put]) 25 _ rfl g6 rfl 25 (flt k i) (0, 0) _ (y6) Try.underlying25 rfl (by rw [flt_size]; exact cellsF) ?_)
    | (refine wpList_load_rowG (by simp [Region.wanted, yielded, Act.put]) 25 _ rfl g7 rfl 25 (flt k i) (0, 0) _ (y7) Try.underlying25 rfl (by rw [flt_size]; exact cellsF) ?_))
  go_ret
  exact ⟨rfl, up_call (up_call hb hb4) hb5⟩

set_option maxRecDepth 100000 in
set_option maxHeartbeats 16000000 in
theorem walk_bad2 (hp : PTrains) (h : PWorthBad) (Ss : List (List UInt8)) (N D : Nat) (hN : N = Ss.length) (hz : (smF Ss (-1)).1 = 0) (hD : 512 < D) (A B : Option Addr) (c d : Nat) (w : World) (hml : ML w) (hA : Sls w w.heap.size A N Ss) :
    Calls Try.prog 7 #[.slice A N c, .slice B D d] w fun e w' => e = .returned (.bool true) ∧ Below w.heap.size w w' := by
  have hal : woF Ss D = (3, -2) := by unfold woF; rw [if_pos hz, if_pos hD]
  have hb0 := h Ss N D hN (by rw [hal]; decide) A B c d w hA
  have hs := fun (w : World) hS => samplesfault_any Ss N hN (-1) A c w hS
  rw [hal] at hb0
  rw [(smF_ok hz).1] at hs
  simp only at hb0 hs
  have t1 : decide ((512 : Int) < (D : Int)) = true := decide_eq_true (by omega)
  have hne := neq_f 3 (-2)
  have heq := eql_f 3 (-2)
  clear hal
  have HB := Lib.hid hb0
  have HS := Lib.hid hs
  have HP := Lib.hid hp
  have HML := Lib.hid hml
  have HA := Lib.hid hA
  clear hml hz hb0 hs hp h hA hN hD
  go_enter Try.func7, Try.ntmps7
  go_upto_region 2 with (first
    | (go_at_call 19; refine HB.out.mono ?_; rintro e w1 ⟨rfl, hb1⟩)
    | (refine wpList_store_row rfl 25 _ _ rfl w1.heap.size (flt 3 (-2)) rfl rfl 25 (flt 0 0) (Row.newEq _ _ _ _ _ rfl rfl) (by rw [flt_size]; exact cellsF) rfl (all_one (flt_one _ _)) ?_))
  have hk2 := up_call hb1 (blw_new1 w1 (.cells #[.int .i64 0, .int .i64 0] 25) (flt 3 (-2)))
  refine wp_world (F := fun W => Row W w1.heap.size 25 (flt 3 (-2)) ∧ Sls W W.heap.size A N Ss ∧ Below w.heap.size w W) ⟨row_new1 _ _ _ _, HA.out.up hk2, hk2⟩ ?_
  generalize w1.heap.size = g6
  clear hb1 hk2 HB HA
  rintro W1 ⟨r6, sA, hb⟩
  go_upto_region 3 with (first
    | (go_at_call 9; refine (HS.out _ sA).mono ?_; rintro e w2 ⟨rfl, hb2⟩)
    | (refine wpList_store_row rfl 25 _ _ rfl w2.heap.size (flt 0 0) rfl rfl 25 (flt 0 0) (Row.newEq _ _ _ _ _ rfl rfl) (by rw [flt_size]; exact cellsF) rfl (all_one (flt_one _ _)) ?_))
  have hk1 := blw_new1 w2 (.cells #[.int .i64 0, .int .i64 0] 25) (flt 0 0)
  have hk2 := up_call hb2 hk1
  refine wp_world (F := fun W => Row W w2.heap.size 25 (flt 0 0) ∧ Row W g6 25 (flt 3 (-2)) ∧ g6 < w2.heap.size ∧ w.heap.size ≤ w2.heap.size ∧ Below w.heap.size w W) ⟨row_new1 _ _ _ _, r6.below hk2 r6.lt, Nat.lt_of_lt_of_le r6.lt hb2.size, (up_call hb hb2).size, up_call hb hk2⟩ ?_
  generalize w2.heap.size = g7
  clear hk1 hk2 hb2 w2 r6 hb sA HS
  rintro W2 ⟨r7, r6, hlt, hle, hb⟩
  have k7 : W2.cell? ⟨g7, 0, none⟩ = some (.int .i64 0) := (r7.cell 0).trans rfl
  go_upto_region 5 with (first
    | (go_at_call 11; refine (at_any 3 (-2) _).mono ?_; rintro e w3 ⟨rfl, hb3⟩; have x7 := r7.below hb3 r7.lt)
    | (refine wpList_store_row rfl 25 _ _ rfl g7 (flt 3 (-2)) rfl rfl 25 (flt 0 0) x7 (by rw [flt_size]; exact cellsF) rfl (all_one (flt_one _ _)) ?_))
  refine wp_world (F := fun W => Row W g7 25 (flt 3 (-2)) ∧ Row W g6 25 (flt 3 (-2)) ∧ Below w.heap.size w W) ⟨Row.row x7 _, (r6.below hb3 r6.lt).rowFar (by omega) _, blw_row (up_call hb hb3) hle _⟩ ?_
  clear k7 x7 hb3 hb r6 r7
  rintro W3 ⟨r7, r6, hb⟩
  go_upto_region 6 with (first
    | (go_at_call 12; refine (HP.out W3 (HML.out.below (by first | assumption | exact up_call hb hb4 | exact up_call hbb hb6 | exact up_call hbb hb5 | exact up_call (up_call hb hb4) hb5 | exact up_call (up_call hb hb4) hb6))).mono ?_; rintro e w4 ⟨rfl, hb4⟩; have q6 := r6.below hb4 r6.lt; have q7 := r7.below hb4 r7.lt; have z7 : w4.cell? ⟨g7, 0, none⟩ = some (.int .i64 3) := (q7.cell 0).trans rfl)
    | (refine wpList_load_rowG (by simp [Region.wanted, yielded, Act.put]) 25 _ rfl g6 rfl 25 (flt 3 (-2)) (0, 0) _ (q6) Try.underlying25 rfl (by rw [flt_size]; exact cellsF) ?_)
    | (refine wpList_load_rowG (by simp [Region.wanted, yielded, Act.put]) 25 _ rfl g7 rfl 25 (flt 3 (-2)) (0, 0) _ (q7) Try.underlying25 rfl (by rw [flt_size]; exact cellsF) ?_))
  go_wp2_with (first
    | (go_at_call 12; refine (HP.out w4 (HML.out.below (by first | assumption | exact up_call hb hb4 | exact up_call hbb hb6 | exact up_call hbb hb5 | exact up_call (up_call hb hb4) hb5 | exact up_call (up_call hb hb4) hb6))).mono ?_; rintro e w5 ⟨rfl, hb5⟩; have y6 := q6.below hb5 q6.lt; have y7 := q7.below hb5 q7.lt)
    | (refine wpList_load_rowG (by simp [Region.wanted, yielded, Act.put]) 25 _ rfl g6 rfl 25 (flt 3 (-2)) (0, 0) _ (y6) Try.underlying25 rfl (by rw [flt_size]; exact cellsF) ?_)
    | (refine wpList_load_rowG (by simp [Region.wanted, yielded, Act.put]) 25 _ rfl g7 rfl 25 (flt 3 (-2)) (0, 0) _ (y7) Try.underlying25 rfl (by rw [flt_size]; exact cellsF) ?_))
  go_ret
  exact ⟨rfl, up_call (up_call hb hb4) hb5⟩

set_option maxRecDepth 100000 in
set_option maxHeartbeats 16000000 in
theorem walk_ok (hp : PTrains) (h : PWorth) (hpa : PParse) (hco : PCost) (Ss : List (List UInt8)) (E : List UInt8) (N D : Nat) (hN : N = Ss.length) (hD : D = E.length) (hz : ¬ (woF Ss D).1 ≠ 0) (A B : Option Addr) (c d : Nat) (hc : N ≤ c) (hd : D ≤ d) (w : World) (hml : ML w) (hA : Sls w w.heap.size A N Ss) (hB : Sl w w.heap.size B D (bl E)) :
    Calls Try.prog 7 #[.slice A N c, .slice B D d] w fun e w' => e = .returned (.bool true) ∧ Below w.heap.size w w' := by
  obtain ⟨hal, hD5, hN64, hle⟩ := woF_ok hz
  have hN6 : N ≤ 64 := by omega
  have hsm : smF Ss (-1) = (0, 0) := by
    unfold woF at hal
    split at hal
    · rename_i h2
      exact (smF_ok h2).1
    · exact hal
  have hb0 := h Ss E N D hN hD hal A B c d hc hd w hA hB
  have hs := fun (w : World) hS => samplesfault_any Ss N hN (-1) A c w hS
  rw [hsm] at hs
  simp only at hs
  have t1 : decide ((512 : Int) < (D : Int)) = false := decide_eq_false (by omega)
  have hne := neq_f 0 0
  have heq := eql_f 0 0
  have HB0 := Lib.hid hb0
  have HS := Lib.hid hs
  have HP := Lib.hid hp
  have HML := Lib.hid hml
  have HA := Lib.hid hA
  have HSB := Lib.hid hB
  have HPA := Lib.hid hpa
  have HCO := Lib.hid hco
  have HL := Lib.hid (And.intro hN (And.intro hD hle))
  clear hml hz hb0 hs hp h hA hB hN hD hle hsm hal hpa hco
  go_enter Try.func7, Try.ntmps7
  go_upto_region 2 with (first
    | (go_at_call 19; refine HB0.out.mono ?_; rintro e w1 ⟨⟨x, y, hxy, rfl⟩, hb1⟩)
    | (refine wpList_store_row rfl 25 _ _ rfl w1.heap.size (flt 0 0) rfl rfl 25 (flt 0 0) (Row.newEq _ _ _ _ _ rfl rfl) (by rw [flt_size]; exact cellsF) rfl (all_one (flt_one _ _)) ?_))
  have hz0 := sum_pos hxy N (by rw [HL.out.1]; exact Nat.le_refl _)
  obtain ⟨Z, hZ⟩ : ∃ z, z = sumD x y N := ⟨_, rfl⟩
  rw [← hZ] at hz0 ⊢
  have HXY := Lib.hid hxy
  have HZ := Lib.hid hZ
  have hk2 := up_call hb1 (blw_new1 w1 (.cells #[.int .i64 0, .int .i64 0] 25) (flt 0 0))
  refine wp_world (F := fun W => Row W w1.heap.size 25 (flt 0 0) ∧ Below w.heap.size w W) ⟨row_new1 _ _ _ _, hk2⟩ ?_
  generalize w1.heap.size = g6
  clear hb1 hk2 HB0 hxy hZ
  rintro W1 ⟨r6, hb⟩
  go_upto_region 3 with (first
    | (go_at_call 9; refine (HS.out _ (HA.out.up hb)).mono ?_; rintro e w2 ⟨rfl, hb2⟩)
    | (refine wpList_store_row rfl 25 _ _ rfl w2.heap.size (flt 0 0) rfl rfl 25 (flt 0 0) (Row.newEq _ _ _ _ _ rfl rfl) (by rw [flt_size]; exact cellsF) rfl (all_one (flt_one _ _)) ?_))
  have hk1 := blw_new1 w2 (.cells #[.int .i64 0, .int .i64 0] 25) (flt 0 0)
  have hk2 := up_call hb2 hk1
  refine wp_world (F := fun W => Row W w2.heap.size 25 (flt 0 0) ∧ Row W g6 25 (flt 0 0) ∧ Below w.heap.size w W) ⟨row_new1 _ _ _ _, r6.below hk2 r6.lt, up_call hb hk2⟩ ?_
  generalize w2.heap.size = g7
  clear hk1 hk2 hb2 w2 r6 hb HS
  rintro W2 ⟨r7, r6, hb⟩
  have k7 : W2.cell? ⟨g7, 0, none⟩ = some (.int .i64 0) := (r7.cell 0).trans rfl
  go_upto_region 5 with (fail)
  go_upto_region 9 with (first
    | (go_at_call 12; refine (HP.out W2 (HML.out.below (by first | assumption | exact up_call hb hb4 | exact up_call hbb hb6 | exact up_call hbb hb5 | exact up_call (up_call hb hb4) hb5 | exact up_call (up_call hb hb4) hb6))).mono ?_; rintro e w4 ⟨rfl, hb4⟩; have q6 := r6.below hb4 r6.lt; have q7 := r7.below hb4 r7.lt; have z7 : w4.cell? ⟨g7, 0, none⟩ = some (.int .i64 0) := (q7.cell 0).trans rfl)
    | (refine wpList_load_rowG (by simp [Region.wanted, yielded, Act.put]) 25 _ rfl g6 rfl 25 (flt 0 0) (0, 0) _ (q6) Try.underlying25 rfl (by rw [flt_size]; exact cellsF) ?_)
    | (refine wpList_load_rowG (by simp [Region.wanted, yielded, Act.put]) 25 _ rfl g7 rfl 25 (flt 0 0) (0, 0) _ (q7) Try.underlying25 rfl (by rw [flt_size]; exact cellsF) ?_))
  have hbb := up_call hb hb4
  clear k7 z7 q6 q7 r6 r7 hb hb4
  go_loopw [8, 9] (fun v i wr => ∃ (j : Nat) (s : Int), j ≤ N ∧ i = .int .i64 j ∧ v = .int .i64 s ∧ (-42000 * (j : Int) ≤ s ∧ s ≤ 42000 * (j : Int)) ∧ Hid (s = sumD x y j) ∧ Below w.heap.size w wr) (fun _ i _ => N - (intOf i).toNat)
  case atStart => exact ⟨0, 0, Nat.zero_le _, rfl, rfl, by omega, Lib.hid rfl, hbb⟩
  case round =>
    clear hbb
    obtain ⟨j, s, hj, rfl, rfl, ⟨hs1, hs2⟩, HQ, hbr⟩ := hrel
    by_cases hlt : j < N
    · have t2 : decide ((j : Int) < (N : Int)) = true := decide_eq_true (by omega)
      obtain ⟨ad, X, Ai, ci, rfl, hadb, hg, hci, _, k1, sX⟩ := HA.out.at_ hlt
      have hX8 := HL.out.2.2 X (List.mem_of_getElem? hg)
      obtain ⟨hcx, hcy⟩ := HXY.out j X hg
      obtain ⟨n, hn⟩ : ∃ n, n = X.length := ⟨_, rfl⟩
      rw [← hn] at k1 sX hci hX8
      have kk : ∀ W, Below w.heap.size w W → W.cell? (ad.add j) = some (.slice Ai n ci) := fun W hW => (hW.cell (p := ad.add j) (by rw [add_block]; exact hadb)).trans k1
      have HKK := Lib.hid kk
      have HSX := Lib.hid sX
      have hp1 := fun (W : World) (hW : Below w.heap.size w W) => parse_is HPA.out X [] n 0 hn rfl hX8 (by omega) Ai none ci 0 W (HSX.out.up hW) (by rw [bl_nil]; exact Sl.nil _ _ _)
      have hp2 := fun (W : World) (hW : Below w.heap.size w W) => parse_is HPA.out X E n D hn HL.out.2.1 hX8 hD5 Ai B ci d W (HSX.out.up hW) (HSB.out.up hW)
      have HP1 := Lib.hid hp1
      have HP2 := Lib.hid hp2
      have HCX := Lib.hid (And.intro hcx hcy)
      have i1 : (0 : Int) ≤ (j : Int) := by omega
      have i2 : (j : Int) < (N : Int) := by omega
      have l1 := HKK.out _ hbr
      clear hp1 hp2 kk k1 sX hg hn hcx hcy hadb
      go_upto_region 12 with (first
        | (go_at_call 20; refine (HP1.out _ hbr).mono ?_; rintro e w5 ⟨⟨G1, c1, n1, x1, p1, hg1, hn1, hm1, hx1, hu1, hc1, rfl, hS1⟩, hb5⟩; have HG1 := Lib.hid (And.intro hg1 (And.intro hn1 (And.intro hx1 hc1))); clear hg1 hn1 hx1 hc1)
        | (refine wpList_store_row rfl 25 _ _ rfl w5.heap.size (flt 0 0) rfl rfl 25 (flt 0 0) (Row.newEq _ _ _ _ _ rfl rfl) (by rw [flt_size]; exact cellsF) rfl (all_one (flt_one _ _)) ?_))
      have hk1 := blw_new1 w5 (.cells #[.int .i64 0, .int .i64 0] 25) (flt 0 0)
      have hk2 := up_call hbr (up_call hb5 hk1)
      refine wp_world (F := fun W => Tks W W.heap.size G1 n1 (tz p1) ∧ Below w.heap.size w W) ⟨hS1.up hk1, hk2⟩ ?_
      generalize w5.heap.size = g11
      clear hk1 hk2 hb5 hS1 hbr l1 HP1
      rintro W5 ⟨hS1, hb⟩
      have l2 := HKK.out _ hb
      go_upto_region 13 with (first
        | (go_at_call 20; refine (HP2.out _ hb).mono ?_; rintro e w6 ⟨⟨G2, c2, n2, x2, p2, hg2, hn2, hm2, hx2, hu2, hc2, rfl, hS2⟩, hb6⟩; have HG2 := Lib.hid (And.intro hg2 (And.intro hn2 (And.intro hx2 hc2))); clear hg2 hn2 hx2 hc2)
        | (refine wpList_store_row rfl 25 _ _ rfl w6.heap.size (flt 0 0) rfl rfl 25 (flt 0 0) (Row.newEq _ _ _ _ _ rfl rfl) (by rw [flt_size]; exact cellsF) rfl (all_one (flt_one _ _)) ?_))
      have hk1 := blw_new1 w6 (.cells #[.int .i64 0, .int .i64 0] 25) (flt 0 0)
      have hk3 := up_call hb6 hk1
      have hk2 := up_call hb hk3
      refine wp_world (F := fun W => Tks W W.heap.size G1 n1 (tz p1) ∧ Tks W W.heap.size G2 n2 (tz p2) ∧ Below w.heap.size w W) ⟨hS1.up hk3, hS2.up hk1, hk2⟩ ?_
      generalize w6.heap.size = g13
      clear hk1 hk2 hk3 hb6 hS2 hS1 hb l2 HP2 HKK
      rintro W6 ⟨hS1, hS2, hb⟩
      have HC1 : Hid (∀ W : World, Tks W W.heap.size G1 n1 (tz p1) → Calls Try.prog 21 #[.slice G1 n1 c1] W fun e w' => e = .returned (.tuple #[.int .i64 (x1 : Nat), .agg (flt 0 0)]) ∧ Below W.heap.size W w') := Lib.hid fun W hS => by
        have h := HCO.out p1 HG1.out.1 n1 HG1.out.2.1 hm1 G1 c1 W hS
        rw [← HG1.out.2.2.1] at h
        exact h
      have HC2 : Hid (∀ W : World, Tks W W.heap.size G2 n2 (tz p2) → Calls Try.prog 21 #[.slice G2 n2 c2] W fun e w' => e = .returned (.tuple #[.int .i64 (x2 : Nat), .agg (flt 0 0)]) ∧ Below W.heap.size W w') := Lib.hid fun W hS => by
        have h := HCO.out p2 HG2.out.1 n2 HG2.out.2.1 hm2 G2 c2 W hS
        rw [← HG2.out.2.2.1] at h
        exact h
      have e1 := cost_one HCX.out.1 HG1.out.2.2.2
      have e2 := cost_one HCX.out.2 HG2.out.2.2.2
      have HN : Hid (s + (x1 : Int) - (x2 : Int) = sumD x y (j + 1)) := Lib.hid (by rw [sumD, ← HQ.out, e1, e2])
      clear e1 e2 HCX HG1 HG2 HQ
      go_upto_region 14 with (first
        | (go_at_call 21; refine (HC1.out _ hS1).mono ?_; rintro e w7 ⟨rfl, hb7⟩)
        | (refine wpList_store_row rfl 25 _ _ rfl w7.heap.size (flt 0 0) rfl rfl 25 (flt 0 0) (Row.newEq _ _ _ _ _ rfl rfl) (by rw [flt_size]; exact cellsF) rfl (all_one (flt_one _ _)) ?_))
      have hk1 := blw_new1 w7 (.cells #[.int .i64 0, .int .i64 0] 25) (flt 0 0)
      have hk3 := up_call hb7 hk1
      have hk2 := up_call hb hk3
      refine wp_world (F := fun W => Row W w7.heap.size 25 (flt 0 0) ∧ Tks W W.heap.size G2 n2 (tz p2) ∧ Below w.heap.size w W) ⟨row_new1 _ _ _ _, hS2.up hk3, hk2⟩ ?_
      generalize w7.heap.size = g15
      clear hk1 hk2 hk3 hb7 hS2 hS1 hb HC1
      rintro W7 ⟨r15, hS2, hb⟩
      go_upto_region 15 with (first
        | (go_at_call 21; refine (HC2.out _ hS2).mono ?_; rintro e w8 ⟨rfl, hb8⟩)
        | (refine wpList_store_row rfl 25 _ _ rfl w8.heap.size (flt 0 0) rfl rfl 25 (flt 0 0) (Row.newEq _ _ _ _ _ rfl rfl) (by rw [flt_size]; exact cellsF) rfl (all_one (flt_one _ _)) ?_))
      have hk1 := blw_new1 w8 (.cells #[.int .i64 0, .int .i64 0] 25) (flt 0 0)
      have hk3 := up_call hb8 hk1
      have hk2 := up_call hb hk3
      refine wp_world (F := fun W => Row W w8.heap.size 25 (flt 0 0) ∧ Row W g15 25 (flt 0 0) ∧ Below w.heap.size w W) ⟨row_new1 _ _ _ _, r15.below hk3 r15.lt, hk2⟩ ?_
      generalize w8.heap.size = g17
      clear hk1 hk2 hk3 hb8 hS2 hb HC2 r15
      rintro W8 ⟨r17, r15, hb⟩
      have k15 : W8.cell? ⟨g15, 0, none⟩ = some (.int .i64 0) := (r15.cell 0).trans rfl
      have k17 : W8.cell? ⟨g17, 0, none⟩ = some (.int .i64 0) := (r17.cell 0).trans rfl
      clear r15 r17
      go_wp2
      go_roundw
      case rel => exact ⟨j + 1, s + (x1 : Int) - (x2 : Int), by omega, by go_num, by go_num, by omega, HN, hb⟩
      case measure => simp [intOf]; omega
    · obtain rfl : N = j := by omega
      have t2 : decide ((N : Int) < (N : Int)) = false := decide_eq_false (by omega)
      have hsz : s = Z := by rw [HQ.out, HZ.out]
      subst hsz
      have t3 : decide ((0 : Int) ≤ s) = true := decide_eq_true hz0
      have t4 : (s == s) = true := beq_self_eq_true _
      clear HQ HZ
      go_wp2
      go_ret
      exact ⟨rfl, hbr⟩
end Go.Proofs.Ytcmbpniikcghfaa.lawDiWo
