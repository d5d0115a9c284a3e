/-
  The contracts of the package's cost and Worth. (Written by cards/gen_YDw.py.)
-/
import Derived.Test.YtcmbpniikcghfaaYDt
import Derived.Test.YtcmbpniikcghfaaYPi
namespace Go.Proofs.Ytcmbpniikcghfaa
open Go.RowKit

attribute [local go_sem ↓] wp_store_act wp_load_flat run_load_flat wp_store_flat
attribute [local go_sem] flat_lit blkOf_ptr cells_agg sizedF sizeTF aggF flat_flt isRow_set_eq rowAt_set_eq
set_option maxRecDepth 100000 in
set_option maxHeartbeats 8000000 in
theorem dcost_any (hpa : PParse) (hco : PCost) (L E : List UInt8) (N D : Nat) (hN : N = L.length) (hD : D = E.length) (h1 : N ≤ 1024) (h2 : D ≤ 512) (A B : Option Addr) (c d : Nat) (w : World) (hA : Sl w w.heap.size A N (bl L)) (hB : Sl w w.heap.size B D (bl E)) :
    Calls Try.prog 28 #[.slice A N c, .slice B D d] w fun e w' => (∃ k : Nat, costIs E L k ∧ k ≤ 41984 ∧ e = .returned (.int .i64 k)) ∧ Below w.heap.size w w' := by
  have HP := Lib.hid (parse_is hpa L E N D hN hD h1 h2 A B c d w hA hB)
  have HCO := Lib.hid hco
  clear hpa hco hN hD hA hB h1 h2
  go_enter Try.func28, Try.ntmps28
  go_upto_region 2 with (first
    | (go_at_call 20; refine (HP.out).mono ?_; rintro e w5 ⟨⟨G1, c1, n1, x1, p1, hg1, hn1, hm1, hx1, hu1, hc1, rfl, hS1⟩, hb5⟩; have HG1 := Lib.hid (And.intro hg1 (And.intro hn1 (And.intro hx1 hc1))); clear hg1 hn1 hx1 hc1)
    | (refine wpList_store_row rfl 25 _ _ rfl w5.heap.size (flt 0 0) rfl rfl 25 (flt 0 0) (Row.newEq _ _ _ _ _ rfl rfl) (by rw [flt_size]; exact cellsF) rfl (all_one (flt_one _ _)) ?_))
  have hk1 := blw_new1 w5 (.cells #[.int .i64 0, .int .i64 0] 25) (flt 0 0)
  refine wp_world (F := fun W => Tks W W.heap.size G1 n1 (tz p1) ∧ Below w.heap.size w W) ⟨hS1.up hk1, up_call hb5 hk1⟩ ?_
  generalize w5.heap.size = g6
  clear hk1 hb5 hS1
  rintro W1 ⟨hS1, hb⟩
  have HC1 : Hid (Calls Try.prog 21 #[.slice G1 n1 c1] W1 fun e w' => e = .returned (.tuple #[.int .i64 (x1 : Nat), .agg (flt 0 0)]) ∧ Below W1.heap.size W1 w') := Lib.hid (by
    have h := HCO.out p1 HG1.out.1 n1 HG1.out.2.1 hm1 G1 c1 W1 hS1
    rw [← HG1.out.2.2.1] at h
    exact h)
  clear hS1 HCO
  go_upto_region 3 with (first
    | (go_at_call 21; refine (HC1.out).mono ?_; rintro e w6 ⟨rfl, hb6⟩)
    | (refine wpList_store_row rfl 25 _ _ rfl w6.heap.size (flt 0 0) rfl rfl 25 (flt 0 0) (Row.newEq _ _ _ _ _ rfl rfl) (by rw [flt_size]; exact cellsF) rfl (all_one (flt_one _ _)) ?_))
  have hk1 := blw_new1 w6 (.cells #[.int .i64 0, .int .i64 0] 25) (flt 0 0)
  refine wp_world (F := fun W => Below w.heap.size w W) (up_call hb (up_call hb6 hk1)) ?_
  clear hk1 hb6 hb
  rintro W2 hb
  go_wp2
  go_ret
  exact ⟨⟨x1, HG1.out.2.2.2, hu1, rfl⟩, hb⟩
set_option maxRecDepth 100000 in
set_option maxHeartbeats 8000000 in
theorem worth_bad1 (Ss : List (List UInt8)) (N D : Nat) (hN : N = Ss.length) (hz : (smF Ss (-1)).1 ≠ 0) (A B : Option Addr) (c d : Nat) (w : World) (hS : Sls w w.heap.size A N Ss) :
    Calls Try.prog 19 #[.slice A N c, .slice B D d] w fun e w' => e = .returned (.tuple #[.int .i64 0, .agg (flt (smF Ss (-1)).1 (smF Ss (-1)).2)]) ∧ Below w.heap.size w w' := by
  have hf := fun (w : World) hS => checksamples_any Ss N hN (-1) A c w hS
  obtain ⟨k, i, hk⟩ : ∃ k i, smF Ss (-1) = (k, i) := ⟨_, _, rfl⟩
  rw [hk] at hf hz ⊢
  simp only at hf hz ⊢
  have hnq := neq_bad k i hz
  have HF := Lib.hid hf
  have HS := Lib.hid hS
  clear hf hS hz hk hN
  go_enter Try.func19, Try.ntmps19
  go_upto_region 1 with (fail)
  have ha : Below w.heap.size w (w.alloc (.cells #[.int .i64 0, .int .i64 0] 25)) := (Below.refl _ _).alloc (Nat.le_refl _) _
  refine wp_world (F := fun W => Row W w.heap.size 25 (flt 0 0) ∧ Sls W W.heap.size A N Ss ∧ Below w.heap.size w W) ⟨Row.newEq _ _ _ _ _ rfl rfl, HS.out.up ha, ha⟩ ?_
  clear ha
  rintro W0 ⟨r0, hS, hb⟩
  go_upto_region 2 with (first
    | (go_at_call 22; refine (HF.out _ hS).mono ?_; rintro e w2 ⟨rfl, hb2⟩)
    | (refine wpList_store_row rfl 25 _ _ rfl w2.heap.size (flt k i) rfl rfl 25 (flt 0 0) (Row.newEq _ _ _ _ _ rfl rfl) (by rw [flt_size]; exact cellsF) rfl (all_one (flt_one _ _)) ?_))
  have hk2 := up_call hb2 (blw_new1 w2 (.cells #[.int .i64 0, .int .i64 0] 25) (flt k i))
  refine wp_world (F := fun W => Row W w2.heap.size 25 (flt k i) ∧ Row W w.heap.size 25 (flt 0 0) ∧ w.heap.size < w2.heap.size ∧ Below w.heap.size w W)
    ⟨row_new1 _ _ _ _, r0.below hk2 r0.lt, Nat.lt_of_lt_of_le r0.lt hb2.size, up_call hb hk2⟩ ?_
  generalize w2.heap.size = g6
  clear hb2 r0 hS hb hk2 w2 W0
  rintro W2 ⟨r6, r0, hlt, hb⟩
  go_upto_region 3 with (first
    | (refine wpList_load_row rfl 25 _ rfl g6 rfl 25 (flt k i) (0, 0) _ r6 Try.underlying25 rfl (by rw [flt_size]; exact cellsF) ?_))
  have i6 := r6.drew.is (flt_size _ _)
  have a6 := r6.drew.at
  have q0 := r0.drew
  have i0 := r0.drew.is (flt_size _ _)
  have n3 : ¬ w.heap.size = g6 := by omega
  have n4 : ¬ g6 = w.heap.size := by omega
  go_region_law (fail)
  all_goals
    go_wp2
    refine bodyPost_ret (results_tmp_row Try.results19 _ _ _ w.heap.size 25 (flt k i) _ rfl rfl (Row.row q0 _) Try.underlying25 rfl (by rw [flt_size]; exact cellsF)) rfl ⟨rfl, ?_⟩
    exact blw_row hb.drew (Nat.le_refl _) _
set_option maxRecDepth 100000 in
set_option maxHeartbeats 8000000 in
theorem worth_bad2 (Ss : List (List UInt8)) (N D : Nat) (hN : N = Ss.length) (hz : (smF Ss (-1)).1 = 0) (hD : 512 < D) (A B : Option Addr) (c d : Nat) (w : World) (hS : Sls w w.heap.size A N Ss) :
    Calls Try.prog 19 #[.slice A N c, .slice B D d] w fun e w' => e = .returned (.tuple #[.int .i64 0, .agg (flt 3 (-2))]) ∧ Below w.heap.size w w' := by
  have t1 : decide ((512 : Int) < (D : Int)) = true := decide_eq_true (by omega)
  have t2 : decide (512 < D) = true := decide_eq_true (by omega)
  have hf := fun (w : World) hS => checksamples_any Ss N hN (-1) A c w hS
  rw [(smF_ok hz).1] at hf
  simp only at hf
  have hnq : ∀ w : World, (binOp .neq 25 (.agg (flt 0 0)) (.agg #[.int .i64 0, .int .i64 0])).run Try.prog w = .ok (.bool false) w := fun w => neq_flt 0 0 0 0 w
  have HF := Lib.hid hf
  have HS := Lib.hid hS
  clear hf hS hz hN hD
  go_enter Try.func19, Try.ntmps19
  go_upto_region 1 with (fail)
  have ha : Below w.heap.size w (w.alloc (.cells #[.int .i64 0, .int .i64 0] 25)) := (Below.refl _ _).alloc (Nat.le_refl _) _
  refine wp_world (F := fun W => Row W w.heap.size 25 (flt 0 0) ∧ Sls W W.heap.size A N Ss ∧ Below w.heap.size w W) ⟨Row.newEq _ _ _ _ _ rfl rfl, HS.out.up ha, ha⟩ ?_
  clear ha
  rintro W0 ⟨r0, hS, hb⟩
  go_upto_region 2 with (first
    | (go_at_call 22; refine (HF.out _ hS).mono ?_; rintro e w2 ⟨rfl, hb2⟩)
    | (refine wpList_store_row rfl 25 _ _ rfl w2.heap.size (flt 0 0) rfl rfl 25 (flt 0 0) (Row.newEq _ _ _ _ _ rfl rfl) (by rw [flt_size]; exact cellsF) rfl (all_one (flt_one _ _)) ?_))
  have hk2 := up_call hb2 (blw_new1 w2 (.cells #[.int .i64 0, .int .i64 0] 25) (flt 0 0))
  refine wp_world (F := fun W => Row W w2.heap.size 25 (flt 0 0) ∧ Row W w.heap.size 25 (flt 0 0) ∧ w.heap.size < w2.heap.size ∧ Below w.heap.size w W)
    ⟨row_new1 _ _ _ _, r0.below hk2 r0.lt, Nat.lt_of_lt_of_le r0.lt hb2.size, up_call hb hk2⟩ ?_
  generalize w2.heap.size = g6
  clear hb2 r0 hS hb hk2 w2 W0
  rintro W2 ⟨r6, r0, hlt, hb⟩
  go_wp2_with (first
    | (refine wpList_load_row rfl 25 _ rfl g6 rfl 25 (flt 0 0) (0, 0) _ r6 Try.underlying25 rfl (by rw [flt_size]; exact cellsF) ?_)
    | (refine wpList_store_row rfl 25 _ _ rfl w.heap.size (flt 3 (-2)) rfl rfl 25 (flt 0 0) r0 (by rw [flt_size]; exact cellsF) rfl (all_one (flt_one _ _)) ?_))
  refine bodyPost_ret (results_tmp_row Try.results19 _ _ _ w.heap.size 25 (flt 3 (-2)) _ rfl rfl (Row.row r0 _) Try.underlying25 rfl (by rw [flt_size]; exact cellsF)) rfl ⟨rfl, ?_⟩
  exact blw_row hb (Nat.le_refl _) _
theorem worth_bad : PWorthBad := by
  intro Ss N D hN hz A B c d w hS
  unfold woF at hz ⊢
  by_cases h : (smF Ss (-1)).1 = 0
  · rw [if_pos h] at hz ⊢
    by_cases h2 : 512 < D
    · rw [if_pos h2]
      exact worth_bad2 Ss N D hN h h2 A B c d w hS
    · rw [if_neg h2] at hz
      exact absurd rfl hz
  · rw [if_neg h]
    exact worth_bad1 Ss N D hN h A B c d w hS
/-- x and y are the costs of the first j samples -/
def costsTo (Ls : List (List UInt8)) (E : List UInt8) (x y : Nat → Nat) (j : Nat) : Prop := ∀ i L, i < j → Ls[i]? = some L → costIs [] L (x i) ∧ costIs E L (y i)
/-- a function with one value more -/
def setAt (x : Nat → Nat) (j k : Nat) : Nat → Nat := fun i => if i = j then k else x i
theorem sum_set (x y : Nat → Nat) (j a b : Nat) : ∀ i, i ≤ j → sumD (setAt x j a) (setAt y j b) i = sumD x y i
  | 0, _ => rfl
  | i + 1, h => by
    rw [sumD, sumD, sum_set x y j a b i (by omega)]
    unfold setAt
    rw [if_neg (by omega), if_neg (by omega)]
theorem sum_step (x y : Nat → Nat) (j a b : Nat) : sumD (setAt x j a) (setAt y j b) (j + 1) = sumD x y j + a - b := by
  rw [sumD, sum_set x y j a b j (Nat.le_refl _)]
  unfold setAt
  rw [if_pos rfl, if_pos rfl]
theorem costs_step {Ls : List (List UInt8)} {E L : List UInt8} {x y : Nat → Nat} {j a b : Nat} (h : costsTo Ls E x y j) (hg : Ls[j]? = some L) (ha : costIs [] L a) (hb : costIs E L b) : costsTo Ls E (setAt x j a) (setAt y j b) (j + 1) := by
  intro i M hi hM
  unfold setAt
  by_cases e : i = j
  · subst e
    rw [if_pos rfl, if_pos rfl]
    rw [hg] at hM
    injection hM with hM
    subst hM
    exact ⟨ha, hb⟩
  · rw [if_neg e, if_neg e]
    exact h i M (by omega) hM
theorem costs_end {Ls : List (List UInt8)} {E : List UInt8} {x y : Nat → Nat} (h : costsTo Ls E x y Ls.length) : costsAre Ls E x y := fun i L hg => h i L (List.getElem?_eq_some_iff.1 hg).1 hg
/-- what Worth leaves behind -/
def WoPost (Ss : List (List UInt8)) (E : List UInt8) (N : Nat) (w : World) (e : Ending) (w' : World) : Prop := (∃ x y, costsAre Ss E x y ∧ e = .returned (.tuple #[.int .i64 (sumD x y N), .agg (flt 0 0)])) ∧ Below w.heap.size w w'
theorem WoPost.mk {Ss : List (List UInt8)} {E : List UInt8} {N : Nat} {w w' : World} {e : Ending} (x y : Nat → Nat) (h1 : costsAre Ss E x y) (h2 : e = .returned (.tuple #[.int .i64 (sumD x y N), .agg (flt 0 0)])) (h3 : Below w.heap.size w w') : WoPost Ss E N w e w' := ⟨⟨x, y, h1, h2⟩, h3⟩
set_option maxRecDepth 100000 in
set_option maxHeartbeats 8000000 in
theorem worth_okP (hpa : PParse) (hco : PCost) (Ss : List (List UInt8)) (E : List UInt8) (N D : Nat) (hN : N = Ss.length) (hDl : D = E.length) (hal : woF Ss D = (0, 0)) (A B : Option Addr) (c d : Nat) (w : World) (hS : Sls w w.heap.size A N Ss) (hB : Sl w w.heap.size B D (bl E)) :
    Calls Try.prog 19 #[.slice A N c, .slice B D d] w fun e w' => WoPost Ss E N w e w' := by
  obtain ⟨_, hD5, hN64, h8⟩ := woF_ok (Ls := Ss) (D := D) (by rw [hal]; exact fun h => h rfl)
  have hN6 : N ≤ 64 := by omega
  have hsm : smF Ss (-1) = (0, 0) := by
    unfold woF at hal
    split at hal
    · rename_i h2
      exact (smF_ok h2).1
    · exact hal
  have t1 : decide ((512 : Int) < (D : Int)) = false := decide_eq_false (by omega)
  have t2 : decide (512 < D) = false := decide_eq_false (by omega)
  have hf := fun (w : World) hS => checksamples_any Ss N hN (-1) A c w hS
  rw [hsm] at hf
  simp only at hf
  have hnq : ∀ w : World, (binOp .neq 25 (.agg (flt 0 0)) (.agg #[.int .i64 0, .int .i64 0])).run Try.prog w = .ok (.bool false) w := fun w => neq_flt 0 0 0 0 w
  have HF := Lib.hid hf
  have HS := Lib.hid hS
  have HSB := Lib.hid hB
  have HL := Lib.hid (And.intro hN (And.intro hDl h8))
  have HDC := Lib.hid (fun L E N D hN hD h1 h2 A B c d w hA hB => dcost_any hpa hco L E N D hN hD h1 h2 A B c d w hA hB)
  clear hf hS hal hN hsm h8 hB hDl hpa hco hN64
  go_enter Try.func19, Try.ntmps19
  go_upto_region 1 with (fail)
  have ha : Below w.heap.size w (w.alloc (.cells #[.int .i64 0, .int .i64 0] 25)) := (Below.refl _ _).alloc (Nat.le_refl _) _
  refine wp_world (F := fun W => Row W w.heap.size 25 (flt 0 0) ∧ Sls W W.heap.size A N Ss ∧ Below w.heap.size w W) ⟨Row.newEq _ _ _ _ _ rfl rfl, HS.out.up ha, ha⟩ ?_
  clear ha
  rintro W0 ⟨r0, hS, hb⟩
  go_upto_region 2 with (first
    | (go_at_call 22; refine (HF.out _ hS).mono ?_; rintro e w2 ⟨rfl, hb2⟩)
    | (refine wpList_store_row rfl 25 _ _ rfl w2.heap.size (flt 0 0) rfl rfl 25 (flt 0 0) (Row.newEq _ _ _ _ _ rfl rfl) (by rw [flt_size]; exact cellsF) rfl (all_one (flt_one _ _)) ?_))
  have hk2 := up_call hb2 (blw_new1 w2 (.cells #[.int .i64 0, .int .i64 0] 25) (flt 0 0))
  refine wp_world (F := fun W => Row W w2.heap.size 25 (flt 0 0) ∧ Row W w.heap.size 25 (flt 0 0) ∧ w.heap.size < w2.heap.size ∧ Below w.heap.size w W)
    ⟨row_new1 _ _ _ _, r0.below hk2 r0.lt, Nat.lt_of_lt_of_le r0.lt hb2.size, up_call hb hk2⟩ ?_
  generalize w2.heap.size = g6
  clear hb2 r0 hS hb hk2 w2 W0
  rintro W2 ⟨r6, r0, hlt, hb⟩
  go_upto_region 8 with (first
    | (refine wpList_load_row rfl 25 _ rfl g6 rfl 25 (flt 0 0) (0, 0) _ r6 Try.underlying25 rfl (by rw [flt_size]; exact cellsF) ?_))
  clear r6 hlt
  go_loopw [7, 22] (fun v i wr => ∃ (j : Nat) (s : Int) (x y : Nat → Nat), j ≤ N ∧ i = .int .i64 j ∧ v = .int .i64 s ∧ (-42000 * (j : Int) ≤ s ∧ s ≤ 42000 * (j : Int)) ∧ Hid (s = sumD x y j) ∧ Hid (costsTo Ss E x y j) ∧ Row wr w.heap.size 25 (flt 0 0) ∧ Below w.heap.size w wr) (fun _ i _ => N - (intOf i).toNat)
  case atStart => exact ⟨0, 0, fun _ => 0, fun _ => 0, Nat.zero_le _, rfl, rfl, by omega, Lib.hid rfl, Lib.hid (fun i L hi _ => absurd hi (Nat.not_lt_zero _)), r0, hb⟩
  case round =>
    clear r0 hb
    obtain ⟨j, s, x, y, hj, rfl, rfl, ⟨hs1, hs2⟩, HQ, HC, r0, hb⟩ := hrel
    by_cases hlt : j < N
    · have t3 : decide ((j : Int) < (N : Int)) = true := decide_eq_true (by omega)
      have t4 : decide (j < N) = true := decide_eq_true hlt
      obtain ⟨ad, X, Ai, ci, rfl, hadb, hg, hci, _, k1, sX⟩ := (HS.out.below hb).at_ hlt
      have hX8 := HL.out.2.2 X (List.mem_of_getElem? hg)
      obtain ⟨n, hn⟩ : ∃ n, n = X.length := ⟨_, rfl⟩
      rw [← hn] at k1 sX hci hX8
      have sXr := sX.wider hb.size
      have sBr := HSB.out.up hb
      have hp1 := HDC.out X [] n 0 hn rfl hX8 (by omega) Ai none ci 0 wr sXr (by rw [bl_nil]; exact Sl.nil _ _ _)
      have hp2 := fun (W : World) (hW : Below wr.heap.size wr W) => HDC.out X E n D hn HL.out.2.1 hX8 hD5 Ai B ci d W (sXr.up hW) (sBr.up hW)
      have HP1 := Lib.hid hp1
      have HP2 := Lib.hid hp2
      have HG := Lib.hid hg
      clear hp1 hp2 sX hg hn hadb sXr sBr
      go_wp2_with (first
        | (go_at_call 28; (with_reducible refine HP1.out.mono ?_); rintro e w5 ⟨⟨x1, hx1, hu1, rfl⟩, hb5⟩; have HX1 := Lib.hid hx1; clear hx1)
        | (go_at_call 28; (with_reducible refine (HP2.out _ hb5).mono ?_); rintro e w6 ⟨⟨x2, hx2, hu2, rfl⟩, hb6⟩; have HX2 := Lib.hid hx2; clear hx2))
      have r06 := (r0.below hb5 r0.lt).below hb6 (r0.below hb5 r0.lt).lt
      have hbb := up_call (up_call hb hb5) hb6
      go_roundw
      case rel => exact ⟨j + 1, s + x1 - x2, setAt x j x1, setAt y j x2, by omega, by go_num, by go_num, by omega, Lib.hid (by rw [sum_step, HQ.out]), Lib.hid (costs_step HC.out HG.out HX1.out HX2.out), r06, hbb⟩
      case measure => simp [intOf]; omega
    · obtain rfl : N = j := by omega
      have t3 : decide ((N : Int) < (N : Int)) = false := decide_eq_false (by omega)
      have t4 : decide (N < N) = false := decide_eq_false (by omega)
      have HE : Hid (costsAre Ss E x y) := Lib.hid (costs_end (by rw [← HL.out.1]; exact HC.out))
      clear HC
      go_wp2_with (first
        | (refine wpList_store_row rfl 25 _ _ rfl w.heap.size (flt 0 0) rfl rfl 25 (flt 0 0) r0 (by rw [flt_size]; exact cellsF) rfl (all_one (flt_one _ _)) ?_))
      refine bodyPost_ret (results_tmp_row Try.results19 _ _ _ w.heap.size 25 (flt 0 0) _ rfl rfl (Row.row r0 _) Try.underlying25 rfl (by rw [flt_size]; exact cellsF)) rfl (WoPost.mk x y HE.out ?_ (blw_row hb (Nat.le_refl _) _))
      rw [← HQ.out]
      rfl
theorem worth_ok (hpa : PParse) (hco : PCost) : PWorth := fun Ss E N D hN hDl hal A B c d _ _ w hS hB => worth_okP hpa hco Ss E N D hN hDl hal A B c d w hS hB
end Go.Proofs.Ytcmbpniikcghfaa
