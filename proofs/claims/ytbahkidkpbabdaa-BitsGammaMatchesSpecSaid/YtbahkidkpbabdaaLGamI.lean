/-
  The walks of BitsGammaMatchesSpec: the bit string is not valid
-/
import Derived.Test.YtbahkidkpbabdaaLGamA
import Derived.Deep.RegionHeld3
namespace Go.Proofs.Ytbahkidkpbabdaa.lawGam
open Go.RowKit Go.Proofs.Ytbahkidkpbabdaa.lawNum
attribute [local go_sem ↓] wp_load_flat run_load_flat
attribute [local go_sem] blkOf_ptr cells_agg sizedF sizeTF aggF

set_option maxRecDepth 100000 in
set_option maxHeartbeats 4000000 in
theorem walk_inlo (L : List UInt8) (k : Int) (hG : ¬ Good L k) (n : Int) (hn : -9223372036854775808 ≤ n ∧ n ≤ 9223372036854775807) (h1 : n < 1) (f : Int) (A : Option Addr) (cp : Nat) (w : World) (hS : Sl w w.heap.size A L.length (bl L)) :
    Calls Try.prog 6 #[.agg (bcs A L.length cp k), .int .i64 n, .int .i64 f] w fun e w' => e = .returned (.bool true) ∧ Below w.heap.size w w' := by
  have HGS := Lib.hid (gammaSize_zero n hn h1)
  have k1 : decide (n < 1) = true := decide_eq_true h1
  have k2 : decide (1 ≤ n) = false := decide_eq_false (by omega)
  have HAP := Lib.hid (gamma_form L k hG n (by omega))
  have HRD := Lib.hid (readg_form L k hG f)
  have HNO := Lib.hid (ok_no L k hG)
  clear hG
  have q1 := neq_same 6 (-1)
  have q2 := eq_same 6 (-1)
  clear q1
  go_enter Try.func6, Try.ntmps6
  go_upto_region 1 with (fail)
  refine wp_world (F := fun W => Row W w.heap.size 24 (bcs A L.length cp k) ∧ Sl W W.heap.size A L.length (bl L) ∧ Below w.heap.size w W) ⟨Row.new _ _ _, hS.up ((Below.refl _ _).alloc (Nat.le_refl _) _), (Below.refl _ _).alloc (Nat.le_refl _) _⟩ ?_
  clear hS
  rintro W0 ⟨r0, hS, hb⟩
  go_upto_region 2 with (first
    | (refine wpList_load_row rfl 24 _ rfl w.heap.size rfl 24 (bcs A L.length cp k) (0, 0) _ r0 Try.underlying24 rfl (by rw [bcs_size]; exact cellsB) ?_)
    | (go_at_call 27; refine (HAP.out A cp _ hS).mono ?_; rintro e wc0 ⟨rfl, hbc⟩)
    | (refine wpList_store_row rfl 24 _ _ rfl wc0.heap.size (bcs none 0 0 0) rfl rfl 24 (bcs none 0 0 0) ((Row.newEq _ _ _ _ _ rfl rfl).alloc _) (by rw [bcs_size]; exact cellsB) rfl (all_one (bcs_one _ _ _ _)) ?_)
    | (refine wpList_store_row rfl 26 _ _ rfl (wc0.heap.size + 1) (flt 6 (-1)) rfl rfl 26 (flt 0 0) (Row.rowFar (Row.newEq _ _ _ _ _ (by simp) rfl) (by omega) _) (by rw [flt_size]; exact cellsF) rfl (all_one (flt_one _ _)) ?_))
  have hkk := fun o1 o2 x y => up_call hbc (blw_new2 wc0 o1 o2 x y)
  refine wp_world (F := fun W => Row W w.heap.size 24 (bcs A L.length cp k) ∧ Sl W W.heap.size A L.length (bl L) ∧ Row W wc0.heap.size 24 (bcs none 0 0 0) ∧ Row W (wc0.heap.size + 1) 26 (flt 6 (-1)) ∧ Below w.heap.size w W) ⟨r0.below (hkk _ _ _ _) r0.lt, hS.up (hkk _ _ _ _), row_new2a _ _ _ _ _ _ _, row_new2b _ _ _ _ _ _ _, up_call hb (hkk _ _ _ _)⟩ ?_
  generalize wc0.heap.size = g0
  clear hkk hbc hb r0 hS wc0  W0
  rintro Wg0 ⟨r0, hS, r1, f1, hb⟩
  go_upto_region 3 with (first
    | (refine wpList_load_row rfl 24 _ rfl w.heap.size rfl 24 (bcs A L.length cp k) (0, 0) _ r0 Try.underlying24 rfl (by rw [bcs_size]; exact cellsB) ?_)
    | (go_at_call 28; refine (HRD.out A cp _ hS).mono ?_; rintro e wc1 ⟨rfl, hbc⟩)
    | (refine wpList_store_row rfl 26 _ _ rfl wc1.heap.size (flt 6 (-1)) rfl rfl 26 (flt 0 0) (Row.newEq _ _ _ _ _ rfl rfl) (by rw [flt_size]; exact cellsF) rfl (all_one (flt_one _ _)) ?_))
  have hkk := fun o1 x => up_call hbc (blw_new1 wc1 o1 x)
  refine wp_world (F := fun W => Row W w.heap.size 24 (bcs A L.length cp k) ∧ Row W g0 24 (bcs none 0 0 0) ∧ Row W (g0 + 1) 26 (flt 6 (-1)) ∧ Sl W W.heap.size A L.length (bl L) ∧ Row W wc1.heap.size 26 (flt 6 (-1)) ∧ Below w.heap.size w W) ⟨r0.below (hkk _ _) r0.lt, r1.below (hkk _ _) r1.lt, f1.below (hkk _ _) f1.lt, hS.up (hkk _ _), row_new1 _ _ _ _, up_call hb (hkk _ _)⟩ ?_
  generalize wc1.heap.size = g1
  clear hkk hbc hb r0 r1 f1 hS wc1  Wg0
  rintro Wg1 ⟨r0, r1, f1, hS, f2, hb⟩
  go_upto_region 5 with (first
    | (go_at_call 14; refine (strings_any _).mono ?_; rintro e w3 ⟨rfl, hb3⟩)
    | (go_at_call 29; refine (HGS.out _).mono ?_; rintro e w4 ⟨rfl, rfl⟩))
  have kk := hb3
  refine wp_world (F := fun W => Row W w.heap.size 24 (bcs A L.length cp k) ∧ Row W g0 24 (bcs none 0 0 0) ∧ Row W (g0 + 1) 26 (flt 6 (-1)) ∧ Row W g1 26 (flt 6 (-1)) ∧ Sl W W.heap.size A L.length (bl L) ∧ Below w.heap.size w W) ⟨r0.below kk r0.lt, r1.below kk r1.lt, f1.below kk f1.lt, f2.below kk f2.lt, hS.up kk, up_call hb kk⟩ ?_
  clear r0 r1 f1 f2 hS hb kk hb3 w3 Wg1
  rintro W5 ⟨r0, r1, f1, f2, hS, hb⟩
  go_upto_region 6 with (first
    | (go_at_call 16; refine (at_any 6 (-1) _).mono ?_; rintro e w6 ⟨rfl, hb6⟩)
    | (refine wpList_store_row rfl 26 _ _ rfl w6.heap.size (flt 6 (-1)) rfl rfl 26 (flt 0 0) (Row.newEq _ _ _ _ _ rfl rfl) (by rw [flt_size]; exact cellsF) rfl (all_one (flt_one _ _)) ?_))
  have hkk := fun o1 x => up_call hb6 (blw_new1 w6 o1 x)
  refine wp_world (F := fun W => Row W w.heap.size 24 (bcs A L.length cp k) ∧ Row W g0 24 (bcs none 0 0 0) ∧ Row W (g0 + 1) 26 (flt 6 (-1)) ∧ Row W g1 26 (flt 6 (-1)) ∧ Sl W W.heap.size A L.length (bl L) ∧ Row W w6.heap.size 26 (flt 6 (-1)) ∧ w.heap.size ≤ w6.heap.size ∧ g0 + 1 < w6.heap.size ∧ g1 < w6.heap.size ∧ Below w.heap.size w W) ⟨r0.below (hkk _ _) r0.lt, r1.below (hkk _ _) r1.lt, f1.below (hkk _ _) f1.lt, f2.below (hkk _ _) f2.lt, hS.up (hkk _ _), row_new1 _ _ _ _, (up_call hb hb6).size, Nat.lt_of_lt_of_le f1.lt hb6.size, Nat.lt_of_lt_of_le f2.lt hb6.size, up_call hb (hkk _ _)⟩ ?_
  generalize w6.heap.size = g2
  clear hkk hb6 hb r0 r1 f1 f2 hS w6 W5
  rintro W6 ⟨r0, r1, f1, f2, hS, f3, n0, n1, n2, hb⟩
  go_upto_region 7 with (first
    | (refine wpList_load_row rfl 24 _ rfl w.heap.size rfl 24 (bcs A L.length cp k) (0, 0) _ r0 Try.underlying24 rfl (by rw [bcs_size]; exact cellsB) ?_)
    | (go_at_call 13; refine (HNO.out A cp _ hS).mono ?_; rintro e w7 ⟨rfl, hb7⟩))
  have d1 := f1.below hb7 f1.lt
  have d2 := f2.below hb7 f2.lt
  have d3 := f3.below hb7 f3.lt
  have d4 := r1.below hb7 r1.lt
  have hb8 := up_call hb hb7
  go_wp2_with (first
    | (refine wpList_load_rowG (by simp [Region.wanted, yielded, Act.put]) 26 _ rfl (g0 + 1) rfl 26 (flt 6 (-1)) (0, 0) _ d1 Try.underlying26 rfl (by rw [flt_size]; exact cellsF) ?_)
    | (refine wpList_load_rowG (by simp [Region.wanted, yielded, Act.put]) 26 _ rfl g1 rfl 26 (flt 6 (-1)) (0, 0) _ d2 Try.underlying26 rfl (by rw [flt_size]; exact cellsF) ?_)
    | (refine wpList_load_rowG (by simp [Region.wanted, yielded, Act.put]) 26 _ rfl g2 rfl 26 (flt 6 (-1)) (0, 0) _ d3 Try.underlying26 rfl (by rw [flt_size]; exact cellsF) ?_)
    | (refine wpList_load_rowG (by simp [Region.wanted, yielded, Act.put]) 24 _ rfl g0 rfl 24 (bcs none 0 0 0) (0, 0) _ d4 Try.underlying24 rfl (by rw [bcs_size]; exact cellsB) ?_)
    | (go_at_call 17; refine (same_none _).mono ?_; rintro e w9 ⟨rfl, hb9⟩))
  go_ret
  exact ⟨rfl, up_call hb8 hb9⟩

set_option maxRecDepth 100000 in
set_option maxHeartbeats 4000000 in
theorem walk_inpo (L : List UInt8) (k : Int) (hG : ¬ Good L k) (v s : Nat) (h1 : 1 ≤ v) (hv : v ≤ 9223372036854775807) (hs : s = gsz v) (f : Int) (A : Option Addr) (cp : Nat) (w : World) (hS : Sl w w.heap.size A L.length (bl L)) :
    Calls Try.prog 6 #[.agg (bcs A L.length cp k), .int .i64 v, .int .i64 f] w fun e w' => e = .returned (.bool true) ∧ Below w.heap.size w w' := by
  have HGS := Lib.hid (gammaSize_pos v s hv hs)
  have HGA := Lib.hid (rgamma_is v s h1 hv hs)
  have hsz62 : s ≤ 130 := by rw [hs]; exact gsz_le v h1 hv
  have k1 : decide ((v : Int) < 1) = false := decide_eq_false (by omega)
  have k1b : decide (v < 1) = false := decide_eq_false (by omega)
  have k1c : (v == 0) = false := beq_eq_false_iff_ne.2 (by omega)
  have k1d : decide (v = 0) = false := decide_eq_false (by omega)
  have k2 : decide ((1 : Int) ≤ v) = true := decide_eq_true (by omega)
  have k2b : decide (1 ≤ v) = true := decide_eq_true h1
  have k2c : decide (0 < v) = true := decide_eq_true h1
  have HAP := Lib.hid (gamma_form L k hG v (by omega))
  have HSZ := Lib.hid hs
  clear hs
  have HRD := Lib.hid (readg_form L k hG f)
  have HNO := Lib.hid (ok_no L k hG)
  clear hG
  have q1 := neq_same 6 (-1)
  have q2 := eq_same 6 (-1)
  clear q1
  go_enter Try.func6, Try.ntmps6
  go_upto_region 1 with (fail)
  refine wp_world (F := fun W => Row W w.heap.size 24 (bcs A L.length cp k) ∧ Sl W W.heap.size A L.length (bl L) ∧ Below w.heap.size w W) ⟨Row.new _ _ _, hS.up ((Below.refl _ _).alloc (Nat.le_refl _) _), (Below.refl _ _).alloc (Nat.le_refl _) _⟩ ?_
  clear hS
  rintro W0 ⟨r0, hS, hb⟩
  go_upto_region 2 with (first
    | (refine wpList_load_row rfl 24 _ rfl w.heap.size rfl 24 (bcs A L.length cp k) (0, 0) _ r0 Try.underlying24 rfl (by rw [bcs_size]; exact cellsB) ?_)
    | (go_at_call 27; refine (HAP.out A cp _ hS).mono ?_; rintro e wc0 ⟨rfl, hbc⟩)
    | (refine wpList_store_row rfl 24 _ _ rfl wc0.heap.size (bcs none 0 0 0) rfl rfl 24 (bcs none 0 0 0) ((Row.newEq _ _ _ _ _ rfl rfl).alloc _) (by rw [bcs_size]; exact cellsB) rfl (all_one (bcs_one _ _ _ _)) ?_)
    | (refine wpList_store_row rfl 26 _ _ rfl (wc0.heap.size + 1) (flt 6 (-1)) rfl rfl 26 (flt 0 0) (Row.rowFar (Row.newEq _ _ _ _ _ (by simp) rfl) (by omega) _) (by rw [flt_size]; exact cellsF) rfl (all_one (flt_one _ _)) ?_))
  have hkk := fun o1 o2 x y => up_call hbc (blw_new2 wc0 o1 o2 x y)
  refine wp_world (F := fun W => Row W w.heap.size 24 (bcs A L.length cp k) ∧ Sl W W.heap.size A L.length (bl L) ∧ Row W wc0.heap.size 24 (bcs none 0 0 0) ∧ Row W (wc0.heap.size + 1) 26 (flt 6 (-1)) ∧ Below w.heap.size w W) ⟨r0.below (hkk _ _ _ _) r0.lt, hS.up (hkk _ _ _ _), row_new2a _ _ _ _ _ _ _, row_new2b _ _ _ _ _ _ _, up_call hb (hkk _ _ _ _)⟩ ?_
  generalize wc0.heap.size = g0
  clear hkk hbc hb r0 hS wc0  W0
  rintro Wg0 ⟨r0, hS, r1, f1, hb⟩
  go_upto_region 3 with (first
    | (refine wpList_load_row rfl 24 _ rfl w.heap.size rfl 24 (bcs A L.length cp k) (0, 0) _ r0 Try.underlying24 rfl (by rw [bcs_size]; exact cellsB) ?_)
    | (go_at_call 28; refine (HRD.out A cp _ hS).mono ?_; rintro e wc1 ⟨rfl, hbc⟩)
    | (refine wpList_store_row rfl 26 _ _ rfl wc1.heap.size (flt 6 (-1)) rfl rfl 26 (flt 0 0) (Row.newEq _ _ _ _ _ rfl rfl) (by rw [flt_size]; exact cellsF) rfl (all_one (flt_one _ _)) ?_))
  have hkk := fun o1 x => up_call hbc (blw_new1 wc1 o1 x)
  refine wp_world (F := fun W => Row W w.heap.size 24 (bcs A L.length cp k) ∧ Row W g0 24 (bcs none 0 0 0) ∧ Row W (g0 + 1) 26 (flt 6 (-1)) ∧ Sl W W.heap.size A L.length (bl L) ∧ Row W wc1.heap.size 26 (flt 6 (-1)) ∧ Below w.heap.size w W) ⟨r0.below (hkk _ _) r0.lt, r1.below (hkk _ _) r1.lt, f1.below (hkk _ _) f1.lt, hS.up (hkk _ _), row_new1 _ _ _ _, up_call hb (hkk _ _)⟩ ?_
  generalize wc1.heap.size = g1
  clear hkk hbc hb r0 r1 f1 hS wc1  Wg0
  rintro Wg1 ⟨r0, r1, f1, hS, f2, hb⟩
  go_upto_region 5 with (first
    | (go_at_call 14; refine (strings_any _).mono ?_; rintro e w3 ⟨rfl, hb3⟩)
    | (go_at_call 29; refine (HGS.out _).mono ?_; rintro e w4 ⟨rfl, rfl⟩)
    | (go_at_call 30; refine (HGA.out _).mono ?_; rintro e w5 ⟨A5, c5, rfl, hc5, hs5, hb5⟩))
  have kk := up_call hb3 hb5
  refine wp_world (F := fun W => Row W w.heap.size 24 (bcs A L.length cp k) ∧ Row W g0 24 (bcs none 0 0 0) ∧ Row W (g0 + 1) 26 (flt 6 (-1)) ∧ Row W g1 26 (flt 6 (-1)) ∧ Sl W W.heap.size A L.length (bl L) ∧ Below w.heap.size w W) ⟨r0.below kk r0.lt, r1.below kk r1.lt, f1.below kk f1.lt, f2.below kk f2.lt, hS.up kk, up_call hb kk⟩ ?_
  clear r0 r1 f1 f2 hS hb kk hb3 w3 Wg1 hc5 hs5 hb5 w5
  rintro W5 ⟨r0, r1, f1, f2, hS, hb⟩
  go_upto_region 6 with (first
    | (go_at_call 16; refine (at_any 6 (-1) _).mono ?_; rintro e w6 ⟨rfl, hb6⟩)
    | (refine wpList_store_row rfl 26 _ _ rfl w6.heap.size (flt 6 (-1)) rfl rfl 26 (flt 0 0) (Row.newEq _ _ _ _ _ rfl rfl) (by rw [flt_size]; exact cellsF) rfl (all_one (flt_one _ _)) ?_))
  have hkk := fun o1 x => up_call hb6 (blw_new1 w6 o1 x)
  refine wp_world (F := fun W => Row W w.heap.size 24 (bcs A L.length cp k) ∧ Row W g0 24 (bcs none 0 0 0) ∧ Row W (g0 + 1) 26 (flt 6 (-1)) ∧ Row W g1 26 (flt 6 (-1)) ∧ Sl W W.heap.size A L.length (bl L) ∧ Row W w6.heap.size 26 (flt 6 (-1)) ∧ w.heap.size ≤ w6.heap.size ∧ g0 + 1 < w6.heap.size ∧ g1 < w6.heap.size ∧ Below w.heap.size w W) ⟨r0.below (hkk _ _) r0.lt, r1.below (hkk _ _) r1.lt, f1.below (hkk _ _) f1.lt, f2.below (hkk _ _) f2.lt, hS.up (hkk _ _), row_new1 _ _ _ _, (up_call hb hb6).size, Nat.lt_of_lt_of_le f1.lt hb6.size, Nat.lt_of_lt_of_le f2.lt hb6.size, up_call hb (hkk _ _)⟩ ?_
  generalize w6.heap.size = g2
  clear hkk hb6 hb r0 r1 f1 f2 hS w6 W5
  rintro W6 ⟨r0, r1, f1, f2, hS, f3, n0, n1, n2, hb⟩
  go_upto_region 7 with (first
    | (refine wpList_load_row rfl 24 _ rfl w.heap.size rfl 24 (bcs A L.length cp k) (0, 0) _ r0 Try.underlying24 rfl (by rw [bcs_size]; exact cellsB) ?_)
    | (go_at_call 13; refine (HNO.out A cp _ hS).mono ?_; rintro e w7 ⟨rfl, hb7⟩))
  have d1 := f1.below hb7 f1.lt
  have d2 := f2.below hb7 f2.lt
  have d3 := f3.below hb7 f3.lt
  have d4 := r1.below hb7 r1.lt
  have hb8 := up_call hb hb7
  go_wp2_with (first
    | (refine wpList_load_rowG (by simp [Region.wanted, yielded, Act.put]) 26 _ rfl (g0 + 1) rfl 26 (flt 6 (-1)) (0, 0) _ d1 Try.underlying26 rfl (by rw [flt_size]; exact cellsF) ?_)
    | (refine wpList_load_rowG (by simp [Region.wanted, yielded, Act.put]) 26 _ rfl g1 rfl 26 (flt 6 (-1)) (0, 0) _ d2 Try.underlying26 rfl (by rw [flt_size]; exact cellsF) ?_)
    | (refine wpList_load_rowG (by simp [Region.wanted, yielded, Act.put]) 26 _ rfl g2 rfl 26 (flt 6 (-1)) (0, 0) _ d3 Try.underlying26 rfl (by rw [flt_size]; exact cellsF) ?_)
    | (refine wpList_load_rowG (by simp [Region.wanted, yielded, Act.put]) 24 _ rfl g0 rfl 24 (bcs none 0 0 0) (0, 0) _ d4 Try.underlying24 rfl (by rw [bcs_size]; exact cellsB) ?_)
    | (go_at_call 17; refine (same_none _).mono ?_; rintro e w9 ⟨rfl, hb9⟩))
  go_ret
  exact ⟨rfl, up_call hb8 hb9⟩
end Go.Proofs.Ytbahkidkpbabdaa.lawGam
