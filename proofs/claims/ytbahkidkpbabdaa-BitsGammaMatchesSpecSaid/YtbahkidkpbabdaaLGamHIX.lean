/-
  The walks of BitsGammaMatchesSpec: HIX
-/
import Derived.Test.YtbahkidkpbabdaaLGamA
import Derived.Deep.RegionHeld3
namespace Go.Proofs.Ytbahkidkpbabdaa.lawGam
open Go.RowKit Go.Proofs.Ytbahkidkpbabdaa.lawNum
attribute [local go_sem ↓] wp_load_flat run_load_flat
attribute [local go_sem] blkOf_ptr cells_agg sizedF sizeTF aggF

set_option maxRecDepth 100000 in
set_option maxHeartbeats 4000000 in
theorem walk_hi_x (l : List Bool) (hl : l.length ≤ 131072) (v s : Nat) (h1 : 1 ≤ v) (hv : v ≤ 9223372036854775807) (hs : s = gsz v) (h2 : 2147483647 < v) (f : Int) (hf : f < 0 ∨ (l.length : Int) < f) (A : Option Addr) (cp : Nat) (w : World) (hS : Sl w w.heap.size A (pack l).length (bl (pack l))) :
    Calls Try.prog 6 #[.agg (bcs A (pack l).length cp l.length), .int .i64 v, .int .i64 f] w fun e w' => e = .returned (.bool true) ∧ Below w.heap.size w w' := by
  have HGS := Lib.hid (gammaSize_pos v s hv hs)
  have HGA := Lib.hid (rgamma_is v s h1 hv hs)
  have hsz62 : s ≤ 130 := by rw [hs]; exact gsz_le v h1 hv
  have k1 : decide ((v : Int) < 1) = false := decide_eq_false (by omega)
  have k1b : decide (v < 1) = false := decide_eq_false (by omega)
  have k1c : (v == 0) = false := beq_eq_false_iff_ne.2 (by omega)
  have k1d : decide (v = 0) = false := decide_eq_false (by omega)
  have k2 : decide ((1 : Int) ≤ v) = true := decide_eq_true (by omega)
  have k2b : decide (1 ≤ v) = true := decide_eq_true h1
  have k2c : decide (0 < v) = true := decide_eq_true h1
  have HAP := Lib.hid (gamma_great (pack l) l (pack_rep l) hl v (by omega) (by omega))
  have HSZ := Lib.hid hs
  clear hs
  have HRD := Lib.hid (readg_out l hl f hf)
  have HRF := Lib.hid hf
  clear hf
  have q1 := neq_same 4 (-2)
  have q2 := eq_same 4 (-2)
  go_enter Try.func6, Try.ntmps6
  go_upto_region 1 with (fail)
  refine wp_world (F := fun W => Row W w.heap.size 24 (bcs A (pack l).length cp l.length) ∧ Sl W W.heap.size A (pack l).length (bl (pack l)) ∧ Below w.heap.size w W) ⟨Row.new _ _ _, hS.up ((Below.refl _ _).alloc (Nat.le_refl _) _), (Below.refl _ _).alloc (Nat.le_refl _) _⟩ ?_
  clear hS
  rintro W0 ⟨r0, hS, hb⟩
  go_upto_region 2 with (first
    | (refine wpList_load_row rfl 24 _ rfl w.heap.size rfl 24 (bcs A (pack l).length cp l.length) (0, 0) _ r0 Try.underlying24 rfl (by rw [bcs_size]; exact cellsB) ?_)
    | (go_at_call 27; refine (HAP.out A cp _ hS).mono ?_; rintro e wc0 ⟨rfl, hbc⟩)
    | (refine wpList_store_row rfl 24 _ _ rfl wc0.heap.size (bcs none 0 0 0) rfl rfl 24 (bcs none 0 0 0) ((Row.newEq _ _ _ _ _ rfl rfl).alloc _) (by rw [bcs_size]; exact cellsB) rfl (all_one (bcs_one _ _ _ _)) ?_)
    | (refine wpList_store_row rfl 26 _ _ rfl (wc0.heap.size + 1) (flt 4 (-2)) rfl rfl 26 (flt 0 0) (Row.rowFar (Row.newEq _ _ _ _ _ (by simp) rfl) (by omega) _) (by rw [flt_size]; exact cellsF) rfl (all_one (flt_one _ _)) ?_))
  have hkk := fun o1 o2 x y => up_call hbc (blw_new2 wc0 o1 o2 x y)
  refine wp_world (F := fun W => Row W w.heap.size 24 (bcs A (pack l).length cp l.length) ∧ Sl W W.heap.size A (pack l).length (bl (pack l)) ∧ Row W wc0.heap.size 24 (bcs none 0 0 0) ∧ Row W (wc0.heap.size + 1) 26 (flt 4 (-2)) ∧ Below w.heap.size w W) ⟨r0.below (hkk _ _ _ _) r0.lt, hS.up (hkk _ _ _ _), row_new2a _ _ _ _ _ _ _, row_new2b _ _ _ _ _ _ _, up_call hb (hkk _ _ _ _)⟩ ?_
  generalize wc0.heap.size = g0
  clear hkk hbc hb r0 hS wc0  W0
  rintro Wg0 ⟨r0, hS, r1, f1, hb⟩
  go_upto_region 3 with (first
    | (refine wpList_load_row rfl 24 _ rfl w.heap.size rfl 24 (bcs A (pack l).length cp l.length) (0, 0) _ r0 Try.underlying24 rfl (by rw [bcs_size]; exact cellsB) ?_)
    | (go_at_call 28; refine (HRD.out A cp _ hS).mono ?_; rintro e wc1 ⟨rfl, hbc⟩)
    | (refine wpList_store_row rfl 26 _ _ rfl wc1.heap.size (flt 4 (-2)) rfl rfl 26 (flt 0 0) (Row.newEq _ _ _ _ _ rfl rfl) (by rw [flt_size]; exact cellsF) rfl (all_one (flt_one _ _)) ?_))
  have hkk := fun o1 x => up_call hbc (blw_new1 wc1 o1 x)
  refine wp_world (F := fun W => Row W w.heap.size 24 (bcs A (pack l).length cp l.length) ∧ Row W g0 24 (bcs none 0 0 0) ∧ Row W (g0 + 1) 26 (flt 4 (-2)) ∧ Sl W W.heap.size A (pack l).length (bl (pack l)) ∧ Row W wc1.heap.size 26 (flt 4 (-2)) ∧ Below w.heap.size w W) ⟨r0.below (hkk _ _) r0.lt, r1.below (hkk _ _) r1.lt, f1.below (hkk _ _) f1.lt, hS.up (hkk _ _), row_new1 _ _ _ _, up_call hb (hkk _ _)⟩ ?_
  generalize wc1.heap.size = g1
  clear hkk hbc hb r0 r1 f1 hS wc1  Wg0
  rintro Wg1 ⟨r0, r1, f1, hS, f2, hb⟩
  go_upto_region 5 with (first
    | (go_at_call 14; refine (strings_any _).mono ?_; rintro e w3 ⟨rfl, hb3⟩)
    | (go_at_call 29; refine (HGS.out _).mono ?_; rintro e w4 ⟨rfl, rfl⟩)
    | (go_at_call 30; refine (HGA.out _).mono ?_; rintro e w5 ⟨A5, c5, rfl, hc5, hs5, hb5⟩))
  have kk := up_call hb3 hb5
  refine wp_world (F := fun W => Row W w.heap.size 24 (bcs A (pack l).length cp l.length) ∧ Row W g0 24 (bcs none 0 0 0) ∧ Row W (g0 + 1) 26 (flt 4 (-2)) ∧ Row W g1 26 (flt 4 (-2)) ∧ Sl W W.heap.size A (pack l).length (bl (pack l)) ∧ Below w.heap.size w W) ⟨r0.below kk r0.lt, r1.below kk r1.lt, f1.below kk f1.lt, f2.below kk f2.lt, hS.up kk, up_call hb kk⟩ ?_
  clear r0 r1 f1 f2 hS hb kk hb3 w3 Wg1 hc5 hs5 hb5 w5
  rintro W5 ⟨r0, r1, f1, f2, hS, hb⟩
  go_upto_region 6 with (first
    | (go_at_call 16; refine (at_any 6 (-1) _).mono ?_; rintro e w6 ⟨rfl, hb6⟩)
    | (refine wpList_store_row rfl 26 _ _ rfl w6.heap.size (flt 6 (-1)) rfl rfl 26 (flt 0 0) (Row.newEq _ _ _ _ _ rfl rfl) (by rw [flt_size]; exact cellsF) rfl (all_one (flt_one _ _)) ?_))
  have hkk := fun o1 x => up_call hb6 (blw_new1 w6 o1 x)
  refine wp_world (F := fun W => Row W w.heap.size 24 (bcs A (pack l).length cp l.length) ∧ Row W g0 24 (bcs none 0 0 0) ∧ Row W (g0 + 1) 26 (flt 4 (-2)) ∧ Row W g1 26 (flt 4 (-2)) ∧ Sl W W.heap.size A (pack l).length (bl (pack l)) ∧ Row W w6.heap.size 26 (flt 6 (-1)) ∧ w.heap.size ≤ w6.heap.size ∧ g0 + 1 < w6.heap.size ∧ g1 < w6.heap.size ∧ Below w.heap.size w W) ⟨r0.below (hkk _ _) r0.lt, r1.below (hkk _ _) r1.lt, f1.below (hkk _ _) f1.lt, f2.below (hkk _ _) f2.lt, hS.up (hkk _ _), row_new1 _ _ _ _, (up_call hb hb6).size, Nat.lt_of_lt_of_le f1.lt hb6.size, Nat.lt_of_lt_of_le f2.lt hb6.size, up_call hb (hkk _ _)⟩ ?_
  generalize w6.heap.size = g2
  clear hkk hb6 hb r0 r1 f1 f2 hS w6 W5
  rintro W6 ⟨r0, r1, f1, f2, hS, f3, n0, n1, n2, hb⟩
  go_upto_region 9 with (first
    | (refine wpList_load_row rfl 24 _ rfl w.heap.size rfl 24 (bcs A (pack l).length cp l.length) (0, 0) _ r0 Try.underlying24 rfl (by rw [bcs_size]; exact cellsB) ?_)
    | (go_at_call 13; refine (ok_yes (pack l) l (pack_rep l) hl A cp _ hS).mono ?_; rintro e w7 ⟨rfl, hb7⟩; have r07 := r0.below hb7 r0.lt; have hS7 := hS.up hb7)
    | (refine wpList_load_row rfl 24 _ rfl w.heap.size rfl 24 (bcs A (pack l).length cp l.length) (0, 0) _ r07 Try.underlying24 rfl (by rw [bcs_size]; exact cellsB) ?_)
    | (go_at_call 23; refine (rbits_any (pack l) l (pack_rep l) hl A cp _ hS7).mono ?_; rintro e w8 ⟨v8, rfl, ho8, hb8⟩; obtain ⟨A6, c6, hv8, hc6, hm6⟩ := own_form ho8; subst hv8))
  have kk := up_call hb7 hb8
  refine wp_world (F := fun W => Row W g0 24 (bcs none 0 0 0) ∧ Row W (g0 + 1) 26 (flt 4 (-2)) ∧ Row W g1 26 (flt 4 (-2)) ∧ Row W g2 26 (flt 6 (-1)) ∧ W.ownsRow w7.heap.size 3 1 (.slice A6 l.length c6) l.length (il l) ∧ g2 < w7.heap.size ∧ w7.heap.size ≤ W.heap.size ∧ Below w.heap.size w W) ⟨r1.below kk r1.lt, f1.below kk f1.lt, f2.below kk f2.lt, f3.below kk f3.lt, own_base ho8 (Nat.le_succ _), Nat.lt_of_lt_of_le f3.lt hb7.size, hb8.size, up_call hb kk⟩ ?_
  generalize w7.heap.size = b7
  clear kk hb7 hb8 ho8 hm6 hb r07 hS7 hS r0 r1 f1 f2 f3 w8 w7 W6
  rintro W8 ⟨r1, f1, f2, f3, ho, n3, n4, hb⟩
  go_upto_region 10 with (first
    | (refine wpList_store_row rfl 26 _ _ rfl g2 (flt 0 0) rfl rfl 26 (flt 6 (-1)) f3 (by rw [flt_size]; exact cellsF) rfl (all_one (flt_one _ _)) ?_))
  refine wp_world (F := fun W => Row W g0 24 (bcs none 0 0 0) ∧ Row W (g0 + 1) 26 (flt 4 (-2)) ∧ Row W g1 26 (flt 4 (-2)) ∧ Row W g2 26 (flt 0 0) ∧ W.ownsRow b7 3 1 (.slice A6 l.length c6) l.length (il l) ∧ b7 ≤ W.heap.size ∧ Below w.heap.size w W) ⟨r1.rowFar (by omega) _, f1.rowFar (by omega) _, f2.rowFar (by omega) _, Row.row f3 _, own_row ho n3 _, by simpa using n4, up_row hb n0 _⟩ ?_
  clear r1 f1 f2 f3 ho n4 hb  W8
  rintro W9 ⟨r1, f1, f2, f3, ho, n4, hb⟩
  go_upto_region 14 with (first
    | (go_at_call 31; refine (in_no v 1 2147483647 (.inr (by omega)) _).mono ?_; rintro e w10 ⟨rfl, h10⟩; subst w10)
    | (go_at_call 16; refine (at_any 4 (-2) _).mono ?_; rintro e w11 ⟨rfl, hb11⟩; have f3b := f3.below hb11 f3.lt)
    | (refine wpList_store_row rfl 26 _ _ rfl g2 (flt 4 (-2)) rfl rfl 26 (flt 0 0) f3b (by rw [flt_size]; exact cellsF) rfl (all_one (flt_one _ _)) ?_))
  refine wp_world (F := fun W => Row W g0 24 (bcs none 0 0 0) ∧ Row W (g0 + 1) 26 (flt 4 (-2)) ∧ Row W g1 26 (flt 4 (-2)) ∧ Row W g2 26 (flt 4 (-2)) ∧ W.ownsRow b7 3 1 (.slice A6 l.length c6) l.length (il l) ∧ b7 ≤ W.heap.size ∧ Below w.heap.size w W) ⟨(r1.below hb11 r1.lt).rowFar (by omega) _, (f1.below hb11 f1.lt).rowFar (by omega) _, (f2.below hb11 f2.lt).rowFar (by omega) _, Row.row (f3.below hb11 f3.lt) _, own_row (own_below ho hb11) n3 _, by simpa using Nat.le_trans n4 hb11.size, up_row (up_call hb hb11) n0 _⟩ ?_
  clear r1 f1 f2 f3 ho n4 hb hb11 f3b w11 W9
  rintro W14 ⟨r1, f1, f2, f3, ho, n4, hb⟩
  have a3 : W14.cell? ⟨g2, 0, none⟩ = some (.int .i64 4) := (f3.cell 0).trans rfl
  have i1 := f1.is (n := 2) rfl
  have j1 := f1.at
  have i3 := f3.is (n := 2) rfl
  have j3 := f3.at
  have x0 : W14.cell? ⟨g0, 0, none⟩ = some (.slice none 0 0) := (r1.cell 0).trans rfl
  have x1 : W14.cell? ⟨g0, 1, none⟩ = some (.int .i64 0) := (r1.cell 1).trans rfl
  go_upto_region 16 with (first
    | (go_at_call 17; refine (same_none _).mono ?_; rintro e w15 ⟨rfl, hb15⟩))
  refine wp_world (F := fun W => Row W g1 26 (flt 4 (-2)) ∧ Row W g2 26 (flt 4 (-2)) ∧ W.ownsRow b7 3 1 (.slice A6 l.length c6) l.length (il l) ∧ Below w.heap.size w W) ⟨f2.below hb15 f2.lt, f3.below hb15 f3.lt, own_below ho hb15, up_call hb hb15⟩ ?_
  clear r1 f1 f2 f3 ho n4 hb hb15 a3 i1 j1 i3 j3 x0 x1 w15 W14
  rintro W16 ⟨f2, f3, ho, hb⟩
  go_upto_region 17 with (first
    | (go_at_call 31; refine (in_no f 0 l.length HRF.out _).mono ?_; rintro e w17 ⟨rfl, h17⟩; subst w17))
  go_region_held3 (fun W => IsRow W g1 2 ∧ rowAt W g1 = flt 4 (-2))
    (first
      | exact ⟨f2.drew.is rfl, f2.drew.at⟩
      | exact ⟨(f2.drew.below hb18 f2.lt).is rfl, (f2.drew.below hb18 f2.lt).at⟩)
    (first
      | (go_at_call 16; refine (at_any 4 (-2) _).mono ?_; rintro e w18 ⟨rfl, hb18⟩))
  all_goals
    go_wp2
    go_ret
    exact ⟨rfl, hb.drew.trans (hb18.mono hb.size)⟩
end Go.Proofs.Ytbahkidkpbabdaa.lawGam
