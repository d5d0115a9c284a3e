/-
  The walks of BitsGammaMatchesSpec: OKC
-/
import Derived.Test.YtbahkidkpbabdaaLGamA
import Derived.Deep.RegionHeld3
namespace Go.Proofs.Ytbahkidkpbabdaa.lawGam
open Go.RowKit Go.Proofs.Ytbahkidkpbabdaa.lawNum
attribute [local go_sem ↓] wp_load_flat run_load_flat
attribute [local go_sem] blkOf_ptr cells_agg sizedF sizeTF aggF

set_option maxRecDepth 100000 in
set_option maxHeartbeats 4000000 in
theorem walk_ok_c (l : List Bool) (hl : l.length ≤ 131072) (v s : Nat) (h1 : 1 ≤ v) (hv : v ≤ 9223372036854775807) (hs : s = gsz v) (h2 : v ≤ 2147483647) (hx : l.length + s ≤ 131072) (y : Nat) (hy : y ≤ l.length) (z : Int) (hz : z ≠ 0) (hr : GR l y 0 0 z (-2)) (A : Option Addr) (cp : Nat) (w : World) (hS : Sl w w.heap.size A (pack l).length (bl (pack l))) :
    Calls Try.prog 6 #[.agg (bcs A (pack l).length cp l.length), .int .i64 v, .int .i64 y] w fun e w' => e = .returned (.bool true) ∧ Below w.heap.size w w' := by
  have HGS := Lib.hid (gammaSize_pos v s hv hs)
  have HGA := Lib.hid (rgamma_is v s h1 hv hs)
  have hsz62 : s ≤ 130 := by rw [hs]; exact gsz_le v h1 hv
  have k1 : decide ((v : Int) < 1) = false := decide_eq_false (by omega)
  have k1b : decide (v < 1) = false := decide_eq_false (by omega)
  have k1c : (v == 0) = false := beq_eq_false_iff_ne.2 (by omega)
  have k1d : decide (v = 0) = false := decide_eq_false (by omega)
  have k2 : decide ((1 : Int) ≤ v) = true := decide_eq_true (by omega)
  have k2b : decide (1 ≤ v) = true := decide_eq_true h1
  have k2c : decide (0 < v) = true := decide_eq_true h1
  obtain ⟨l2, e2⟩ : ∃ l2, l2 = l ++ digB v s := ⟨_, rfl⟩
  have hap := gamma_good l v s hs h1 h2 hx
  rw [← e2] at hap
  have HAP := Lib.hid hap
  have E2 := Lib.hid e2
  clear e2 hap
  have k3 : decide ((131072 : Int) < (l.length : Int) + (s : Int)) = false := decide_eq_false (by omega)
  have k3b : decide (131072 < l.length + s) = false := decide_eq_false (by omega)
  have HSZ := Lib.hid hs
  clear hs
  have HRD := Lib.hid (readg_gr l hl y hy _ _ _ _ hr)
  have HGT := Lib.hid (rgat_gr l hl y hy _ _ _ _ hr)
  clear hr
  have k5 : (z != 0) = true := bne_iff_ne.2 hz
  have k6 : (z == 0) = false := beq_eq_false_iff_ne.2 hz
  clear hz
  have q1 := neq_same 0 0
  have q2 := eq_same z (-2)
  go_enter Try.func6, Try.ntmps6
  go_upto_region 1 with (fail)
  refine wp_world (F := fun W => Row W w.heap.size 24 (bcs A (pack l).length cp l.length) ∧ Sl W W.heap.size A (pack l).length (bl (pack l)) ∧ Below w.heap.size w W) ⟨Row.new _ _ _, hS.up ((Below.refl _ _).alloc (Nat.le_refl _) _), (Below.refl _ _).alloc (Nat.le_refl _) _⟩ ?_
  clear hS
  rintro W0 ⟨r0, hS, hb⟩
  go_upto_region 2 with (first
    | (refine wpList_load_row rfl 24 _ rfl w.heap.size rfl 24 (bcs A (pack l).length cp l.length) (0, 0) _ r0 Try.underlying24 rfl (by rw [bcs_size]; exact cellsB) ?_)
    | (go_at_call 27; refine (HAP.out A cp _ hS).mono ?_; rintro e wc0 ⟨A1, c1, rfl, s1, hbc⟩)
    | (refine wpList_store_row rfl 24 _ _ rfl wc0.heap.size (bcs A1 (pack l2).length c1 l2.length) rfl rfl 24 (bcs none 0 0 0) ((Row.newEq _ _ _ _ _ rfl rfl).alloc _) (by rw [bcs_size]; exact cellsB) rfl (all_one (bcs_one _ _ _ _)) ?_)
    | (refine wpList_store_row rfl 26 _ _ rfl (wc0.heap.size + 1) (flt 0 0) rfl rfl 26 (flt 0 0) (Row.rowFar (Row.newEq _ _ _ _ _ (by simp) rfl) (by omega) _) (by rw [flt_size]; exact cellsF) rfl (all_one (flt_one _ _)) ?_))
  have hkk := fun o1 o2 x y => up_call hbc (blw_new2 wc0 o1 o2 x y)
  refine wp_world (F := fun W => Row W w.heap.size 24 (bcs A (pack l).length cp l.length) ∧ Sl W W.heap.size A (pack l).length (bl (pack l)) ∧ Row W wc0.heap.size 24 (bcs A1 (pack l2).length c1 l2.length) ∧ Row W (wc0.heap.size + 1) 26 (flt 0 0) ∧ Sl W W.heap.size A1 (pack l2).length (bl (pack l2)) ∧ Below w.heap.size w W) ⟨r0.below (hkk _ _ _ _) r0.lt, hS.up (hkk _ _ _ _), row_new2a _ _ _ _ _ _ _, row_new2b _ _ _ _ _ _ _, s1.up (blw_new2 _ _ _ _ _), up_call hb (hkk _ _ _ _)⟩ ?_
  generalize wc0.heap.size = g0
  clear hkk hbc hb r0 hS s1 wc0  W0
  rintro Wg0 ⟨r0, hS, r1, f1, s1, hb⟩
  go_upto_region 3 with (first
    | (refine wpList_load_row rfl 24 _ rfl w.heap.size rfl 24 (bcs A (pack l).length cp l.length) (0, 0) _ r0 Try.underlying24 rfl (by rw [bcs_size]; exact cellsB) ?_)
    | (go_at_call 28; refine (HRD.out A cp _ hS).mono ?_; rintro e wc1 ⟨rfl, hbc⟩)
    | (refine wpList_store_row rfl 26 _ _ rfl wc1.heap.size (flt z (-2)) rfl rfl 26 (flt 0 0) (Row.newEq _ _ _ _ _ rfl rfl) (by rw [flt_size]; exact cellsF) rfl (all_one (flt_one _ _)) ?_))
  have hkk := fun o1 x => up_call hbc (blw_new1 wc1 o1 x)
  refine wp_world (F := fun W => Row W w.heap.size 24 (bcs A (pack l).length cp l.length) ∧ Row W g0 24 (bcs A1 (pack l2).length c1 l2.length) ∧ Row W (g0 + 1) 26 (flt 0 0) ∧ Sl W W.heap.size A (pack l).length (bl (pack l)) ∧ Sl W W.heap.size A1 (pack l2).length (bl (pack l2)) ∧ Row W wc1.heap.size 26 (flt z (-2)) ∧ Below w.heap.size w W) ⟨r0.below (hkk _ _) r0.lt, r1.below (hkk _ _) r1.lt, f1.below (hkk _ _) f1.lt, hS.up (hkk _ _), s1.up (hkk _ _), row_new1 _ _ _ _, up_call hb (hkk _ _)⟩ ?_
  generalize wc1.heap.size = g1
  clear hkk hbc hb r0 r1 f1 hS s1 wc1  Wg0
  rintro Wg1 ⟨r0, r1, f1, hS, s1, f2, hb⟩
  go_upto_region 5 with (first
    | (go_at_call 14; refine (strings_any _).mono ?_; rintro e w3 ⟨rfl, hb3⟩)
    | (go_at_call 29; refine (HGS.out _).mono ?_; rintro e w4 ⟨rfl, rfl⟩)
    | (go_at_call 30; refine (HGA.out _).mono ?_; rintro e w5 ⟨A5, c5, rfl, hc5, hs5, hb5⟩))
  have kk := up_call hb3 hb5
  refine wp_world (F := fun W => Row W w.heap.size 24 (bcs A (pack l).length cp l.length) ∧ Row W g0 24 (bcs A1 (pack l2).length c1 l2.length) ∧ Row W (g0 + 1) 26 (flt 0 0) ∧ Row W g1 26 (flt z (-2)) ∧ Sl W W.heap.size A (pack l).length (bl (pack l)) ∧ Sl W W.heap.size A1 (pack l2).length (bl (pack l2)) ∧ Below w.heap.size w W) ⟨r0.below kk r0.lt, r1.below kk r1.lt, f1.below kk f1.lt, f2.below kk f2.lt, hS.up kk, s1.up kk, up_call hb kk⟩ ?_
  clear r0 r1 f1 f2 hS s1 hb kk hb3 w3 Wg1 hc5 hs5 hb5 w5
  rintro W5 ⟨r0, r1, f1, f2, hS, s1, hb⟩
  go_upto_region 6 with (first
    | (go_at_call 16; refine (at_any 6 (-1) _).mono ?_; rintro e w6 ⟨rfl, hb6⟩)
    | (refine wpList_store_row rfl 26 _ _ rfl w6.heap.size (flt 6 (-1)) rfl rfl 26 (flt 0 0) (Row.newEq _ _ _ _ _ rfl rfl) (by rw [flt_size]; exact cellsF) rfl (all_one (flt_one _ _)) ?_))
  have hkk := fun o1 x => up_call hb6 (blw_new1 w6 o1 x)
  refine wp_world (F := fun W => Row W w.heap.size 24 (bcs A (pack l).length cp l.length) ∧ Row W g0 24 (bcs A1 (pack l2).length c1 l2.length) ∧ Row W (g0 + 1) 26 (flt 0 0) ∧ Row W g1 26 (flt z (-2)) ∧ Sl W W.heap.size A (pack l).length (bl (pack l)) ∧ Row W w6.heap.size 26 (flt 6 (-1)) ∧ Sl W w6.heap.size A1 (pack l2).length (bl (pack l2)) ∧ w.heap.size ≤ w6.heap.size ∧ g0 + 1 < w6.heap.size ∧ g1 < w6.heap.size ∧ Below w.heap.size w W) ⟨r0.below (hkk _ _) r0.lt, r1.below (hkk _ _) r1.lt, f1.below (hkk _ _) f1.lt, f2.below (hkk _ _) f2.lt, hS.up (hkk _ _), row_new1 _ _ _ _, (s1.up hb6).below (blw_new1 w6 _ _), (up_call hb hb6).size, Nat.lt_of_lt_of_le f1.lt hb6.size, Nat.lt_of_lt_of_le f2.lt hb6.size, up_call hb (hkk _ _)⟩ ?_
  generalize w6.heap.size = g2
  clear hkk hb6 hb r0 r1 f1 f2 hS s1 w6 W5
  rintro W6 ⟨r0, r1, f1, f2, hS, f3, s1, n0, n1, n2, hb⟩
  go_upto_region 9 with (first
    | (refine wpList_load_row rfl 24 _ rfl w.heap.size rfl 24 (bcs A (pack l).length cp l.length) (0, 0) _ r0 Try.underlying24 rfl (by rw [bcs_size]; exact cellsB) ?_)
    | (go_at_call 13; refine (ok_yes (pack l) l (pack_rep l) hl A cp _ hS).mono ?_; rintro e w7 ⟨rfl, hb7⟩; have r07 := r0.below hb7 r0.lt; have hS7 := hS.up hb7)
    | (refine wpList_load_row rfl 24 _ rfl w.heap.size rfl 24 (bcs A (pack l).length cp l.length) (0, 0) _ r07 Try.underlying24 rfl (by rw [bcs_size]; exact cellsB) ?_)
    | (go_at_call 23; refine (rbits_any (pack l) l (pack_rep l) hl A cp _ hS7).mono ?_; rintro e w8 ⟨v8, rfl, ho8, hb8⟩; obtain ⟨A6, c6, hv8, hc6, hm6⟩ := own_form ho8; subst hv8))
  have kk := up_call hb7 hb8
  refine wp_world (F := fun W => Row W g0 24 (bcs A1 (pack l2).length c1 l2.length) ∧ Row W (g0 + 1) 26 (flt 0 0) ∧ Row W g1 26 (flt z (-2)) ∧ Row W g2 26 (flt 6 (-1)) ∧ Sl W g2 A1 (pack l2).length (bl (pack l2)) ∧ W.ownsRow w7.heap.size 3 1 (.slice A6 l.length c6) l.length (il l) ∧ g2 < w7.heap.size ∧ w7.heap.size ≤ W.heap.size ∧ Below w.heap.size w W) ⟨r1.below kk r1.lt, f1.below kk f1.lt, f2.below kk f2.lt, f3.below kk f3.lt, s1.below (kk.mono (Nat.le_of_lt f3.lt)), own_base ho8 (Nat.le_succ _), Nat.lt_of_lt_of_le f3.lt hb7.size, hb8.size, up_call hb kk⟩ ?_
  generalize w7.heap.size = b7
  clear kk hb7 hb8 ho8 hm6 hb r07 hS7 hS r0 r1 f1 f2 f3 s1 w8 w7 W6
  rintro W8 ⟨r1, f1, f2, f3, s1, ho, n3, n4, hb⟩
  go_upto_region 10 with (first
    | (refine wpList_store_row rfl 26 _ _ rfl g2 (flt 0 0) rfl rfl 26 (flt 6 (-1)) f3 (by rw [flt_size]; exact cellsF) rfl (all_one (flt_one _ _)) ?_))
  refine wp_world (F := fun W => Row W g0 24 (bcs A1 (pack l2).length c1 l2.length) ∧ Row W (g0 + 1) 26 (flt 0 0) ∧ Row W g1 26 (flt z (-2)) ∧ Row W g2 26 (flt 0 0) ∧ Sl W g2 A1 (pack l2).length (bl (pack l2)) ∧ W.ownsRow b7 3 1 (.slice A6 l.length c6) l.length (il l) ∧ b7 ≤ W.heap.size ∧ Below w.heap.size w W) ⟨r1.rowFar (by omega) _, f1.rowFar (by omega) _, f2.rowFar (by omega) _, Row.row f3 _, s1.keepAt (Nat.le_refl _) _, own_row ho n3 _, by simpa using n4, up_row hb n0 _⟩ ?_
  clear r1 f1 f2 f3 s1 ho n4 hb  W8
  rintro W9 ⟨r1, f1, f2, f3, s1, ho, n4, hb⟩
  go_upto_region 14 with (first
    | (go_at_call 31; refine (in_yes v 1 2147483647 (by omega) (by omega) _).mono ?_; rintro e w10 ⟨rfl, h10⟩; subst w10)
    | (go_at_call 30; refine (HGA.out _).mono ?_; rintro e w11 ⟨A11, c11, rfl, hc11, hs11, hb11⟩))
  refine wp_world (F := fun W => Row W g0 24 (bcs A1 (pack l2).length c1 l2.length) ∧ Row W (g0 + 1) 26 (flt 0 0) ∧ Row W g1 26 (flt z (-2)) ∧ Row W g2 26 (flt 0 0) ∧ Sl W g2 A1 (pack l2).length (bl (pack l2)) ∧ W.ownsRow b7 3 1 (.slice A6 l.length c6) l.length (il l) ∧ b7 ≤ W.heap.size ∧ Below w.heap.size w W) ⟨r1.below hb11 r1.lt, f1.below hb11 f1.lt, f2.below hb11 f2.lt, f3.below hb11 f3.lt, s1.below (hb11.mono (Nat.le_of_lt f3.lt)), own_below ho hb11, Nat.le_trans n4 hb11.size, up_call hb hb11⟩ ?_
  clear r1 f1 f2 f3 s1 ho n4 hb hb11 hc11 hs11 w11 W9
  rintro W14 ⟨r1, f1, f2, f3, s1, ho, n4, hb⟩
  have a3 : W14.cell? ⟨g2, 0, none⟩ = some (.int .i64 0) := (f3.cell 0).trans rfl
  have i1 := f1.is (n := 2) rfl
  have j1 := f1.at
  have i3 := f3.is (n := 2) rfl
  have j3 := f3.at
  go_upto_region 16 with (first
    | fail)
  refine wp_world (F := fun W => Row W g0 24 (bcs A1 (pack l2).length c1 l2.length) ∧ Row W g1 26 (flt z (-2)) ∧ Row W g2 26 (flt 0 0) ∧ Sl W g2 A1 (pack l2).length (bl (pack l2)) ∧ W.ownsRow b7 3 1 (.slice A6 l.length c6) l.length (il l) ∧ b7 ≤ W.heap.size ∧ Below w.heap.size w W) ⟨r1, f2, f3, s1, ho, n4, hb⟩ ?_
  clear r1 f1 f2 f3 s1 ho n4 hb a3 i1 j1 i3 j3 W14
  rintro W16 ⟨r1, f2, f3, s1, ho, n4, hb⟩
  have a3 : W16.cell? ⟨g2, 0, none⟩ = some (.int .i64 0) := (f3.cell 0).trans rfl
  have a2 : W16.cell? ⟨g1, 0, none⟩ = some (.int .i64 z) := (f2.cell 0).trans rfl
  go_upto_region 19 with (first
    | (go_at_call 31; refine (in_yes y 0 l.length (by omega) (by omega) _).mono ?_; rintro e w17 ⟨rfl, h17⟩; subst w17)
    | (go_at_call 32; refine (HGT.out A6 c6 hc6 _ (Sl.of_own ho)).mono ?_; rintro e w18 ⟨rfl, rfl⟩))
  have c10 : W16.cell? ⟨g0, 0, none⟩ = some (.slice A1 (pack l2).length c1) := (r1.cell 0).trans rfl
  have c11 : W16.cell? ⟨g0, 1, none⟩ = some (.int .i64 (l2.length : Int)) := (r1.cell 1).trans rfl
  obtain ⟨i0, hi, hz0, hz1, hz2⟩ := info_parts infoI
  have hln2 : l2.length = l.length + s := by rw [E2.out, List.length_append, digB_length]
  have HLN2 := Lib.hid hln2
  have hil : il l2 = il l ++ il (digB v s) := by rw [E2.out, il_append]
  have HIL := Lib.hid hil
  have hl2m : l2.length ≤ 1000000 := by omega
  clear hln2 hil
  have hsum : l.length + s ≤ maxLen := by unfold maxLen; omega
  have hby8 : (l.length + s) * 8 ≤ 140737488355328 := by omega
  have m0 : g0 < b7 := by omega
  have m1 : g1 < b7 := by omega
  have k0 : Below b7 W16 W16.drew := (Below.refl b7 W16).drew
  have m4 : w.heap.size ≤ b7 := by omega
  go_region_law (first
    | (refine step_appW _ (by (try unfold Region.wanted); (try unfold yielded); (try unfold Act.put); simp) (.tmp 135) (.tmp 137) _ rfl b7 3 i0 (.int .i64 0) 8 Try.underlying35 hi hz0 hz1 hz2 rfl (.slice A6 l.length c6) l.length (il l) rfl ho7 w7.heap.size A7 s c7 (il (digB v s)) rfl hs7 (il_one _) hsum hby8 hsz7 ?_; intro v8 w8 hown8 hg8; obtain ⟨A8, c8, hv8, h81, h82⟩ := own_form hown8; subst hv8; have kk8 := blw_grown kk7 hg8 hsz7 ho7 (Nat.le_refl _); have r18 := r1.below kk8 m0; have e80 : w8.cell? ⟨g0, 0, none⟩ = some (.slice A1 (pack l2).length c1) := (r18.cell 0).trans rfl; have e81 : w8.cell? ⟨g0, 1, none⟩ = some (.int .i64 (l2.length : Int)) := (r18.cell 1).trans rfl; have hs8 : Sl w8 w8.heap.size A8 (l.length + s) (il l2) := (by rw [HIL.out]; exact Sl.of_own hown8); have hsz8 : b7 ≤ w8.heap.size := Nat.le_trans n4 kk8.size)
    | (go_simp; go_at_call 30; go_must (refine (HGA.out W16.drew).mono ?_; rintro e w7 ⟨A7, c7, rfl, hc7, hs7, hb7⟩; have kk7 : Below b7 W16 w7 := blw_call k0 n4 hb7; have r17 := r1.below kk7 m0; have e70 : w7.cell? ⟨g0, 0, none⟩ = some (.slice A1 (pack l2).length c1) := (r17.cell 0).trans rfl; have e71 : w7.cell? ⟨g0, 1, none⟩ = some (.int .i64 (l2.length : Int)) := (r17.cell 1).trans rfl; have ho7 := own_below (w := W16.drew) ho hb7; have hsz7 : b7 ≤ w7.heap.size := Nat.le_trans n4 kk7.size))
    | (go_simp; go_at_call 18; go_must (refine (packed_any l2 hl2m A8 c8 (l.length + s) HLN2.out.symm w8 hs8).mono ?_; rintro e w12 ⟨A9, c9, rfl, s9, hb12⟩; have kk9 := blw_call kk8 hsz8 hb12; have r19 := r1.below kk9 m0; have e90 : w12.cell? ⟨g0, 0, none⟩ = some (.slice A1 (pack l2).length c1) := (r19.cell 0).trans rfl; have e91 : w12.cell? ⟨g0, 1, none⟩ = some (.int .i64 (l2.length : Int)) := (r19.cell 1).trans rfl; have hsz9 : b7 ≤ w12.heap.size := Nat.le_trans n4 kk9.size))
    | (go_simp; go_at_call 17; go_must (refine (same_pack l2 _ A1 A9 c1 c9 w12 ((s1.below (kk9.mono (Nat.le_of_lt n3))).wider (Nat.le_trans (Nat.le_of_lt n3) hsz9)) s9).mono ?_; rintro e w13 ⟨rfl, hb13⟩; have kk13 := blw_call kk9 hsz9 hb13; have b2 : w13.cell? ⟨g1, 0, none⟩ = some (.int .i64 z) := ((f2.below kk13 m1).cell 0).trans rfl; have f2n := f2.below kk13 m1; have hbn : Below w.heap.size w w13 := hb.trans (kk13.mono m4))))
  all_goals
    simp only [List.getElem_toArray, List.getElem_cons_succ, List.getElem_cons_zero, Act.put, List.setIfInBounds_toArray, List.set_cons_succ, List.set_cons_zero]
    go_upto_region 22 with (fail)
    go_region_held3 (fun W => IsRow W g1 2 ∧ rowAt W g1 = flt z (-2))
      (first
        | exact ⟨f2n.drew.is rfl, f2n.drew.at⟩
        | exact ⟨(f2n.drew.below hb22 f2n.lt).is rfl, (f2n.drew.below hb22 f2n.lt).at⟩)
      (first
        | (go_at_call 16; refine (at_any z (-2) _).mono ?_; rintro e w22 ⟨rfl, hb22⟩))
    all_goals
      go_wp2
      go_ret
      exact ⟨rfl, hbn.drew.trans (hb22.mono hbn.size)⟩
end Go.Proofs.Ytbahkidkpbabdaa.lawGam
