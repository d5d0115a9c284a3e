/-
  The walks of LzMoreDictionaryCostsNoMore.
-/
import Derived.Test.YtahihgmlkcbfiaaLzRd
namespace Go.Proofs.Ytahihgmlkcbfiaa.lawLzMore
open Go.RowKit

set_option maxRecDepth 100000 in
set_option maxHeartbeats 8000000 in
theorem walk_bb (H : LZ) (L Mr E : List UInt8) (N M D : Nat) (hN : N = L.length) (hM : M = Mr.length) (hD : D = E.length) (_hNs : N ≤ 1048576) (hMs : M ≤ 1048576) (hDs : D ≤ 1048576) (h1 : (szF N 1024 D).1 ≠ 0) (h2 : (szF N 1024 (M + D)).1 ≠ 0) (A B C : Option Addr) (ca cb cc : Nat) (w : World) (hA : Sl w w.heap.size A N (bl L)) (hB : Sl w w.heap.size B M (bl Mr)) (hC : Sl w w.heap.size C D (bl E)) :
    Calls Try.prog 7 #[.slice A N ca, .slice B M cb, .slice C D cc] w fun e w' => e = .returned (.bool true) ∧ Below w.heap.size w w' := by
  obtain ⟨i0, hi, hz0, hz1, hz2⟩ := info_parts infoU8
  have hp1 := fun w => H.parseBad N D A C ca cc w h1
  obtain ⟨k1, i1, hk1⟩ : ∃ k i, szF N 1024 D = (k, i) := ⟨_, _, rfl⟩
  rw [hk1] at hp1 h1
  simp only at hp1 h1
  have s1 : (k1 == 0) = false := beq_eq_false_iff_ne.2 h1
  have s1' : (k1 != 0) = true := bne_iff_ne.2 h1
  have HP1 := Lib.hid hp1
  clear hp1 hk1 h1
  have hp2 := fun Z z w => H.parseBad N (M + D) A Z ca z w h2
  obtain ⟨k2, i2, hk2⟩ : ∃ k i, szF N 1024 (M + D) = (k, i) := ⟨_, _, rfl⟩
  rw [hk2] at hp2 h2
  simp only at hp2 h2
  have s2 : (k2 == 0) = false := beq_eq_false_iff_ne.2 h2
  have s2' : (k2 != 0) = true := bne_iff_ne.2 h2
  have HP2 := Lib.hid hp2
  clear hp2 hk2 h2
  have HAC := Lib.hid (And.intro hA (And.intro hB hC))
  have HL := Lib.hid (And.intro hN (And.intro hM hD))
  have hbX : bl Mr ++ bl E = bl (Mr ++ E) := (bl_append _ _).symm
  clear hA hB hC hN hM hD
  go_enter Try.func7, Try.ntmps7
  go_upto_region 3 with (first
    | (at_builtin; refine wpList_app _ rfl _ _ _ rfl w.heap.size 5 i0 (.int .u8 0) 1 Try.underlying22 hi hz0 hz1 hz2 rfl _ 0 _ rfl (World.ownsRow_nil _ _ _ _) _ _ M _ _ rfl HAC.out.2.1 (fun u hu => bl_one _ u hu) (by unfold maxLen; omega) (by omega) (Nat.le_refl _) ?_; intro v1 w1 hown1 hg1))
  have hb1 := blw_grown (Below.refl w.heap.size w) hg1 (Nat.le_refl _) (World.ownsRow_nil w w.heap.size 5 1) (Nat.le_refl _)
  rw [List.nil_append, Nat.zero_add] at hown1
  have HV1 := Lib.hid hown1
  clear hown1 hg1
  obtain ⟨A1, c1, hv1, _, _⟩ := own_form HV1.out
  subst hv1
  go_upto_region 4 with (first
    | (at_builtin; refine wpList_app _ rfl _ _ _ rfl w.heap.size 5 i0 (.int .u8 0) 1 Try.underlying22 hi hz0 hz1 hz2 rfl _ M _ rfl HV1.out _ _ D _ _ rfl (HAC.out.2.2.below hb1) (fun u hu => bl_one _ u hu) (by unfold maxLen; omega) (by omega) hb1.size ?_; intro v2 w2 hown2 hg2))
  have hb2 := blw_grown hb1 hg2 hb1.size HV1.out (Nat.le_refl _)
  rw [hbX] at hown2
  obtain ⟨A2, c2, hv2, _, _⟩ := own_form hown2
  subst hv2
  have sZ := Sl.of_own hown2
  have sA := (HAC.out.1.below hb2).wider hb2.size
  have sC := (HAC.out.2.2.below hb2).wider hb2.size
  clear hown2 hg2 HV1 hb1 HAC hbX
  go_upto_region 5 with (first
    | (go_at_call 11; refine (HP1.out _).mono ?_; rintro e w3 ⟨⟨G1, d1, rfl⟩, hb3⟩)
    | (refine wpList_store_row rfl 25 _ _ rfl w3.heap.size (flt k1 i1) rfl rfl 25 (flt 0 0) ((Row.newEq _ _ _ _ _ rfl rfl)) (by rw [flt_size]; exact cellsF) rfl (all_one (flt_one _ _)) ?_))
  have hkw := blw_new1 w3 (.cells #[.int .i64 0, .int .i64 0] 25) (flt k1 i1)
  have hk2 := up_call hb3 hkw
  refine wp_world (F := fun W => Row W w3.heap.size 25 (flt k1 i1) ∧ Sl W W.heap.size A2 (M + D) (bl (Mr ++ E)) ∧ Sl W W.heap.size A N (bl L) ∧ Below w.heap.size w W) ⟨row_new1 _ _ _ _, sZ.up hk2, sA.up hk2, up_call hb2 hk2⟩ ?_
  generalize w3.heap.size = g9
  clear hkw hk2 hb3 hb2 sZ sA sC HP1
  rintro W3 ⟨r9, sZ, sA, hb⟩
  go_upto_region 6 with (first
    | (go_at_call 11; refine (HP2.out _ _ _).mono ?_; rintro e w4 ⟨⟨G2, d2, rfl⟩, hb4⟩)
    | (refine wpList_store_row rfl 25 _ _ rfl w4.heap.size (flt k2 i2) rfl rfl 25 (flt 0 0) ((Row.newEq _ _ _ _ _ rfl rfl)) (by rw [flt_size]; exact cellsF) rfl (all_one (flt_one _ _)) ?_))
  have hkw := blw_new1 w4 (.cells #[.int .i64 0, .int .i64 0] 25) (flt k2 i2)
  have hk2 := up_call hb4 hkw
  refine wp_world (F := fun W => Row W w4.heap.size 25 (flt k2 i2) ∧ Row W g9 25 (flt k1 i1) ∧ Below w.heap.size w W) ⟨row_new1 _ _ _ _, r9.below hk2 r9.lt, up_call hb hk2⟩ ?_
  generalize w4.heap.size = g11
  clear hkw hk2 hb4 sZ sA r9 hb HP2
  rintro W4 ⟨r11, r9, hb⟩
  go_wp2_with (first
    | (go_at_call 13; refine (matches_any H W4).mono ?_; rintro e w5 ⟨rfl, hb5⟩; have hc5 := hb5; have k95 : w5.cell? ⟨g9, 0, none⟩ = some (.int .i64 k1) := ((r9.below hc5 r9.lt).cell 0).trans rfl; have k115 : w5.cell? ⟨g11, 0, none⟩ = some (.int .i64 k2) := ((r11.below hc5 r11.lt).cell 0).trans rfl)
    | (go_at_call 13; refine (matches_any H w5).mono ?_; rintro e w6 ⟨rfl, hb6⟩; have hc6 := up_call hb5 hb6; have k96 : w6.cell? ⟨g9, 0, none⟩ = some (.int .i64 k1) := ((r9.below hc6 r9.lt).cell 0).trans rfl; have k116 : w6.cell? ⟨g11, 0, none⟩ = some (.int .i64 k2) := ((r11.below hc6 r11.lt).cell 0).trans rfl))
  go_ret
  exact ⟨rfl, up_call (up_call hb hb5) hb6⟩

set_option maxRecDepth 100000 in
set_option maxHeartbeats 8000000 in
theorem walk_gb (H : LZ) (L Mr E : List UInt8) (N M D : Nat) (hN : N = L.length) (hM : M = Mr.length) (hD : D = E.length) (_hNs : N ≤ 1048576) (hMs : M ≤ 1048576) (hDs : D ≤ 1048576) (h1 : ¬ (szF N 1024 D).1 ≠ 0) (h2 : (szF N 1024 (M + D)).1 ≠ 0) (A B C : Option Addr) (ca cb cc : Nat) (w : World) (hA : Sl w w.heap.size A N (bl L)) (hB : Sl w w.heap.size B M (bl Mr)) (hC : Sl w w.heap.size C D (bl E)) :
    Calls Try.prog 7 #[.slice A N ca, .slice B M cb, .slice C D cc] w fun e w' => e = .returned (.bool true) ∧ Below w.heap.size w w' := by
  obtain ⟨i0, hi, hz0, hz1, hz2⟩ := info_parts infoU8
  obtain ⟨hN2, hD2⟩ := lawLzRound.sz_good h1
  have HP1 := Lib.hid (fun w hA hC => H.parse L E N D hN hD hN2 hD2 A C ca cc w hA hC)
  clear h1
  have hp2 := fun Z z w => H.parseBad N (M + D) A Z ca z w h2
  obtain ⟨k2, i2, hk2⟩ : ∃ k i, szF N 1024 (M + D) = (k, i) := ⟨_, _, rfl⟩
  rw [hk2] at hp2 h2
  simp only at hp2 h2
  have s2 : (k2 == 0) = false := beq_eq_false_iff_ne.2 h2
  have s2' : (k2 != 0) = true := bne_iff_ne.2 h2
  have HP2 := Lib.hid hp2
  clear hp2 hk2 h2
  have HAC := Lib.hid (And.intro hA (And.intro hB hC))
  have HL := Lib.hid (And.intro hN (And.intro hM hD))
  have hbX : bl Mr ++ bl E = bl (Mr ++ E) := (bl_append _ _).symm
  clear hA hB hC hN hM hD
  go_enter Try.func7, Try.ntmps7
  go_upto_region 3 with (first
    | (at_builtin; refine wpList_app _ rfl _ _ _ rfl w.heap.size 5 i0 (.int .u8 0) 1 Try.underlying22 hi hz0 hz1 hz2 rfl _ 0 _ rfl (World.ownsRow_nil _ _ _ _) _ _ M _ _ rfl HAC.out.2.1 (fun u hu => bl_one _ u hu) (by unfold maxLen; omega) (by omega) (Nat.le_refl _) ?_; intro v1 w1 hown1 hg1))
  have hb1 := blw_grown (Below.refl w.heap.size w) hg1 (Nat.le_refl _) (World.ownsRow_nil w w.heap.size 5 1) (Nat.le_refl _)
  rw [List.nil_append, Nat.zero_add] at hown1
  have HV1 := Lib.hid hown1
  clear hown1 hg1
  obtain ⟨A1, c1, hv1, _, _⟩ := own_form HV1.out
  subst hv1
  go_upto_region 4 with (first
    | (at_builtin; refine wpList_app _ rfl _ _ _ rfl w.heap.size 5 i0 (.int .u8 0) 1 Try.underlying22 hi hz0 hz1 hz2 rfl _ M _ rfl HV1.out _ _ D _ _ rfl (HAC.out.2.2.below hb1) (fun u hu => bl_one _ u hu) (by unfold maxLen; omega) (by omega) hb1.size ?_; intro v2 w2 hown2 hg2))
  have hb2 := blw_grown hb1 hg2 hb1.size HV1.out (Nat.le_refl _)
  rw [hbX] at hown2
  obtain ⟨A2, c2, hv2, _, _⟩ := own_form hown2
  subst hv2
  have sZ := Sl.of_own hown2
  have sA := (HAC.out.1.below hb2).wider hb2.size
  have sC := (HAC.out.2.2.below hb2).wider hb2.size
  clear hown2 hg2 HV1 hb1 HAC hbX
  go_upto_region 5 with (first
    | (go_at_call 11; refine (HP1.out _ sA sC).mono ?_; rintro e w3 ⟨⟨G1, d1, K, t, hT, rfl, sP⟩, hb3⟩)
    | (refine wpList_store_row rfl 25 _ _ rfl w3.heap.size (flt 0 0) rfl rfl 25 (flt 0 0) ((Row.newEq _ _ _ _ _ rfl rfl)) (by rw [flt_size]; exact cellsF) rfl (all_one (flt_one _ _)) ?_))
  have hplen := path_len hT N 0
  have HT := Lib.hid hT
  obtain ⟨o, ho⟩ : ∃ o, o = pathT t N N 0 := ⟨_, rfl⟩
  obtain ⟨n, hn⟩ : ∃ n, n = o.length := ⟨_, rfl⟩
  have HO := Lib.hid (And.intro ho hn)
  rw [← ho] at hplen sP ⊢
  rw [← hn] at hplen sP ⊢
  have hkw := blw_new1 w3 (.cells #[.int .i64 0, .int .i64 0] 25) (flt 0 0)
  have sP := sP.up hkw
  clear hkw ho hn hT
  have hkw := blw_new1 w3 (.cells #[.int .i64 0, .int .i64 0] 25) (flt 0 0)
  have hk2 := up_call hb3 hkw
  refine wp_world (F := fun W => Row W w3.heap.size 25 (flt 0 0) ∧ Sl W W.heap.size A2 (M + D) (bl (Mr ++ E)) ∧ Sl W W.heap.size A N (bl L) ∧ Tks W W.heap.size G1 n (tz o) ∧ Below w.heap.size w W) ⟨row_new1 _ _ _ _, sZ.up hk2, sA.up hk2, sP, up_call hb2 hk2⟩ ?_
  generalize w3.heap.size = g9
  clear hkw hk2 hb3 hb2 sZ sA sC sP HP1
  rintro W3 ⟨r9, sZ, sA, sP, hb⟩
  go_upto_region 6 with (first
    | (go_at_call 11; refine (HP2.out _ _ _).mono ?_; rintro e w4 ⟨⟨G2, d2, rfl⟩, hb4⟩)
    | (refine wpList_store_row rfl 25 _ _ rfl w4.heap.size (flt k2 i2) rfl rfl 25 (flt 0 0) ((Row.newEq _ _ _ _ _ rfl rfl)) (by rw [flt_size]; exact cellsF) rfl (all_one (flt_one _ _)) ?_))
  have hkw := blw_new1 w4 (.cells #[.int .i64 0, .int .i64 0] 25) (flt k2 i2)
  have hk2 := up_call hb4 hkw
  refine wp_world (F := fun W => Row W w4.heap.size 25 (flt k2 i2) ∧ Row W g9 25 (flt 0 0) ∧ Tks W W.heap.size G1 n (tz o) ∧ Below w.heap.size w W) ⟨row_new1 _ _ _ _, r9.below hk2 r9.lt, sP.up hk2, up_call hb hk2⟩ ?_
  generalize w4.heap.size = g11
  clear hkw hk2 hb4 sZ sA r9 hb sP HP2
  rintro W4 ⟨r11, r9, sP, hb⟩
  go_wp2_with (first
    | (go_at_call 13; refine (matches_any H W4).mono ?_; rintro e w5 ⟨rfl, hb5⟩; have hc5 := hb5; have k95 : w5.cell? ⟨g9, 0, none⟩ = some (.int .i64 0) := ((r9.below hc5 r9.lt).cell 0).trans rfl; have k115 : w5.cell? ⟨g11, 0, none⟩ = some (.int .i64 k2) := ((r11.below hc5 r11.lt).cell 0).trans rfl)
    | (go_at_call 13; refine (matches_any H w5).mono ?_; rintro e w6 ⟨rfl, hb6⟩; have hc6 := up_call hb5 hb6; have k96 : w6.cell? ⟨g9, 0, none⟩ = some (.int .i64 0) := ((r9.below hc6 r9.lt).cell 0).trans rfl; have k116 : w6.cell? ⟨g11, 0, none⟩ = some (.int .i64 k2) := ((r11.below hc6 r11.lt).cell 0).trans rfl))
  go_ret
  exact ⟨rfl, up_call (up_call hb hb5) hb6⟩

set_option maxRecDepth 100000 in
set_option maxHeartbeats 8000000 in
theorem walk_gg (H : LZ) (L Mr E : List UInt8) (N M D : Nat) (hN : N = L.length) (hM : M = Mr.length) (hD : D = E.length) (hNs : N ≤ 1048576) (hMs : M ≤ 1048576) (_hDs : D ≤ 1048576) (h1 : ¬ (szF N 1024 D).1 ≠ 0) (h2 : ¬ (szF N 1024 (M + D)).1 ≠ 0) (A B C : Option Addr) (ca cb cc : Nat) (w : World) (hA : Sl w w.heap.size A N (bl L)) (hB : Sl w w.heap.size B M (bl Mr)) (hC : Sl w w.heap.size C D (bl E)) :
    Calls Try.prog 7 #[.slice A N ca, .slice B M cb, .slice C D cc] w fun e w' => e = .returned (.bool true) ∧ Below w.heap.size w w' := by
  obtain ⟨i0, hi, hz0, hz1, hz2⟩ := info_parts infoU8
  obtain ⟨hN2, hD2⟩ := lawLzRound.sz_good h1
  have HP1 := Lib.hid (fun w hA hC => H.parse L E N D hN hD hN2 hD2 A C ca cc w hA hC)
  clear h1
  obtain ⟨hN3, hMD2⟩ := lawLzRound.sz_good h2
  have HP2 := Lib.hid (fun Z z w hA hZ => H.parse L (Mr ++ E) N (M + D) hN (by rw [List.length_append, ← hM, ← hD]) hN3 hMD2 A Z ca z w hA hZ)
  clear h2
  have HAC := Lib.hid (And.intro hA (And.intro hB hC))
  have HL := Lib.hid (And.intro hN (And.intro hM hD))
  have hbX : bl Mr ++ bl E = bl (Mr ++ E) := (bl_append _ _).symm
  clear hA hB hC hN hM hD
  go_enter Try.func7, Try.ntmps7
  go_upto_region 3 with (first
    | (at_builtin; refine wpList_app _ rfl _ _ _ rfl w.heap.size 5 i0 (.int .u8 0) 1 Try.underlying22 hi hz0 hz1 hz2 rfl _ 0 _ rfl (World.ownsRow_nil _ _ _ _) _ _ M _ _ rfl HAC.out.2.1 (fun u hu => bl_one _ u hu) (by unfold maxLen; omega) (by omega) (Nat.le_refl _) ?_; intro v1 w1 hown1 hg1))
  have hb1 := blw_grown (Below.refl w.heap.size w) hg1 (Nat.le_refl _) (World.ownsRow_nil w w.heap.size 5 1) (Nat.le_refl _)
  rw [List.nil_append, Nat.zero_add] at hown1
  have HV1 := Lib.hid hown1
  clear hown1 hg1
  obtain ⟨A1, c1, hv1, _, _⟩ := own_form HV1.out
  subst hv1
  go_upto_region 4 with (first
    | (at_builtin; refine wpList_app _ rfl _ _ _ rfl w.heap.size 5 i0 (.int .u8 0) 1 Try.underlying22 hi hz0 hz1 hz2 rfl _ M _ rfl HV1.out _ _ D _ _ rfl (HAC.out.2.2.below hb1) (fun u hu => bl_one _ u hu) (by unfold maxLen; omega) (by omega) hb1.size ?_; intro v2 w2 hown2 hg2))
  have hb2 := blw_grown hb1 hg2 hb1.size HV1.out (Nat.le_refl _)
  rw [hbX] at hown2
  obtain ⟨A2, c2, hv2, _, _⟩ := own_form hown2
  subst hv2
  have sZ := Sl.of_own hown2
  have sA := (HAC.out.1.below hb2).wider hb2.size
  have sC := (HAC.out.2.2.below hb2).wider hb2.size
  clear hown2 hg2 HV1 hb1 HAC hbX
  go_upto_region 5 with (first
    | (go_at_call 11; refine (HP1.out _ sA sC).mono ?_; rintro e w3 ⟨⟨G1, d1, K, t, hT, rfl, sP⟩, hb3⟩)
    | (refine wpList_store_row rfl 25 _ _ rfl w3.heap.size (flt 0 0) rfl rfl 25 (flt 0 0) ((Row.newEq _ _ _ _ _ rfl rfl)) (by rw [flt_size]; exact cellsF) rfl (all_one (flt_one _ _)) ?_))
  have hplen := path_len hT N 0
  have HT := Lib.hid hT
  obtain ⟨o, ho⟩ : ∃ o, o = pathT t N N 0 := ⟨_, rfl⟩
  obtain ⟨n, hn⟩ : ∃ n, n = o.length := ⟨_, rfl⟩
  have HO := Lib.hid (And.intro ho hn)
  rw [← ho] at hplen sP ⊢
  rw [← hn] at hplen sP ⊢
  have hkw := blw_new1 w3 (.cells #[.int .i64 0, .int .i64 0] 25) (flt 0 0)
  have sP := sP.up hkw
  clear hkw ho hn hT
  have hkw := blw_new1 w3 (.cells #[.int .i64 0, .int .i64 0] 25) (flt 0 0)
  have hk2 := up_call hb3 hkw
  refine wp_world (F := fun W => Row W w3.heap.size 25 (flt 0 0) ∧ Sl W W.heap.size A2 (M + D) (bl (Mr ++ E)) ∧ Sl W W.heap.size A N (bl L) ∧ Tks W W.heap.size G1 n (tz o) ∧ Below w.heap.size w W) ⟨row_new1 _ _ _ _, sZ.up hk2, sA.up hk2, sP, up_call hb2 hk2⟩ ?_
  generalize w3.heap.size = g9
  clear hkw hk2 hb3 hb2 sZ sA sC sP HP1
  rintro W3 ⟨r9, sZ, sA, sP, hb⟩
  go_upto_region 6 with (first
    | (go_at_call 11; refine (HP2.out _ _ _ sA sZ).mono ?_; rintro e w4 ⟨⟨G2, d2, K2, t2, hT2, rfl, sR⟩, hb4⟩)
    | (refine wpList_store_row rfl 25 _ _ rfl w4.heap.size (flt 0 0) rfl rfl 25 (flt 0 0) ((Row.newEq _ _ _ _ _ rfl rfl)) (by rw [flt_size]; exact cellsF) rfl (all_one (flt_one _ _)) ?_))
  have hplen2 := path_len hT2 N 0
  have HT2 := Lib.hid hT2
  obtain ⟨o2, ho2⟩ : ∃ o, o = pathT t2 N N 0 := ⟨_, rfl⟩
  obtain ⟨n2, hn2⟩ : ∃ n, n = o2.length := ⟨_, rfl⟩
  have HO2 := Lib.hid (And.intro ho2 hn2)
  rw [← ho2] at hplen2 sR ⊢
  rw [← hn2] at hplen2 sR ⊢
  have hkw := blw_new1 w4 (.cells #[.int .i64 0, .int .i64 0] 25) (flt 0 0)
  have sR := sR.up hkw
  clear hkw ho2 hn2 hT2
  have hkw := blw_new1 w4 (.cells #[.int .i64 0, .int .i64 0] 25) (flt 0 0)
  have hk2 := up_call hb4 hkw
  refine wp_world (F := fun W => Row W w4.heap.size 25 (flt 0 0) ∧ Row W g9 25 (flt 0 0) ∧ Tks W W.heap.size G1 n (tz o) ∧ Tks W W.heap.size G2 n2 (tz o2) ∧ Below w.heap.size w W) ⟨row_new1 _ _ _ _, r9.below hk2 r9.lt, sP.up hk2, sR, up_call hb hk2⟩ ?_
  generalize w4.heap.size = g11
  clear hkw hk2 hb4 sZ sA r9 hb sP sR HP2
  rintro W4 ⟨r11, r9, sP, sR, hb⟩
  have hXl : (E ++ L).length = D + N := by rw [List.length_append, ← HL.out.1, ← HL.out.2.2]
  have hXl2 : (Mr ++ E ++ L).length = M + D + N := by rw [List.length_append, List.length_append, ← HL.out.1, ← HL.out.2.1, ← HL.out.2.2]
  have hgood := good_path hXl hN2 hD2 HT.out N 0
  have hgood2 := good_path hXl2 hN2 hMD2 HT2.out N 0
  have hT3 : Tab (Mr ++ (E ++ L)) (Mr.length + D) N K2 t2 0 := by
    rw [← List.append_assoc, ← HL.out.2.1]
    exact HT2.out
  have hle : costT (pathT t2 N N 0) ≤ costT (pathT t N N 0) := by
    rw [cost_path hXl HT.out N 0 (by omega) (Nat.zero_le _), cost_path hXl2 HT2.out N 0 (by omega) (Nat.zero_le _)]
    exact cost_more hXl HT.out hT3 N 0 rfl
  have hcl := costT_le _ hgood
  rw [← HO.out.1] at hgood hle hcl
  rw [← HO2.out.1] at hgood2 hle
  rw [← HO.out.2] at hcl
  have HC1 := Lib.hid (fun w hS => H.cost o hgood n HO.out.2 (by omega) G1 d1 w hS)
  have HC2 := Lib.hid (fun w hS => H.cost o2 hgood2 n2 HO2.out.2 (by omega) G2 d2 w hS)
  obtain ⟨c1v, hc1⟩ : ∃ c, c = costT o := ⟨_, rfl⟩
  obtain ⟨c2v, hc2⟩ : ∃ c, c = costT o2 := ⟨_, rfl⟩
  rw [← hc1] at HC1 hle hcl
  rw [← hc2] at HC2 hle
  clear hgood hgood2 hT3 hXl hXl2 hc1 hc2
  go_upto_region 9 with (first
    | (go_at_call 13; refine (matches_any H W4).mono ?_; rintro e w5 ⟨rfl, hb5⟩; have hc5 := hb5; have k95 : w5.cell? ⟨g9, 0, none⟩ = some (.int .i64 0) := ((r9.below hc5 r9.lt).cell 0).trans rfl; have k115 : w5.cell? ⟨g11, 0, none⟩ = some (.int .i64 0) := ((r11.below hc5 r11.lt).cell 0).trans rfl; have pP := sP.up hb5; have pR := sR.up hb5)
    | (go_at_call 21; refine (HC1.out _ pP).mono ?_; rintro e w6 ⟨rfl, hb6⟩)
    | (refine wpList_store_row rfl 25 _ _ rfl w6.heap.size (flt 0 0) rfl rfl 25 (flt 0 0) ((Row.newEq _ _ _ _ _ rfl rfl)) (by rw [flt_size]; exact cellsF) rfl (all_one (flt_one _ _)) ?_))
  have hkw := blw_new1 w6 (.cells #[.int .i64 0, .int .i64 0] 25) (flt 0 0)
  have hk2 := up_call hb6 hkw
  refine wp_world (F := fun W => Row W w6.heap.size 25 (flt 0 0) ∧ Tks W W.heap.size G2 n2 (tz o2) ∧ Below w.heap.size w W) ⟨row_new1 _ _ _ _, pR.up hk2, up_call (up_call hb hb5) hk2⟩ ?_
  generalize w6.heap.size = g13
  clear hkw hk2 hb6 hb5 hc5 k95 k115 pP pR sP sR r9 r11 hb HC1 w6 w5
  rintro W6 ⟨r13, sR, hb⟩
  go_upto_region 10 with (first
    | (go_at_call 21; refine (HC2.out _ sR).mono ?_; rintro e w7 ⟨rfl, hb7⟩)
    | (refine wpList_store_row rfl 25 _ _ rfl w7.heap.size (flt 0 0) rfl rfl 25 (flt 0 0) ((Row.newEq _ _ _ _ _ rfl rfl)) (by rw [flt_size]; exact cellsF) rfl (all_one (flt_one _ _)) ?_))
  have hkw := blw_new1 w7 (.cells #[.int .i64 0, .int .i64 0] 25) (flt 0 0)
  have hk2 := up_call hb7 hkw
  refine wp_world (F := fun W => Row W w7.heap.size 25 (flt 0 0) ∧ Row W g13 25 (flt 0 0) ∧ Below w.heap.size w W) ⟨row_new1 _ _ _ _, r13.below hk2 r13.lt, up_call hb hk2⟩ ?_
  generalize w7.heap.size = g15
  clear hkw hk2 hb7 sR r13 hb HC2 w7
  rintro W7 ⟨r15, r13, hb⟩
  have q13 : W7.cell? ⟨g13, 0, none⟩ = some (.int .i64 0) := (r13.cell 0).trans rfl
  have q15 : W7.cell? ⟨g15, 0, none⟩ = some (.int .i64 0) := (r15.cell 0).trans rfl
  have a1 : decide ((c2v : Int) ≤ (c1v : Int)) = true := decide_eq_true (by omega)
  have a2 : decide (c2v ≤ c1v) = true := decide_eq_true hle
  go_wp2
  go_ret
  exact ⟨rfl, hb⟩

theorem no_bg {N M D : Nat} (h1 : (szF N 1024 D).1 ≠ 0) : (szF N 1024 (M + D)).1 ≠ 0 := by
  unfold szF at h1 ⊢
  by_cases a : 1024 < N
  · rw [if_pos a]
    decide
  · rw [if_neg a] at h1 ⊢
    by_cases b : 512 < D
    · rw [if_pos (by omega)]
      decide
    · rw [if_neg b] at h1
      exact absurd rfl h1
end Go.Proofs.Ytahihgmlkcbfiaa.lawLzMore
