/-
  The statements' closed examples of package bits: 'strings' answers true.
-/
import Derived.Test.YtbahkidkpbabdaaRGam
import Derived.Test.YtbahkidkpbabdaaGNew
namespace Go.Proofs.Ytbahkidkpbabdaa
open Go.RowKit

/-- the bits 100101 and 0101 and 0101010 -/
def x1 : List Bool := [true, false, false, true, false, true]
def x2 : List Bool := [false, true, false, true]
def x3 : List Bool := [false, true, false, true, false, true, false]
theorem make_x1 (w : World) : Calls Try.prog 11 #[.string ⟨#[49, 48, 48, 49, 48, 49]⟩] w (BitsOut w x1) := by
  refine (make_upto ⟨#[49, 48, 48, 49, 48, 49]⟩ (by decide) 6 (by decide) ?_ (fun h => absurd h (by decide)) w).mono fun e w' h => h.1 rfl
  intro i h _
  have h6 : i < 6 := h
  rcases i with _ | _ | _ | _ | _ | _ | i
  · exact .inr rfl
  · exact .inl rfl
  · exact .inl rfl
  · exact .inr rfl
  · exact .inl rfl
  · exact .inr rfl
  · omega
theorem x1_length : x1.length = 6 := rfl
theorem readg_x1 (A : Option Addr) (c : Nat) (w : World) (hS : Sl w w.heap.size A (pack x1).length (bl (pack x1))) :
    Calls Try.prog 28 #[.agg (bcs A (pack x1).length c x1.length), .int .i64 1] w fun e w' => e = .returned (.tuple #[.int .i64 5, .int .i64 6, .agg (flt 0 0)]) ∧ Below w.heap.size w w' := by
  have hz : Zr x1 1 31 2 := ⟨by decide, by decide, fun i hi => by
    rcases i with _ | _ | i
    · rfl
    · rfl
    · omega, .inr (.inr rfl)⟩
  exact readg_ok (pack x1) x1 (pack_rep x1) (by decide) 1 2 (by decide) hz (by decide) (by decide) A c w hS
theorem append_x2 (w : World) : Calls Try.prog 19 #[.agg (bcs none 0 0 0), .int .i64 5, .int .i64 4] w (BitsOut w x2) := by
  have h := append_ok [] [] Rep.nil (by decide) 5 4 (by decide) (by decide) (by decide) none 0 w (by rw [bl_nil]; exact Sl.nil _ _ _)
  exact h
theorem gamma_x3 (A : Option Addr) (c : Nat) (w : World) (hS : Sl w w.heap.size A (pack x2).length (bl (pack x2))) :
    Calls Try.prog 27 #[.agg (bcs A (pack x2).length c x2.length), .int .i64 2] w (BitsOut w x3) := by
  have h := gamma_ok (pack x2) x2 (pack_rep x2) (by decide) 2 (by decide) (by decide) 3 (by rw [gsz_nat 2 (by decide)]; decide +kernel) (by decide) A c w hS
  have e : x2 ++ digB 2 3 = x3 := by decide
  rw [e] at h
  exact h
theorem text_x3 (A : Option Addr) (c : Nat) (w : World) (hS : Sl w w.heap.size A (pack x3).length (bl (pack x3))) :
    Calls Try.prog 12 #[.agg (bcs A (pack x3).length c x3.length)] w fun e w' => e = .returned (.tuple #[.string ⟨#[48, 49, 48, 49, 48, 49, 48]⟩, .agg (flt 0 0)]) ∧ Below w.heap.size w w' :=
  text_ok (pack x3) x3 (pack_rep x3) (by decide) A c w hS
theorem size_4 (w : World) : Calls Try.prog 29 #[.int .i64 4] w fun e w' => e = .returned (.int .i64 5) ∧ w = w' :=
  gammaSize_is 4 (by decide) 5 (by rw [show (4 : Int) = ((4 : Nat) : Int) from rfl, gsz_nat 4 (by decide)]; decide +kernel) w
theorem not_good16 : ¬ Good [16] 3 := by
  rintro ⟨l, h1, _, h3⟩
  have h4 : l.length = 3 := by omega
  have h5 := h3.2 3
  rw [List.getD_eq_getElem?_getD, List.getElem?_eq_none (by omega)] at h5
  exact absurd h5 (by decide)
theorem valid_16 (g : Nat) (w : World) (hS : Sl w w.heap.size (some ⟨g, 0, none⟩) 1 (bl [16])) :
    Calls Try.prog 15 #[.agg #[.slice (some ⟨g, 0, none⟩) 1 1, .int .i64 3]] w fun e w' => e = .returned (.bool false) ∧ Below w.heap.size w w' :=
  valid_no [16] 3 not_good16 _ _ w hS
theorem valid_x1 (A : Option Addr) (c : Nat) (w : World) (hS : Sl w w.heap.size A (pack x1).length (bl (pack x1))) :
    Calls Try.prog 15 #[.agg (bcs A (pack x1).length c x1.length)] w fun e w' => e = .returned (.bool true) ∧ Below w.heap.size w w' :=
  valid_yes (pack x1) x1 (pack_rep x1) (by decide) A c w hS
theorem sl16 (w : World) : Sl (w.alloc (.cells #[.int .u8 16] 5)) (w.alloc (.cells #[.int .u8 16] 5)).heap.size (some ⟨w.heap.size, 0, none⟩) 1 (bl [16]) :=
  sl_bytes w 5 #[.int .u8 16] (0, 0) [16] (by unfold bl; rfl)
attribute [irreducible] x1 x2 x3

set_option maxRecDepth 100000 in
set_option maxHeartbeats 4000000 in
theorem strings_any (w : World) : Calls Try.prog 14 #[] w fun e w' => e = .returned (.bool true) ∧ Below w.heap.size w w' := by
  have hb : Below w.heap.size w w := Below.refl _ _
  go_enter Try.func14, Try.ntmps14
  go_upto_region 2 with (first
    | (go_at_call 11; refine (make_x1 _).mono ?_; rintro e wc0 ⟨A1, c1, rfl, s1, hbc⟩)
    | (refine wpList_store_row rfl 24 _ _ rfl wc0.heap.size (bcs A1 (pack x1).length c1 x1.length) rfl rfl 24 (bcs none 0 0 0) ((Row.newEq _ _ _ _ _ rfl rfl).alloc _) (by rw [bcs_size]; exact cellsB) rfl (all_one (bcs_one _ _ _ _)) ?_)
    | (refine wpList_store_row rfl 26 _ _ rfl (wc0.heap.size + 1) (flt 0 0) rfl rfl 26 (flt 0 0) (Row.rowFar (Row.newEq _ _ _ _ _ (by simp) rfl) (by omega) _) (by rw [flt_size]; exact cellsF) rfl (all_one (flt_one _ _)) ?_))
  have hkk := fun o1 o2 x y => up_call hbc (blw_new2 wc0 o1 o2 x y)
  refine wp_world (F := fun W => Row W wc0.heap.size 24 (bcs A1 (pack x1).length c1 x1.length) ∧ Row W (wc0.heap.size + 1) 26 (flt 0 0) ∧ Sl W W.heap.size A1 (pack x1).length (bl (pack x1)) ∧ Below w.heap.size w W) ⟨row_new2a _ _ _ _ _ _ _, row_new2b _ _ _ _ _ _ _, s1.up (blw_new2 _ _ _ _ _), up_call hb (hkk _ _ _ _)⟩ ?_
  generalize wc0.heap.size = g0
  clear hkk hbc hb s1 wc0 
  rintro Wg0 ⟨r1, f1, s1, hb⟩
  go_upto_region 3 with (first
    | (refine wpList_load_row rfl 24 _ rfl g0 rfl 24 (bcs A1 (pack x1).length c1 x1.length) (0, 0) _ r1 Try.underlying24 rfl (by rw [bcs_size]; exact cellsB) ?_)
    | (go_at_call 28; refine (readg_x1 A1 c1 _ s1).mono ?_; rintro e wc1 ⟨rfl, hbc⟩)
    | (refine wpList_store_row rfl 26 _ _ rfl wc1.heap.size (flt 0 0) rfl rfl 26 (flt 0 0) (Row.newEq _ _ _ _ _ rfl rfl) (by rw [flt_size]; exact cellsF) rfl (all_one (flt_one _ _)) ?_))
  have hkk := fun o1 x => up_call hbc (blw_new1 wc1 o1 x)
  refine wp_world (F := fun W => Row W g0 24 (bcs A1 (pack x1).length c1 x1.length) ∧ Row W (g0 + 1) 26 (flt 0 0) ∧ Sl W W.heap.size A1 (pack x1).length (bl (pack x1)) ∧ Row W wc1.heap.size 26 (flt 0 0) ∧ Below w.heap.size w W) ⟨r1.below (hkk _ _) r1.lt, f1.below (hkk _ _) f1.lt, s1.up (hkk _ _), row_new1 _ _ _ _, up_call hb (hkk _ _)⟩ ?_
  generalize wc1.heap.size = g1
  clear hkk hbc hb r1 f1 s1 wc1  Wg0
  rintro Wg1 ⟨r1, f1, s1, f2, hb⟩
  go_upto_region 4 with (first
    | (go_at_call 19; refine (append_x2 _).mono ?_; rintro e wc2 ⟨A2, c2, rfl, s2, hbc⟩)
    | (refine wpList_store_row rfl 24 _ _ rfl wc2.heap.size (bcs A2 (pack x2).length c2 x2.length) rfl rfl 24 (bcs none 0 0 0) ((Row.newEq _ _ _ _ _ rfl rfl).alloc _) (by rw [bcs_size]; exact cellsB) rfl (all_one (bcs_one _ _ _ _)) ?_)
    | (refine wpList_store_row rfl 26 _ _ rfl (wc2.heap.size + 1) (flt 0 0) rfl rfl 26 (flt 0 0) (Row.rowFar (Row.newEq _ _ _ _ _ (by simp) rfl) (by omega) _) (by rw [flt_size]; exact cellsF) rfl (all_one (flt_one _ _)) ?_))
  have hkk := fun o1 o2 x y => up_call hbc (blw_new2 wc2 o1 o2 x y)
  refine wp_world (F := fun W => Row W g0 24 (bcs A1 (pack x1).length c1 x1.length) ∧ Row W (g0 + 1) 26 (flt 0 0) ∧ Row W g1 26 (flt 0 0) ∧ Sl W W.heap.size A1 (pack x1).length (bl (pack x1)) ∧ Row W wc2.heap.size 24 (bcs A2 (pack x2).length c2 x2.length) ∧ Row W (wc2.heap.size + 1) 26 (flt 0 0) ∧ Sl W W.heap.size A2 (pack x2).length (bl (pack x2)) ∧ Below w.heap.size w W) ⟨r1.below (hkk _ _ _ _) r1.lt, f1.below (hkk _ _ _ _) f1.lt, f2.below (hkk _ _ _ _) f2.lt, s1.up (hkk _ _ _ _), row_new2a _ _ _ _ _ _ _, row_new2b _ _ _ _ _ _ _, s2.up (blw_new2 _ _ _ _ _), up_call hb (hkk _ _ _ _)⟩ ?_
  generalize wc2.heap.size = g2
  clear hkk hbc hb r1 f1 f2 s1 s2 wc2  Wg1
  rintro Wg2 ⟨r1, f1, f2, s1, r3, f3, s2, hb⟩
  go_upto_region 5 with (first
    | (refine wpList_load_row rfl 24 _ rfl g2 rfl 24 (bcs A2 (pack x2).length c2 x2.length) (0, 0) _ r3 Try.underlying24 rfl (by rw [bcs_size]; exact cellsB) ?_)
    | (go_at_call 27; refine (gamma_x3 A2 c2 _ s2).mono ?_; rintro e wc3 ⟨A3, c3, rfl, s3, hbc⟩)
    | (refine wpList_store_row rfl 24 _ _ rfl wc3.heap.size (bcs A3 (pack x3).length c3 x3.length) rfl rfl 24 (bcs none 0 0 0) ((Row.newEq _ _ _ _ _ rfl rfl).alloc _) (by rw [bcs_size]; exact cellsB) rfl (all_one (bcs_one _ _ _ _)) ?_)
    | (refine wpList_store_row rfl 26 _ _ rfl (wc3.heap.size + 1) (flt 0 0) rfl rfl 26 (flt 0 0) (Row.rowFar (Row.newEq _ _ _ _ _ (by simp) rfl) (by omega) _) (by rw [flt_size]; exact cellsF) rfl (all_one (flt_one _ _)) ?_))
  have hkk := fun o1 o2 x y => up_call hbc (blw_new2 wc3 o1 o2 x y)
  refine wp_world (F := fun W => Row W g0 24 (bcs A1 (pack x1).length c1 x1.length) ∧ Row W (g0 + 1) 26 (flt 0 0) ∧ Row W g1 26 (flt 0 0) ∧ Row W g2 24 (bcs A2 (pack x2).length c2 x2.length) ∧ Row W (g2 + 1) 26 (flt 0 0) ∧ Sl W W.heap.size A1 (pack x1).length (bl (pack x1)) ∧ Sl W W.heap.size A2 (pack x2).length (bl (pack x2)) ∧ Row W wc3.heap.size 24 (bcs A3 (pack x3).length c3 x3.length) ∧ Row W (wc3.heap.size + 1) 26 (flt 0 0) ∧ Sl W W.heap.size A3 (pack x3).length (bl (pack x3)) ∧ Below w.heap.size w W) ⟨r1.below (hkk _ _ _ _) r1.lt, f1.below (hkk _ _ _ _) f1.lt, f2.below (hkk _ _ _ _) f2.lt, r3.below (hkk _ _ _ _) r3.lt, f3.below (hkk _ _ _ _) f3.lt, s1.up (hkk _ _ _ _), s2.up (hkk _ _ _ _), row_new2a _ _ _ _ _ _ _, row_new2b _ _ _ _ _ _ _, s3.up (blw_new2 _ _ _ _ _), up_call hb (hkk _ _ _ _)⟩ ?_
  generalize wc3.heap.size = g3
  clear hkk hbc hb r1 f1 f2 r3 f3 s1 s2 s3 wc3  Wg2
  rintro Wg3 ⟨r1, f1, f2, r3, f3, s1, s2, r4, f4, s3, hb⟩
  go_upto_region 6 with (first
    | (refine wpList_load_row rfl 24 _ rfl g3 rfl 24 (bcs A3 (pack x3).length c3 x3.length) (0, 0) _ r4 Try.underlying24 rfl (by rw [bcs_size]; exact cellsB) ?_)
    | (go_at_call 12; refine (text_x3 A3 c3 _ s3).mono ?_; rintro e wc4 ⟨rfl, hbc⟩)
    | (refine wpList_store_row rfl 26 _ _ rfl wc4.heap.size (flt 0 0) rfl rfl 26 (flt 0 0) (Row.newEq _ _ _ _ _ rfl rfl) (by rw [flt_size]; exact cellsF) rfl (all_one (flt_one _ _)) ?_))
  have hkk := fun o1 x => up_call hbc (blw_new1 wc4 o1 x)
  refine wp_world (F := fun W => Row W g0 24 (bcs A1 (pack x1).length c1 x1.length) ∧ Row W (g0 + 1) 26 (flt 0 0) ∧ Row W g1 26 (flt 0 0) ∧ Row W g2 24 (bcs A2 (pack x2).length c2 x2.length) ∧ Row W (g2 + 1) 26 (flt 0 0) ∧ Row W g3 24 (bcs A3 (pack x3).length c3 x3.length) ∧ Row W (g3 + 1) 26 (flt 0 0) ∧ Sl W W.heap.size A1 (pack x1).length (bl (pack x1)) ∧ Sl W W.heap.size A2 (pack x2).length (bl (pack x2)) ∧ Sl W W.heap.size A3 (pack x3).length (bl (pack x3)) ∧ Row W wc4.heap.size 26 (flt 0 0) ∧ Below w.heap.size w W) ⟨r1.below (hkk _ _) r1.lt, f1.below (hkk _ _) f1.lt, f2.below (hkk _ _) f2.lt, r3.below (hkk _ _) r3.lt, f3.below (hkk _ _) f3.lt, r4.below (hkk _ _) r4.lt, f4.below (hkk _ _) f4.lt, s1.up (hkk _ _), s2.up (hkk _ _), s3.up (hkk _ _), row_new1 _ _ _ _, up_call hb (hkk _ _)⟩ ?_
  generalize wc4.heap.size = g4
  clear hkk hbc hb r1 f1 f2 r3 f3 r4 f4 s1 s2 s3 wc4  Wg3
  rintro Wg4 ⟨r1, f1, f2, r3, f3, r4, f4, s1, s2, s3, f5, hb⟩
  have a1 : Wg4.cell? ⟨g0 + 1, 0, none⟩ = some (.int .i64 0) := (f1.cell 0).trans rfl
  have a2 : Wg4.cell? ⟨g1, 0, none⟩ = some (.int .i64 0) := (f2.cell 0).trans rfl
  have a3 : Wg4.cell? ⟨g2 + 1, 0, none⟩ = some (.int .i64 0) := (f3.cell 0).trans rfl
  have a4 : Wg4.cell? ⟨g3 + 1, 0, none⟩ = some (.int .i64 0) := (f4.cell 0).trans rfl
  have a5 : Wg4.cell? ⟨g4, 0, none⟩ = some (.int .i64 0) := (f5.cell 0).trans rfl
  go_upto_region 8 with (fail)
  go_wp2_with (first
    | (refine wpList_load_rowG (by simp [Region.wanted, yielded]) 24 _ rfl g0 rfl 24 (bcs A1 (pack x1).length c1 x1.length) (0, 0) _ r1 Try.underlying24 rfl (by rw [bcs_size]; exact cellsB) ?_)
    | (go_at_call 29; refine (size_4 _).mono ?_; rintro e w6 ⟨rfl, rfl⟩)
    | (go_at_call 15; (with_reducible refine (valid_x1 A1 c1 _ s1).mono ?_); rintro e w7 ⟨rfl, hb7⟩; have hbb := up_call hb hb7)
    | (go_at_call 15; (with_reducible refine (valid_16 _ _ (sl16 _)).mono ?_); rintro e w8 ⟨rfl, hb8⟩; have hbc := up_call (hbb.alloc hbb.size _) hb8))
  go_ret
  exact ⟨rfl, hbc⟩
end Go.Proofs.Ytbahkidkpbabdaa
