/-
  The walks of BitsMakeMatchesSpec: LN
-/
import Derived.Test.YtbahkidkpbabdaaLMakeA
namespace Go.Proofs.Ytbahkidkpbabdaa.lawMake
open Go.RowKit Go.Proofs.Ytbahkidkpbabdaa.lawNum
attribute [local go_sem ↓] wp_load_flat run_load_flat
attribute [local go_sem] blkOf_ptr cells_agg sizedF sizeTF aggF

set_option maxRecDepth 100000 in
set_option maxHeartbeats 4000000 in
theorem walk_ln (s : ByteArray) (hs : 131072 < s.size) (hm : s.size ≤ 9223372036854775807) (L : List UInt8) (k : Int) (hG : ¬ Good L k) (A : Option Addr) (cp : Nat) (w : World) (hS : Sl w w.heap.size A L.length (bl L)) :
    Calls Try.prog 3 #[.string s, .agg (bcs A L.length cp k)] w fun e w' => e = .returned (.bool true) ∧ Below w.heap.size w w' := by
  have HMK := Lib.hid (make_long s hs hm)
  have t1 : decide ((131072 : Int) < (s.size : Int)) = true := decide_eq_true (by omega)
  have t1b : decide (131072 < s.size) = true := decide_eq_true hs
  have HTX := Lib.hid (text_bad L k hG)
  have HOK := Lib.hid (ok_no L k hG)
  have HVA := Lib.hid (valid_no L k hG)
  have q2 := neq_same 6 (-1)
  clear hG
  have q1 := eq_same 3 (-1)
  go_enter Try.func3, Try.ntmps3
  go_upto_region 1 with (fail)
  refine wp_world (F := fun W => Row W w.heap.size 24 (bcs A L.length cp k) ∧ Sl W W.heap.size A L.length (bl L) ∧ Below w.heap.size w W) ⟨Row.new _ _ _, hS.up ((Below.refl _ _).alloc (Nat.le_refl _) _), (Below.refl _ _).alloc (Nat.le_refl _) _⟩ ?_
  clear hS
  rintro W0 ⟨r0, hS, hb⟩
  go_upto_region 2 with (first
    | (go_at_call 11; refine (HMK.out _).mono ?_; rintro e wc0 ⟨rfl, hbc⟩)
    | (refine wpList_store_row rfl 24 _ _ rfl wc0.heap.size (bcs none 0 0 0) rfl rfl 24 (bcs none 0 0 0) ((Row.newEq _ _ _ _ _ rfl rfl).alloc _) (by rw [bcs_size]; exact cellsB) rfl (all_one (bcs_one _ _ _ _)) ?_)
    | (refine wpList_store_row rfl 26 _ _ rfl (wc0.heap.size + 1) (flt 3 (-1)) rfl rfl 26 (flt 0 0) (Row.rowFar (Row.newEq _ _ _ _ _ (by simp) rfl) (by omega) _) (by rw [flt_size]; exact cellsF) rfl (all_one (flt_one _ _)) ?_))
  have hkk := fun o1 o2 x y => up_call hbc (blw_new2 wc0 o1 o2 x y)
  refine wp_world (F := fun W => Row W w.heap.size 24 (bcs A L.length cp k) ∧ Sl W W.heap.size A L.length (bl L) ∧ Row W wc0.heap.size 24 (bcs none 0 0 0) ∧ Row W (wc0.heap.size + 1) 26 (flt 3 (-1)) ∧ Below w.heap.size w W) ⟨r0.below (hkk _ _ _ _) r0.lt, hS.up (hkk _ _ _ _), row_new2a _ _ _ _ _ _ _, row_new2b _ _ _ _ _ _ _, up_call hb (hkk _ _ _ _)⟩ ?_
  generalize wc0.heap.size = g0
  clear hkk hbc hb r0 hS wc0  W0
  rintro Wg0 ⟨r0, hS, r1, f1, hb⟩
  go_upto_region 3 with (first
    | (refine wpList_load_row rfl 24 _ rfl w.heap.size rfl 24 (bcs A L.length cp k) (0, 0) _ r0 Try.underlying24 rfl (by rw [bcs_size]; exact cellsB) ?_)
    | (go_at_call 12; refine (HTX.out A cp _ hS).mono ?_; rintro e wc1 ⟨rfl, hbc⟩)
    | (refine wpList_store_row rfl 26 _ _ rfl wc1.heap.size (flt 6 (-1)) rfl rfl 26 (flt 0 0) (Row.newEq _ _ _ _ _ rfl rfl) (by rw [flt_size]; exact cellsF) rfl (all_one (flt_one _ _)) ?_))
  have hkk := fun o1 x => up_call hbc (blw_new1 wc1 o1 x)
  refine wp_world (F := fun W => Row W w.heap.size 24 (bcs A L.length cp k) ∧ Row W g0 24 (bcs none 0 0 0) ∧ Row W (g0 + 1) 26 (flt 3 (-1)) ∧ Sl W W.heap.size A L.length (bl L) ∧ Row W wc1.heap.size 26 (flt 6 (-1)) ∧ Below w.heap.size w W) ⟨r0.below (hkk _ _) r0.lt, r1.below (hkk _ _) r1.lt, f1.below (hkk _ _) f1.lt, hS.up (hkk _ _), row_new1 _ _ _ _, up_call hb (hkk _ _)⟩ ?_
  generalize wc1.heap.size = g1
  clear hkk hbc hb r0 r1 f1 hS wc1  Wg0
  rintro Wg1 ⟨r0, r1, f1, hS, f2, hb⟩
  go_upto_region 6 with (first
    | (refine wpList_load_rowG (by (try unfold Region.wanted); (try unfold yielded); (try unfold Act.put); simp) 24 _ rfl w.heap.size rfl 24 (bcs A L.length cp k) (0, 0) _ r0 Try.underlying24 rfl (by rw [bcs_size]; exact cellsB) ?_)
    | (go_at_call 13; refine (HOK.out A cp _ hS).mono ?_; rintro e w3 ⟨rfl, hb3⟩)
    | (go_at_call 14; refine (strings_any _).mono ?_; rintro e w4 ⟨rfl, hb4⟩; have kk4 := up_call hb3 hb4; have r04 := r0.below kk4 r0.lt; have hS4 := hS.up kk4)
    | (refine wpList_load_rowG (by (try unfold Region.wanted); (try unfold yielded); (try unfold Act.put); simp) 24 _ rfl w.heap.size rfl 24 (bcs A L.length cp k) (0, 0) _ r04 Try.underlying24 rfl (by rw [bcs_size]; exact cellsB) ?_)
    | (go_at_call 15; refine (HVA.out A cp _ hS4).mono ?_; rintro e w5 ⟨rfl, hb5⟩; have kk5 := up_call kk4 hb5; have a5 : w5.cell? ⟨g1, 0, none⟩ = some (.int .i64 6) := ((f2.below kk5 f2.lt).cell 0).trans rfl))
  refine wp_world (F := fun W => Row W w.heap.size 24 (bcs A L.length cp k) ∧ Row W g0 24 (bcs none 0 0 0) ∧ Row W (g0 + 1) 26 (flt 3 (-1)) ∧ Row W g1 26 (flt 6 (-1)) ∧ Sl W W.heap.size A L.length (bl L) ∧ Below w.heap.size w W) ⟨r0.below kk5 r0.lt, r1.below kk5 r1.lt, f1.below kk5 f1.lt, f2.below kk5 f2.lt, hS.up kk5, up_call hb kk5⟩ ?_
  clear a5 kk5 hb5 kk4 hb4 hb3 r04 hS4 hb r0 r1 f1 f2 hS w5 w4 w3 Wg1
  rintro W6 ⟨r0, r1, f1, f2, hS, hb⟩
  go_cut [51] (fun s51 W => s51 = .bool false ∧ Row W g0 24 (bcs none 0 0 0) ∧ Row W (g0 + 1) 26 (flt 3 (-1)) ∧ Below w.heap.size w W)
  case first =>
    have i1 := f2.is (n := 2) rfl
    have j1 := f2.at
    have i1' := f2.drew.is (n := 2) rfl
    have j1' := f2.drew.at
    go_region_law (first
      | (go_simp; go_at_call 16; go_must (refine (at_any 6 (-1) _).mono ?_; rintro e w7 ⟨rfl, hb7⟩; have f27 := f2.drew.below hb7 f2.lt; have i2 := f27.is (n := 2) rfl; have j2 := f27.at)))
    all_goals
      simp only [List.getElem_toArray, List.getElem_cons_succ, List.getElem_cons_zero, Act.put, List.setIfInBounds_toArray, List.set_cons_succ, List.set_cons_zero]
      go_wp2_with fail
      go_meet
      exact ⟨rfl, r1.drew.below hb7 r1.lt, f1.drew.below hb7 f1.lt, hb.drew.trans (hb7.mono hb.size)⟩
  case rest =>
    clear r0 r1 f1 f2 hS hb W6
    obtain ⟨rfl, r1, f1, hb⟩ := hcut
    go_upto_region 12 with (fail)
    go_upto_region 13 with (fail)
    have i1 := f1.is (n := 2) rfl
    have j1 := f1.at
    have i1' := f1.drew.is (n := 2) rfl
    have j1' := f1.drew.at
    go_region_law (first
      | (go_simp; go_at_call 16; go_must (refine (at_any 3 (-1) _).mono ?_; rintro e w13 ⟨rfl, hb13⟩; have f13 := f1.drew.below hb13 f1.lt; have i2 := f13.is (n := 2) rfl; have j2 := f13.at; have x13 := r1.drew.below hb13 r1.lt; have x0 : w13.cell? ⟨g0, 0, none⟩ = some (.slice none 0 0) := (x13.cell 0).trans rfl; have x1 : w13.cell? ⟨g0, 1, none⟩ = some (.int .i64 0) := (x13.cell 1).trans rfl))
      | (go_simp; go_at_call 17; go_must (refine (same_none _).mono ?_; rintro e w14 ⟨rfl, hb14⟩)))
    all_goals
      simp only [List.getElem_toArray, List.getElem_cons_succ, List.getElem_cons_zero, Act.put, List.setIfInBounds_toArray, List.set_cons_succ, List.set_cons_zero]
      go_wp2_with fail
      go_ret
      exact ⟨rfl, up_call (hb.drew.trans (hb13.mono hb.size)) hb14⟩
end Go.Proofs.Ytbahkidkpbabdaa.lawMake
