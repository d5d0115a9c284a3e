/-
  The walks of BitsJoinMatchesSpec: RN
-/
import Derived.Test.YtbahkidkpbabdaaLJoinA
import Derived.Deep.RegionHeld3
namespace Go.Proofs.Ytbahkidkpbabdaa.lawJoinB
open Go.RowKit Go.Proofs.Ytbahkidkpbabdaa.lawNum
attribute [local go_sem ↓] wp_load_flat run_load_flat
attribute [local go_sem] blkOf_ptr cells_agg sizedF sizeTF aggF

set_option maxRecDepth 100000 in
set_option maxHeartbeats 4000000 in
theorem walk_rn (n cc : Nat) (es : List (List UInt8 × Int)) (c i : Int) (hc : c ≠ 0) (HJ0 : ∀ A w, BsG w w.heap.size A n es → Calls Try.prog 33 #[.slice A n cc] w fun e w' => e = .returned (.tuple #[.agg (bcs none 0 0 0), .agg (flt c i)]) ∧ Below w.heap.size w w')
    (HF0 : ∀ A w, BsG w w.heap.size A n es → Calls Try.prog 34 #[.slice A n cc] w fun e w' => e = .returned (.agg (flt c i)) ∧ Below w.heap.size w w') (L : List UInt8) (k : Int) (hG : ¬ Good L k) (f t : Int) (A' : Option Addr) (A : Option Addr) (cp : Nat) (w : World) (hB : BsG w w.heap.size A' n es) (hS : Sl w w.heap.size A L.length (bl L)) :
    Calls Try.prog 9 #[.slice A' n cc, .agg (bcs A L.length cp k), .int .i64 f, .int .i64 t] w fun e w' => e = .returned (.bool true) ∧ Below w.heap.size w w' := by
  have HJ := Lib.hid HJ0
  have HF := Lib.hid HF0
  clear HJ0 HF0
  have k1 : (c != 0) = true := bne_iff_ne.2 hc
  have k2 : (c == 0) = false := beq_eq_false_iff_ne.2 hc
  clear hc
  have HSL := Lib.hid (slice_form L k hG f t)
  have HOK := Lib.hid (ok_no L k hG)
  clear hG
  have q1 := neq_same c i
  have q2 := eq_same 6 (-1)
  go_enter Try.func9, Try.ntmps9
  go_upto_region 1 with (fail)
  refine wp_world (F := fun W => Row W w.heap.size 24 (bcs A L.length cp k) ∧ Sl W W.heap.size A L.length (bl L) ∧ BsG W W.heap.size A' n es ∧ Below w.heap.size w W) ⟨Row.new _ _ _, hS.up ((Below.refl _ _).alloc (Nat.le_refl _) _), hB.up ((Below.refl _ _).alloc (Nat.le_refl _) _), (Below.refl _ _).alloc (Nat.le_refl _) _⟩ ?_
  clear hS hB
  rintro W0 ⟨r0, hS, hB, hb⟩
  go_upto_region 2 with (first
    | (go_at_call 33; refine (HJ.out A' _ hB).mono ?_; rintro e wc0 ⟨rfl, hbc⟩)
    | (refine wpList_store_row rfl 24 _ _ rfl wc0.heap.size (bcs none 0 0 0) rfl rfl 24 (bcs none 0 0 0) ((Row.newEq _ _ _ _ _ rfl rfl).alloc _) (by rw [bcs_size]; exact cellsB) rfl (all_one (bcs_one _ _ _ _)) ?_)
    | (refine wpList_store_row rfl 26 _ _ rfl (wc0.heap.size + 1) (flt c i) rfl rfl 26 (flt 0 0) (Row.rowFar (Row.newEq _ _ _ _ _ (by simp) rfl) (by omega) _) (by rw [flt_size]; exact cellsF) rfl (all_one (flt_one _ _)) ?_))
  have hkk := fun o1 o2 x y => up_call hbc (blw_new2 wc0 o1 o2 x y)
  refine wp_world (F := fun W => Row W w.heap.size 24 (bcs A L.length cp k) ∧ Sl W W.heap.size A L.length (bl L) ∧ BsG W W.heap.size A' n es ∧ Row W wc0.heap.size 24 (bcs none 0 0 0) ∧ Row W (wc0.heap.size + 1) 26 (flt c i) ∧ Below w.heap.size w W) ⟨r0.below (hkk _ _ _ _) r0.lt, hS.up (hkk _ _ _ _), hB.up (hkk _ _ _ _), row_new2a _ _ _ _ _ _ _, row_new2b _ _ _ _ _ _ _, up_call hb (hkk _ _ _ _)⟩ ?_
  generalize wc0.heap.size = g0
  clear hkk hbc hb r0 hS hB wc0  W0
  rintro Wg0 ⟨r0, hS, hB, r1, f1, hb⟩
  go_upto_region 3 with (first
    | (refine wpList_load_row rfl 24 _ rfl w.heap.size rfl 24 (bcs A L.length cp k) (0, 0) _ r0 Try.underlying24 rfl (by rw [bcs_size]; exact cellsB) ?_)
    | (go_at_call 26; refine (HSL.out A cp _ hS).mono ?_; rintro e wc1 ⟨rfl, hbc⟩)
    | (refine wpList_store_row rfl 24 _ _ rfl wc1.heap.size (bcs none 0 0 0) rfl rfl 24 (bcs none 0 0 0) ((Row.newEq _ _ _ _ _ rfl rfl).alloc _) (by rw [bcs_size]; exact cellsB) rfl (all_one (bcs_one _ _ _ _)) ?_)
    | (refine wpList_store_row rfl 26 _ _ rfl (wc1.heap.size + 1) (flt 6 (-1)) rfl rfl 26 (flt 0 0) (Row.rowFar (Row.newEq _ _ _ _ _ (by simp) rfl) (by omega) _) (by rw [flt_size]; exact cellsF) rfl (all_one (flt_one _ _)) ?_))
  have hkk := fun o1 o2 x y => up_call hbc (blw_new2 wc1 o1 o2 x y)
  refine wp_world (F := fun W => Row W w.heap.size 24 (bcs A L.length cp k) ∧ Row W g0 24 (bcs none 0 0 0) ∧ Row W (g0 + 1) 26 (flt c i) ∧ Sl W W.heap.size A L.length (bl L) ∧ BsG W W.heap.size A' n es ∧ Row W wc1.heap.size 24 (bcs none 0 0 0) ∧ Row W (wc1.heap.size + 1) 26 (flt 6 (-1)) ∧ Below w.heap.size w W) ⟨r0.below (hkk _ _ _ _) r0.lt, r1.below (hkk _ _ _ _) r1.lt, f1.below (hkk _ _ _ _) f1.lt, hS.up (hkk _ _ _ _), hB.up (hkk _ _ _ _), row_new2a _ _ _ _ _ _ _, row_new2b _ _ _ _ _ _ _, up_call hb (hkk _ _ _ _)⟩ ?_
  generalize wc1.heap.size = g1
  clear hkk hbc hb r0 r1 f1 hS hB wc1  Wg0
  rintro Wg1 ⟨r0, r1, f1, hS, hB, r2, f2, hb⟩
  go_upto_region 4 with (first
    | (go_at_call 34; refine (HF.out A' _ hB).mono ?_; rintro e w6 ⟨rfl, hb6⟩)
    | (refine wpList_store_row rfl 26 _ _ rfl w6.heap.size (flt c i) rfl rfl 26 (flt 0 0) (Row.newEq _ _ _ _ _ rfl rfl) (by rw [flt_size]; exact cellsF) rfl (all_one (flt_one _ _)) ?_))
  have hkk := fun o1 x => up_call hb6 (blw_new1 w6 o1 x)
  refine wp_world (F := fun W => Row W w.heap.size 24 (bcs A L.length cp k) ∧ Row W g0 24 (bcs none 0 0 0) ∧ Row W (g0 + 1) 26 (flt c i) ∧ Row W g1 24 (bcs none 0 0 0) ∧ Row W (g1 + 1) 26 (flt 6 (-1)) ∧ Sl W W.heap.size A L.length (bl L) ∧ BsG W W.heap.size A' n es ∧ Row W w6.heap.size 26 (flt c i) ∧ w.heap.size < w6.heap.size ∧ g1 + 1 < w6.heap.size ∧ Below w.heap.size w W) ⟨r0.below (hkk _ _) r0.lt, r1.below (hkk _ _) r1.lt, f1.below (hkk _ _) f1.lt, r2.below (hkk _ _) r2.lt, f2.below (hkk _ _) f2.lt, hS.up (hkk _ _), hB.up (hkk _ _), row_new1 _ _ _ _, Nat.lt_of_lt_of_le r0.lt hb6.size, Nat.lt_of_lt_of_le f2.lt hb6.size, up_call hb (hkk _ _)⟩ ?_
  generalize w6.heap.size = g2
  clear hkk hb6 hb r0 r1 f1 r2 f2 hS hB w6 Wg1
  rintro W4 ⟨r0, r1, f1, r2, f2, hS, hB, f3, n0, n1, hb⟩
  simp only [Act.put]
  go_cut [57] (fun s57 W => s57 = .bool false ∧ Row W w.heap.size 24 (bcs A L.length cp k) ∧ Row W g1 24 (bcs none 0 0 0) ∧ Row W (g1 + 1) 26 (flt 6 (-1)) ∧ Row W g2 26 (flt c i) ∧ Sl W W.heap.size A L.length (bl L) ∧ Below w.heap.size w W)
  case first =>
    have hkeep : ∀ W, Below W4.heap.size W4 W → IsRow W (g0 + 1) 2 ∧ rowAt W (g0 + 1) = flt c i ∧ IsRow W g2 2 ∧ rowAt W g2 = flt c i ∧ W.cell? ⟨g2, 0, none⟩ = some (.int .i64 c) ∧ W.cell? ⟨g0, 0, none⟩ = some (.slice none 0 0) ∧ W.cell? ⟨g0, 1, none⟩ = some (.int .i64 0) := fun W h => ⟨(f1.below h f1.lt).is rfl, (f1.below h f1.lt).at, (f3.below h f3.lt).is rfl, (f3.below h f3.lt).at, ((f3.below h f3.lt).cell 0).trans rfl, ((r1.below h r1.lt).cell 0).trans rfl, ((r1.below h r1.lt).cell 1).trans rfl⟩
    have HK := Lib.hid hkeep
    have k0 : Below W4.heap.size W4 W4.drew := (Below.refl W4.heap.size W4).drew
    clear hkeep
    refine wp_region_held_drew (S := fun W => IsRow W (g0 + 1) 2 ∧ rowAt W (g0 + 1) = flt c i ∧ IsRow W g2 2 ∧ rowAt W g2 = flt c i ∧ W.cell? ⟨g2, 0, none⟩ = some (.int .i64 c) ∧ W.cell? ⟨g0, 0, none⟩ = some (.slice none 0 0) ∧ W.cell? ⟨g0, 1, none⟩ = some (.int .i64 0)) (by kernel_rfl) (HK.out _ k0) (fun hHeld => ?_)
    refine wpAnyH_ready (rs := [0]) (by kernel_rfl) (by simp) ?_
    refine AllReadyH.cons rfl (fun K hK => ?_) AllReadyH.nil
    try simp only [List.getElem_toArray]
    go_simp
    (go_at_call 14; refine (strings_any _).mono ?_; rintro e w4 ⟨rfl, hb4⟩; have kk4 : Below W4.heap.size W4 w4 := blw_call k0 (Nat.le_refl _) hb4)
    try go_wp2_with fail
    refine hK.out _ _ (HK.out _ kk4) (fun hHeld => ?_)
    clear hK K
    try simp only [List.getElem_toArray, List.getElem_cons_succ, List.getElem_cons_zero, Act.put, List.setIfInBounds_toArray, List.set_cons_zero, List.set_cons_succ]
    refine wpAnyH_take (i := 1) (v := ?_) rfl (by kernel_rfl) (by kernel_rfl) (by kernel_rfl) (fun _ _ _ h => h) (Or.inl ⟨by rfl, ?_⟩) (by assumption) ?_
    rotate_left
    · (rintro wx ⟨sw0, sw1, sw2, sw3, sw4, sw5, sw6⟩; try simp only [List.getElem_toArray, List.getElem_cons_succ, List.getElem_cons_zero]; go_simp; try with_reducible rfl)
    try simp only [List.getElem_toArray, List.getElem_cons_succ, List.getElem_cons_zero, Act.put, List.setIfInBounds_toArray, List.set_cons_zero, List.set_cons_succ]
    refine wpAnyH_take (i := 2) (v := ?_) rfl (by kernel_rfl) (by kernel_rfl) (by kernel_rfl) (fun _ _ _ h => h) (Or.inl ⟨by rfl, ?_⟩) (by assumption) ?_
    rotate_left
    · (rintro wx ⟨sw0, sw1, sw2, sw3, sw4, sw5, sw6⟩; try simp only [List.getElem_toArray, List.getElem_cons_succ, List.getElem_cons_zero]; go_simp; try with_reducible rfl)
    try simp only [List.getElem_toArray, List.getElem_cons_succ, List.getElem_cons_zero, Act.put, List.setIfInBounds_toArray, List.set_cons_zero, List.set_cons_succ]
    refine wpAnyH_take (i := 3) (v := ?_) rfl (by kernel_rfl) (by kernel_rfl) (by kernel_rfl) (fun _ _ _ h => h) (Or.inl ⟨by rfl, ?_⟩) (by assumption) ?_
    rotate_left
    · (rintro wx ⟨sw0, sw1, sw2, sw3, sw4, sw5, sw6⟩; try simp only [List.getElem_toArray, List.getElem_cons_succ, List.getElem_cons_zero]; go_simp; try with_reducible rfl)
    try simp only [List.getElem_toArray, List.getElem_cons_succ, List.getElem_cons_zero, Act.put, List.setIfInBounds_toArray, List.set_cons_zero, List.set_cons_succ]
    refine wpAnyH_take (i := 4) (v := ?_) rfl (by kernel_rfl) (by kernel_rfl) (by kernel_rfl) (fun _ _ _ h => h) (Or.inl ⟨by rfl, ?_⟩) (by assumption) ?_
    rotate_left
    · (rintro wx ⟨sw0, sw1, sw2, sw3, sw4, sw5, sw6⟩; try simp only [List.getElem_toArray, List.getElem_cons_succ, List.getElem_cons_zero]; go_simp; try with_reducible rfl)
    try simp only [List.getElem_toArray, List.getElem_cons_succ, List.getElem_cons_zero, Act.put, List.setIfInBounds_toArray, List.set_cons_zero, List.set_cons_succ]
    refine wpAnyH_take (i := 5) (v := ?_) rfl (by kernel_rfl) (by kernel_rfl) (by kernel_rfl) (fun _ _ _ h => h) (Or.inl ⟨by rfl, ?_⟩) (by assumption) ?_
    rotate_left
    · (rintro wx ⟨sw0, sw1, sw2, sw3, sw4, sw5, sw6⟩; try simp only [List.getElem_toArray, List.getElem_cons_succ, List.getElem_cons_zero]; go_simp; try with_reducible rfl)
    try simp only [List.getElem_toArray, List.getElem_cons_succ, List.getElem_cons_zero, Act.put, List.setIfInBounds_toArray, List.set_cons_zero, List.set_cons_succ]
    refine wpAnyH_take (i := 6) (v := ?_) rfl (by kernel_rfl) (by kernel_rfl) (by kernel_rfl) (fun _ _ _ h => h) (Or.inl ⟨by rfl, ?_⟩) (by assumption) ?_
    rotate_left
    · (rintro wx ⟨sw0, sw1, sw2, sw3, sw4, sw5, sw6⟩; try simp only [List.getElem_toArray, List.getElem_cons_succ, List.getElem_cons_zero]; go_simp; try with_reducible rfl)
    try simp only [List.getElem_toArray, List.getElem_cons_succ, List.getElem_cons_zero, Act.put, List.setIfInBounds_toArray, List.set_cons_zero, List.set_cons_succ]
    refine wpAnyH_take (i := 7) (v := ?_) rfl (by kernel_rfl) (by kernel_rfl) (by kernel_rfl) (fun _ _ _ h => h) (Or.inl ⟨by rfl, ?_⟩) (by assumption) ?_
    rotate_left
    · (rintro wx ⟨sw0, sw1, sw2, sw3, sw4, sw5, sw6⟩; try simp only [List.getElem_toArray, List.getElem_cons_succ, List.getElem_cons_zero]; go_simp; try with_reducible rfl)
    try simp only [List.getElem_toArray, List.getElem_cons_succ, List.getElem_cons_zero, Act.put, List.setIfInBounds_toArray, List.set_cons_zero, List.set_cons_succ]
    refine wpAnyH_take (i := 8) (v := ?_) rfl (by kernel_rfl) (by kernel_rfl) (by kernel_rfl) (fun _ _ _ h => h) (Or.inl ⟨by rfl, ?_⟩) (by assumption) ?_
    rotate_left
    · (rintro wx ⟨sw0, sw1, sw2, sw3, sw4, sw5, sw6⟩; try simp only [List.getElem_toArray, List.getElem_cons_succ, List.getElem_cons_zero]; go_simp; try with_reducible rfl)
    try simp only [List.getElem_toArray, List.getElem_cons_succ, List.getElem_cons_zero, Act.put, List.setIfInBounds_toArray, List.set_cons_zero, List.set_cons_succ]
    refine wpAnyH_take (i := 9) (v := ?_) rfl (by kernel_rfl) (by kernel_rfl) (by kernel_rfl) (fun _ _ _ h => h) (Or.inl ⟨by rfl, ?_⟩) (by assumption) ?_
    rotate_left
    · (rintro wx ⟨sw0, sw1, sw2, sw3, sw4, sw5, sw6⟩; try simp only [List.getElem_toArray, List.getElem_cons_succ, List.getElem_cons_zero]; go_simp; try with_reducible rfl)
    try simp only [List.getElem_toArray, List.getElem_cons_succ, List.getElem_cons_zero, Act.put, List.setIfInBounds_toArray, List.set_cons_zero, List.set_cons_succ]
    refine wpAnyH_take (i := 10) (v := ?_) rfl (by kernel_rfl) (by kernel_rfl) (by kernel_rfl) (fun _ _ _ h => h) (Or.inl ⟨by rfl, ?_⟩) (by assumption) ?_
    rotate_left
    · (rintro wx ⟨sw0, sw1, sw2, sw3, sw4, sw5, sw6⟩; try simp only [List.getElem_toArray, List.getElem_cons_succ, List.getElem_cons_zero]; go_simp; try with_reducible rfl)
    try simp only [List.getElem_toArray, List.getElem_cons_succ, List.getElem_cons_zero, Act.put, List.setIfInBounds_toArray, List.set_cons_zero, List.set_cons_succ]
    refine wpAnyH_take (i := 11) (v := ?_) rfl (by kernel_rfl) (by kernel_rfl) (by kernel_rfl) (fun _ _ _ h => h) (Or.inl ⟨by rfl, ?_⟩) (by assumption) ?_
    rotate_left
    · (rintro wx ⟨sw0, sw1, sw2, sw3, sw4, sw5, sw6⟩; try simp only [List.getElem_toArray, List.getElem_cons_succ, List.getElem_cons_zero]; go_simp; try with_reducible rfl)
    try simp only [List.getElem_toArray, List.getElem_cons_succ, List.getElem_cons_zero, Act.put, List.setIfInBounds_toArray, List.set_cons_zero, List.set_cons_succ]
    refine wpAnyH_take (i := 12) (v := ?_) rfl (by kernel_rfl) (by kernel_rfl) (by kernel_rfl) (fun _ _ _ h => h) (Or.inl ⟨by rfl, ?_⟩) (by assumption) ?_
    rotate_left
    · (rintro wx ⟨sw0, sw1, sw2, sw3, sw4, sw5, sw6⟩; try simp only [List.getElem_toArray, List.getElem_cons_succ, List.getElem_cons_zero]; go_simp; try with_reducible rfl)
    try simp only [List.getElem_toArray, List.getElem_cons_succ, List.getElem_cons_zero, Act.put, List.setIfInBounds_toArray, List.set_cons_zero, List.set_cons_succ]
    refine wpAnyH_take (i := 13) (v := ?_) rfl (by kernel_rfl) (by kernel_rfl) (by kernel_rfl) (fun _ _ _ h => h) (Or.inl ⟨by rfl, ?_⟩) (by assumption) ?_
    rotate_left
    · (rintro wx ⟨sw0, sw1, sw2, sw3, sw4, sw5, sw6⟩; try simp only [List.getElem_toArray, List.getElem_cons_succ, List.getElem_cons_zero]; go_simp; try with_reducible rfl)
    try simp only [List.getElem_toArray, List.getElem_cons_succ, List.getElem_cons_zero, Act.put, List.setIfInBounds_toArray, List.set_cons_zero, List.set_cons_succ]
    refine wpAnyH_ready (rs := [14]) (by kernel_rfl) (by simp) ?_
    refine AllReadyH.cons rfl (fun K hK => ?_) AllReadyH.nil
    try simp only [List.getElem_toArray, List.getElem_cons_succ, List.getElem_cons_zero]
    go_simp
    (go_at_call 17; refine (same_none _).mono ?_; rintro e w6 ⟨rfl, hb6⟩; have kk6 := up_call kk4 hb6)
    try go_wp2_with fail
    refine hK.out _ _ (HK.out _ kk6) (fun hHeld => ?_)
    clear hK K
    try simp only [List.getElem_toArray, List.getElem_cons_succ, List.getElem_cons_zero, Act.put, List.setIfInBounds_toArray, List.set_cons_zero, List.set_cons_succ]
    refine wpAnyH_take (i := 15) (v := ?_) rfl (by kernel_rfl) (by kernel_rfl) (by kernel_rfl) (fun _ _ _ h => h) (Or.inl ⟨by rfl, ?_⟩) (by assumption) ?_
    rotate_left
    · (rintro wx ⟨sw0, sw1, sw2, sw3, sw4, sw5, sw6⟩; try simp only [List.getElem_toArray, List.getElem_cons_succ, List.getElem_cons_zero]; go_simp; try with_reducible rfl)
    try simp only [List.getElem_toArray, List.getElem_cons_succ, List.getElem_cons_zero, Act.put, List.setIfInBounds_toArray, List.set_cons_zero, List.set_cons_succ]
    refine wpAnyH_take (i := 16) (v := ?_) rfl (by kernel_rfl) (by kernel_rfl) (by kernel_rfl) (fun _ _ _ h => h) (Or.inl ⟨by rfl, ?_⟩) (by assumption) ?_
    rotate_left
    · (rintro wx ⟨sw0, sw1, sw2, sw3, sw4, sw5, sw6⟩; try simp only [List.getElem_toArray, List.getElem_cons_succ, List.getElem_cons_zero]; go_simp; try with_reducible rfl)
    try simp only [List.getElem_toArray, List.getElem_cons_succ, List.getElem_cons_zero, Act.put, List.setIfInBounds_toArray, List.set_cons_zero, List.set_cons_succ]
    refine wpAnyH_take (i := 17) (v := ?_) rfl (by kernel_rfl) (by kernel_rfl) (by kernel_rfl) (fun _ _ _ h => h) (Or.inl ⟨by rfl, ?_⟩) (by assumption) ?_
    rotate_left
    · (rintro wx ⟨sw0, sw1, sw2, sw3, sw4, sw5, sw6⟩; try simp only [List.getElem_toArray, List.getElem_cons_succ, List.getElem_cons_zero]; go_simp; try with_reducible rfl)
    try simp only [List.getElem_toArray, List.getElem_cons_succ, List.getElem_cons_zero, Act.put, List.setIfInBounds_toArray, List.set_cons_zero, List.set_cons_succ]
    refine wpAnyH_take (i := 18) (v := ?_) rfl (by kernel_rfl) (by kernel_rfl) (by kernel_rfl) (fun _ _ _ h => h) (Or.inl ⟨by rfl, ?_⟩) (by assumption) ?_
    rotate_left
    · (rintro wx ⟨sw0, sw1, sw2, sw3, sw4, sw5, sw6⟩; try simp only [List.getElem_toArray, List.getElem_cons_succ, List.getElem_cons_zero]; go_simp; try with_reducible rfl)
    try simp only [List.getElem_toArray, List.getElem_cons_succ, List.getElem_cons_zero, Act.put, List.setIfInBounds_toArray, List.set_cons_zero, List.set_cons_succ]
    refine wpAnyH_take (i := 19) (v := ?_) rfl (by kernel_rfl) (by kernel_rfl) (by kernel_rfl) (fun _ _ _ h => h) (Or.inl ⟨by rfl, ?_⟩) (by assumption) ?_
    rotate_left
    · (rintro wx ⟨sw0, sw1, sw2, sw3, sw4, sw5, sw6⟩; try simp only [List.getElem_toArray, List.getElem_cons_succ, List.getElem_cons_zero]; go_simp; try with_reducible rfl)
    try simp only [List.getElem_toArray, List.getElem_cons_succ, List.getElem_cons_zero, Act.put, List.setIfInBounds_toArray, List.set_cons_zero, List.set_cons_succ]
    refine wpAnyH_take (i := 20) (v := ?_) rfl (by kernel_rfl) (by kernel_rfl) (by kernel_rfl) (fun _ _ _ h => h) (Or.inl ⟨by rfl, ?_⟩) (by assumption) ?_
    rotate_left
    · (rintro wx ⟨sw0, sw1, sw2, sw3, sw4, sw5, sw6⟩; try simp only [List.getElem_toArray, List.getElem_cons_succ, List.getElem_cons_zero]; go_simp; try with_reducible rfl)
    try simp only [List.getElem_toArray, List.getElem_cons_succ, List.getElem_cons_zero, Act.put, List.setIfInBounds_toArray, List.set_cons_zero, List.set_cons_succ]
    refine wpAnyH_take (i := 21) (v := ?_) rfl (by kernel_rfl) (by kernel_rfl) (by kernel_rfl) (fun _ _ _ h => h) (Or.inl ⟨by rfl, ?_⟩) (by assumption) ?_
    rotate_left
    · (rintro wx ⟨sw0, sw1, sw2, sw3, sw4, sw5, sw6⟩; try simp only [List.getElem_toArray, List.getElem_cons_succ, List.getElem_cons_zero]; go_simp; try with_reducible rfl)
    try simp only [List.getElem_toArray, List.getElem_cons_succ, List.getElem_cons_zero, Act.put, List.setIfInBounds_toArray, List.set_cons_zero, List.set_cons_succ]
    refine wpAnyH_take (i := 22) (v := ?_) rfl (by kernel_rfl) (by kernel_rfl) (by kernel_rfl) (fun _ _ _ h => h) (Or.inl ⟨by rfl, ?_⟩) (by assumption) ?_
    rotate_left
    · (rintro wx ⟨sw0, sw1, sw2, sw3, sw4, sw5, sw6⟩; try simp only [List.getElem_toArray, List.getElem_cons_succ, List.getElem_cons_zero]; go_simp; try with_reducible rfl)
    try simp only [List.getElem_toArray, List.getElem_cons_succ, List.getElem_cons_zero, Act.put, List.setIfInBounds_toArray, List.set_cons_zero, List.set_cons_succ]
    refine wpAnyH_take (i := 23) (v := undef) rfl (by kernel_rfl) (by kernel_rfl) (by kernel_rfl) (fun _ _ _ h => h) (Or.inr ⟨by rfl, rfl⟩) (by assumption) ?_
    try simp only [List.getElem_toArray, List.getElem_cons_succ, List.getElem_cons_zero, Act.put, List.setIfInBounds_toArray, List.set_cons_zero, List.set_cons_succ]
    refine wpAnyH_take (i := 24) (v := undef) rfl (by kernel_rfl) (by kernel_rfl) (by kernel_rfl) (fun _ _ _ h => h) (Or.inr ⟨by rfl, rfl⟩) (by assumption) ?_
    try simp only [List.getElem_toArray, List.getElem_cons_succ, List.getElem_cons_zero, Act.put, List.setIfInBounds_toArray, List.set_cons_zero, List.set_cons_succ]
    refine wpAnyH_take (i := 25) (v := undef) rfl (by kernel_rfl) (by kernel_rfl) (by kernel_rfl) (fun _ _ _ h => h) (Or.inr ⟨by rfl, rfl⟩) (by assumption) ?_
    try simp only [List.getElem_toArray, List.getElem_cons_succ, List.getElem_cons_zero, Act.put, List.setIfInBounds_toArray, List.set_cons_zero, List.set_cons_succ]
    refine wpAnyH_take (i := 26) (v := undef) rfl (by kernel_rfl) (by kernel_rfl) (by kernel_rfl) (fun _ _ _ h => h) (Or.inr ⟨by rfl, rfl⟩) (by assumption) ?_
    try simp only [List.getElem_toArray, List.getElem_cons_succ, List.getElem_cons_zero, Act.put, List.setIfInBounds_toArray, List.set_cons_zero, List.set_cons_succ]
    refine wpAnyH_take (i := 27) (v := undef) rfl (by kernel_rfl) (by kernel_rfl) (by kernel_rfl) (fun _ _ _ h => h) (Or.inr ⟨by rfl, rfl⟩) (by assumption) ?_
    try simp only [List.getElem_toArray, List.getElem_cons_succ, List.getElem_cons_zero, Act.put, List.setIfInBounds_toArray, List.set_cons_zero, List.set_cons_succ]
    refine wpAnyH_take (i := 28) (v := ?_) rfl (by kernel_rfl) (by kernel_rfl) (by kernel_rfl) (fun _ _ _ h => h) (Or.inl ⟨by rfl, ?_⟩) (by assumption) ?_
    rotate_left
    · (rintro wx ⟨sw0, sw1, sw2, sw3, sw4, sw5, sw6⟩; try simp only [List.getElem_toArray, List.getElem_cons_succ, List.getElem_cons_zero]; go_simp; try with_reducible rfl)
    try simp only [List.getElem_toArray, List.getElem_cons_succ, List.getElem_cons_zero, Act.put, List.setIfInBounds_toArray, List.set_cons_zero, List.set_cons_succ]
    refine wpAnyH_take (i := 29) (v := ?_) rfl (by kernel_rfl) (by kernel_rfl) (by kernel_rfl) (fun _ _ _ h => h) (Or.inl ⟨by rfl, ?_⟩) (by assumption) ?_
    rotate_left
    · (rintro wx ⟨sw0, sw1, sw2, sw3, sw4, sw5, sw6⟩; try simp only [List.getElem_toArray, List.getElem_cons_succ, List.getElem_cons_zero]; go_simp; try with_reducible rfl)
    try simp only [List.getElem_toArray, List.getElem_cons_succ, List.getElem_cons_zero, Act.put, List.setIfInBounds_toArray, List.set_cons_zero, List.set_cons_succ]
    refine wpAnyH_done (by kernel_rfl) ?_ _
    all_goals
      go_wp2_with fail
      go_meet
      exact ⟨rfl, r0.below kk6 r0.lt, r2.below kk6 r2.lt, f2.below kk6 f2.lt, f3.below kk6 f3.lt, hS.up kk6, up_call hb kk6⟩
  case rest =>
    clear r0 r1 f1 r2 f2 f3 hS hB hb W4
    obtain ⟨rfl, r0, r2, f2, f3, hS, hb⟩ := hcut
    go_upto_region 7 with (first
      | (refine wpList_store_row rfl 26 _ _ rfl g2 (flt 0 0) rfl rfl 26 (flt c i) f3 (by rw [flt_size]; exact cellsF) rfl (all_one (flt_one _ _)) ?_))
    refine wp_world (F := fun W => Row W w.heap.size 24 (bcs A L.length cp k) ∧ Row W g1 24 (bcs none 0 0 0) ∧ Row W (g1 + 1) 26 (flt 6 (-1)) ∧ Row W g2 26 (flt 0 0) ∧ Sl W W.heap.size A L.length (bl L) ∧ Below w.heap.size w W) ⟨r0.rowFar (by omega) _, r2.rowFar (by omega) _, f2.rowFar (by omega) _, Row.row f3 _, bytes_farF hS f3 _, up_row hb (by omega) _⟩ ?_
    clear r0 r2 f2 f3 hS hb  wc
    rintro W7 ⟨r0, r2, f2, f3, hS, hb⟩
    have c0 : W7.cell? ⟨w.heap.size, 1, none⟩ = some (.int .i64 (k : Int)) := (r0.cell 1).trans rfl
    go_upto_region 13 with (first
      | (refine wpList_load_row rfl 24 _ rfl w.heap.size rfl 24 (bcs A L.length cp k) (0, 0) _ r0 Try.underlying24 rfl (by rw [bcs_size]; exact cellsB) ?_)
      | (go_at_call 13; refine (HOK.out A cp _ hS).mono ?_; rintro e w8 ⟨rfl, hb8⟩; have kk := hb8; have c8 : w8.cell? ⟨w.heap.size, 1, none⟩ = some (.int .i64 (k : Int)) := ((r0.below hb8 r0.lt).cell 1).trans rfl; have f3b := f3.below hb8 f3.lt)
      | (go_at_call 16; refine (at_any 6 (-1) _).mono ?_; rintro e w11 ⟨rfl, hb11⟩; have kk2 := up_call kk hb11; have f3c := f3b.below hb11 f3b.lt)
      | (refine wpList_store_row rfl 26 _ _ rfl g2 (flt 6 (-1)) rfl rfl 26 (flt 0 0) f3c (by rw [flt_size]; exact cellsF) rfl (all_one (flt_one _ _)) ?_))
    refine wp_world (F := fun W => Row W w.heap.size 24 (bcs A L.length cp k) ∧ Row W g1 24 (bcs none 0 0 0) ∧ Row W (g1 + 1) 26 (flt 6 (-1)) ∧ Row W g2 26 (flt 6 (-1)) ∧ Sl W W.heap.size A L.length (bl L) ∧ Below w.heap.size w W) ⟨(r0.below kk2 r0.lt).rowFar (by omega) _, (r2.below kk2 r2.lt).rowFar (by omega) _, (f2.below kk2 f2.lt).rowFar (by omega) _, Row.row (f3.below kk2 f3.lt) _, bytes_farF (hS.up kk2) (f3.below kk2 f3.lt) _, up_row (up_call hb kk2) (by omega) _⟩ ?_
    clear r0 r2 f2 f3 hS hb c0 c8 f3b f3c kk kk2 hb8 hb11 w8 w11 W7
    rintro W13 ⟨r0, r2, f2, f3, hS, hb⟩
    have a3 : W13.cell? ⟨g2, 0, none⟩ = some (.int .i64 6) := (f3.cell 0).trans rfl
    go_wp2_with (first
      | (refine wpList_load_rowG (by simp [Region.wanted, yielded, Act.put]) 26 _ rfl (g1 + 1) rfl 26 (flt 6 (-1)) (0, 0) _ f2 Try.underlying26 rfl (by rw [flt_size]; exact cellsF) ?_)
      | (refine wpList_load_rowG (by simp [Region.wanted, yielded, Act.put]) 26 _ rfl g2 rfl 26 (flt 6 (-1)) (0, 0) _ f3 Try.underlying26 rfl (by rw [flt_size]; exact cellsF) ?_)
      | (refine wpList_load_rowG (by simp [Region.wanted, yielded, Act.put]) 24 _ rfl g1 rfl 24 (bcs none 0 0 0) (0, 0) _ r2 Try.underlying24 rfl (by rw [bcs_size]; exact cellsB) ?_)
      | (go_at_call 17; refine (same_none _).mono ?_; rintro e w15 ⟨rfl, hb15⟩))
    go_ret
    exact ⟨rfl, up_call hb hb15⟩
end Go.Proofs.Ytbahkidkpbabdaa.lawJoinB
