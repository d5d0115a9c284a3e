/-
  The walks of BitsJoinMatchesSpec: OO
-/
import Derived.Test.YtbahkidkpbabdaaLJoinA
import Derived.Deep.RegionHeld3
namespace Go.Proofs.Ytbahkidkpbabdaa.lawJoinB
open Go.RowKit Go.Proofs.Ytbahkidkpbabdaa.lawNum
attribute [local go_sem ↓] wp_load_flat run_load_flat
attribute [local go_sem] blkOf_ptr cells_agg sizedF sizeTF aggF

set_option maxRecDepth 100000 in
set_option maxHeartbeats 4000000 in
theorem walk_oo (n cc : Nat) (es : List (List UInt8 × Int)) (m : List Bool) (HJ0 : ∀ A w, BsG w w.heap.size A n es → Calls Try.prog 33 #[.slice A n cc] w (BitsOut w m))
    (HF0 : ∀ A w, BsG w w.heap.size A n es → Calls Try.prog 34 #[.slice A n cc] w fun e w' => e = .returned (.agg (flt 0 0)) ∧ Below w.heap.size w w')
    (HD0 : ∀ A w, BsG w w.heap.size A n es → Calls Try.prog 35 #[.slice A n cc] w (BitsOne w m)) (l : List Bool) (hl : l.length ≤ 131072) (f t : Nat) (hft : f < t) (ht : t ≤ l.length) (A' : Option Addr) (A : Option Addr) (cp : Nat) (w : World) (hB : BsG w w.heap.size A' n es) (hS : Sl w w.heap.size A (pack l).length (bl (pack l))) :
    Calls Try.prog 9 #[.slice A' n cc, .agg (bcs A (pack l).length cp l.length), .int .i64 f, .int .i64 t] w fun e w' => e = .returned (.bool true) ∧ Below w.heap.size w w' := by
  have HJ := Lib.hid HJ0
  have HF := Lib.hid HF0
  have HD := Lib.hid HD0
  clear HJ0 HF0 HD0
  have HOK := Lib.hid (ok_yes (pack l) l (pack_rep l) hl)
  obtain ⟨m2, e2⟩ : ∃ m2, m2 = (l.drop f).take (t - f) := ⟨_, rfl⟩
  have hsl := slice_ok (pack l) l (pack_rep l) hl f t (Nat.le_of_lt hft) ht
  rw [← e2] at hsl
  have HSL := Lib.hid hsl
  have hm2 : t - f = m2.length := by rw [e2, List.length_take, List.length_drop]; omega
  have HM2 := Lib.hid hm2
  have E2 := Lib.hid e2
  have hm6 : m2.length ≤ 1000000 := by omega

  clear hsl e2 hm2
  have q1 := neq_same 0 0
  have q2 := eq_same 0 0
  go_enter Try.func9, Try.ntmps9
  go_upto_region 1 with (fail)
  refine wp_world (F := fun W => Row W w.heap.size 24 (bcs A (pack l).length cp l.length) ∧ Sl W W.heap.size A (pack l).length (bl (pack l)) ∧ BsG W W.heap.size A' n es ∧ Below w.heap.size w W) ⟨Row.new _ _ _, hS.up ((Below.refl _ _).alloc (Nat.le_refl _) _), hB.up ((Below.refl _ _).alloc (Nat.le_refl _) _), (Below.refl _ _).alloc (Nat.le_refl _) _⟩ ?_
  clear hS hB
  rintro W0 ⟨r0, hS, hB, hb⟩
  go_upto_region 2 with (first
    | (go_at_call 33; refine (HJ.out A' _ hB).mono ?_; rintro e wc0 ⟨A1, c1, rfl, s1, hbc⟩)
    | (refine wpList_store_row rfl 24 _ _ rfl wc0.heap.size (bcs A1 (pack m).length c1 m.length) rfl rfl 24 (bcs none 0 0 0) ((Row.newEq _ _ _ _ _ rfl rfl).alloc _) (by rw [bcs_size]; exact cellsB) rfl (all_one (bcs_one _ _ _ _)) ?_)
    | (refine wpList_store_row rfl 26 _ _ rfl (wc0.heap.size + 1) (flt 0 0) rfl rfl 26 (flt 0 0) (Row.rowFar (Row.newEq _ _ _ _ _ (by simp) rfl) (by omega) _) (by rw [flt_size]; exact cellsF) rfl (all_one (flt_one _ _)) ?_))
  have hkk := fun o1 o2 x y => up_call hbc (blw_new2 wc0 o1 o2 x y)
  refine wp_world (F := fun W => Row W w.heap.size 24 (bcs A (pack l).length cp l.length) ∧ Sl W W.heap.size A (pack l).length (bl (pack l)) ∧ BsG W W.heap.size A' n es ∧ Row W wc0.heap.size 24 (bcs A1 (pack m).length c1 m.length) ∧ Row W (wc0.heap.size + 1) 26 (flt 0 0) ∧ Sl W W.heap.size A1 (pack m).length (bl (pack m)) ∧ Below w.heap.size w W) ⟨r0.below (hkk _ _ _ _) r0.lt, hS.up (hkk _ _ _ _), hB.up (hkk _ _ _ _), row_new2a _ _ _ _ _ _ _, row_new2b _ _ _ _ _ _ _, s1.up (blw_new2 _ _ _ _ _), up_call hb (hkk _ _ _ _)⟩ ?_
  generalize wc0.heap.size = g0
  clear hkk hbc hb r0 hS hB s1 wc0  W0
  rintro Wg0 ⟨r0, hS, hB, r1, f1, s1, hb⟩
  go_upto_region 3 with (first
    | (refine wpList_load_row rfl 24 _ rfl w.heap.size rfl 24 (bcs A (pack l).length cp l.length) (0, 0) _ r0 Try.underlying24 rfl (by rw [bcs_size]; exact cellsB) ?_)
    | (go_at_call 26; refine (HSL.out A cp _ hS).mono ?_; rintro e wc1 ⟨A2, c2, rfl, s2, hbc⟩)
    | (refine wpList_store_row rfl 24 _ _ rfl wc1.heap.size (bcs A2 (pack m2).length c2 m2.length) rfl rfl 24 (bcs none 0 0 0) ((Row.newEq _ _ _ _ _ rfl rfl).alloc _) (by rw [bcs_size]; exact cellsB) rfl (all_one (bcs_one _ _ _ _)) ?_)
    | (refine wpList_store_row rfl 26 _ _ rfl (wc1.heap.size + 1) (flt 0 0) rfl rfl 26 (flt 0 0) (Row.rowFar (Row.newEq _ _ _ _ _ (by simp) rfl) (by omega) _) (by rw [flt_size]; exact cellsF) rfl (all_one (flt_one _ _)) ?_))
  have hkk := fun o1 o2 x y => up_call hbc (blw_new2 wc1 o1 o2 x y)
  refine wp_world (F := fun W => Row W w.heap.size 24 (bcs A (pack l).length cp l.length) ∧ Row W g0 24 (bcs A1 (pack m).length c1 m.length) ∧ Row W (g0 + 1) 26 (flt 0 0) ∧ Sl W W.heap.size A (pack l).length (bl (pack l)) ∧ BsG W W.heap.size A' n es ∧ Sl W W.heap.size A1 (pack m).length (bl (pack m)) ∧ Row W wc1.heap.size 24 (bcs A2 (pack m2).length c2 m2.length) ∧ Row W (wc1.heap.size + 1) 26 (flt 0 0) ∧ Sl W W.heap.size A2 (pack m2).length (bl (pack m2)) ∧ Below w.heap.size w W) ⟨r0.below (hkk _ _ _ _) r0.lt, r1.below (hkk _ _ _ _) r1.lt, f1.below (hkk _ _ _ _) f1.lt, hS.up (hkk _ _ _ _), hB.up (hkk _ _ _ _), s1.up (hkk _ _ _ _), row_new2a _ _ _ _ _ _ _, row_new2b _ _ _ _ _ _ _, s2.up (blw_new2 _ _ _ _ _), up_call hb (hkk _ _ _ _)⟩ ?_
  generalize wc1.heap.size = g1
  clear hkk hbc hb r0 r1 f1 hS hB s1 s2 wc1  Wg0
  rintro Wg1 ⟨r0, r1, f1, hS, hB, s1, r2, f2, s2, hb⟩
  go_upto_region 4 with (first
    | (go_at_call 34; refine (HF.out A' _ hB).mono ?_; rintro e w6 ⟨rfl, hb6⟩)
    | (refine wpList_store_row rfl 26 _ _ rfl w6.heap.size (flt 0 0) rfl rfl 26 (flt 0 0) (Row.newEq _ _ _ _ _ rfl rfl) (by rw [flt_size]; exact cellsF) rfl (all_one (flt_one _ _)) ?_))
  have hkk := fun o1 x => up_call hb6 (blw_new1 w6 o1 x)
  refine wp_world (F := fun W => Row W w.heap.size 24 (bcs A (pack l).length cp l.length) ∧ Row W g0 24 (bcs A1 (pack m).length c1 m.length) ∧ Row W (g0 + 1) 26 (flt 0 0) ∧ Row W g1 24 (bcs A2 (pack m2).length c2 m2.length) ∧ Row W (g1 + 1) 26 (flt 0 0) ∧ Sl W W.heap.size A (pack l).length (bl (pack l)) ∧ BsG W W.heap.size A' n es ∧ Sl W W.heap.size A1 (pack m).length (bl (pack m)) ∧ Sl W W.heap.size A2 (pack m2).length (bl (pack m2)) ∧ Row W w6.heap.size 26 (flt 0 0) ∧ w.heap.size < w6.heap.size ∧ g1 + 1 < w6.heap.size ∧ Below w.heap.size w W) ⟨r0.below (hkk _ _) r0.lt, r1.below (hkk _ _) r1.lt, f1.below (hkk _ _) f1.lt, r2.below (hkk _ _) r2.lt, f2.below (hkk _ _) f2.lt, hS.up (hkk _ _), hB.up (hkk _ _), s1.up (hkk _ _), s2.up (hkk _ _), row_new1 _ _ _ _, Nat.lt_of_lt_of_le r0.lt hb6.size, Nat.lt_of_lt_of_le f2.lt hb6.size, up_call hb (hkk _ _)⟩ ?_
  generalize w6.heap.size = g2
  clear hkk hb6 hb r0 r1 f1 r2 f2 hS hB s1 s2 w6 Wg1
  rintro W4 ⟨r0, r1, f1, r2, f2, hS, hB, s1, s2, f3, n0, n1, hb⟩
  simp only [Act.put]
  go_cut [57] (fun s57 W => s57 = .bool false ∧ Row W w.heap.size 24 (bcs A (pack l).length cp l.length) ∧ Row W g1 24 (bcs A2 (pack m2).length c2 m2.length) ∧ Row W (g1 + 1) 26 (flt 0 0) ∧ Row W g2 26 (flt 0 0) ∧ Sl W W.heap.size A (pack l).length (bl (pack l)) ∧ Sl W W.heap.size A2 (pack m2).length (bl (pack m2)) ∧ Below w.heap.size w W)
  case first =>
    have hkeep : ∀ W, Below W4.heap.size W4 W → IsRow W (g0 + 1) 2 ∧ rowAt W (g0 + 1) = flt 0 0 ∧ IsRow W g2 2 ∧ rowAt W g2 = flt 0 0 ∧ W.cell? ⟨g2, 0, none⟩ = some (.int .i64 0) ∧ W.cell? ⟨g0, 0, none⟩ = some (.slice A1 (pack m).length c1) ∧ W.cell? ⟨g0, 1, none⟩ = some (.int .i64 (m.length : Int)) := fun W h => ⟨(f1.below h f1.lt).is rfl, (f1.below h f1.lt).at, (f3.below h f3.lt).is rfl, (f3.below h f3.lt).at, ((f3.below h f3.lt).cell 0).trans rfl, ((r1.below h r1.lt).cell 0).trans rfl, ((r1.below h r1.lt).cell 1).trans rfl⟩
    have HK := Lib.hid hkeep
    have k0 : Below W4.heap.size W4 W4.drew := (Below.refl W4.heap.size W4).drew
    clear hkeep
    refine wp_region_held_drew (S := fun W => IsRow W (g0 + 1) 2 ∧ rowAt W (g0 + 1) = flt 0 0 ∧ IsRow W g2 2 ∧ rowAt W g2 = flt 0 0 ∧ W.cell? ⟨g2, 0, none⟩ = some (.int .i64 0) ∧ W.cell? ⟨g0, 0, none⟩ = some (.slice A1 (pack m).length c1) ∧ W.cell? ⟨g0, 1, none⟩ = some (.int .i64 (m.length : Int))) (by kernel_rfl) (HK.out _ k0) (fun hHeld => ?_)
    refine wpAnyH_ready (rs := [0]) (by kernel_rfl) (by simp) ?_
    refine AllReadyH.cons rfl (fun K hK => ?_) AllReadyH.nil
    try simp only [List.getElem_toArray]
    go_simp
    (go_at_call 14; refine (strings_any _).mono ?_; rintro e w4 ⟨rfl, hb4⟩; have kk4 : Below W4.heap.size W4 w4 := blw_call k0 (Nat.le_refl _) hb4)
    try go_wp2_with fail
    refine hK.out _ _ (HK.out _ kk4) (fun hHeld => ?_)
    clear hK K
    try simp only [List.getElem_toArray, List.getElem_cons_succ, List.getElem_cons_zero, Act.put, List.setIfInBounds_toArray, List.set_cons_zero, List.set_cons_succ]
    refine wpAnyH_take (i := 1) (v := ?_) rfl (by kernel_rfl) (by kernel_rfl) (by kernel_rfl) (fun _ _ _ h => h) (Or.inl ⟨by rfl, ?_⟩) (by assumption) ?_
    rotate_left
    · (rintro wx ⟨sw0, sw1, sw2, sw3, sw4, sw5, sw6⟩; try simp only [List.getElem_toArray, List.getElem_cons_succ, List.getElem_cons_zero]; go_simp; try with_reducible rfl)
    try simp only [List.getElem_toArray, List.getElem_cons_succ, List.getElem_cons_zero, Act.put, List.setIfInBounds_toArray, List.set_cons_zero, List.set_cons_succ]
    refine wpAnyH_take (i := 2) (v := ?_) rfl (by kernel_rfl) (by kernel_rfl) (by kernel_rfl) (fun _ _ _ h => h) (Or.inl ⟨by rfl, ?_⟩) (by assumption) ?_
    rotate_left
    · (rintro wx ⟨sw0, sw1, sw2, sw3, sw4, sw5, sw6⟩; try simp only [List.getElem_toArray, List.getElem_cons_succ, List.getElem_cons_zero]; go_simp; try with_reducible rfl)
    try simp only [List.getElem_toArray, List.getElem_cons_succ, List.getElem_cons_zero, Act.put, List.setIfInBounds_toArray, List.set_cons_zero, List.set_cons_succ]
    refine wpAnyH_take (i := 3) (v := ?_) rfl (by kernel_rfl) (by kernel_rfl) (by kernel_rfl) (fun _ _ _ h => h) (Or.inl ⟨by rfl, ?_⟩) (by assumption) ?_
    rotate_left
    · (rintro wx ⟨sw0, sw1, sw2, sw3, sw4, sw5, sw6⟩; try simp only [List.getElem_toArray, List.getElem_cons_succ, List.getElem_cons_zero]; go_simp; try with_reducible rfl)
    try simp only [List.getElem_toArray, List.getElem_cons_succ, List.getElem_cons_zero, Act.put, List.setIfInBounds_toArray, List.set_cons_zero, List.set_cons_succ]
    refine wpAnyH_take (i := 4) (v := ?_) rfl (by kernel_rfl) (by kernel_rfl) (by kernel_rfl) (fun _ _ _ h => h) (Or.inl ⟨by rfl, ?_⟩) (by assumption) ?_
    rotate_left
    · (rintro wx ⟨sw0, sw1, sw2, sw3, sw4, sw5, sw6⟩; try simp only [List.getElem_toArray, List.getElem_cons_succ, List.getElem_cons_zero]; go_simp; try with_reducible rfl)
    try simp only [List.getElem_toArray, List.getElem_cons_succ, List.getElem_cons_zero, Act.put, List.setIfInBounds_toArray, List.set_cons_zero, List.set_cons_succ]
    refine wpAnyH_take (i := 5) (v := ?_) rfl (by kernel_rfl) (by kernel_rfl) (by kernel_rfl) (fun _ _ _ h => h) (Or.inl ⟨by rfl, ?_⟩) (by assumption) ?_
    rotate_left
    · (rintro wx ⟨sw0, sw1, sw2, sw3, sw4, sw5, sw6⟩; try simp only [List.getElem_toArray, List.getElem_cons_succ, List.getElem_cons_zero]; go_simp; try with_reducible rfl)
    try simp only [List.getElem_toArray, List.getElem_cons_succ, List.getElem_cons_zero, Act.put, List.setIfInBounds_toArray, List.set_cons_zero, List.set_cons_succ]
    refine wpAnyH_take (i := 6) (v := ?_) rfl (by kernel_rfl) (by kernel_rfl) (by kernel_rfl) (fun _ _ _ h => h) (Or.inl ⟨by rfl, ?_⟩) (by assumption) ?_
    rotate_left
    · (rintro wx ⟨sw0, sw1, sw2, sw3, sw4, sw5, sw6⟩; try simp only [List.getElem_toArray, List.getElem_cons_succ, List.getElem_cons_zero]; go_simp; try with_reducible rfl)
    try simp only [List.getElem_toArray, List.getElem_cons_succ, List.getElem_cons_zero, Act.put, List.setIfInBounds_toArray, List.set_cons_zero, List.set_cons_succ]
    refine wpAnyH_take (i := 7) (v := ?_) rfl (by kernel_rfl) (by kernel_rfl) (by kernel_rfl) (fun _ _ _ h => h) (Or.inl ⟨by rfl, ?_⟩) (by assumption) ?_
    rotate_left
    · (rintro wx ⟨sw0, sw1, sw2, sw3, sw4, sw5, sw6⟩; try simp only [List.getElem_toArray, List.getElem_cons_succ, List.getElem_cons_zero]; go_simp; try with_reducible rfl)
    try simp only [List.getElem_toArray, List.getElem_cons_succ, List.getElem_cons_zero, Act.put, List.setIfInBounds_toArray, List.set_cons_zero, List.set_cons_succ]
    refine wpAnyH_take (i := 8) (v := ?_) rfl (by kernel_rfl) (by kernel_rfl) (by kernel_rfl) (fun _ _ _ h => h) (Or.inl ⟨by rfl, ?_⟩) (by assumption) ?_
    rotate_left
    · (rintro wx ⟨sw0, sw1, sw2, sw3, sw4, sw5, sw6⟩; try simp only [List.getElem_toArray, List.getElem_cons_succ, List.getElem_cons_zero]; go_simp; try with_reducible rfl)
    try simp only [List.getElem_toArray, List.getElem_cons_succ, List.getElem_cons_zero, Act.put, List.setIfInBounds_toArray, List.set_cons_zero, List.set_cons_succ]
    refine wpAnyH_take (i := 9) (v := ?_) rfl (by kernel_rfl) (by kernel_rfl) (by kernel_rfl) (fun _ _ _ h => h) (Or.inl ⟨by rfl, ?_⟩) (by assumption) ?_
    rotate_left
    · (rintro wx ⟨sw0, sw1, sw2, sw3, sw4, sw5, sw6⟩; try simp only [List.getElem_toArray, List.getElem_cons_succ, List.getElem_cons_zero]; go_simp; try with_reducible rfl)
    try simp only [List.getElem_toArray, List.getElem_cons_succ, List.getElem_cons_zero, Act.put, List.setIfInBounds_toArray, List.set_cons_zero, List.set_cons_succ]
    refine wpAnyH_take (i := 10) (v := ?_) rfl (by kernel_rfl) (by kernel_rfl) (by kernel_rfl) (fun _ _ _ h => h) (Or.inl ⟨by rfl, ?_⟩) (by assumption) ?_
    rotate_left
    · (rintro wx ⟨sw0, sw1, sw2, sw3, sw4, sw5, sw6⟩; try simp only [List.getElem_toArray, List.getElem_cons_succ, List.getElem_cons_zero]; go_simp; try with_reducible rfl)
    try simp only [List.getElem_toArray, List.getElem_cons_succ, List.getElem_cons_zero, Act.put, List.setIfInBounds_toArray, List.set_cons_zero, List.set_cons_succ]
    refine wpAnyH_take (i := 11) (v := ?_) rfl (by kernel_rfl) (by kernel_rfl) (by kernel_rfl) (fun _ _ _ h => h) (Or.inl ⟨by rfl, ?_⟩) (by assumption) ?_
    rotate_left
    · (rintro wx ⟨sw0, sw1, sw2, sw3, sw4, sw5, sw6⟩; try simp only [List.getElem_toArray, List.getElem_cons_succ, List.getElem_cons_zero]; go_simp; try with_reducible rfl)
    try simp only [List.getElem_toArray, List.getElem_cons_succ, List.getElem_cons_zero, Act.put, List.setIfInBounds_toArray, List.set_cons_zero, List.set_cons_succ]
    refine wpAnyH_take (i := 12) (v := undef) rfl (by kernel_rfl) (by kernel_rfl) (by kernel_rfl) (fun _ _ _ h => h) (Or.inr ⟨by rfl, rfl⟩) (by assumption) ?_
    try simp only [List.getElem_toArray, List.getElem_cons_succ, List.getElem_cons_zero, Act.put, List.setIfInBounds_toArray, List.set_cons_zero, List.set_cons_succ]
    refine wpAnyH_take (i := 13) (v := undef) rfl (by kernel_rfl) (by kernel_rfl) (by kernel_rfl) (fun _ _ _ h => h) (Or.inr ⟨by rfl, rfl⟩) (by assumption) ?_
    try simp only [List.getElem_toArray, List.getElem_cons_succ, List.getElem_cons_zero, Act.put, List.setIfInBounds_toArray, List.set_cons_zero, List.set_cons_succ]
    refine wpAnyH_take (i := 14) (v := undef) rfl (by kernel_rfl) (by kernel_rfl) (by kernel_rfl) (fun _ _ _ h => h) (Or.inr ⟨by rfl, rfl⟩) (by assumption) ?_
    try simp only [List.getElem_toArray, List.getElem_cons_succ, List.getElem_cons_zero, Act.put, List.setIfInBounds_toArray, List.set_cons_zero, List.set_cons_succ]
    refine wpAnyH_take (i := 15) (v := undef) rfl (by kernel_rfl) (by kernel_rfl) (by kernel_rfl) (fun _ _ _ h => h) (Or.inr ⟨by rfl, rfl⟩) (by assumption) ?_
    try simp only [List.getElem_toArray, List.getElem_cons_succ, List.getElem_cons_zero, Act.put, List.setIfInBounds_toArray, List.set_cons_zero, List.set_cons_succ]
    refine wpAnyH_take (i := 16) (v := ?_) rfl (by kernel_rfl) (by kernel_rfl) (by kernel_rfl) (fun _ _ _ h => h) (Or.inl ⟨by rfl, ?_⟩) (by assumption) ?_
    rotate_left
    · (rintro wx ⟨sw0, sw1, sw2, sw3, sw4, sw5, sw6⟩; try simp only [List.getElem_toArray, List.getElem_cons_succ, List.getElem_cons_zero]; go_simp; try with_reducible rfl)
    try simp only [List.getElem_toArray, List.getElem_cons_succ, List.getElem_cons_zero, Act.put, List.setIfInBounds_toArray, List.set_cons_zero, List.set_cons_succ]
    refine wpAnyH_take (i := 17) (v := ?_) rfl (by kernel_rfl) (by kernel_rfl) (by kernel_rfl) (fun _ _ _ h => h) (Or.inl ⟨by rfl, ?_⟩) (by assumption) ?_
    rotate_left
    · (rintro wx ⟨sw0, sw1, sw2, sw3, sw4, sw5, sw6⟩; try simp only [List.getElem_toArray, List.getElem_cons_succ, List.getElem_cons_zero]; go_simp; try with_reducible rfl)
    try simp only [List.getElem_toArray, List.getElem_cons_succ, List.getElem_cons_zero, Act.put, List.setIfInBounds_toArray, List.set_cons_zero, List.set_cons_succ]
    refine wpAnyH_take (i := 18) (v := ?_) rfl (by kernel_rfl) (by kernel_rfl) (by kernel_rfl) (fun _ _ _ h => h) (Or.inl ⟨by rfl, ?_⟩) (by assumption) ?_
    rotate_left
    · (rintro wx ⟨sw0, sw1, sw2, sw3, sw4, sw5, sw6⟩; try simp only [List.getElem_toArray, List.getElem_cons_succ, List.getElem_cons_zero]; go_simp; try with_reducible rfl)
    try simp only [List.getElem_toArray, List.getElem_cons_succ, List.getElem_cons_zero, Act.put, List.setIfInBounds_toArray, List.set_cons_zero, List.set_cons_succ]
    refine wpAnyH_take (i := 19) (v := ?_) rfl (by kernel_rfl) (by kernel_rfl) (by kernel_rfl) (fun _ _ _ h => h) (Or.inl ⟨by rfl, ?_⟩) (by assumption) ?_
    rotate_left
    · (rintro wx ⟨sw0, sw1, sw2, sw3, sw4, sw5, sw6⟩; try simp only [List.getElem_toArray, List.getElem_cons_succ, List.getElem_cons_zero]; go_simp; try with_reducible rfl)
    try simp only [List.getElem_toArray, List.getElem_cons_succ, List.getElem_cons_zero, Act.put, List.setIfInBounds_toArray, List.set_cons_zero, List.set_cons_succ]
    refine wpAnyH_take (i := 20) (v := ?_) rfl (by kernel_rfl) (by kernel_rfl) (by kernel_rfl) (fun _ _ _ h => h) (Or.inl ⟨by rfl, ?_⟩) (by assumption) ?_
    rotate_left
    · (rintro wx ⟨sw0, sw1, sw2, sw3, sw4, sw5, sw6⟩; try simp only [List.getElem_toArray, List.getElem_cons_succ, List.getElem_cons_zero]; go_simp; try with_reducible rfl)
    try simp only [List.getElem_toArray, List.getElem_cons_succ, List.getElem_cons_zero, Act.put, List.setIfInBounds_toArray, List.set_cons_zero, List.set_cons_succ]
    refine wpAnyH_take (i := 21) (v := ?_) rfl (by kernel_rfl) (by kernel_rfl) (by kernel_rfl) (fun _ _ _ h => h) (Or.inl ⟨by rfl, ?_⟩) (by assumption) ?_
    rotate_left
    · (rintro wx ⟨sw0, sw1, sw2, sw3, sw4, sw5, sw6⟩; try simp only [List.getElem_toArray, List.getElem_cons_succ, List.getElem_cons_zero]; go_simp; try with_reducible rfl)
    try simp only [List.getElem_toArray, List.getElem_cons_succ, List.getElem_cons_zero, Act.put, List.setIfInBounds_toArray, List.set_cons_zero, List.set_cons_succ]
    refine wpAnyH_take (i := 22) (v := ?_) rfl (by kernel_rfl) (by kernel_rfl) (by kernel_rfl) (fun _ _ _ h => h) (Or.inl ⟨by rfl, ?_⟩) (by assumption) ?_
    rotate_left
    · (rintro wx ⟨sw0, sw1, sw2, sw3, sw4, sw5, sw6⟩; try simp only [List.getElem_toArray, List.getElem_cons_succ, List.getElem_cons_zero]; go_simp; try with_reducible rfl)
    try simp only [List.getElem_toArray, List.getElem_cons_succ, List.getElem_cons_zero, Act.put, List.setIfInBounds_toArray, List.set_cons_zero, List.set_cons_succ]
    refine wpAnyH_take (i := 23) (v := ?_) rfl (by kernel_rfl) (by kernel_rfl) (by kernel_rfl) (fun _ _ _ h => h) (Or.inl ⟨by rfl, ?_⟩) (by assumption) ?_
    rotate_left
    · (rintro wx ⟨sw0, sw1, sw2, sw3, sw4, sw5, sw6⟩; try simp only [List.getElem_toArray, List.getElem_cons_succ, List.getElem_cons_zero]; go_simp; try with_reducible rfl)
    try simp only [List.getElem_toArray, List.getElem_cons_succ, List.getElem_cons_zero, Act.put, List.setIfInBounds_toArray, List.set_cons_zero, List.set_cons_succ]
    refine wpAnyH_take (i := 24) (v := ?_) rfl (by kernel_rfl) (by kernel_rfl) (by kernel_rfl) (fun _ _ _ h => h) (Or.inl ⟨by rfl, ?_⟩) (by assumption) ?_
    rotate_left
    · (rintro wx ⟨sw0, sw1, sw2, sw3, sw4, sw5, sw6⟩; try simp only [List.getElem_toArray, List.getElem_cons_succ, List.getElem_cons_zero]; go_simp; try with_reducible rfl)
    try simp only [List.getElem_toArray, List.getElem_cons_succ, List.getElem_cons_zero, Act.put, List.setIfInBounds_toArray, List.set_cons_zero, List.set_cons_succ]
    refine wpAnyH_ready (rs := [25]) (by kernel_rfl) (by simp) ?_
    refine AllReadyH.cons rfl (fun K hK => ?_) AllReadyH.nil
    try simp only [List.getElem_toArray, List.getElem_cons_succ, List.getElem_cons_zero]
    go_simp
    (go_at_call 35; refine (HD.out A' w4 (hB.up kk4)).mono ?_; rintro e w5 ⟨A5, c5, rfl, s5, hb5⟩; have kk5 := up_call kk4 hb5)
    try go_wp2_with fail
    refine hK.out _ _ (HK.out _ kk5) (fun hHeld => ?_)
    clear hK K
    try simp only [List.getElem_toArray, List.getElem_cons_succ, List.getElem_cons_zero, Act.put, List.setIfInBounds_toArray, List.set_cons_zero, List.set_cons_succ]
    refine wpAnyH_ready (rs := [26]) (by kernel_rfl) (by simp) ?_
    refine AllReadyH.cons rfl (fun K hK => ?_) AllReadyH.nil
    try simp only [List.getElem_toArray, List.getElem_cons_succ, List.getElem_cons_zero]
    go_simp
    (go_at_call 17; refine (same_pack m _ A1 A5 c1 c5 w5 (s1.up kk5) s5).mono ?_; rintro e w6 ⟨rfl, hb6⟩; have kk6 := up_call kk5 hb6)
    try go_wp2_with fail
    refine hK.out _ _ (HK.out _ kk6) (fun hHeld => ?_)
    clear hK K
    try simp only [List.getElem_toArray, List.getElem_cons_succ, List.getElem_cons_zero, Act.put, List.setIfInBounds_toArray, List.set_cons_zero, List.set_cons_succ]
    refine wpAnyH_take (i := 27) (v := ?_) rfl (by kernel_rfl) (by kernel_rfl) (by kernel_rfl) (fun _ _ _ h => h) (Or.inl ⟨by rfl, ?_⟩) (by assumption) ?_
    rotate_left
    · (rintro wx ⟨sw0, sw1, sw2, sw3, sw4, sw5, sw6⟩; try simp only [List.getElem_toArray, List.getElem_cons_succ, List.getElem_cons_zero]; go_simp; try with_reducible rfl)
    try simp only [List.getElem_toArray, List.getElem_cons_succ, List.getElem_cons_zero, Act.put, List.setIfInBounds_toArray, List.set_cons_zero, List.set_cons_succ]
    refine wpAnyH_take (i := 28) (v := ?_) rfl (by kernel_rfl) (by kernel_rfl) (by kernel_rfl) (fun _ _ _ h => h) (Or.inl ⟨by rfl, ?_⟩) (by assumption) ?_
    rotate_left
    · (rintro wx ⟨sw0, sw1, sw2, sw3, sw4, sw5, sw6⟩; try simp only [List.getElem_toArray, List.getElem_cons_succ, List.getElem_cons_zero]; go_simp; try with_reducible rfl)
    try simp only [List.getElem_toArray, List.getElem_cons_succ, List.getElem_cons_zero, Act.put, List.setIfInBounds_toArray, List.set_cons_zero, List.set_cons_succ]
    refine wpAnyH_take (i := 29) (v := ?_) rfl (by kernel_rfl) (by kernel_rfl) (by kernel_rfl) (fun _ _ _ h => h) (Or.inl ⟨by rfl, ?_⟩) (by assumption) ?_
    rotate_left
    · (rintro wx ⟨sw0, sw1, sw2, sw3, sw4, sw5, sw6⟩; try simp only [List.getElem_toArray, List.getElem_cons_succ, List.getElem_cons_zero]; go_simp; try with_reducible rfl)
    try simp only [List.getElem_toArray, List.getElem_cons_succ, List.getElem_cons_zero, Act.put, List.setIfInBounds_toArray, List.set_cons_zero, List.set_cons_succ]
    refine wpAnyH_done (by kernel_rfl) ?_ _
    all_goals
      go_wp2_with fail
      go_meet
      exact ⟨rfl, r0.below kk6 r0.lt, r2.below kk6 r2.lt, f2.below kk6 f2.lt, f3.below kk6 f3.lt, hS.up kk6, s2.up kk6, up_call hb kk6⟩
  case rest =>
    clear r0 r1 f1 r2 f2 f3 hS hB s1 s2 hb W4
    obtain ⟨rfl, r0, r2, f2, f3, hS, s2, hb⟩ := hcut
    go_upto_region 7 with (first
      | (refine wpList_store_row rfl 26 _ _ rfl g2 (flt 0 0) rfl rfl 26 (flt 0 0) f3 (by rw [flt_size]; exact cellsF) rfl (all_one (flt_one _ _)) ?_))
    refine wp_world (F := fun W => Row W w.heap.size 24 (bcs A (pack l).length cp l.length) ∧ Row W g1 24 (bcs A2 (pack m2).length c2 m2.length) ∧ Row W (g1 + 1) 26 (flt 0 0) ∧ Row W g2 26 (flt 0 0) ∧ Sl W W.heap.size A (pack l).length (bl (pack l)) ∧ Sl W W.heap.size A2 (pack m2).length (bl (pack m2)) ∧ Below w.heap.size w W) ⟨r0.rowFar (by omega) _, r2.rowFar (by omega) _, f2.rowFar (by omega) _, Row.row f3 _, bytes_farF hS f3 _, bytes_farF s2 f3 _, up_row hb (by omega) _⟩ ?_
    clear r0 r2 f2 f3 hS s2 hb  wc
    rintro W7 ⟨r0, r2, f2, f3, hS, s2, hb⟩
    have c0 : W7.cell? ⟨w.heap.size, 1, none⟩ = some (.int .i64 (l.length : Int)) := (r0.cell 1).trans rfl
    go_upto_region 13 with (first
      | (refine wpList_load_row rfl 24 _ rfl w.heap.size rfl 24 (bcs A (pack l).length cp l.length) (0, 0) _ r0 Try.underlying24 rfl (by rw [bcs_size]; exact cellsB) ?_)
      | (go_at_call 13; refine (HOK.out A cp _ hS).mono ?_; rintro e w8 ⟨rfl, hb8⟩; have kk := hb8; have c8 : w8.cell? ⟨w.heap.size, 1, none⟩ = some (.int .i64 (l.length : Int)) := ((r0.below hb8 r0.lt).cell 1).trans rfl; have f3b := f3.below hb8 f3.lt)
      | (go_at_call 31; (with_reducible refine (in_yes t f l.length (by omega) (by omega) _).mono ?_); rintro e w10 ⟨rfl, h10⟩; subst w10)
      | (go_at_call 31; (with_reducible refine (in_yes f 0 l.length (by omega) (by omega) _).mono ?_); rintro e w10 ⟨rfl, h10⟩; subst w10))
    refine wp_world (F := fun W => Row W w.heap.size 24 (bcs A (pack l).length cp l.length) ∧ Row W g1 24 (bcs A2 (pack m2).length c2 m2.length) ∧ Row W (g1 + 1) 26 (flt 0 0) ∧ Row W g2 26 (flt 0 0) ∧ Sl W W.heap.size A (pack l).length (bl (pack l)) ∧ Sl W W.heap.size A2 (pack m2).length (bl (pack m2)) ∧ Below w.heap.size w W) ⟨r0.below kk r0.lt, r2.below kk r2.lt, f2.below kk f2.lt, f3.below kk f3.lt, hS.up kk, s2.up kk, up_call hb kk⟩ ?_
    clear r0 r2 f2 f3 hS s2 hb c0 c8 f3b kk hb8 w8 W7
    rintro W13 ⟨r0, r2, f2, f3, hS, s2, hb⟩
    have a3 : W13.cell? ⟨g2, 0, none⟩ = some (.int .i64 0) := (f3.cell 0).trans rfl
    go_upto_region 15 with (fail)
    have hkeep : ∀ W, Below W13.heap.size W13 W → W.cell? ⟨g1 + 1, 0, none⟩ = some (.int .i64 0) ∧ W.cell? ⟨g1, 0, none⟩ = some (.slice A2 (pack m2).length c2) ∧ W.cell? ⟨g1, 1, none⟩ = some (.int .i64 (m2.length : Int)) ∧ W.cell? ⟨w.heap.size, 0, none⟩ = some (.slice A (pack l).length cp) ∧ W.cell? ⟨w.heap.size, 1, none⟩ = some (.int .i64 (l.length : Int)) := fun W h => ⟨((f2.below h f2.lt).cell 0).trans rfl, ((r2.below h r2.lt).cell 0).trans rfl, ((r2.below h r2.lt).cell 1).trans rfl, ((r0.below h r0.lt).cell 0).trans rfl, ((r0.below h r0.lt).cell 1).trans rfl⟩
    have HK15 := Lib.hid hkeep
    have k0 : Below W13.heap.size W13 W13.drew := (Below.refl W13.heap.size W13).drew
    have hft0 : f ≤ t := Nat.le_of_lt hft
    have hu1 : ¬ (t : Int) < 0 := by omega
    have hu2 : ¬ (f : Int) < 0 := by omega
    have hu3 : ¬ (t : Int) < (f : Int) := by omega
    have hu4 : (f : Int) ≤ (t : Int) := by omega
    clear hkeep
    refine wp_region_held_drew (S := fun W => W.cell? ⟨g1 + 1, 0, none⟩ = some (.int .i64 0) ∧ W.cell? ⟨g1, 0, none⟩ = some (.slice A2 (pack m2).length c2) ∧ W.cell? ⟨g1, 1, none⟩ = some (.int .i64 (m2.length : Int)) ∧ W.cell? ⟨w.heap.size, 0, none⟩ = some (.slice A (pack l).length cp) ∧ W.cell? ⟨w.heap.size, 1, none⟩ = some (.int .i64 (l.length : Int))) (by kernel_rfl) (HK15.out _ k0) (fun hHeld => ?_)
    refine wpAnyH_take (i := 0) (v := ?_) rfl (by kernel_rfl) (by kernel_rfl) (by kernel_rfl) (fun _ _ _ h => h) (Or.inl ⟨by rfl, ?_⟩) (by assumption) ?_
    rotate_left
    · (rintro wx ⟨sw0, sw1, sw2, sw3, sw4⟩; try simp only [List.getElem_toArray, List.getElem_cons_zero]; go_simp; try with_reducible rfl)
    try simp only [List.getElem_toArray, List.getElem_cons_zero, Act.put, List.setIfInBounds_toArray, List.set_cons_zero, List.set_cons_succ]
    refine wpAnyH_take (i := 1) (v := ?_) rfl (by kernel_rfl) (by kernel_rfl) (by kernel_rfl) (fun _ _ _ h => h) (Or.inl ⟨by rfl, ?_⟩) (by assumption) ?_
    rotate_left
    · (rintro wx ⟨sw0, sw1, sw2, sw3, sw4⟩; try simp only [List.getElem_toArray, List.getElem_cons_succ, List.getElem_cons_zero]; go_simp; try with_reducible rfl)
    try simp only [List.getElem_toArray, List.getElem_cons_succ, List.getElem_cons_zero, Act.put, List.setIfInBounds_toArray, List.set_cons_zero, List.set_cons_succ]
    refine wpAnyH_take (i := 2) (v := ?_) rfl (by kernel_rfl) (by kernel_rfl) (by kernel_rfl) (fun _ _ _ h => h) (Or.inl ⟨by rfl, ?_⟩) (by assumption) ?_
    rotate_left
    · (rintro wx ⟨sw0, sw1, sw2, sw3, sw4⟩; try simp only [List.getElem_toArray, List.getElem_cons_succ, List.getElem_cons_zero]; go_simp; try with_reducible rfl)
    try simp only [List.getElem_toArray, List.getElem_cons_succ, List.getElem_cons_zero, Act.put, List.setIfInBounds_toArray, List.set_cons_zero, List.set_cons_succ]
    refine wpAnyH_take (i := 3) (v := ?_) rfl (by kernel_rfl) (by kernel_rfl) (by kernel_rfl) (fun _ _ _ h => h) (Or.inl ⟨by rfl, ?_⟩) (by assumption) ?_
    rotate_left
    · (rintro wx ⟨sw0, sw1, sw2, sw3, sw4⟩; try simp only [List.getElem_toArray, List.getElem_cons_succ, List.getElem_cons_zero]; go_simp; try with_reducible rfl)
    try simp only [List.getElem_toArray, List.getElem_cons_succ, List.getElem_cons_zero, Act.put, List.setIfInBounds_toArray, List.set_cons_zero, List.set_cons_succ]
    refine wpAnyH_take (i := 4) (v := ?_) rfl (by kernel_rfl) (by kernel_rfl) (by kernel_rfl) (fun _ _ _ h => h) (Or.inl ⟨by rfl, ?_⟩) (by assumption) ?_
    rotate_left
    · (rintro wx ⟨sw0, sw1, sw2, sw3, sw4⟩; try simp only [List.getElem_toArray, List.getElem_cons_succ, List.getElem_cons_zero]; go_simp; try with_reducible rfl)
    try simp only [List.getElem_toArray, List.getElem_cons_succ, List.getElem_cons_zero, Act.put, List.setIfInBounds_toArray, List.set_cons_zero, List.set_cons_succ]
    refine wpAnyH_take (i := 5) (v := ?_) rfl (by kernel_rfl) (by kernel_rfl) (by kernel_rfl) (fun _ _ _ h => h) (Or.inl ⟨by rfl, ?_⟩) (by assumption) ?_
    rotate_left
    · (rintro wx ⟨sw0, sw1, sw2, sw3, sw4⟩; try simp only [List.getElem_toArray, List.getElem_cons_succ, List.getElem_cons_zero]; go_simp; try with_reducible rfl)
    try simp only [List.getElem_toArray, List.getElem_cons_succ, List.getElem_cons_zero, Act.put, List.setIfInBounds_toArray, List.set_cons_zero, List.set_cons_succ]
    refine wpAnyH_take (i := 7) (v := ?_) rfl (by kernel_rfl) (by kernel_rfl) (by kernel_rfl) (fun _ _ _ h => h) (Or.inl ⟨by rfl, ?_⟩) (by assumption) ?_
    rotate_left
    · (rintro wx ⟨sw0, sw1, sw2, sw3, sw4⟩; try simp only [List.getElem_toArray, List.getElem_cons_succ, List.getElem_cons_zero]; go_simp; try with_reducible rfl)
    try simp only [List.getElem_toArray, List.getElem_cons_succ, List.getElem_cons_zero, Act.put, List.setIfInBounds_toArray, List.set_cons_zero, List.set_cons_succ]
    refine wpAnyH_take (i := 8) (v := ?_) rfl (by kernel_rfl) (by kernel_rfl) (by kernel_rfl) (fun _ _ _ h => h) (Or.inl ⟨by rfl, ?_⟩) (by assumption) ?_
    rotate_left
    · (rintro wx ⟨sw0, sw1, sw2, sw3, sw4⟩; try simp only [List.getElem_toArray, List.getElem_cons_succ, List.getElem_cons_zero]; go_simp; try with_reducible rfl)
    try simp only [List.getElem_toArray, List.getElem_cons_succ, List.getElem_cons_zero, Act.put, List.setIfInBounds_toArray, List.set_cons_zero, List.set_cons_succ]
    refine wpAnyH_ready (rs := [6]) (by kernel_rfl) (by simp) ?_
    refine AllReadyH.cons rfl (fun K hK => ?_) AllReadyH.nil
    try simp only [List.getElem_toArray, List.getElem_cons_succ, List.getElem_cons_zero]
    go_simp
    go_at_call 23; refine (rbits_any (pack l) l (pack_rep l) hl A cp W13.drew hS).mono ?_; rintro e w6 ⟨v6, rfl, ho6, hb6⟩; obtain ⟨A6, c6, hv6, h61, h62⟩ := own_form ho6; subst hv6; obtain ⟨ad6, u6, hA6, _, _, _⟩ := (Sl.of_own ho6).at_ (k := f) (by omega); subst hA6; have hs6 := part_m (Sl.of_own ho6) f t m2 E2.out hft ht h61; have kk6 : Below W13.heap.size W13 w6 := blw_call k0 (Nat.le_refl _) hb6; have hc6 : (t : Int) ≤ (c6 : Int) := (by omega); have hcf : ¬ c6 = f := (by omega)
    try go_wp2_with fail
    refine hK.out _ _ (HK15.out _ kk6) (fun hHeld => ?_)
    clear hK K
    try simp only [List.getElem_toArray, List.getElem_cons_succ, List.getElem_cons_zero, Act.put, List.setIfInBounds_toArray, List.set_cons_zero, List.set_cons_succ]
    refine wpAnyH_ready (rs := [9]) (by kernel_rfl) (by simp) ?_
    refine AllReadyH.cons rfl (fun K hK => ?_) AllReadyH.nil
    try simp only [List.getElem_toArray, List.getElem_cons_succ, List.getElem_cons_zero]
    go_simp
    refine hK.out _ _ (HK15.out _ kk6) (fun hHeld => ?_)
    clear hK K
    try simp only [List.getElem_toArray, List.getElem_cons_succ, List.getElem_cons_zero, Act.put, List.setIfInBounds_toArray, List.set_cons_zero, List.set_cons_succ]
    refine wpAnyH_ready (rs := [10]) (by kernel_rfl) (by simp) ?_
    refine AllReadyH.cons rfl (fun K hK => ?_) AllReadyH.nil
    try simp only [List.getElem_toArray, List.getElem_cons_succ, List.getElem_cons_zero]
    go_simp
    go_at_call 18; refine (packed_any m2 hm6 _ _ (t - f) HM2.out w6 hs6).mono ?_; rintro e w7 ⟨A9, c9, rfl, s9, hb7⟩; have kk7 := up_call kk6 hb7
    try go_wp2_with fail
    refine hK.out _ _ (HK15.out _ kk7) (fun hHeld => ?_)
    clear hK K
    try simp only [List.getElem_toArray, List.getElem_cons_succ, List.getElem_cons_zero, Act.put, List.setIfInBounds_toArray, List.set_cons_zero, List.set_cons_succ]
    refine wpAnyH_ready (rs := [11]) (by kernel_rfl) (by simp) ?_
    refine AllReadyH.cons rfl (fun K hK => ?_) AllReadyH.nil
    try simp only [List.getElem_toArray, List.getElem_cons_succ, List.getElem_cons_zero]
    go_simp
    go_at_call 17; refine (same_pack m2 _ A2 A9 c2 c9 w7 (s2.up kk7) s9).mono ?_; rintro e w8 ⟨rfl, hb8⟩; have kk8 := up_call kk7 hb8
    try go_wp2_with fail
    refine hK.out _ _ (HK15.out _ kk8) (fun hHeld => ?_)
    clear hK K
    try simp only [List.getElem_toArray, List.getElem_cons_succ, List.getElem_cons_zero, Act.put, List.setIfInBounds_toArray, List.set_cons_zero, List.set_cons_succ]
    refine wpAnyH_take (i := 12) (v := ?_) rfl (by kernel_rfl) (by kernel_rfl) (by kernel_rfl) (fun _ _ _ h => h) (Or.inl ⟨by rfl, ?_⟩) (by assumption) ?_
    rotate_left
    · (rintro wx ⟨sw0, sw1, sw2, sw3, sw4⟩; try simp only [List.getElem_toArray, List.getElem_cons_succ, List.getElem_cons_zero]; go_simp; try with_reducible rfl)
    try simp only [List.getElem_toArray, List.getElem_cons_succ, List.getElem_cons_zero, Act.put, List.setIfInBounds_toArray, List.set_cons_zero, List.set_cons_succ]
    refine wpAnyH_take (i := 13) (v := ?_) rfl (by kernel_rfl) (by kernel_rfl) (by kernel_rfl) (fun _ _ _ h => h) (Or.inl ⟨by rfl, ?_⟩) (by assumption) ?_
    rotate_left
    · (rintro wx ⟨sw0, sw1, sw2, sw3, sw4⟩; try simp only [List.getElem_toArray, List.getElem_cons_succ, List.getElem_cons_zero]; go_simp; try with_reducible rfl)
    try simp only [List.getElem_toArray, List.getElem_cons_succ, List.getElem_cons_zero, Act.put, List.setIfInBounds_toArray, List.set_cons_zero, List.set_cons_succ]
    refine wpAnyH_done (by kernel_rfl) ?_ _
    all_goals
      go_wp2_with fail
      go_ret
      exact ⟨rfl, up_call hb kk8⟩
end Go.Proofs.Ytbahkidkpbabdaa.lawJoinB
