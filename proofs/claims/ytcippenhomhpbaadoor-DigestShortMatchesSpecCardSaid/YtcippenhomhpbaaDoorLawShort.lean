/-
  PROVED: the statement on shortened digests (DigestShortMatchesSpec). Conditions: those of its row: the table of constants reads as the program's text lays it.
-/
import Derived.Test.YtcippenhomhpbaaDoorLawKit
import Derived.Deep.DeepCutAuto
namespace Go.Proofs.YtcippenhomhpbaaDoor.lawShort
open Go.ChangeShapes Go.WideShapes Go.ChangeAt Go.RowKit

attribute [local go_sem ↓] wp_load_flat run_load_flat
attribute [local go_sem] blkOf_ptr cells_agg sizedD sizeTD aggD sizedF sizeTF aggF

/-- shortening twice leaves the smaller width -/
theorem short_short (D : List UInt8) (j k : Nat) : shortOf (shortOf D k) j = shortOf D (min k j) := by
  unfold shortOf
  apply List.map_congr_left
  intro i hi
  have h32 := List.mem_range.1 hi
  by_cases h1 : j ≤ i
  · rw [if_pos h1, if_pos (by omega)]
  · rw [if_neg h1]
    simp only [List.getD_eq_getElem?_getD, List.getElem?_map, List.getElem?_range h32, Option.map_some, Option.getD_some]
    by_cases h2 : k ≤ i
    · rw [if_pos h2, if_pos (by omega)]
    · rw [if_neg h2, if_neg (by omega)]

set_option maxRecDepth 100000 in
set_option maxHeartbeats 4000000 in
/-- the width is not one -/
theorem walk_bad (D : List UInt8) (hD : D.length = 32) (k j : Int) (hk : k < 1 ∨ 32 < k) (w : World) (hK : KIs w) :
    Calls Tryd.prog 7 #[.agg (bs D), .int .i64 k, .int .i64 j] w fun e w' => e = .returned (.bool true) ∧ Below w.heap.size w w' := by
  have HK := Lib.hid hK
  have HB := Lib.hid hk
  have HD := Lib.hid hD
  have hg := hK.lt
  have hef := eql_flt 4 (-2) 4 (-2)
  have hez := eql_zD
  clear hK hk hD
  go_enter Tryd.func7, Tryd.ntmps7
  go_upto_region 2 with (first
    | (refine wpList_load_row rfl 24 _ rfl w.heap.size rfl 24 (bs D) (0, 0) _ (Row.new _ _ _) Tryd.underlying24 rfl (by rw [bs_size, HD.out]; exact cellsD) ?_)
    | (go_at_call 23; refine (short_bad D k HB.out _).mono ?_; rintro e w1 ⟨rfl, hb1'⟩; have hb1 := blw_call ((Below.refl _ w).alloc (Nat.le_refl _) _) (by simp) hb1'; have d1 := Row.below (Row.new w 24 (bs D)) hb1' (by simp))
    | (refine wpList_store_row rfl 24 _ _ rfl w1.heap.size zD rfl rfl 24 zD ((Row.newEq _ _ _ _ _ rfl zD_lit).alloc _) (by rw [zD_size]; exact cellsD) rfl (all_one zD_one) ?_)
    | (refine wpList_store_row rfl 32 _ _ rfl (w1.heap.size + 1) (flt 4 (-2)) rfl rfl 32 (flt 0 0) (Row.rowFar (Row.newEq _ _ _ _ _ (by simp) rfl) (by omega) _) (by rw [flt_size]; exact cellsF) rfl (all_one (flt_one _ _)) ?_))
  refine wp_world (F := fun W => Row W w1.heap.size 24 zD ∧ Row W (w1.heap.size + 1) 32 (flt 4 (-2)) ∧ Below w.heap.size w W) ⟨Row.rowFar (Row.row ((Row.newEq _ _ _ _ _ rfl zD_lit).alloc _) _) (by omega) _, Row.row (Row.rowFar (Row.newEq _ _ _ _ _ (by simp) rfl) (by omega) _) _, blw_row (blw_row ((hb1.alloc hb1.size _).alloc (by have := hb1.size; simp; omega) _) hb1.size _) (by have := hb1.size; omega) _⟩ ?_
  generalize w1.heap.size = g1
  clear hb1 hb1' d1 w1
  rintro w1 ⟨s1, f1, hb1⟩
  go_upto_region 5 with (first
    | (go_at_call 10; refine (digests_any _ (KIs.keep HK.out hb1 hg)).mono ?_; rintro e w2 ⟨rfl, hb2'⟩; have s2 := s1.below hb2' s1.lt; have f2 := f1.below hb2' f1.lt; have hb2 := blw_call hb1 hb1.size hb2')
    | (go_at_call 22; refine (in_no k 1 32 HB.out _).mono ?_; rintro e w3 ⟨rfl, rfl⟩))
  have i1 := f2.is (n := 2) rfl
  have i2 := s2.is (n := 32) zD_size
  have j1 := f2.at
  have j2 := s2.at
  have i1' := f2.drew.is (n := 2) rfl
  have i2' := s2.drew.is (n := 32) zD_size
  have j1' := f2.drew.at
  have j2' := s2.drew.at
  go_region_law (first
    | (go_simp; go_at_call 19; refine (at_any 4 (-2) _).mono ?_; rintro e w4 ⟨rfl, hb4'⟩; have s4 := s2.drew.below hb4' s2.lt; have f4 := f2.drew.below hb4' f2.lt; have i3 := f4.is (n := 2) rfl; have i4 := s4.is (n := 32) zD_size; have j3 := f4.at; have j4 := s4.at))
  all_goals
    simp only [List.getElem_toArray, List.getElem_cons_succ, List.getElem_cons_zero, Act.put, List.setIfInBounds_toArray, List.set_cons_succ, List.set_cons_zero]
    go_wp2
    go_ret
    exact ⟨rfl, hb2.drew.trans (hb4'.mono hb2.size)⟩

set_option maxRecDepth 100000 in
set_option maxHeartbeats 4000000 in
/-- the width is one -/
theorem walk_good (D : List UInt8) (hD : D.length = 32) (k : Nat) (j : Int) (hk0 : 1 ≤ k) (hk : k ≤ 32) (w : World) (hK : KIs w) (hj : -9223372036854775808 ≤ j ∧ j ≤ 9223372036854775807) :
    Calls Tryd.prog 7 #[.agg (bs D), .int .i64 k, .int .i64 j] w fun e w' => e = .returned (.bool true) ∧ Below w.heap.size w w' := by
  have HK := Lib.hid hK
  have HD := Lib.hid hD
  have HS := Lib.hid (shortOf_length D k)
  have hg := hK.lt
  have hne := neq_bs (shortOf D k) (shortOf D k) (shortOf_length _ _) (shortOf_length _ _)
  clear hK hD
  go_enter Tryd.func7, Tryd.ntmps7
  go_upto_region 2 with (first
    | (refine wpList_load_row rfl 24 _ rfl w.heap.size rfl 24 (bs D) (0, 0) _ (Row.new _ _ _) Tryd.underlying24 rfl (by rw [bs_size, HD.out]; exact cellsD) ?_)
    | (go_at_call 23; refine (short_ok D HD.out k hk0 hk _).mono ?_; rintro e w1 ⟨rfl, hb1'⟩; have hb1 := blw_call ((Below.refl _ w).alloc (Nat.le_refl _) _) (by simp) hb1'; have d1 := Row.below (Row.new w 24 (bs D)) hb1' (by simp))
    | (refine wpList_store_row rfl 24 _ _ rfl w1.heap.size (bs (shortOf D k)) rfl rfl 24 zD ((Row.newEq _ _ _ _ _ rfl zD_lit).alloc _) (by rw [bs_size, HS.out]; exact cellsD) (by rw [zD_size, bs_size, HS.out]) (all_one (bs_one _)) ?_)
    | (refine wpList_store_row rfl 32 _ _ rfl (w1.heap.size + 1) (flt 0 0) rfl rfl 32 (flt 0 0) (Row.rowFar (Row.newEq _ _ _ _ _ (by simp) rfl) (by omega) _) (by rw [flt_size]; exact cellsF) rfl (all_one (flt_one _ _)) ?_))
  refine wp_world (F := fun W => Row W w1.heap.size 24 (bs (shortOf D k)) ∧ Row W (w1.heap.size + 1) 32 (flt 0 0) ∧ Row W w.heap.size 24 (bs D) ∧ Below w.heap.size w W ∧ w.heap.size < w1.heap.size) ⟨Row.rowFar (Row.row ((Row.newEq _ _ _ _ _ rfl zD_lit).alloc _) _) (by omega) _, Row.row (Row.rowFar (Row.newEq _ _ _ _ _ (by simp) rfl) (by omega) _) _, ((d1.alloc _).alloc _).rowFar (Nat.ne_of_lt d1.lt) _ |>.rowFar (Nat.ne_of_lt (Nat.lt_succ_of_lt d1.lt)) _, blw_row (blw_row ((hb1.alloc hb1.size _).alloc (by have := hb1.size; simp; omega) _) hb1.size _) (by have := hb1.size; omega) _, d1.lt⟩ ?_
  generalize w1.heap.size = g1
  clear hb1 hb1' d1 w1
  rintro w1 ⟨s1, f1, d1, hb1, hlt⟩
  go_upto_region 6 with (first
    | (go_at_call 10; refine (digests_any _ (KIs.keep HK.out hb1 hg)).mono ?_; rintro e w2 ⟨rfl, hb2'⟩; have s2 := s1.below hb2' s1.lt; have f2 := f1.below hb2' f1.lt; have d2 := d1.below hb2' d1.lt; have hb2 := blw_call hb1 hb1.size hb2')
    | (go_at_call 22; refine (in_yes k 1 32 (by omega) (by omega) _).mono ?_; rintro e w3 ⟨rfl, rfl⟩))
  go_cut [41] (fun s41 W => s41 = .bool false ∧ Row W g1 24 (bs (shortOf D k)) ∧ Row W w.heap.size 24 (bs D) ∧ Below w.heap.size w W)
  case first =>
    have a0 : w3.drew.cell? ⟨g1 + 1, 0, none⟩ = some (.int .i64 0) := (f2.cell 0).trans rfl
    have i2 := s2.drew.is (n := 32) (by rw [bs_size, HS.out])
    have i3 := d2.drew.is (n := 32) (by rw [bs_size, HD.out])
    have j2 := s2.drew.at
    have j3 := d2.drew.at
    go_region_law (first
      | (go_simp; go_at_call 24; refine (shortened_any D HD.out k hk _).mono ?_; rintro e w4 ⟨rfl, hb4'⟩; have s4 := s2.drew.below hb4' s2.lt; have d4 := d2.drew.below hb4' d2.lt; have i4 := s4.is (n := 32) (by rw [bs_size, HS.out]); have j4 := s4.at; have a4 : w4.cell? ⟨g1 + 1, 0, none⟩ = some (.int .i64 0) := ((f2.drew.below hb4' f2.lt).cell 0).trans rfl))
    all_goals
      simp only [List.getElem_toArray, List.getElem_cons_succ, List.getElem_cons_zero, Act.put, List.setIfInBounds_toArray, List.set_cons_succ, List.set_cons_zero]
      go_wp2_with fail
      go_meet
      exact ⟨rfl, s4, d4, hb2.drew.trans (hb4'.mono hb2.size)⟩
  case rest =>
    obtain ⟨rfl, s5, d5, hb5⟩ := hcut
    clear s2 f2 d2 hb2 hb2' s1 f1 d1 hb1
    by_cases hjb : j < 1 ∨ 32 < j
    · go_wp2_with (first
        | (go_at_call 22; refine (in_no j 1 32 hjb _).mono ?_; rintro e w4 ⟨rfl, rfl⟩))
      go_ret
      exact ⟨rfl, hb5⟩
    · obtain ⟨n, rfl⟩ : ∃ n : Nat, j = n := ⟨j.toNat, by omega⟩
      have hn1 : 1 ≤ n := by omega
      have hn2 : n ≤ 32 := by omega
      have hm1 : 1 ≤ min k n := by omega
      have hm2 : min k n ≤ 32 := by omega
      clear hjb hj
      have hmin : ∀ h : Decidable (n < k), @ite Int (n < k) h (n : Int) (k : Int) = ((min k n : Nat) : Int) := by intro h; split <;> omega
      have HT := Lib.hid (shortOf_length (shortOf D k) n)
      have HU := Lib.hid (shortOf_length D (min k n))
      have HE := Lib.hid (short_short D n k)
      go_upto_region 11 with (first
        | (go_at_call 22; refine (in_yes n 1 32 (by omega) (by omega) _).mono ?_; rintro e w4 ⟨rfl, rfl⟩)
        | (refine wpList_load_row rfl 24 _ rfl g1 rfl 24 (bs (shortOf D k)) (0, 0) _ s5 Tryd.underlying24 rfl (by rw [bs_size, HS.out]; exact cellsD) ?_)
        | (go_at_call 23; refine (short_ok (shortOf D k) HS.out n hn1 hn2 _).mono ?_; rintro e w6 ⟨rfl, hb6'⟩; have hb6 := blw_call hb5 hb5.size hb6'; have d6 := d5.below hb6' d5.lt)
        | (refine wpList_store_row rfl 24 _ _ rfl w6.heap.size (bs (shortOf (shortOf D k) n)) rfl rfl 24 zD ((Row.newEq _ _ _ _ _ rfl zD_lit).alloc _) (by rw [bs_size, HT.out]; exact cellsD) (by rw [zD_size, bs_size, HT.out]) (all_one (bs_one _)) ?_)
        | (refine wpList_store_row rfl 32 _ _ rfl (w6.heap.size + 1) (flt 0 0) rfl rfl 32 (flt 0 0) (Row.rowFar (Row.newEq _ _ _ _ _ (by simp) rfl) (by omega) _) (by rw [flt_size]; exact cellsF) rfl (all_one (flt_one _ _)) ?_))
      refine wp_world (F := fun W => Row W w6.heap.size 24 (bs (shortOf (shortOf D k) n)) ∧ Row W (w6.heap.size + 1) 32 (flt 0 0) ∧ Row W w.heap.size 24 (bs D) ∧ Below w.heap.size w W) ⟨Row.rowFar (Row.row ((Row.newEq _ _ _ _ _ rfl zD_lit).alloc _) _) (by omega) _, Row.row (Row.rowFar (Row.newEq _ _ _ _ _ (by simp) rfl) (by omega) _) _, ((d6.alloc _).alloc _).rowFar (Nat.ne_of_lt d6.lt) _ |>.rowFar (Nat.ne_of_lt (Nat.lt_succ_of_lt d6.lt)) _, blw_row (blw_row ((hb6.alloc hb6.size _).alloc (by have := hb6.size; simp; omega) _) hb6.size _) (by have := hb6.size; omega) _⟩ ?_
      generalize w6.heap.size = g6
      clear hb6 hb6' d6 w6
      rintro w6 ⟨t6, f6, d6, hb6⟩
      go_upto_region 12 with (first
        | (refine wpList_load_row rfl 24 _ rfl w.heap.size rfl 24 (bs D) (0, 0) _ d6 Tryd.underlying24 rfl (by rw [bs_size, HD.out]; exact cellsD) ?_)
        | (go_at_call 23; refine (short_ok D HD.out (min k n) hm1 hm2 _).mono ?_; rintro e w7 ⟨rfl, hb7'⟩; have hb7 := blw_call hb6 hb6.size hb7'; have t7 := t6.below hb7' t6.lt; have f7 := f6.below hb7' f6.lt)
        | (refine wpList_store_row rfl 24 _ _ rfl w7.heap.size (bs (shortOf D (min k n))) rfl rfl 24 zD ((Row.newEq _ _ _ _ _ rfl zD_lit).alloc _) (by rw [bs_size, HU.out]; exact cellsD) (by rw [zD_size, bs_size, HU.out]) (all_one (bs_one _)) ?_)
        | (refine wpList_store_row rfl 32 _ _ rfl (w7.heap.size + 1) (flt 0 0) rfl rfl 32 (flt 0 0) (Row.rowFar (Row.newEq _ _ _ _ _ (by simp) rfl) (by omega) _) (by rw [flt_size]; exact cellsF) rfl (all_one (flt_one _ _)) ?_))
      refine wp_world (F := fun W => Row W w7.heap.size 24 (bs (shortOf D (min k n))) ∧ Row W (w7.heap.size + 1) 32 (flt 0 0) ∧ Row W g6 24 (bs (shortOf (shortOf D k) n)) ∧ Row W (g6 + 1) 32 (flt 0 0) ∧ Below w.heap.size w W) ⟨Row.rowFar (Row.row ((Row.newEq _ _ _ _ _ rfl zD_lit).alloc _) _) (by omega) _, Row.row (Row.rowFar (Row.newEq _ _ _ _ _ (by simp) rfl) (by omega) _) _, ((t7.alloc _).alloc _).rowFar (Nat.ne_of_lt t7.lt) _ |>.rowFar (Nat.ne_of_lt (Nat.lt_succ_of_lt t7.lt)) _, ((f7.alloc _).alloc _).rowFar (Nat.ne_of_lt f7.lt) _ |>.rowFar (Nat.ne_of_lt (Nat.lt_succ_of_lt f7.lt)) _, blw_row (blw_row ((hb7.alloc hb7.size _).alloc (by have := hb7.size; simp; omega) _) hb7.size _) (by have := hb7.size; omega) _⟩ ?_
      generalize w7.heap.size = g7
      clear hb7 hb7' t7 f7 w7 t6 f6 d6 hb6
      rintro w7 ⟨u7, e7, t7, f7, hb7⟩
      have hz := eql_bs (shortOf (shortOf D k) n) (shortOf D (min k n)) (shortOf_length _ _) (shortOf_length _ _)
      rw [← HE.out] at u7 hz
      have b1 : w7.cell? ⟨g6 + 1, 0, none⟩ = some (.int .i64 0) := (f7.cell 0).trans rfl
      have b2 : w7.cell? ⟨g7 + 1, 0, none⟩ = some (.int .i64 0) := (e7.cell 0).trans rfl
      have i2 := t7.is (n := 32) (by rw [bs_size, HT.out])
      have i3 := u7.is (n := 32) (by rw [bs_size, HT.out])
      have j2 := t7.at
      have j3 := u7.at
      go_wp2
      go_ret
      exact ⟨rfl, hb7⟩
end Go.Proofs.YtcippenhomhpbaaDoor.lawShort
