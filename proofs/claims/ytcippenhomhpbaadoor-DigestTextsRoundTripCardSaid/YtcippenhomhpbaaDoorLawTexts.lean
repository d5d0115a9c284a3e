/-
  PROVED: the statement that the text of a digest is read as the digest (DigestTextsRoundTrip): the walk.
-/
import Derived.Test.YtcippenhomhpbaaDoorHexRead
import Derived.Deep.DeepCutAuto
namespace Go.Proofs.YtcippenhomhpbaaDoor.lawTexts
open Go.ChangeShapes Go.WideShapes Go.ChangeAt Go.RowKit

attribute [local go_sem ↓] wp_load_flat run_load_flat
attribute [local go_sem] blkOf_ptr cells_agg sizedD sizeTD aggD sizedF sizeTF aggF

theorem parse_text (D : List UInt8) (hD : D.length = 32) (w : World) :
    Calls Tryd.prog 25 #[.string ⟨(hexOf D).toArray⟩] w fun e w' => e = .returned (.tuple #[.agg (bs D), .agg (flt 0 0)]) ∧ Below w.heap.size w w' := by
  refine (parse_ok ⟨(hexOf D).toArray⟩ ?_ (fun k hk => hexOf_good D k (by omega)) w).mono ?_
  · show (hexOf D).toArray.size = 64
    rw [List.size_toArray, hexOf_length, hD]
  · rintro e w' ⟨rfl, hb⟩
    refine ⟨?_, hb⟩
    show Ending.returned (.tuple #[.agg (bs (parsed (hexOf D))), .agg (flt 0 0)]) = _
    rw [parsed_hexOf D hD]

set_option maxRecDepth 100000 in
set_option maxHeartbeats 4000000 in
theorem walk (D : List UInt8) (hD : D.length = 32) (w : World) (hK : KIs w) :
    Calls Tryd.prog 8 #[.agg (bs D)] w fun e w' => e = .returned (.bool true) ∧ Below w.heap.size w w' := by
  have HK := Lib.hid hK
  have HP := Lib.hid (parse_text D hD)
  have HT := Lib.hid (text_any D hD)
  have HX := Lib.hid (refHex_any D hD)
  have HD := Lib.hid hD
  have hg := hK.lt
  have heq := eql_bs D D hD hD
  simp only [decide_true] at heq
  generalize (⟨(hexOf D).toArray⟩ : ByteArray) = S at *
  clear hK hD
  go_enter Tryd.func8, Tryd.ntmps8
  go_upto_region 2 with (first
    | (refine wpList_load_row rfl 24 _ rfl w.heap.size rfl 24 (bs D) (0, 0) _ (Row.new _ _ _) Tryd.underlying24 rfl (by rw [bs_size, HD.out]; exact cellsD) ?_)
    | (go_at_call 26; refine (HT.out _).mono ?_; rintro e w0 ⟨rfl, hb0'⟩; have hb0 := blw_call ((Below.refl _ w).alloc (Nat.le_refl _) _) (by simp) hb0'; have d0 := Row.below (Row.new w 24 (bs D)) hb0' (by simp))
    | (go_at_call 25; refine (HP.out _).mono ?_; rintro e w1 ⟨rfl, hb1'⟩; have hb1 := blw_call hb0 hb0.size hb1'; have d1 := Row.below d0 hb1' d0.lt)
    | (refine wpList_store_row rfl 24 _ _ rfl w1.heap.size (bs D) rfl rfl 24 zD ((Row.newEq _ _ _ _ _ rfl zD_lit).alloc _) (by rw [bs_size, HD.out]; exact cellsD) (by rw [zD_size, bs_size, HD.out]) (all_one (bs_one _)) ?_)
    | (refine wpList_store_row rfl 32 _ _ rfl (w1.heap.size + 1) (flt 0 0) rfl rfl 32 (flt 0 0) (Row.rowFar (Row.newEq _ _ _ _ _ (by simp) rfl) (by omega) _) (by rw [flt_size]; exact cellsF) rfl (all_one (flt_one _ _)) ?_))
  refine wp_world (F := fun W => Row W w1.heap.size 24 (bs D) ∧ Row W (w1.heap.size + 1) 32 (flt 0 0) ∧ Row W w.heap.size 24 (bs D) ∧ Below w.heap.size w W ∧ w.heap.size < w1.heap.size) ⟨Row.rowFar (Row.row ((Row.newEq _ _ _ _ _ rfl zD_lit).alloc _) _) (by omega) _, Row.row (Row.rowFar (Row.newEq _ _ _ _ _ (by simp) rfl) (by omega) _) _, ((d1.alloc _).alloc _).rowFar (Nat.ne_of_lt d1.lt) _ |>.rowFar (Nat.ne_of_lt (Nat.lt_succ_of_lt d1.lt)) _, blw_row (blw_row ((hb1.alloc hb1.size _).alloc (by have := hb1.size; simp; omega) _) hb1.size _) (by have := hb1.size; omega) _, d1.lt⟩ ?_
  generalize w1.heap.size = g1
  clear hb1 hb1' d1 hb0 hb0' d0 w1 w0
  rintro w1 ⟨s1, f1, d1, hb1, hlt⟩
  go_region_law (first
    | (go_simp; go_at_call 10; refine (digests_any _ (KIs.keep HK.out hb1.drew hg)).mono ?_; rintro e w2 ⟨rfl, hb2'⟩; have s2 := s1.drew.below hb2' s1.lt; have f2 := f1.drew.below hb2' f1.lt; have d2 := d1.drew.below hb2' d1.lt; have hb2 := blw_call hb1.drew hb1.size hb2'; have i2 := d2.is (n := 32) (by rw [bs_size, HD.out]); have j2 := d2.at)
    | (go_simp; go_at_call 26; refine (HT.out _).mono ?_; rintro e w3 ⟨rfl, hb3'⟩; have s3 := s2.below hb3' s2.lt; have f3 := f2.below hb3' f2.lt; have d3 := d2.below hb3' d2.lt; have hb3 := blw_call hb2 hb2.size hb3'; have i3 := d3.is (n := 32) (by rw [bs_size, HD.out]); have j3 := d3.at)
    | (go_simp; go_at_call 27; refine (HX.out _).mono ?_; rintro e w4 ⟨rfl, hb4'⟩; have s4 := s3.below hb4' s3.lt; have f4 := f3.below hb4' f3.lt; have d4 := d3.below hb4' d3.lt; have hb4 := blw_call hb3 hb3.size hb4'; have i4 := d4.is (n := 32) (by rw [bs_size, HD.out]); have j4 := d4.at; have i5 := s4.is (n := 32) (by rw [bs_size, HD.out]); have j5 := s4.at; have c4 : w4.cell? ⟨g1 + 1, 0, none⟩ = some (.int .i64 0) := (f4.cell 0).trans rfl))
  all_goals
    simp only [List.getElem_toArray, List.getElem_cons_succ, List.getElem_cons_zero, Act.put, List.setIfInBounds_toArray, List.set_cons_succ, List.set_cons_zero]
    go_wp2
    go_ret
    exact ⟨rfl, hb4⟩
end Go.Proofs.YtcippenhomhpbaaDoor.lawTexts
