/-
  The walks of BitsPartsJoin.
-/
import Derived.Test.YtbahkidkpbabdaaBTwo
namespace Go.Proofs.Ytbahkidkpbabdaa.lawParts
open Go.RowKit

set_option maxRecDepth 100000 in
set_option maxHeartbeats 4000000 in
theorem walk_form (L : List UInt8) (k a : Int) (hG : ¬ Good L k) (A : Option Addr) (cp : Nat) (w : World) (hS : Sl w w.heap.size A L.length (bl L)) :
    Calls Try.prog 10 #[.agg (bcs A L.length cp k), .int .i64 a] w fun e w' => e = .returned (.bool true) ∧ Below w.heap.size w w' := by
  go_enter Try.func10, Try.ntmps10
  go_upto_region 1 with (fail)
  refine wp_world (F := fun W => Row W w.heap.size 24 (bcs A L.length cp k) ∧ Sl W W.heap.size A L.length (bl L) ∧ Below w.heap.size w W) ⟨Row.new _ _ _, hS.up ((Below.refl _ _).alloc (Nat.le_refl _) _), (Below.refl _ _).alloc (Nat.le_refl _) _⟩ ?_
  clear hS
  rintro W0 ⟨r0, hS, hb⟩
  go_wp2_with (first
    | (go_at_call 14; refine (strings_any _).mono ?_; rintro e w1 ⟨rfl, hb1⟩; have r0a := r0.below hb1 r0.lt; have hSa := hS.up hb1; have hba := up_call hb hb1)
    | (refine wpList_load_row rfl 24 _ rfl w.heap.size rfl 24 (bcs A L.length cp k) (0, 0) _ r0a Try.underlying24 rfl (by rw [bcs_size]; exact cellsB) ?_)
    | (go_at_call 13; refine (ok_no L k hG A cp _ hSa).mono ?_; rintro e w2 ⟨rfl, hb2⟩; have hbb := up_call hba hb2))
  go_ret
  exact ⟨rfl, hbb⟩
set_option maxRecDepth 100000 in
set_option maxHeartbeats 4000000 in
theorem walk_out (l : List Bool) (hl : l.length ≤ 131072) (a : Int) (ha : a < 0 ∨ (l.length : Int) < a) (A : Option Addr) (cp : Nat) (w : World) (hS : Sl w w.heap.size A (pack l).length (bl (pack l))) :
    Calls Try.prog 10 #[.agg (bcs A (pack l).length cp l.length), .int .i64 a] w fun e w' => e = .returned (.bool true) ∧ Below w.heap.size w w' := by
  have HA := Lib.hid ha
  clear ha
  go_enter Try.func10, Try.ntmps10
  go_upto_region 1 with (fail)
  refine wp_world (F := fun W => Row W w.heap.size 24 (bcs A (pack l).length cp l.length) ∧ Sl W W.heap.size A (pack l).length (bl (pack l)) ∧ Below w.heap.size w W) ⟨Row.new _ _ _, hS.up ((Below.refl _ _).alloc (Nat.le_refl _) _), (Below.refl _ _).alloc (Nat.le_refl _) _⟩ ?_
  clear hS
  rintro W0 ⟨r0, hS, hb⟩
  go_wp2_with (first
    | (go_at_call 14; refine (strings_any _).mono ?_; rintro e w1 ⟨rfl, hb1⟩; have r0a := r0.below hb1 r0.lt; have hSa := hS.up hb1; have hba := up_call hb hb1)
    | (refine wpList_load_row rfl 24 _ rfl w.heap.size rfl 24 (bcs A (pack l).length cp l.length) (0, 0) _ r0a Try.underlying24 rfl (by rw [bcs_size]; exact cellsB) ?_)
    | (go_at_call 13; refine (ok_yes (pack l) l (pack_rep l) hl A cp _ hSa).mono ?_; rintro e w2 ⟨rfl, hb2⟩; have hbb := up_call hba hb2; have c1 : w2.cell? ⟨w.heap.size, 1, none⟩ = some (.int .i64 (l.length : Int)) := ((r0a.below hb2 r0a.lt).cell 1).trans rfl)
    | (go_at_call 31; refine (in_no a 0 l.length HA.out _).mono ?_; rintro e w3 ⟨rfl, rfl⟩))
  go_ret
  exact ⟨rfl, hbb⟩
set_option maxRecDepth 100000 in
set_option maxHeartbeats 4000000 in
theorem walk_good (l : List Bool) (hl : l.length ≤ 131072) (a : Nat) (ha : a ≤ l.length) (A : Option Addr) (cp : Nat) (w : World) (hS : Sl w w.heap.size A (pack l).length (bl (pack l))) :
    Calls Try.prog 10 #[.agg (bcs A (pack l).length cp l.length), .int .i64 a] w fun e w' => e = .returned (.bool true) ∧ Below w.heap.size w w' := by
  obtain ⟨la, h1⟩ : ∃ x, x = l.take a := ⟨_, rfl⟩
  obtain ⟨lb, h2⟩ : ∃ x, x = l.drop a := ⟨_, rfl⟩
  have H1 := Lib.hid h1
  have H2 := Lib.hid h2
  have HJ := Lib.hid (show l = la ++ lb by rw [h1, h2, List.take_append_drop])
  have hla : la.length = a := by rw [h1, List.length_take]; omega
  have hlen : la.length ≤ 131072 ∧ lb.length ≤ 131072 := by rw [h1, h2, List.length_take, List.length_drop]; omega
  obtain ⟨n1, n2⟩ := hlen
  have hcnt : (la.length == a) = true := by rw [hla]; simp
  have hcni : ((la.length : Int) == (a : Int)) = true := by rw [hla]; simp
  have i1 : (0 : Int) ≤ (a : Int) := by omega
  have i2 : (a : Int) ≤ (l.length : Int) := by omega
  clear h1 h2 hla
  go_enter Try.func10, Try.ntmps10
  go_upto_region 1 with (fail)
  refine wp_world (F := fun W => Row W w.heap.size 24 (bcs A (pack l).length cp l.length) ∧ Sl W W.heap.size A (pack l).length (bl (pack l)) ∧ Below w.heap.size w W) ⟨Row.new _ _ _, hS.up ((Below.refl _ _).alloc (Nat.le_refl _) _), (Below.refl _ _).alloc (Nat.le_refl _) _⟩ ?_
  clear hS
  rintro W0 ⟨r0, hS, hb⟩
  go_upto_region 5 with (first
    | (go_at_call 14; refine (strings_any _).mono ?_; rintro e w1 ⟨rfl, hb1⟩; have r0a := r0.below hb1 r0.lt; have hSa := hS.up hb1; have hba := up_call hb hb1)
    | (refine wpList_load_row rfl 24 _ rfl w.heap.size rfl 24 (bcs A (pack l).length cp l.length) (0, 0) _ r0a Try.underlying24 rfl (by rw [bcs_size]; exact cellsB) ?_)
    | (go_at_call 13; refine (ok_yes (pack l) l (pack_rep l) hl A cp _ hSa).mono ?_; rintro e w2 ⟨rfl, hb2⟩; have hbb := up_call hba hb2; have hSb := hSa.up hb2; have r0b := r0a.below hb2 r0a.lt; have c1 : w2.cell? ⟨w.heap.size, 1, none⟩ = some (.int .i64 (l.length : Int)) := (r0b.cell 1).trans rfl)
    | (go_at_call 31; refine (in_yes a 0 l.length i1 i2 _).mono ?_; rintro e w3 ⟨rfl, rfl⟩))
  clear c1 r0a hSa hba hb1 hb2 r0 hS hb
  have r0 := r0b
  have hS := hSb
  have hb := hbb
  clear r0b hSb hbb
  go_upto_region 6 with (first
    | (refine wpList_load_row rfl 24 _ rfl w.heap.size rfl 24 (bcs A (pack l).length cp l.length) (0, 0) _ r0 Try.underlying24 rfl (by rw [bcs_size]; exact cellsB) ?_)
    | (go_at_call 26; refine (slice_front l la a H1.out ha hl A cp _ hS).mono ?_; rintro e wc0 ⟨A1, c1, rfl, s1, hbc⟩)
    | (refine wpList_store_row rfl 24 _ _ rfl wc0.heap.size (bcs A1 (pack la).length c1 la.length) rfl rfl 24 (bcs none 0 0 0) ((Row.newEq _ _ _ _ _ rfl rfl).alloc _) (by rw [bcs_size]; exact cellsB) rfl (all_one (bcs_one _ _ _ _)) ?_)
    | (refine wpList_store_row rfl 26 _ _ rfl (wc0.heap.size + 1) (flt 0 0) rfl rfl 26 (flt 0 0) (Row.rowFar (Row.newEq _ _ _ _ _ (by simp) rfl) (by omega) _) (by rw [flt_size]; exact cellsF) rfl (all_one (flt_one _ _)) ?_))
  have hkk := fun o1 o2 x y => up_call hbc (blw_new2 wc0 o1 o2 x y)
  refine wp_world (F := fun W => Row W w.heap.size 24 (bcs A (pack l).length cp l.length) ∧ Sl W W.heap.size A (pack l).length (bl (pack l)) ∧ Row W wc0.heap.size 24 (bcs A1 (pack la).length c1 la.length) ∧ Row W (wc0.heap.size + 1) 26 (flt 0 0) ∧ Sl W W.heap.size A1 (pack la).length (bl (pack la)) ∧ Below w.heap.size w W) ⟨r0.below (hkk _ _ _ _) r0.lt, hS.up (hkk _ _ _ _), row_new2a _ _ _ _ _ _ _, row_new2b _ _ _ _ _ _ _, s1.up (blw_new2 _ _ _ _ _), up_call hb (hkk _ _ _ _)⟩ ?_
  generalize wc0.heap.size = g0
  clear hkk hbc hb r0 hS s1 wc0 
  rintro Wg0 ⟨r0, hS, r1, f1, s1, hb⟩
  have b1 : Wg0.cell? ⟨w.heap.size, 1, none⟩ = some (.int .i64 (l.length : Int)) := (r0.cell 1).trans rfl
  go_upto_region 7 with (first
    | (refine wpList_load_row rfl 24 _ rfl w.heap.size rfl 24 (bcs A (pack l).length cp l.length) (0, 0) _ r0 Try.underlying24 rfl (by rw [bcs_size]; exact cellsB) ?_)
    | (go_at_call 26; refine (slice_back' l lb a H2.out ha hl A cp _ hS).mono ?_; rintro e wc1 ⟨A2, c2, rfl, s2, hbc⟩)
    | (refine wpList_store_row rfl 24 _ _ rfl wc1.heap.size (bcs A2 (pack lb).length c2 lb.length) rfl rfl 24 (bcs none 0 0 0) ((Row.newEq _ _ _ _ _ rfl rfl).alloc _) (by rw [bcs_size]; exact cellsB) rfl (all_one (bcs_one _ _ _ _)) ?_)
    | (refine wpList_store_row rfl 26 _ _ rfl (wc1.heap.size + 1) (flt 0 0) rfl rfl 26 (flt 0 0) (Row.rowFar (Row.newEq _ _ _ _ _ (by simp) rfl) (by omega) _) (by rw [flt_size]; exact cellsF) rfl (all_one (flt_one _ _)) ?_))
  have hkk := fun o1 o2 x y => up_call hbc (blw_new2 wc1 o1 o2 x y)
  refine wp_world (F := fun W => Row W w.heap.size 24 (bcs A (pack l).length cp l.length) ∧ Row W g0 24 (bcs A1 (pack la).length c1 la.length) ∧ Row W (g0 + 1) 26 (flt 0 0) ∧ Sl W W.heap.size A (pack l).length (bl (pack l)) ∧ Sl W W.heap.size A1 (pack la).length (bl (pack la)) ∧ Row W wc1.heap.size 24 (bcs A2 (pack lb).length c2 lb.length) ∧ Row W (wc1.heap.size + 1) 26 (flt 0 0) ∧ Sl W W.heap.size A2 (pack lb).length (bl (pack lb)) ∧ Below w.heap.size w W) ⟨r0.below (hkk _ _ _ _) r0.lt, r1.below (hkk _ _ _ _) r1.lt, f1.below (hkk _ _ _ _) f1.lt, hS.up (hkk _ _ _ _), s1.up (hkk _ _ _ _), row_new2a _ _ _ _ _ _ _, row_new2b _ _ _ _ _ _ _, s2.up (blw_new2 _ _ _ _ _), up_call hb (hkk _ _ _ _)⟩ ?_
  generalize wc1.heap.size = g1
  clear hkk hbc hb r0 r1 f1 hS s1 s2 wc1 b1 Wg0
  rintro Wg1 ⟨r0, r1, f1, hS, s1, r2, f2, s2, hb⟩
  go_upto_region 8 with (first
    | (refine wpList_load_row rfl 24 _ rfl g0 rfl 24 (bcs A1 (pack la).length c1 la.length) (0, 0) _ r1 Try.underlying24 rfl (by rw [bcs_size]; exact cellsB) ?_)
    | (refine wpList_load_row rfl 24 _ rfl g1 rfl 24 (bcs A2 (pack lb).length c2 lb.length) (0, 0) _ r2 Try.underlying24 rfl (by rw [bcs_size]; exact cellsB) ?_)
    | (refine wpList_two rfl _ _ rfl A1 A2 _ _ c1 c2 _ _ rfl rfl ?_)
    | (go_at_call 33; refine (join_two la lb l HJ.out hl _ _ (bsv_two _ _ _ la lb A1 A2 c1 c2 rfl n1 n2 s1 s2)).mono ?_; rintro e wc2 ⟨A3, c3, rfl, s3, hbd⟩; have hbc := up_call ((Below.refl _ _).alloc (Nat.le_refl _) _) hbd; clear hbd)
    | (refine wpList_store_row rfl 24 _ _ rfl wc2.heap.size (bcs A3 (pack l).length c3 l.length) rfl rfl 24 (bcs none 0 0 0) ((Row.newEq _ _ _ _ _ rfl rfl).alloc _) (by rw [bcs_size]; exact cellsB) rfl (all_one (bcs_one _ _ _ _)) ?_)
    | (refine wpList_store_row rfl 26 _ _ rfl (wc2.heap.size + 1) (flt 0 0) rfl rfl 26 (flt 0 0) (Row.rowFar (Row.newEq _ _ _ _ _ (by simp) rfl) (by omega) _) (by rw [flt_size]; exact cellsF) rfl (all_one (flt_one _ _)) ?_))
  have hkk := fun o1 o2 x y => up_call hbc (blw_new2 wc2 o1 o2 x y)
  refine wp_world (F := fun W => Row W w.heap.size 24 (bcs A (pack l).length cp l.length) ∧ Row W g0 24 (bcs A1 (pack la).length c1 la.length) ∧ Row W (g0 + 1) 26 (flt 0 0) ∧ Row W g1 24 (bcs A2 (pack lb).length c2 lb.length) ∧ Row W (g1 + 1) 26 (flt 0 0) ∧ Sl W W.heap.size A (pack l).length (bl (pack l)) ∧ Sl W W.heap.size A1 (pack la).length (bl (pack la)) ∧ Sl W W.heap.size A2 (pack lb).length (bl (pack lb)) ∧ Row W wc2.heap.size 24 (bcs A3 (pack l).length c3 l.length) ∧ Row W (wc2.heap.size + 1) 26 (flt 0 0) ∧ Sl W W.heap.size A3 (pack l).length (bl (pack l)) ∧ Below w.heap.size w W) ⟨r0.below (hkk _ _ _ _) r0.lt, r1.below (hkk _ _ _ _) r1.lt, f1.below (hkk _ _ _ _) f1.lt, r2.below (hkk _ _ _ _) r2.lt, f2.below (hkk _ _ _ _) f2.lt, hS.up (hkk _ _ _ _), s1.up (hkk _ _ _ _), s2.up (hkk _ _ _ _), row_new2a _ _ _ _ _ _ _, row_new2b _ _ _ _ _ _ _, s3.up (blw_new2 _ _ _ _ _), up_call hb (hkk _ _ _ _)⟩ ?_
  generalize wc2.heap.size = g2
  generalize Wg1.heap.size = gz
  clear hkk hbc hb r0 r1 f1 r2 f2 hS s1 s2 s3 wc2  Wg1
  rintro Wg2 ⟨r0, r1, f1, r2, f2, hS, s1, s2, r3, f3, s3, hb⟩
  have a1 : Wg2.cell? ⟨g0 + 1, 0, none⟩ = some (.int .i64 0) := (f1.cell 0).trans rfl
  have a2 : Wg2.cell? ⟨g1 + 1, 0, none⟩ = some (.int .i64 0) := (f2.cell 0).trans rfl
  have a3 : Wg2.cell? ⟨g2 + 1, 0, none⟩ = some (.int .i64 0) := (f3.cell 0).trans rfl
  go_wp2_with (first
    | (refine wpList_load_rowG (by simp [Region.wanted, yielded, Act.put]) 24 _ rfl g2 rfl 24 (bcs A3 (pack l).length c3 l.length) (0, 0) _ r3 Try.underlying24 rfl (by rw [bcs_size]; exact cellsB) ?_)
    | (refine wpList_load_rowG (by simp [Region.wanted, yielded, Act.put]) 24 _ rfl w.heap.size rfl 24 (bcs A (pack l).length cp l.length) (0, 0) _ r0 Try.underlying24 rfl (by rw [bcs_size]; exact cellsB) ?_)
    | (go_at_call 17; refine (same_pack l _ A3 A c3 cp _ s3 hS).mono ?_; rintro e w6 ⟨rfl, hb6⟩; have hb7 := up_call hb hb6; have k0 : w6.cell? ⟨g0, 1, none⟩ = some (.int .i64 (la.length : Int)) := ((r1.below hb6 r1.lt).cell 1).trans rfl))
  go_ret
  exact ⟨rfl, hb7⟩
end Go.Proofs.Ytbahkidkpbabdaa.lawParts
