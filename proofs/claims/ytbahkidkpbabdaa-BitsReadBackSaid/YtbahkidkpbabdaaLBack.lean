/-
  The walks of BitsReadBack.
-/
import Derived.Test.YtbahkidkpbabdaaBSpec
namespace Go.Proofs.Ytbahkidkpbabdaa.lawBack
open Go.RowKit

set_option maxRecDepth 100000 in
set_option maxHeartbeats 4000000 in
theorem walk_bad (L : List UInt8) (k v m c i : Int) (h : AF L k v m c i) (A : Option Addr) (cp : Nat) (w : World) (hS : Sl w w.heap.size A L.length (bl L)) :
    Calls Try.prog 5 #[.agg (bcs A L.length cp k), .int .i64 v, .int .i64 m] w fun e w' => e = .returned (.bool true) ∧ Below w.heap.size w w' := by
  have HF := Lib.hid h
  have hne : (c != 0) = true := bne_iff_ne.2 h.ne
  clear h
  go_enter Try.func5, Try.ntmps5
  go_upto_region 1 with (fail)
  refine wp_world (F := fun W => Row W w.heap.size 24 (bcs A L.length cp k) ∧ Sl W W.heap.size A L.length (bl L) ∧ Below w.heap.size w W) ⟨Row.new _ _ _, hS.up ((Below.refl _ _).alloc (Nat.le_refl _) _), (Below.refl _ _).alloc (Nat.le_refl _) _⟩ ?_
  clear hS
  rintro W0 ⟨r0, hS, hb⟩
  go_upto_region 2 with (first
    | (refine wpList_load_row rfl 24 _ rfl w.heap.size rfl 24 (bcs A L.length cp k) (0, 0) _ r0 Try.underlying24 rfl (by rw [bcs_size]; exact cellsB) ?_)
    | (go_at_call 19; refine (append_bad L k v m c i HF.out A cp _ hS).mono ?_; rintro e wc0 ⟨rfl, hbc⟩)
    | (refine wpList_store_row rfl 24 _ _ rfl wc0.heap.size (bcs none 0 0 0) rfl rfl 24 (bcs none 0 0 0) ((Row.newEq _ _ _ _ _ rfl rfl).alloc _) (by rw [bcs_size]; exact cellsB) rfl (all_one (bcs_one _ _ _ _)) ?_)
    | (refine wpList_store_row rfl 26 _ _ rfl (wc0.heap.size + 1) (flt c i) rfl rfl 26 (flt 0 0) (Row.rowFar (Row.newEq _ _ _ _ _ (by simp) rfl) (by omega) _) (by rw [flt_size]; exact cellsF) rfl (all_one (flt_one _ _)) ?_))
  have hkk := fun o1 o2 x y => up_call hbc (blw_new2 wc0 o1 o2 x y)
  refine wp_world (F := fun W => Row W w.heap.size 24 (bcs A L.length cp k) ∧ Sl W W.heap.size A L.length (bl L) ∧ Row W wc0.heap.size 24 (bcs none 0 0 0) ∧ Row W (wc0.heap.size + 1) 26 (flt c i) ∧ Below w.heap.size w W) ⟨r0.below (hkk _ _ _ _) r0.lt, hS.up (hkk _ _ _ _), row_new2a _ _ _ _ _ _ _, row_new2b _ _ _ _ _ _ _, up_call hb (hkk _ _ _ _)⟩ ?_
  generalize wc0.heap.size = g0
  clear hkk hbc hb r0 hS wc0  W0
  rintro Wg0 ⟨r0, hS, r1, f1, hb⟩
  have a1 : Wg0.cell? ⟨g0 + 1, 0, none⟩ = some (.int .i64 c) := (f1.cell 0).trans rfl
  go_upto_region 3 with (first
    | (go_at_call 14; refine (strings_any _).mono ?_; rintro e w2 ⟨rfl, hb2⟩; have a2 : w2.cell? ⟨g0 + 1, 0, none⟩ = some (.int .i64 c) := ((f1.below hb2 f1.lt).cell 0).trans rfl; have r2 := r1.below hb2 r1.lt; have hb3 := up_call hb hb2))
  go_wp2_with (first
    | (go_at_call 14; refine (strings_any _).mono ?_; rintro e w4 ⟨rfl, hb4⟩; have r4 := r2.below hb4 r2.lt; have hb5 := up_call hb3 hb4)
    | (refine wpList_load_rowG (by simp [Region.wanted, yielded]) 24 _ rfl g0 rfl 24 (bcs none 0 0 0) (0, 0) _ r4 Try.underlying24 rfl (by rw [bcs_size]; exact cellsB) ?_)
    | (go_at_call 17; refine (same_none _).mono ?_; rintro e w6 ⟨rfl, hb6⟩; have hb7 := up_call hb5 hb6))
  go_ret
  exact ⟨rfl, hb7⟩

set_option maxRecDepth 100000 in
set_option maxHeartbeats 4000000 in
theorem walk_good (l : List Bool) (x n : Nat) (hn : n ≤ 32) (hx : x < 2 ^ n) (hl : l.length + n ≤ 131072) (A : Option Addr) (cp : Nat) (w : World) (hS : Sl w w.heap.size A (pack l).length (bl (pack l))) :
    Calls Try.prog 5 #[.agg (bcs A (pack l).length cp l.length), .int .i64 x, .int .i64 n] w fun e w' => e = .returned (.bool true) ∧ Below w.heap.size w w' := by
  obtain ⟨l2, h2⟩ : ∃ l2, l2 = l ++ digB x n := ⟨_, rfl⟩
  have hln : (l2.length : Int) = (l.length : Int) + (n : Int) := by rw [h2, List.length_append, digB_length]; omega
  have hll : l2.length ≤ 131072 := by omega
  have HLN := Lib.hid hln
  have H2 := Lib.hid h2
  have HX := Lib.hid hx
  have hap := append_good l x n hn hx hl
  rw [← h2] at hap
  have HAP := Lib.hid hap
  clear h2 hln hx hap
  go_enter Try.func5, Try.ntmps5
  go_upto_region 1 with (fail)
  refine wp_world (F := fun W => Row W w.heap.size 24 (bcs A (pack l).length cp l.length) ∧ Sl W W.heap.size A (pack l).length (bl (pack l)) ∧ Below w.heap.size w W) ⟨Row.new _ _ _, hS.up ((Below.refl _ _).alloc (Nat.le_refl _) _), (Below.refl _ _).alloc (Nat.le_refl _) _⟩ ?_
  clear hS
  rintro W0 ⟨r0, hS, hb⟩
  go_upto_region 2 with (first
    | (refine wpList_load_row rfl 24 _ rfl w.heap.size rfl 24 (bcs A (pack l).length cp l.length) (0, 0) _ r0 Try.underlying24 rfl (by rw [bcs_size]; exact cellsB) ?_)
    | (go_at_call 19; refine (HAP.out A cp _ hS).mono ?_; rintro e wc0 ⟨A1, c1, rfl, s1, hbc⟩)
    | (refine wpList_store_row rfl 24 _ _ rfl wc0.heap.size (bcs A1 (pack l2).length c1 l2.length) rfl rfl 24 (bcs none 0 0 0) ((Row.newEq _ _ _ _ _ rfl rfl).alloc _) (by rw [bcs_size]; exact cellsB) rfl (all_one (bcs_one _ _ _ _)) ?_)
    | (refine wpList_store_row rfl 26 _ _ rfl (wc0.heap.size + 1) (flt 0 0) rfl rfl 26 (flt 0 0) (Row.rowFar (Row.newEq _ _ _ _ _ (by simp) rfl) (by omega) _) (by rw [flt_size]; exact cellsF) rfl (all_one (flt_one _ _)) ?_))
  have hkk := fun o1 o2 x y => up_call hbc (blw_new2 wc0 o1 o2 x y)
  refine wp_world (F := fun W => Row W w.heap.size 24 (bcs A (pack l).length cp l.length) ∧ Sl W W.heap.size A (pack l).length (bl (pack l)) ∧ Row W wc0.heap.size 24 (bcs A1 (pack l2).length c1 l2.length) ∧ Row W (wc0.heap.size + 1) 26 (flt 0 0) ∧ Sl W W.heap.size A1 (pack l2).length (bl (pack l2)) ∧ Below w.heap.size w W) ⟨r0.below (hkk _ _ _ _) r0.lt, hS.up (hkk _ _ _ _), row_new2a _ _ _ _ _ _ _, row_new2b _ _ _ _ _ _ _, s1.up (blw_new2 _ _ _ _ _), up_call hb (hkk _ _ _ _)⟩ ?_
  generalize wc0.heap.size = g0
  clear hkk hbc hb r0 hS s1 wc0  W0
  rintro Wg0 ⟨r0, hS, r1, f1, s1, hb⟩
  have a1 : Wg0.cell? ⟨g0 + 1, 0, none⟩ = some (.int .i64 0) := (f1.cell 0).trans rfl
  go_upto_region 4 with (first
    | (go_at_call 14; refine (strings_any _).mono ?_; rintro e w2 ⟨rfl, hb2⟩; have a2 : w2.cell? ⟨g0 + 1, 0, none⟩ = some (.int .i64 0) := ((f1.below hb2 f1.lt).cell 0).trans rfl))
  refine wp_world (F := fun W => Row W w.heap.size 24 (bcs A (pack l).length cp l.length) ∧ Sl W W.heap.size A (pack l).length (bl (pack l)) ∧ Row W g0 24 (bcs A1 (pack l2).length c1 l2.length) ∧ Row W (g0 + 1) 26 (flt 0 0) ∧ Sl W W.heap.size A1 (pack l2).length (bl (pack l2)) ∧ Below w.heap.size w W) ⟨r0.below hb2 r0.lt, hS.up hb2, r1.below hb2 r1.lt, f1.below hb2 f1.lt, s1.up hb2, up_call hb hb2⟩ ?_
  clear a1 a2 hb2 w2 r0 hS r1 f1 s1 hb Wg0
  rintro W2 ⟨r0, hS, r1, f1, s1, hb⟩
  have b1 : W2.cell? ⟨w.heap.size, 1, none⟩ = some (.int .i64 (l.length : Int)) := (r0.cell 1).trans rfl
  go_upto_region 5 with (first
    | (refine wpList_load_row rfl 24 _ rfl g0 rfl 24 (bcs A1 (pack l2).length c1 l2.length) (0, 0) _ r1 Try.underlying24 rfl (by rw [bcs_size]; exact cellsB) ?_)
    | (go_at_call 20; refine (read_back l l2 x n H2.out hn HX.out hl A1 c1 _ s1).mono ?_; rintro e wc1 ⟨rfl, hbc⟩)
    | (refine wpList_store_row rfl 26 _ _ rfl wc1.heap.size (flt 0 0) rfl rfl 26 (flt 0 0) (Row.newEq _ _ _ _ _ rfl rfl) (by rw [flt_size]; exact cellsF) rfl (all_one (flt_one _ _)) ?_))
  have hkk := fun o1 x => up_call hbc (blw_new1 wc1 o1 x)
  refine wp_world (F := fun W => Row W w.heap.size 24 (bcs A (pack l).length cp l.length) ∧ Row W g0 24 (bcs A1 (pack l2).length c1 l2.length) ∧ Row W (g0 + 1) 26 (flt 0 0) ∧ Sl W W.heap.size A (pack l).length (bl (pack l)) ∧ Sl W W.heap.size A1 (pack l2).length (bl (pack l2)) ∧ Row W wc1.heap.size 26 (flt 0 0) ∧ Below w.heap.size w W) ⟨r0.below (hkk _ _) r0.lt, r1.below (hkk _ _) r1.lt, f1.below (hkk _ _) f1.lt, hS.up (hkk _ _), s1.up (hkk _ _), row_new1 _ _ _ _, up_call hb (hkk _ _)⟩ ?_
  generalize wc1.heap.size = g1
  clear hkk hbc hb r0 r1 f1 hS s1 wc1 b1 W2
  rintro Wg1 ⟨r0, r1, f1, hS, s1, f2, hb⟩
  have b1 : Wg1.cell? ⟨w.heap.size, 1, none⟩ = some (.int .i64 (l.length : Int)) := (r0.cell 1).trans rfl
  go_upto_region 6 with (first
    | (refine wpList_load_row rfl 24 _ rfl g0 rfl 24 (bcs A1 (pack l2).length c1 l2.length) (0, 0) _ r1 Try.underlying24 rfl (by rw [bcs_size]; exact cellsB) ?_)
    | (go_at_call 26; refine (slice_first l l2 _ H2.out hll A1 c1 _ s1).mono ?_; rintro e wc2 ⟨A3, c3, rfl, s3, hbc⟩)
    | (refine wpList_store_row rfl 24 _ _ rfl wc2.heap.size (bcs A3 (pack l).length c3 l.length) rfl rfl 24 (bcs none 0 0 0) ((Row.newEq _ _ _ _ _ rfl rfl).alloc _) (by rw [bcs_size]; exact cellsB) rfl (all_one (bcs_one _ _ _ _)) ?_)
    | (refine wpList_store_row rfl 26 _ _ rfl (wc2.heap.size + 1) (flt 0 0) rfl rfl 26 (flt 0 0) (Row.rowFar (Row.newEq _ _ _ _ _ (by simp) rfl) (by omega) _) (by rw [flt_size]; exact cellsF) rfl (all_one (flt_one _ _)) ?_))
  have hkk := fun o1 o2 x y => up_call hbc (blw_new2 wc2 o1 o2 x y)
  refine wp_world (F := fun W => Row W w.heap.size 24 (bcs A (pack l).length cp l.length) ∧ Row W g0 24 (bcs A1 (pack l2).length c1 l2.length) ∧ Row W (g0 + 1) 26 (flt 0 0) ∧ Row W g1 26 (flt 0 0) ∧ Sl W W.heap.size A (pack l).length (bl (pack l)) ∧ Sl W W.heap.size A1 (pack l2).length (bl (pack l2)) ∧ Row W wc2.heap.size 24 (bcs A3 (pack l).length c3 l.length) ∧ Row W (wc2.heap.size + 1) 26 (flt 0 0) ∧ Sl W W.heap.size A3 (pack l).length (bl (pack l)) ∧ Below w.heap.size w W) ⟨r0.below (hkk _ _ _ _) r0.lt, r1.below (hkk _ _ _ _) r1.lt, f1.below (hkk _ _ _ _) f1.lt, f2.below (hkk _ _ _ _) f2.lt, hS.up (hkk _ _ _ _), s1.up (hkk _ _ _ _), row_new2a _ _ _ _ _ _ _, row_new2b _ _ _ _ _ _ _, s3.up (blw_new2 _ _ _ _ _), up_call hb (hkk _ _ _ _)⟩ ?_
  generalize wc2.heap.size = g2
  clear hkk hbc hb r0 r1 f1 f2 hS s1 s3 wc2 b1 Wg1
  rintro Wg2 ⟨r0, r1, f1, f2, hS, s1, r3, f3, s3, hb⟩
  have a2 : Wg2.cell? ⟨g1, 0, none⟩ = some (.int .i64 0) := (f2.cell 0).trans rfl
  have a3 : Wg2.cell? ⟨g2 + 1, 0, none⟩ = some (.int .i64 0) := (f3.cell 0).trans rfl
  have hcnt : ((l2.length : Int) == (l.length : Int) + (n : Int)) = true := beq_iff_eq.2 HLN.out
  go_wp2_with (first
    | (refine wpList_load_rowG (by simp [Region.wanted, yielded, Act.put]) 24 _ rfl g2 rfl 24 (bcs A3 (pack l).length c3 l.length) (0, 0) _ r3 Try.underlying24 rfl (by rw [bcs_size]; exact cellsB) ?_)
    | (refine wpList_load_rowG (by simp [Region.wanted, yielded, Act.put]) 24 _ rfl w.heap.size rfl 24 (bcs A (pack l).length cp l.length) (0, 0) _ r0 Try.underlying24 rfl (by rw [bcs_size]; exact cellsB) ?_)
    | (go_at_call 17; refine (same_pack l _ A3 A c3 cp _ s3 hS).mono ?_; rintro e w6 ⟨rfl, hb6⟩; have hb7 := up_call hb hb6; have k0 : w6.cell? ⟨w.heap.size, 1, none⟩ = some (.int .i64 (l.length : Int)) := ((r0.below hb6 r0.lt).cell 1).trans rfl; have k1 : w6.cell? ⟨g0, 1, none⟩ = some (.int .i64 (l2.length : Int)) := ((r1.below hb6 r1.lt).cell 1).trans rfl))
  go_ret
  exact ⟨rfl, hb7⟩
end Go.Proofs.Ytbahkidkpbabdaa.lawBack
