/-
  The walks of BitsNumbersMatchSpec: bb
-/
import Derived.Test.YtbahkidkpbabdaaLNumA
namespace Go.Proofs.Ytbahkidkpbabdaa.lawNum
open Go.RowKit

set_option maxRecDepth 100000 in
set_option maxHeartbeats 4000000 in
theorem walk_bb (L : List UInt8) (k : Int) (m : Int) (v c i : Int) (ha : AF L k v m c i) (f d j : Int) (hr : RF L k f m d j) (A : Option Addr) (cp : Nat) (w : World) (hS : Sl w w.heap.size A L.length (bl L)) :
    Calls Try.prog 4 #[.agg (bcs A L.length cp k), .int .i64 v, .int .i64 m, .int .i64 f] w fun e w' => e = .returned (.bool true) ∧ Below w.heap.size w w' := by
  have HAF := Lib.hid ha
  have k1 : (c != 0) = true := bne_iff_ne.2 ha.ne
  have k2 : (c == 0) = false := beq_eq_false_iff_ne.2 ha.ne
  clear ha
  have HRF := Lib.hid hr
  have k3 : (d != 0) = true := bne_iff_ne.2 hr.ne
  clear hr
  have q1 := neq_same c i
  have q2 := neq_same d j
  go_enter Try.func4, Try.ntmps4
  go_upto_region 1 with (fail)
  refine wp_world (F := fun W => Row W w.heap.size 24 (bcs A L.length cp k) ∧ Sl W W.heap.size A L.length (bl L) ∧ Below w.heap.size w W) ⟨Row.new _ _ _, hS.up ((Below.refl _ _).alloc (Nat.le_refl _) _), (Below.refl _ _).alloc (Nat.le_refl _) _⟩ ?_
  clear hS
  rintro W0 ⟨r0, hS, hb⟩
  go_upto_region 2 with (first
    | (refine wpList_load_row rfl 24 _ rfl w.heap.size rfl 24 (bcs A L.length cp k) (0, 0) _ r0 Try.underlying24 rfl (by rw [bcs_size]; exact cellsB) ?_)
    | (go_at_call 19; refine (append_bad L k v m c i HAF.out A cp _ hS).mono ?_; rintro e wc0 ⟨rfl, hbc⟩)
    | (refine wpList_store_row rfl 24 _ _ rfl wc0.heap.size (bcs none 0 0 0) rfl rfl 24 (bcs none 0 0 0) ((Row.newEq _ _ _ _ _ rfl rfl).alloc _) (by rw [bcs_size]; exact cellsB) rfl (all_one (bcs_one _ _ _ _)) ?_)
    | (refine wpList_store_row rfl 26 _ _ rfl (wc0.heap.size + 1) (flt c i) rfl rfl 26 (flt 0 0) (Row.rowFar (Row.newEq _ _ _ _ _ (by simp) rfl) (by omega) _) (by rw [flt_size]; exact cellsF) rfl (all_one (flt_one _ _)) ?_))
  have hkk := fun o1 o2 x y => up_call hbc (blw_new2 wc0 o1 o2 x y)
  refine wp_world (F := fun W => Row W w.heap.size 24 (bcs A L.length cp k) ∧ Sl W W.heap.size A L.length (bl L) ∧ Row W wc0.heap.size 24 (bcs none 0 0 0) ∧ Row W (wc0.heap.size + 1) 26 (flt c i) ∧ Below w.heap.size w W) ⟨r0.below (hkk _ _ _ _) r0.lt, hS.up (hkk _ _ _ _), row_new2a _ _ _ _ _ _ _, row_new2b _ _ _ _ _ _ _, up_call hb (hkk _ _ _ _)⟩ ?_
  generalize wc0.heap.size = g0
  clear hkk hbc hb r0 hS wc0  W0
  rintro Wg0 ⟨r0, hS, r1, f1, hb⟩
  go_upto_region 3 with (first
    | (refine wpList_load_row rfl 24 _ rfl w.heap.size rfl 24 (bcs A L.length cp k) (0, 0) _ r0 Try.underlying24 rfl (by rw [bcs_size]; exact cellsB) ?_)
    | (go_at_call 20; refine (read_bad L k f m d j HRF.out A cp _ hS).mono ?_; rintro e wc1 ⟨rfl, hbc⟩)
    | (refine wpList_store_row rfl 26 _ _ rfl wc1.heap.size (flt d j) rfl rfl 26 (flt 0 0) (Row.newEq _ _ _ _ _ rfl rfl) (by rw [flt_size]; exact cellsF) rfl (all_one (flt_one _ _)) ?_))
  have hkk := fun o1 x => up_call hbc (blw_new1 wc1 o1 x)
  refine wp_world (F := fun W => Row W w.heap.size 24 (bcs A L.length cp k) ∧ Row W g0 24 (bcs none 0 0 0) ∧ Row W (g0 + 1) 26 (flt c i) ∧ Sl W W.heap.size A L.length (bl L) ∧ Row W wc1.heap.size 26 (flt d j) ∧ Below w.heap.size w W) ⟨r0.below (hkk _ _) r0.lt, r1.below (hkk _ _) r1.lt, f1.below (hkk _ _) f1.lt, hS.up (hkk _ _), row_new1 _ _ _ _, up_call hb (hkk _ _)⟩ ?_
  generalize wc1.heap.size = g1
  clear hkk hbc hb r0 r1 f1 hS wc1  Wg0
  rintro Wg1 ⟨r0, r1, f1, hS, f2, hb⟩
  go_upto_region 4 with (first
    | (refine wpList_load_row rfl 24 _ rfl w.heap.size rfl 24 (bcs A L.length cp k) (0, 0) _ r0 Try.underlying24 rfl (by rw [bcs_size]; exact cellsB) ?_)
    | (go_at_call 21; refine (rappend_bad L k v m c i HAF.out A cp _ hS).mono ?_; rintro e wc2 ⟨rfl, hbc⟩)
    | (refine wpList_store_row rfl 26 _ _ rfl wc2.heap.size (flt c i) rfl rfl 26 (flt 0 0) (Row.newEq _ _ _ _ _ rfl rfl) (by rw [flt_size]; exact cellsF) rfl (all_one (flt_one _ _)) ?_))
  have hkk := fun o1 x => up_call hbc (blw_new1 wc2 o1 x)
  refine wp_world (F := fun W => Row W w.heap.size 24 (bcs A L.length cp k) ∧ Row W g0 24 (bcs none 0 0 0) ∧ Row W (g0 + 1) 26 (flt c i) ∧ Row W g1 26 (flt d j) ∧ Sl W W.heap.size A L.length (bl L) ∧ Row W wc2.heap.size 26 (flt c i) ∧ Below w.heap.size w W) ⟨r0.below (hkk _ _) r0.lt, r1.below (hkk _ _) r1.lt, f1.below (hkk _ _) f1.lt, f2.below (hkk _ _) f2.lt, hS.up (hkk _ _), row_new1 _ _ _ _, up_call hb (hkk _ _)⟩ ?_
  generalize wc2.heap.size = g2
  clear hkk hbc hb r0 r1 f1 f2 hS wc2  Wg1
  rintro Wg2 ⟨r0, r1, f1, f2, hS, f3, hb⟩
  go_upto_region 5 with (first
    | (refine wpList_load_row rfl 24 _ rfl w.heap.size rfl 24 (bcs A L.length cp k) (0, 0) _ r0 Try.underlying24 rfl (by rw [bcs_size]; exact cellsB) ?_)
    | (go_at_call 22; refine (rread_bad L k f m d j HRF.out A cp _ hS).mono ?_; rintro e wc3 ⟨rfl, hbc⟩)
    | (refine wpList_store_row rfl 26 _ _ rfl wc3.heap.size (flt d j) rfl rfl 26 (flt 0 0) (Row.newEq _ _ _ _ _ rfl rfl) (by rw [flt_size]; exact cellsF) rfl (all_one (flt_one _ _)) ?_))
  have hkk := fun o1 x => up_call hbc (blw_new1 wc3 o1 x)
  refine wp_world (F := fun W => Row W w.heap.size 24 (bcs A L.length cp k) ∧ Row W g0 24 (bcs none 0 0 0) ∧ Row W (g0 + 1) 26 (flt c i) ∧ Row W g1 26 (flt d j) ∧ Row W g2 26 (flt c i) ∧ Sl W W.heap.size A L.length (bl L) ∧ Row W wc3.heap.size 26 (flt d j) ∧ Below w.heap.size w W) ⟨r0.below (hkk _ _) r0.lt, r1.below (hkk _ _) r1.lt, f1.below (hkk _ _) f1.lt, f2.below (hkk _ _) f2.lt, f3.below (hkk _ _) f3.lt, hS.up (hkk _ _), row_new1 _ _ _ _, up_call hb (hkk _ _)⟩ ?_
  generalize wc3.heap.size = g3
  clear hkk hbc hb r0 r1 f1 f2 f3 hS wc3  Wg2
  rintro Wg3 ⟨r0, r1, f1, f2, f3, hS, f4, hb⟩
  go_upto_region 7 with (first
    | (go_at_call 14; refine (strings_any _).mono ?_; rintro e w9 ⟨rfl, hb9⟩; have d1 := f1.below hb9 f1.lt; have d2 := f2.below hb9 f2.lt; have d3 := f3.below hb9 f3.lt; have d4 := f4.below hb9 f4.lt)
    | (refine wpList_load_rowG (by simp [Region.wanted, yielded, Act.put]) 26 _ rfl (g0 + 1) rfl 26 (flt c i) (0, 0) _ d1 Try.underlying26 rfl (by rw [flt_size]; exact cellsF) ?_)
    | (refine wpList_load_rowG (by simp [Region.wanted, yielded, Act.put]) 26 _ rfl g2 rfl 26 (flt c i) (0, 0) _ d3 Try.underlying26 rfl (by rw [flt_size]; exact cellsF) ?_)
    | (refine wpList_load_rowG (by simp [Region.wanted, yielded, Act.put]) 26 _ rfl g1 rfl 26 (flt d j) (0, 0) _ d2 Try.underlying26 rfl (by rw [flt_size]; exact cellsF) ?_)
    | (refine wpList_load_rowG (by simp [Region.wanted, yielded, Act.put]) 26 _ rfl g3 rfl 26 (flt d j) (0, 0) _ d4 Try.underlying26 rfl (by rw [flt_size]; exact cellsF) ?_))
  clear d1 d2 d3 d4 q1 q2
  refine wp_world (F := fun W => Row W w.heap.size 24 (bcs A L.length cp k) ∧ Row W g0 24 (bcs none 0 0 0) ∧ Row W (g0 + 1) 26 (flt c i) ∧ Row W g1 26 (flt d j) ∧ Row W g2 26 (flt c i) ∧ Row W g3 26 (flt d j) ∧ Sl W W.heap.size A L.length (bl L) ∧ Below w.heap.size w W) ⟨r0.below hb9 r0.lt, r1.below hb9 r1.lt, f1.below hb9 f1.lt, f2.below hb9 f2.lt, f3.below hb9 f3.lt, f4.below hb9 f4.lt, hS.up hb9, up_call hb hb9⟩ ?_
  clear r0 r1 f1 f2 f3 f4 hS hb hb9 w9 Wg3
  rintro W9 ⟨r0, r1, f1, f2, f3, f4, hS, hb⟩
  have a3 : W9.cell? ⟨g2, 0, none⟩ = some (.int .i64 c) := (f3.cell 0).trans rfl
  have a4 : W9.cell? ⟨g3, 0, none⟩ = some (.int .i64 d) := (f4.cell 0).trans rfl
  go_upto_region 9 with (first
    | (refine wpList_load_rowG (by simp [Region.wanted, yielded, Act.put]) 24 _ rfl g0 rfl 24 (bcs none 0 0 0) (0, 0) _ r1 Try.underlying24 rfl (by rw [bcs_size]; exact cellsB) ?_)
    | (go_at_call 17; refine (same_none _).mono ?_; rintro e w10 ⟨rfl, hb10⟩; have b3 : w10.cell? ⟨g2, 0, none⟩ = some (.int .i64 c) := ((f3.below hb10 f3.lt).cell 0).trans rfl; have b4 : w10.cell? ⟨g3, 0, none⟩ = some (.int .i64 d) := ((f4.below hb10 f4.lt).cell 0).trans rfl))
  go_quiet (fail)
  have hb11 := up_call hb hb10
  go_wp2_with fail
  go_ret
  exact ⟨rfl, blw_drewN hb11 _⟩
end Go.Proofs.Ytbahkidkpbabdaa.lawNum
