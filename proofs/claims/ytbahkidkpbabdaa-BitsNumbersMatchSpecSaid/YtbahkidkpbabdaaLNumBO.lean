/-
  The walks of BitsNumbersMatchSpec: bo
-/
import Derived.Test.YtbahkidkpbabdaaLNumA
namespace Go.Proofs.Ytbahkidkpbabdaa.lawNum
open Go.RowKit

set_option maxRecDepth 100000 in
set_option maxHeartbeats 4000000 in
theorem walk_bo (l : List Bool) (hl : l.length ≤ 131072) (n : Nat) (hn : n ≤ 32) (v c i : Int) (ha : AF (pack l) l.length v n c i) (y : Nat) (hy : y + n ≤ l.length) (hn0 : 1 ≤ n) (A : Option Addr) (cp : Nat) (w : World) (hS : Sl w w.heap.size A (pack l).length (bl (pack l))) :
    Calls Try.prog 4 #[.agg (bcs A (pack l).length cp l.length), .int .i64 v, .int .i64 n, .int .i64 y] w fun e w' => e = .returned (.bool true) ∧ Below w.heap.size w w' := by
  have HAF := Lib.hid ha
  have k1 : (c != 0) = true := bne_iff_ne.2 ha.ne
  have k2 : (c == 0) = false := beq_eq_false_iff_ne.2 ha.ne
  clear ha
  obtain ⟨z, hz⟩ : ∃ z, z = numF (fun i => l.getD (y + i) false) n := ⟨_, rfl⟩
  have hrd := read_ok (pack l) l (pack_rep l) hl y n hn hy
  rw [← hz] at hrd
  have HRD := Lib.hid hrd
  have hyl : y ≤ l.length := by omega
  have hl60 : ((l.drop y).take n).length ≤ 60 := by rw [List.length_take]; omega
  have hnl : n = ((l.drop y).take n).length := by rw [List.length_take, List.length_drop]; omega
  have HNL := Lib.hid hnl
  have hzv : z = valB ((l.drop y).take n) := by rw [valB_part l y n hy]; exact hz
  have HZV := Lib.hid hzv
  clear hrd hz hnl hzv
  have q1 := neq_same c i
  have q2 := neq_same 0 0
  go_enter Try.func4, Try.ntmps4
  go_upto_region 1 with (fail)
  refine wp_world (F := fun W => Row W w.heap.size 24 (bcs A (pack l).length cp l.length) ∧ Sl W W.heap.size A (pack l).length (bl (pack l)) ∧ Below w.heap.size w W) ⟨Row.new _ _ _, hS.up ((Below.refl _ _).alloc (Nat.le_refl _) _), (Below.refl _ _).alloc (Nat.le_refl _) _⟩ ?_
  clear hS
  rintro W0 ⟨r0, hS, hb⟩
  go_upto_region 2 with (first
    | (refine wpList_load_row rfl 24 _ rfl w.heap.size rfl 24 (bcs A (pack l).length cp l.length) (0, 0) _ r0 Try.underlying24 rfl (by rw [bcs_size]; exact cellsB) ?_)
    | (go_at_call 19; refine (append_bad (pack l) l.length v n c i HAF.out A cp _ hS).mono ?_; rintro e wc0 ⟨rfl, hbc⟩)
    | (refine wpList_store_row rfl 24 _ _ rfl wc0.heap.size (bcs none 0 0 0) rfl rfl 24 (bcs none 0 0 0) ((Row.newEq _ _ _ _ _ rfl rfl).alloc _) (by rw [bcs_size]; exact cellsB) rfl (all_one (bcs_one _ _ _ _)) ?_)
    | (refine wpList_store_row rfl 26 _ _ rfl (wc0.heap.size + 1) (flt c i) rfl rfl 26 (flt 0 0) (Row.rowFar (Row.newEq _ _ _ _ _ (by simp) rfl) (by omega) _) (by rw [flt_size]; exact cellsF) rfl (all_one (flt_one _ _)) ?_))
  have hkk := fun o1 o2 x y => up_call hbc (blw_new2 wc0 o1 o2 x y)
  refine wp_world (F := fun W => Row W w.heap.size 24 (bcs A (pack l).length cp l.length) ∧ Sl W W.heap.size A (pack l).length (bl (pack l)) ∧ Row W wc0.heap.size 24 (bcs none 0 0 0) ∧ Row W (wc0.heap.size + 1) 26 (flt c i) ∧ Below w.heap.size w W) ⟨r0.below (hkk _ _ _ _) r0.lt, hS.up (hkk _ _ _ _), row_new2a _ _ _ _ _ _ _, row_new2b _ _ _ _ _ _ _, up_call hb (hkk _ _ _ _)⟩ ?_
  generalize wc0.heap.size = g0
  clear hkk hbc hb r0 hS wc0  W0
  rintro Wg0 ⟨r0, hS, r1, f1, hb⟩
  go_upto_region 3 with (first
    | (refine wpList_load_row rfl 24 _ rfl w.heap.size rfl 24 (bcs A (pack l).length cp l.length) (0, 0) _ r0 Try.underlying24 rfl (by rw [bcs_size]; exact cellsB) ?_)
    | (go_at_call 20; refine (HRD.out A cp _ hS).mono ?_; rintro e wc1 ⟨rfl, hbc⟩)
    | (refine wpList_store_row rfl 26 _ _ rfl wc1.heap.size (flt 0 0) rfl rfl 26 (flt 0 0) (Row.newEq _ _ _ _ _ rfl rfl) (by rw [flt_size]; exact cellsF) rfl (all_one (flt_one _ _)) ?_))
  have hkk := fun o1 x => up_call hbc (blw_new1 wc1 o1 x)
  refine wp_world (F := fun W => Row W w.heap.size 24 (bcs A (pack l).length cp l.length) ∧ Row W g0 24 (bcs none 0 0 0) ∧ Row W (g0 + 1) 26 (flt c i) ∧ Sl W W.heap.size A (pack l).length (bl (pack l)) ∧ Row W wc1.heap.size 26 (flt 0 0) ∧ Below w.heap.size w W) ⟨r0.below (hkk _ _) r0.lt, r1.below (hkk _ _) r1.lt, f1.below (hkk _ _) f1.lt, hS.up (hkk _ _), row_new1 _ _ _ _, up_call hb (hkk _ _)⟩ ?_
  generalize wc1.heap.size = g1
  clear hkk hbc hb r0 r1 f1 hS wc1  Wg0
  rintro Wg1 ⟨r0, r1, f1, hS, f2, hb⟩
  go_upto_region 4 with (first
    | (refine wpList_load_row rfl 24 _ rfl w.heap.size rfl 24 (bcs A (pack l).length cp l.length) (0, 0) _ r0 Try.underlying24 rfl (by rw [bcs_size]; exact cellsB) ?_)
    | (go_at_call 21; refine (rappend_bad (pack l) l.length v n c i HAF.out A cp _ hS).mono ?_; rintro e wc2 ⟨rfl, hbc⟩)
    | (refine wpList_store_row rfl 26 _ _ rfl wc2.heap.size (flt c i) rfl rfl 26 (flt 0 0) (Row.newEq _ _ _ _ _ rfl rfl) (by rw [flt_size]; exact cellsF) rfl (all_one (flt_one _ _)) ?_))
  have hkk := fun o1 x => up_call hbc (blw_new1 wc2 o1 x)
  refine wp_world (F := fun W => Row W w.heap.size 24 (bcs A (pack l).length cp l.length) ∧ Row W g0 24 (bcs none 0 0 0) ∧ Row W (g0 + 1) 26 (flt c i) ∧ Row W g1 26 (flt 0 0) ∧ Sl W W.heap.size A (pack l).length (bl (pack l)) ∧ Row W wc2.heap.size 26 (flt c i) ∧ Below w.heap.size w W) ⟨r0.below (hkk _ _) r0.lt, r1.below (hkk _ _) r1.lt, f1.below (hkk _ _) f1.lt, f2.below (hkk _ _) f2.lt, hS.up (hkk _ _), row_new1 _ _ _ _, up_call hb (hkk _ _)⟩ ?_
  generalize wc2.heap.size = g2
  clear hkk hbc hb r0 r1 f1 f2 hS wc2  Wg1
  rintro Wg2 ⟨r0, r1, f1, f2, hS, f3, hb⟩
  go_upto_region 5 with (first
    | (refine wpList_load_row rfl 24 _ rfl w.heap.size rfl 24 (bcs A (pack l).length cp l.length) (0, 0) _ r0 Try.underlying24 rfl (by rw [bcs_size]; exact cellsB) ?_)
    | (go_at_call 22; refine (rrf_ok l hl y n hn hy A cp _ hS).mono ?_; rintro e wc3 ⟨rfl, hbc⟩)
    | (refine wpList_store_row rfl 26 _ _ rfl wc3.heap.size (flt 0 0) rfl rfl 26 (flt 0 0) (Row.newEq _ _ _ _ _ rfl rfl) (by rw [flt_size]; exact cellsF) rfl (all_one (flt_one _ _)) ?_))
  have hkk := fun o1 x => up_call hbc (blw_new1 wc3 o1 x)
  refine wp_world (F := fun W => Row W w.heap.size 24 (bcs A (pack l).length cp l.length) ∧ Row W g0 24 (bcs none 0 0 0) ∧ Row W (g0 + 1) 26 (flt c i) ∧ Row W g1 26 (flt 0 0) ∧ Row W g2 26 (flt c i) ∧ Sl W W.heap.size A (pack l).length (bl (pack l)) ∧ Row W wc3.heap.size 26 (flt 0 0) ∧ Below w.heap.size w W) ⟨r0.below (hkk _ _) r0.lt, r1.below (hkk _ _) r1.lt, f1.below (hkk _ _) f1.lt, f2.below (hkk _ _) f2.lt, f3.below (hkk _ _) f3.lt, hS.up (hkk _ _), row_new1 _ _ _ _, up_call hb (hkk _ _)⟩ ?_
  generalize wc3.heap.size = g3
  clear hkk hbc hb r0 r1 f1 f2 f3 hS wc3  Wg2
  rintro Wg3 ⟨r0, r1, f1, f2, f3, hS, f4, hb⟩
  go_upto_region 7 with (first
    | (go_at_call 14; refine (strings_any _).mono ?_; rintro e w9 ⟨rfl, hb9⟩; have d1 := f1.below hb9 f1.lt; have d2 := f2.below hb9 f2.lt; have d3 := f3.below hb9 f3.lt; have d4 := f4.below hb9 f4.lt)
    | (refine wpList_load_rowG (by simp [Region.wanted, yielded, Act.put]) 26 _ rfl (g0 + 1) rfl 26 (flt c i) (0, 0) _ d1 Try.underlying26 rfl (by rw [flt_size]; exact cellsF) ?_)
    | (refine wpList_load_rowG (by simp [Region.wanted, yielded, Act.put]) 26 _ rfl g2 rfl 26 (flt c i) (0, 0) _ d3 Try.underlying26 rfl (by rw [flt_size]; exact cellsF) ?_)
    | (refine wpList_load_rowG (by simp [Region.wanted, yielded, Act.put]) 26 _ rfl g1 rfl 26 (flt 0 0) (0, 0) _ d2 Try.underlying26 rfl (by rw [flt_size]; exact cellsF) ?_)
    | (refine wpList_load_rowG (by simp [Region.wanted, yielded, Act.put]) 26 _ rfl g3 rfl 26 (flt 0 0) (0, 0) _ d4 Try.underlying26 rfl (by rw [flt_size]; exact cellsF) ?_))
  clear d1 d2 d3 d4 q1 q2
  refine wp_world (F := fun W => Row W w.heap.size 24 (bcs A (pack l).length cp l.length) ∧ Row W g0 24 (bcs none 0 0 0) ∧ Row W (g0 + 1) 26 (flt c i) ∧ Row W g1 26 (flt 0 0) ∧ Row W g2 26 (flt c i) ∧ Row W g3 26 (flt 0 0) ∧ Sl W W.heap.size A (pack l).length (bl (pack l)) ∧ Below w.heap.size w W) ⟨r0.below hb9 r0.lt, r1.below hb9 r1.lt, f1.below hb9 f1.lt, f2.below hb9 f2.lt, f3.below hb9 f3.lt, f4.below hb9 f4.lt, hS.up hb9, up_call hb hb9⟩ ?_
  clear r0 r1 f1 f2 f3 f4 hS hb hb9 w9 Wg3
  rintro W9 ⟨r0, r1, f1, f2, f3, f4, hS, hb⟩
  have a3 : W9.cell? ⟨g2, 0, none⟩ = some (.int .i64 c) := (f3.cell 0).trans rfl
  have a4 : W9.cell? ⟨g3, 0, none⟩ = some (.int .i64 0) := (f4.cell 0).trans rfl
  go_upto_region 9 with (first
    | (refine wpList_load_rowG (by simp [Region.wanted, yielded, Act.put]) 24 _ rfl g0 rfl 24 (bcs none 0 0 0) (0, 0) _ r1 Try.underlying24 rfl (by rw [bcs_size]; exact cellsB) ?_)
    | (go_at_call 17; refine (same_none _).mono ?_; rintro e w10 ⟨rfl, hb10⟩; have b3 : w10.cell? ⟨g2, 0, none⟩ = some (.int .i64 c) := ((f3.below hb10 f3.lt).cell 0).trans rfl; have b4 : w10.cell? ⟨g3, 0, none⟩ = some (.int .i64 0) := ((f4.below hb10 f4.lt).cell 0).trans rfl))
  go_quiet (fail)
  have hb11 := up_call hb hb10
  have r0b := r0.below hb10 r0.lt
  have hSb := hS.up hb10
  go_upto_region 11 with (fail)
  have c4 : W9.cell? ⟨g3, 0, none⟩ = W9.cell? ⟨g3, 0, none⟩ := rfl
  clear c4
  have hbn := blw_drewN hb11 nq
  have r0c := r0b.drewN nq
  have hSc := hSb.drewN nq
  have b5 := b4
  go_wp2_with (first
    | (refine wpList_load_rowG (by simp [Region.wanted, yielded, Act.put]) 24 _ rfl w.heap.size rfl 24 (bcs A (pack l).length cp l.length) (0, 0) _ r0c Try.underlying24 rfl (by rw [bcs_size]; exact cellsB) ?_)
    | (go_at_call 23; refine (rbits_any (pack l) l (pack_rep l) hl A cp _ hSc).mono ?_; rintro e w6 ⟨v6, rfl, ho6, hb6⟩; obtain ⟨A6, c6, hv6, h61, h62⟩ := own_form ho6; subst hv6; obtain ⟨ad6, u6, hA6, _, _, _⟩ := (Sl.of_own ho6).at_ (k := y) (by omega); subst hA6; have hs6 := part_n (Sl.of_own ho6) y n (by omega) hy h61; have hb12 := up_call hbn hb6)
    | (go_at_call 25; (refine (rnumber_is ((l.drop y).take n) hl60 _ _ _ HNL.out z HZV.out _ hs6).mono ?_; rintro e w8 ⟨rfl, rfl⟩)))
  go_ret
  exact ⟨rfl, hb12⟩
end Go.Proofs.Ytbahkidkpbabdaa.lawNum
