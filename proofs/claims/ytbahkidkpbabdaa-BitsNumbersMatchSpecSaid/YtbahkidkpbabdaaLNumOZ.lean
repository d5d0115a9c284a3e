/-
  The walks of BitsNumbersMatchSpec: oz
-/
import Derived.Test.YtbahkidkpbabdaaLNumA
namespace Go.Proofs.Ytbahkidkpbabdaa.lawNum
open Go.RowKit

set_option maxRecDepth 100000 in
set_option maxHeartbeats 4000000 in
theorem walk_oz (l : List Bool) (hl : l.length ≤ 131072) (n : Nat) (hn : n ≤ 32) (x : Nat) (hx : x < 2 ^ n) (hln : l.length + n ≤ 131072) (y : Nat) (hy : y + n ≤ l.length) (hn0 : n = 0) (A : Option Addr) (cp : Nat) (w : World) (hS : Sl w w.heap.size A (pack l).length (bl (pack l))) :
    Calls Try.prog 4 #[.agg (bcs A (pack l).length cp l.length), .int .i64 x, .int .i64 n, .int .i64 y] w fun e w' => e = .returned (.bool true) ∧ Below w.heap.size w w' := by
  obtain ⟨l2, e2⟩ : ∃ l2, l2 = l ++ digB x n := ⟨_, rfl⟩
  have hap := append_good l x n hn hx hln
  rw [← e2] at hap
  have HAP := Lib.hid hap
  have E2 := Lib.hid e2
  have HX := Lib.hid hx
  clear e2 hap
  obtain ⟨z, hz⟩ : ∃ z, z = numF (fun i => l.getD (y + i) false) n := ⟨_, rfl⟩
  have hrd := read_ok (pack l) l (pack_rep l) hl y n hn hy
  rw [← hz] at hrd
  have HRD := Lib.hid hrd
  have hyl : y ≤ l.length := by omega
  have hl60 : ((l.drop y).take n).length ≤ 60 := by rw [List.length_take]; omega
  have hnl : n = ((l.drop y).take n).length := by rw [List.length_take, List.length_drop]; omega
  have HNL := Lib.hid hnl
  have hzv : z = valB ((l.drop y).take n) := by rw [valB_part l y n hy]; exact hz
  have HZV := Lib.hid hzv
  have HN0 := Lib.hid hn0
  clear hrd hz hnl hzv hn0
  have q1 := neq_same 0 0
  have q2 := neq_same 0 0
  go_enter Try.func4, Try.ntmps4
  go_upto_region 1 with (fail)
  refine wp_world (F := fun W => Row W w.heap.size 24 (bcs A (pack l).length cp l.length) ∧ Sl W W.heap.size A (pack l).length (bl (pack l)) ∧ Below w.heap.size w W) ⟨Row.new _ _ _, hS.up ((Below.refl _ _).alloc (Nat.le_refl _) _), (Below.refl _ _).alloc (Nat.le_refl _) _⟩ ?_
  clear hS
  rintro W0 ⟨r0, hS, hb⟩
  go_upto_region 2 with (first
    | (refine wpList_load_row rfl 24 _ rfl w.heap.size rfl 24 (bcs A (pack l).length cp l.length) (0, 0) _ r0 Try.underlying24 rfl (by rw [bcs_size]; exact cellsB) ?_)
    | (go_at_call 19; refine (HAP.out A cp _ hS).mono ?_; rintro e wc0 ⟨A1, c1, rfl, s1, hbc⟩)
    | (refine wpList_store_row rfl 24 _ _ rfl wc0.heap.size (bcs A1 (pack l2).length c1 l2.length) rfl rfl 24 (bcs none 0 0 0) ((Row.newEq _ _ _ _ _ rfl rfl).alloc _) (by rw [bcs_size]; exact cellsB) rfl (all_one (bcs_one _ _ _ _)) ?_)
    | (refine wpList_store_row rfl 26 _ _ rfl (wc0.heap.size + 1) (flt 0 0) rfl rfl 26 (flt 0 0) (Row.rowFar (Row.newEq _ _ _ _ _ (by simp) rfl) (by omega) _) (by rw [flt_size]; exact cellsF) rfl (all_one (flt_one _ _)) ?_))
  have hkk := fun o1 o2 x y => up_call hbc (blw_new2 wc0 o1 o2 x y)
  refine wp_world (F := fun W => Row W w.heap.size 24 (bcs A (pack l).length cp l.length) ∧ Sl W W.heap.size A (pack l).length (bl (pack l)) ∧ Row W wc0.heap.size 24 (bcs A1 (pack l2).length c1 l2.length) ∧ Row W (wc0.heap.size + 1) 26 (flt 0 0) ∧ Sl W W.heap.size A1 (pack l2).length (bl (pack l2)) ∧ Below w.heap.size w W) ⟨r0.below (hkk _ _ _ _) r0.lt, hS.up (hkk _ _ _ _), row_new2a _ _ _ _ _ _ _, row_new2b _ _ _ _ _ _ _, s1.up (blw_new2 _ _ _ _ _), up_call hb (hkk _ _ _ _)⟩ ?_
  generalize wc0.heap.size = g0
  clear hkk hbc hb r0 hS s1 wc0  W0
  rintro Wg0 ⟨r0, hS, r1, f1, s1, hb⟩
  go_upto_region 3 with (first
    | (refine wpList_load_row rfl 24 _ rfl w.heap.size rfl 24 (bcs A (pack l).length cp l.length) (0, 0) _ r0 Try.underlying24 rfl (by rw [bcs_size]; exact cellsB) ?_)
    | (go_at_call 20; refine (HRD.out A cp _ hS).mono ?_; rintro e wc1 ⟨rfl, hbc⟩)
    | (refine wpList_store_row rfl 26 _ _ rfl wc1.heap.size (flt 0 0) rfl rfl 26 (flt 0 0) (Row.newEq _ _ _ _ _ rfl rfl) (by rw [flt_size]; exact cellsF) rfl (all_one (flt_one _ _)) ?_))
  have hkk := fun o1 x => up_call hbc (blw_new1 wc1 o1 x)
  refine wp_world (F := fun W => Row W w.heap.size 24 (bcs A (pack l).length cp l.length) ∧ Row W g0 24 (bcs A1 (pack l2).length c1 l2.length) ∧ Row W (g0 + 1) 26 (flt 0 0) ∧ Sl W W.heap.size A (pack l).length (bl (pack l)) ∧ Sl W W.heap.size A1 (pack l2).length (bl (pack l2)) ∧ Row W wc1.heap.size 26 (flt 0 0) ∧ Below w.heap.size w W) ⟨r0.below (hkk _ _) r0.lt, r1.below (hkk _ _) r1.lt, f1.below (hkk _ _) f1.lt, hS.up (hkk _ _), s1.up (hkk _ _), row_new1 _ _ _ _, up_call hb (hkk _ _)⟩ ?_
  generalize wc1.heap.size = g1
  clear hkk hbc hb r0 r1 f1 hS s1 wc1  Wg0
  rintro Wg1 ⟨r0, r1, f1, hS, s1, f2, hb⟩
  go_upto_region 4 with (first
    | (refine wpList_load_row rfl 24 _ rfl w.heap.size rfl 24 (bcs A (pack l).length cp l.length) (0, 0) _ r0 Try.underlying24 rfl (by rw [bcs_size]; exact cellsB) ?_)
    | (go_at_call 21; refine (raf_ok l hl x n hn HX.out hln A cp _ hS).mono ?_; rintro e wc2 ⟨rfl, hbc⟩)
    | (refine wpList_store_row rfl 26 _ _ rfl wc2.heap.size (flt 0 0) rfl rfl 26 (flt 0 0) (Row.newEq _ _ _ _ _ rfl rfl) (by rw [flt_size]; exact cellsF) rfl (all_one (flt_one _ _)) ?_))
  have hkk := fun o1 x => up_call hbc (blw_new1 wc2 o1 x)
  refine wp_world (F := fun W => Row W w.heap.size 24 (bcs A (pack l).length cp l.length) ∧ Row W g0 24 (bcs A1 (pack l2).length c1 l2.length) ∧ Row W (g0 + 1) 26 (flt 0 0) ∧ Row W g1 26 (flt 0 0) ∧ Sl W W.heap.size A (pack l).length (bl (pack l)) ∧ Sl W W.heap.size A1 (pack l2).length (bl (pack l2)) ∧ Row W wc2.heap.size 26 (flt 0 0) ∧ Below w.heap.size w W) ⟨r0.below (hkk _ _) r0.lt, r1.below (hkk _ _) r1.lt, f1.below (hkk _ _) f1.lt, f2.below (hkk _ _) f2.lt, hS.up (hkk _ _), s1.up (hkk _ _), row_new1 _ _ _ _, up_call hb (hkk _ _)⟩ ?_
  generalize wc2.heap.size = g2
  clear hkk hbc hb r0 r1 f1 f2 hS s1 wc2  Wg1
  rintro Wg2 ⟨r0, r1, f1, f2, hS, s1, f3, hb⟩
  go_upto_region 5 with (first
    | (refine wpList_load_row rfl 24 _ rfl w.heap.size rfl 24 (bcs A (pack l).length cp l.length) (0, 0) _ r0 Try.underlying24 rfl (by rw [bcs_size]; exact cellsB) ?_)
    | (go_at_call 22; refine (rrf_ok l hl y n hn hy A cp _ hS).mono ?_; rintro e wc3 ⟨rfl, hbc⟩)
    | (refine wpList_store_row rfl 26 _ _ rfl wc3.heap.size (flt 0 0) rfl rfl 26 (flt 0 0) (Row.newEq _ _ _ _ _ rfl rfl) (by rw [flt_size]; exact cellsF) rfl (all_one (flt_one _ _)) ?_))
  have hkk := fun o1 x => up_call hbc (blw_new1 wc3 o1 x)
  refine wp_world (F := fun W => Row W w.heap.size 24 (bcs A (pack l).length cp l.length) ∧ Row W g0 24 (bcs A1 (pack l2).length c1 l2.length) ∧ Row W (g0 + 1) 26 (flt 0 0) ∧ Row W g1 26 (flt 0 0) ∧ Row W g2 26 (flt 0 0) ∧ Sl W W.heap.size A (pack l).length (bl (pack l)) ∧ Sl W W.heap.size A1 (pack l2).length (bl (pack l2)) ∧ Row W wc3.heap.size 26 (flt 0 0) ∧ Below w.heap.size w W) ⟨r0.below (hkk _ _) r0.lt, r1.below (hkk _ _) r1.lt, f1.below (hkk _ _) f1.lt, f2.below (hkk _ _) f2.lt, f3.below (hkk _ _) f3.lt, hS.up (hkk _ _), s1.up (hkk _ _), row_new1 _ _ _ _, up_call hb (hkk _ _)⟩ ?_
  generalize wc3.heap.size = g3
  clear hkk hbc hb r0 r1 f1 f2 f3 hS s1 wc3  Wg2
  rintro Wg3 ⟨r0, r1, f1, f2, f3, hS, s1, f4, hb⟩
  go_upto_region 7 with (first
    | (go_at_call 14; refine (strings_any _).mono ?_; rintro e w9 ⟨rfl, hb9⟩; have d1 := f1.below hb9 f1.lt; have d2 := f2.below hb9 f2.lt; have d3 := f3.below hb9 f3.lt; have d4 := f4.below hb9 f4.lt)
    | (refine wpList_load_rowG (by simp [Region.wanted, yielded, Act.put]) 26 _ rfl (g0 + 1) rfl 26 (flt 0 0) (0, 0) _ d1 Try.underlying26 rfl (by rw [flt_size]; exact cellsF) ?_)
    | (refine wpList_load_rowG (by simp [Region.wanted, yielded, Act.put]) 26 _ rfl g2 rfl 26 (flt 0 0) (0, 0) _ d3 Try.underlying26 rfl (by rw [flt_size]; exact cellsF) ?_)
    | (refine wpList_load_rowG (by simp [Region.wanted, yielded, Act.put]) 26 _ rfl g1 rfl 26 (flt 0 0) (0, 0) _ d2 Try.underlying26 rfl (by rw [flt_size]; exact cellsF) ?_)
    | (refine wpList_load_rowG (by simp [Region.wanted, yielded, Act.put]) 26 _ rfl g3 rfl 26 (flt 0 0) (0, 0) _ d4 Try.underlying26 rfl (by rw [flt_size]; exact cellsF) ?_))
  clear d1 d2 d3 d4 q1 q2
  refine wp_world (F := fun W => Row W w.heap.size 24 (bcs A (pack l).length cp l.length) ∧ Row W g0 24 (bcs A1 (pack l2).length c1 l2.length) ∧ Row W (g0 + 1) 26 (flt 0 0) ∧ Row W g1 26 (flt 0 0) ∧ Row W g2 26 (flt 0 0) ∧ Row W g3 26 (flt 0 0) ∧ Sl W W.heap.size A (pack l).length (bl (pack l)) ∧ Sl W W.heap.size A1 (pack l2).length (bl (pack l2)) ∧ Below w.heap.size w W) ⟨r0.below hb9 r0.lt, r1.below hb9 r1.lt, f1.below hb9 f1.lt, f2.below hb9 f2.lt, f3.below hb9 f3.lt, f4.below hb9 f4.lt, hS.up hb9, s1.up hb9, up_call hb hb9⟩ ?_
  clear r0 r1 f1 f2 f3 f4 hS s1 hb hb9 w9 Wg3
  rintro W9 ⟨r0, r1, f1, f2, f3, f4, hS, s1, hb⟩
  have a3 : W9.cell? ⟨g2, 0, none⟩ = some (.int .i64 0) := (f3.cell 0).trans rfl
  have a4 : W9.cell? ⟨g3, 0, none⟩ = some (.int .i64 0) := (f4.cell 0).trans rfl
  have c10 : W9.cell? ⟨g0, 0, none⟩ = some (.slice A1 (pack l2).length c1) := (r1.cell 0).trans rfl
  have c11 : W9.cell? ⟨g0, 1, none⟩ = some (.int .i64 (l2.length : Int)) := (r1.cell 1).trans rfl
  have c00 : W9.cell? ⟨w.heap.size, 0, none⟩ = some (.slice A (pack l).length cp) := (r0.cell 0).trans rfl
  have c01 : W9.cell? ⟨w.heap.size, 1, none⟩ = some (.int .i64 (l.length : Int)) := (r0.cell 1).trans rfl
  obtain ⟨i0, hi, hz0, hz1, hz2⟩ := info_parts infoI
  have hln2 : l2.length = l.length + n := by rw [E2.out, List.length_append, digB_length]
  have HLN2 := Lib.hid hln2
  have hil : il l2 = il l ++ il (digB x n) := by rw [E2.out, il_append]
  have HIL := Lib.hid hil
  have hl2m : l2.length ≤ 1000000 := by omega
  clear hln2 hil
  have hv64 : x < 9223372036854775808 := by
    have h1 := HX.out
    have h2 : 2 ^ n ≤ 2 ^ 32 := Nat.pow_le_pow_right (by decide) hn
    exact Nat.lt_trans (Nat.lt_of_lt_of_le h1 h2) (by decide)
  have hn64 : n ≤ 64 := by omega
  have hsum : l.length + n ≤ maxLen := by unfold maxLen; omega
  have hby8 : (l.length + n) * 8 ≤ 140737488355328 := by omega
  have hlt0 := r1.lt
  have hgb : W9.heap.size ≤ W9.heap.size := Nat.le_refl _
  have hdl : n ≤ (il (digB x n)).length := by rw [il_length, digB_length]; exact Nat.le_refl _
  have hdt : (il (digB x n)).take n = il (digB x n) := List.take_of_length_le (by rw [il_length, digB_length]; exact Nat.le_refl _)
  have HDT := Lib.hid hdt
  clear hdt hgb
  go_upto_region 9 with (fail)
  go_region_law (first
    | (refine step_appW _ (by simp [Region.wanted, yielded, Act.put]) (.tmp 73) (.tmp 76) _ rfl W9.heap.size 3 i0 (.int .i64 0) 8 Try.underlying35 hi hz0 hz1 hz2 rfl (.slice A6 l.length c6) l.length (il l) rfl ho7 w7.heap.size (some ⟨g7, 0, none⟩) n n (il (digB x n)) rfl hs7 (il_one _) hsum hby8 hbase7 ?_; intro v8 w8 hown8 hg8; obtain ⟨A8, c8, hv8, h81, h82⟩ := own_form hown8; subst hv8; have r18 := r17.grown hg8 (fun h => absurd (ho7.lt _ h.symm).1 (Nat.not_le_of_lt hlt0)); have e80 : w8.cell? ⟨g0, 0, none⟩ = some (.slice A1 (pack l2).length c1) := (r18.cell 0).trans rfl; have e81 : w8.cell? ⟨g0, 1, none⟩ = some (.int .i64 (l2.length : Int)) := (r18.cell 1).trans rfl; have hs8 : Sl w8 w8.heap.size A8 (l.length + n) (il l2) := (by rw [HIL.out]; exact Sl.of_own hown8); have kk8 := blw_grown kk7 hg8 kk7.size ho7 (Nat.le_refl _))
    | (go_simp; go_at_call 23; go_must (refine (rbits_any (pack l) l (pack_rep l) hl A cp W9.drew hS).mono ?_; rintro e w6 ⟨v6, rfl, ho6, hb6⟩; obtain ⟨A6, c6, hv6, h61, h62⟩ := own_form ho6; subst hv6; clear h62; have kk6 : Below W9.heap.size W9 w6 := ((Below.refl W9.heap.size W9).drew).trans hb6; have r16 := r1.below kk6 r1.lt; have e60 : w6.cell? ⟨g0, 0, none⟩ = some (.slice A1 (pack l2).length c1) := (r16.cell 0).trans rfl; have e61 : w6.cell? ⟨g0, 1, none⟩ = some (.int .i64 (l2.length : Int)) := (r16.cell 1).trans rfl; have hok6 : w6.ownsRow W9.heap.size 3 1 (.slice A6 l.length c6) l.length (il l) := own_base ho6 (Nat.le_succ _)))
    | (go_simp; go_at_call 24; go_must (refine (digits_any x n hv64 hn64 w6).mono ?_; rintro e w7 ⟨g7, rfl, hg7, rg7, hb7⟩; have kk7 := up_call kk6 hb7; have r17 := r16.below hb7 r16.lt; have e70 : w7.cell? ⟨g0, 0, none⟩ = some (.slice A1 (pack l2).length c1) := (r17.cell 0).trans rfl; have e71 : w7.cell? ⟨g0, 1, none⟩ = some (.int .i64 (l2.length : Int)) := (r17.cell 1).trans rfl; have ho7 := own_below hok6 hb7; have hs7 : Sl w7 w7.heap.size (some ⟨g7, 0, none⟩) n (il (digB x n)) := (by have := Sl.of_head rg7 n hdl; rw [HDT.out] at this; exact this); have hbase7 : W9.heap.size ≤ w7.heap.size := kk7.size))
    | (go_simp; go_at_call 18; go_must (refine (packed_any l2 hl2m A8 c8 (l.length + n) HLN2.out.symm w8 hs8).mono ?_; rintro e w12 ⟨A9, c9, rfl, s9, hb12⟩; have kk9 := up_call kk8 hb12; have r19 := r18.below hb12 r18.lt; have e90 : w12.cell? ⟨g0, 0, none⟩ = some (.slice A1 (pack l2).length c1) := (r19.cell 0).trans rfl; have e91 : w12.cell? ⟨g0, 1, none⟩ = some (.int .i64 (l2.length : Int)) := (r19.cell 1).trans rfl))
    | (go_simp; go_at_call 17; go_must (refine (same_pack l2 _ A1 A9 c1 c9 w12 (s1.up kk9) s9).mono ?_; rintro e w13 ⟨rfl, hb13⟩; have kk13 := up_call kk9 hb13; have b4 : w13.cell? ⟨g3, 0, none⟩ = some (.int .i64 0) := ((f4.below kk13 f4.lt).cell 0).trans rfl; have hb14 := up_call hb kk13; have r0c := r0.below kk13 r0.lt; have hSc := hS.up kk13)))
  all_goals
    simp only [List.getElem_toArray, List.getElem_cons_succ, List.getElem_cons_zero, Act.put, List.setIfInBounds_toArray, List.set_cons_succ, List.set_cons_zero]
    clear r1 r0 f1 f2 f3 f4 hS s1 c10 c11 c00 c01 a3 a4
    go_upto_region 11 with (fail)
    go_wp2_with (first
      | (refine wpList_load_rowG (by simp [Region.wanted, yielded, Act.put]) 24 _ rfl w.heap.size rfl 24 (bcs A (pack l).length cp l.length) (0, 0) _ r0c Try.underlying24 rfl (by rw [bcs_size]; exact cellsB) ?_)
      | (go_at_call 23; refine (rbits_any (pack l) l (pack_rep l) hl A cp _ hSc).mono ?_; rintro e w21 ⟨v21, rfl, ho21, hb21⟩; obtain ⟨A21, c21, hv21, h211, h212⟩ := own_form ho21; subst hv21; have hb22 := up_call hb14 hb21)
      | (go_at_call 25; (refine (rnumber_is ((l.drop y).take n) hl60 _ _ _ HNL.out z HZV.out _ (nil_part l y n HN0.out _ _ _)).mono ?_; rintro e w28 ⟨rfl, rfl⟩)))
    all_goals
      go_ret
      exact ⟨rfl, hb22⟩
end Go.Proofs.Ytbahkidkpbabdaa.lawNum
