/-
  The walks of BitsGammaReadBack.
-/
import Derived.Test.YtbahkidkpbabdaaBSpec2
import Derived.Deep.QuietTactic
import Derived.BigQuiet
namespace Go.Proofs.Ytbahkidkpbabdaa.lawGBack
open Go.RowKit

set_option maxRecDepth 100000 in
set_option maxHeartbeats 4000000 in
theorem walk_bad (L M : List UInt8) (k n c i j : Int) (h : GF L k n c i) (hn : -9223372036854775808 ≤ n ∧ n ≤ 9223372036854775807) (A A' : Option Addr) (cp cq : Nat) (w : World) (hS : Sl w w.heap.size A L.length (bl L)) (hS' : Sl w w.heap.size A' M.length (bl M)) :
    Calls Try.prog 7 #[.agg (bcs A L.length cp k), .int .i64 n, .agg (bcs A' M.length cq j)] w fun e w' => e = .returned (.bool true) ∧ Below w.heap.size w w' := by
  have HF := Lib.hid h
  have HNB := Lib.hid hn
  have hne : (c != 0) = true := bne_iff_ne.2 h.ne
  clear h hn
  go_enter Try.func7, Try.ntmps7
  go_upto_region 1 with (fail)
  refine wp_world (F := fun W => Row W w.heap.size 24 (bcs A L.length cp k) ∧ Row W (w.heap.size + 1) 24 (bcs A' M.length cq j) ∧ Sl W W.heap.size A L.length (bl L) ∧ Sl W W.heap.size A' M.length (bl M) ∧ Below w.heap.size w W) ⟨(Row.new _ _ _).alloc _, Row.newAt _ _ _ _ (by simp), hS.up (((Below.refl _ _).alloc (Nat.le_refl _) _).alloc (by simp) _), hS'.up (((Below.refl _ _).alloc (Nat.le_refl _) _).alloc (by simp) _), ((Below.refl _ _).alloc (Nat.le_refl _) _).alloc (by simp) _⟩ ?_
  clear hS hS'
  rintro W0 ⟨r0, ra, hS, hS', hb⟩
  go_upto_region 2 with (first
    | (refine wpList_load_row rfl 24 _ rfl w.heap.size rfl 24 (bcs A L.length cp k) (0, 0) _ r0 Try.underlying24 rfl (by rw [bcs_size]; exact cellsB) ?_)
    | (go_at_call 27; refine (gamma_bad L k n c i HF.out HNB.out A cp _ hS).mono ?_; rintro e wc0 ⟨rfl, hbc⟩)
    | (refine wpList_store_row rfl 24 _ _ rfl wc0.heap.size (bcs none 0 0 0) rfl rfl 24 (bcs none 0 0 0) ((Row.newEq _ _ _ _ _ rfl rfl).alloc _) (by rw [bcs_size]; exact cellsB) rfl (all_one (bcs_one _ _ _ _)) ?_)
    | (refine wpList_store_row rfl 26 _ _ rfl (wc0.heap.size + 1) (flt c i) rfl rfl 26 (flt 0 0) (Row.rowFar (Row.newEq _ _ _ _ _ (by simp) rfl) (by omega) _) (by rw [flt_size]; exact cellsF) rfl (all_one (flt_one _ _)) ?_))
  have hkk := fun o1 o2 x y => up_call hbc (blw_new2 wc0 o1 o2 x y)
  refine wp_world (F := fun W => Row W w.heap.size 24 (bcs A L.length cp k) ∧ Row W (w.heap.size + 1) 24 (bcs A' M.length cq j) ∧ Sl W W.heap.size A L.length (bl L) ∧ Sl W W.heap.size A' M.length (bl M) ∧ Row W wc0.heap.size 24 (bcs none 0 0 0) ∧ Row W (wc0.heap.size + 1) 26 (flt c i) ∧ Below w.heap.size w W) ⟨r0.below (hkk _ _ _ _) r0.lt, ra.below (hkk _ _ _ _) ra.lt, hS.up (hkk _ _ _ _), hS'.up (hkk _ _ _ _), row_new2a _ _ _ _ _ _ _, row_new2b _ _ _ _ _ _ _, up_call hb (hkk _ _ _ _)⟩ ?_
  generalize wc0.heap.size = g0
  clear hkk hbc hb r0 ra hS hS' wc0  W0
  rintro Wg0 ⟨r0, ra, hS, hS', r1, f1, hb⟩
  have a1 : Wg0.cell? ⟨g0 + 1, 0, none⟩ = some (.int .i64 c) := (f1.cell 0).trans rfl
  go_upto_region 3 with (first
    | (go_at_call 14; refine (strings_any _).mono ?_; rintro e w2 ⟨rfl, hb2⟩; have a2 : w2.cell? ⟨g0 + 1, 0, none⟩ = some (.int .i64 c) := ((f1.below hb2 f1.lt).cell 0).trans rfl; have r2 := r1.below hb2 r1.lt; have hb3 := up_call hb hb2))
  go_wp2_with (first
    | (go_at_call 14; refine (strings_any _).mono ?_; rintro e w4 ⟨rfl, hb4⟩; have r4 := r2.below hb4 r2.lt; have hb5 := up_call hb3 hb4)
    | (refine wpList_load_rowG (by simp [Region.wanted, yielded, Act.put]) 24 _ rfl g0 rfl 24 (bcs none 0 0 0) (0, 0) _ r4 Try.underlying24 rfl (by rw [bcs_size]; exact cellsB) ?_)
    | (go_at_call 17; refine (same_none _).mono ?_; rintro e w6 ⟨rfl, hb6⟩; have hb7 := up_call hb5 hb6))
  go_ret
  exact ⟨rfl, hb7⟩

set_option maxRecDepth 100000 in
set_option maxHeartbeats 4000000 in
theorem walk_norest (l : List Bool) (v s : Nat) (hs : s = gsz v) (h1 : 1 ≤ v) (h2 : v ≤ 2147483647) (hl : l.length + s ≤ 131072) (M : List UInt8) (j : Int) (hG : ¬ Good M j) (A A' : Option Addr) (cp cq : Nat) (w : World) (hS : Sl w w.heap.size A (pack l).length (bl (pack l))) (hS' : Sl w w.heap.size A' M.length (bl M)) :
    Calls Try.prog 7 #[.agg (bcs A (pack l).length cp l.length), .int .i64 v, .agg (bcs A' M.length cq j)] w fun e w' => e = .returned (.bool true) ∧ Below w.heap.size w w' := by
  obtain ⟨l2, e2⟩ : ∃ l2, l2 = l ++ digB v s := ⟨_, rfl⟩
  have hln : l2.length = l.length + s := by rw [e2, List.length_append, digB_length]
  have hll : l2.length ≤ 131072 := by omega
  have hap := gamma_good l v s hs h1 h2 hl
  rw [← e2] at hap
  have HAP := Lib.hid hap
  have E2 := Lib.hid e2
  have HLN := Lib.hid hln
  have HSZ := Lib.hid hs
  skip
  clear e2 hln hap hs
  go_enter Try.func7, Try.ntmps7
  go_upto_region 1 with (fail)
  refine wp_world (F := fun W => Row W w.heap.size 24 (bcs A (pack l).length cp l.length) ∧ Row W (w.heap.size + 1) 24 (bcs A' M.length cq j) ∧ Sl W W.heap.size A (pack l).length (bl (pack l)) ∧ Sl W W.heap.size A' M.length (bl M) ∧ Below w.heap.size w W) ⟨(Row.new _ _ _).alloc _, Row.newAt _ _ _ _ (by simp), hS.up (((Below.refl _ _).alloc (Nat.le_refl _) _).alloc (by simp) _), hS'.up (((Below.refl _ _).alloc (Nat.le_refl _) _).alloc (by simp) _), ((Below.refl _ _).alloc (Nat.le_refl _) _).alloc (by simp) _⟩ ?_
  clear hS hS'
  rintro W0 ⟨r0, ra, hS, hS', hb⟩
  go_upto_region 2 with (first
    | (refine wpList_load_row rfl 24 _ rfl w.heap.size rfl 24 (bcs A (pack l).length cp l.length) (0, 0) _ r0 Try.underlying24 rfl (by rw [bcs_size]; exact cellsB) ?_)
    | (go_at_call 27; refine (HAP.out A cp _ hS).mono ?_; rintro e wc0 ⟨A1, c1, rfl, s1, hbc⟩)
    | (refine wpList_store_row rfl 24 _ _ rfl wc0.heap.size (bcs A1 (pack l2).length c1 l2.length) rfl rfl 24 (bcs none 0 0 0) ((Row.newEq _ _ _ _ _ rfl rfl).alloc _) (by rw [bcs_size]; exact cellsB) rfl (all_one (bcs_one _ _ _ _)) ?_)
    | (refine wpList_store_row rfl 26 _ _ rfl (wc0.heap.size + 1) (flt 0 0) rfl rfl 26 (flt 0 0) (Row.rowFar (Row.newEq _ _ _ _ _ (by simp) rfl) (by omega) _) (by rw [flt_size]; exact cellsF) rfl (all_one (flt_one _ _)) ?_))
  have hkk := fun o1 o2 x y => up_call hbc (blw_new2 wc0 o1 o2 x y)
  refine wp_world (F := fun W => Row W w.heap.size 24 (bcs A (pack l).length cp l.length) ∧ Row W (w.heap.size + 1) 24 (bcs A' M.length cq j) ∧ Sl W W.heap.size A (pack l).length (bl (pack l)) ∧ Sl W W.heap.size A' M.length (bl M) ∧ Row W wc0.heap.size 24 (bcs A1 (pack l2).length c1 l2.length) ∧ Row W (wc0.heap.size + 1) 26 (flt 0 0) ∧ Sl W W.heap.size A1 (pack l2).length (bl (pack l2)) ∧ Below w.heap.size w W) ⟨r0.below (hkk _ _ _ _) r0.lt, ra.below (hkk _ _ _ _) ra.lt, hS.up (hkk _ _ _ _), hS'.up (hkk _ _ _ _), row_new2a _ _ _ _ _ _ _, row_new2b _ _ _ _ _ _ _, s1.up (blw_new2 _ _ _ _ _), up_call hb (hkk _ _ _ _)⟩ ?_
  generalize wc0.heap.size = g0
  clear hkk hbc hb r0 ra hS hS' s1 wc0  W0
  rintro Wg0 ⟨r0, ra, hS, hS', r1, f1, s1, hb⟩
  have a1 : Wg0.cell? ⟨g0 + 1, 0, none⟩ = some (.int .i64 0) := (f1.cell 0).trans rfl
  go_upto_region 4 with (first
    | (go_at_call 14; refine (strings_any _).mono ?_; rintro e w2 ⟨rfl, hb2⟩; have a2 : w2.cell? ⟨g0 + 1, 0, none⟩ = some (.int .i64 0) := ((f1.below hb2 f1.lt).cell 0).trans rfl))
  refine wp_world (F := fun W => Row W w.heap.size 24 (bcs A (pack l).length cp l.length) ∧ Row W (w.heap.size + 1) 24 (bcs A' M.length cq j) ∧ Row W g0 24 (bcs A1 (pack l2).length c1 l2.length) ∧ Row W (g0 + 1) 26 (flt 0 0) ∧ Sl W W.heap.size A (pack l).length (bl (pack l)) ∧ Sl W W.heap.size A' M.length (bl M) ∧ Sl W W.heap.size A1 (pack l2).length (bl (pack l2)) ∧ Below w.heap.size w W) ⟨r0.below hb2 r0.lt, ra.below hb2 ra.lt, r1.below hb2 r1.lt, f1.below hb2 f1.lt, hS.up hb2, hS'.up hb2, s1.up hb2, up_call hb hb2⟩ ?_
  clear a1 a2 hb2 w2 r0 ra r1 f1 hS hS' s1 hb Wg0
  rintro W2 ⟨r0, ra, r1, f1, hS, hS', s1, hb⟩
  have k1 : W2.cell? ⟨g0, 1, none⟩ = some (.int .i64 (l2.length : Int)) := (r1.cell 1).trans rfl
  go_wp2_with (first
    | (refine wpList_load_row rfl 24 _ rfl (w.heap.size + 1) rfl 24 (bcs A' M.length cq j) (0, 0) _ ra Try.underlying24 rfl (by rw [bcs_size]; exact cellsB) ?_)
    | (go_at_call 13; refine (ok_no M j hG A' cq _ hS').mono ?_; rintro e w4 ⟨rfl, hb4⟩; have hbb := up_call hb hb4))
  go_ret
  exact ⟨rfl, hbb⟩

set_option maxRecDepth 100000 in
set_option maxHeartbeats 4000000 in
theorem walk_large (l : List Bool) (v s : Nat) (hs : s = gsz v) (h1 : 1 ≤ v) (h2 : v ≤ 2147483647) (hl : l.length + s ≤ 131072) (m : List Bool) (M : List UInt8) (hM : M = pack m) (j : Int) (hj : j = (m.length : Int)) (hm : m.length ≤ 131072) (hx : 131072 < l.length + s + m.length) (A A' : Option Addr) (cp cq : Nat) (w : World) (hS : Sl w w.heap.size A (pack l).length (bl (pack l))) (hS' : Sl w w.heap.size A' M.length (bl M)) :
    Calls Try.prog 7 #[.agg (bcs A (pack l).length cp l.length), .int .i64 v, .agg (bcs A' M.length cq j)] w fun e w' => e = .returned (.bool true) ∧ Below w.heap.size w w' := by
  obtain ⟨l2, e2⟩ : ∃ l2, l2 = l ++ digB v s := ⟨_, rfl⟩
  have hln : l2.length = l.length + s := by rw [e2, List.length_append, digB_length]
  have hll : l2.length ≤ 131072 := by omega
  have hap := gamma_good l v s hs h1 h2 hl
  rw [← e2] at hap
  have HAP := Lib.hid hap
  have E2 := Lib.hid e2
  have HLN := Lib.hid hln
  have HSZ := Lib.hid hs
  have HM := Lib.hid hM
  have HJJ := Lib.hid hj
  have hok := ok_yes (pack m) m (pack_rep m) hm
  rw [← hM, ← hj] at hok
  have HOK := Lib.hid hok
  have t1 : decide ((131072 : Int) < (l2.length : Int) + j) = true := decide_eq_true (by omega)
  have hj0 : 0 ≤ j := by omega
  have hj1 : j ≤ 131072 := by omega
  clear hM hj hok
  clear e2 hln hap hs
  go_enter Try.func7, Try.ntmps7
  go_upto_region 1 with (fail)
  refine wp_world (F := fun W => Row W w.heap.size 24 (bcs A (pack l).length cp l.length) ∧ Row W (w.heap.size + 1) 24 (bcs A' M.length cq j) ∧ Sl W W.heap.size A (pack l).length (bl (pack l)) ∧ Sl W W.heap.size A' M.length (bl M) ∧ Below w.heap.size w W) ⟨(Row.new _ _ _).alloc _, Row.newAt _ _ _ _ (by simp), hS.up (((Below.refl _ _).alloc (Nat.le_refl _) _).alloc (by simp) _), hS'.up (((Below.refl _ _).alloc (Nat.le_refl _) _).alloc (by simp) _), ((Below.refl _ _).alloc (Nat.le_refl _) _).alloc (by simp) _⟩ ?_
  clear hS hS'
  rintro W0 ⟨r0, ra, hS, hS', hb⟩
  go_upto_region 2 with (first
    | (refine wpList_load_row rfl 24 _ rfl w.heap.size rfl 24 (bcs A (pack l).length cp l.length) (0, 0) _ r0 Try.underlying24 rfl (by rw [bcs_size]; exact cellsB) ?_)
    | (go_at_call 27; refine (HAP.out A cp _ hS).mono ?_; rintro e wc0 ⟨A1, c1, rfl, s1, hbc⟩)
    | (refine wpList_store_row rfl 24 _ _ rfl wc0.heap.size (bcs A1 (pack l2).length c1 l2.length) rfl rfl 24 (bcs none 0 0 0) ((Row.newEq _ _ _ _ _ rfl rfl).alloc _) (by rw [bcs_size]; exact cellsB) rfl (all_one (bcs_one _ _ _ _)) ?_)
    | (refine wpList_store_row rfl 26 _ _ rfl (wc0.heap.size + 1) (flt 0 0) rfl rfl 26 (flt 0 0) (Row.rowFar (Row.newEq _ _ _ _ _ (by simp) rfl) (by omega) _) (by rw [flt_size]; exact cellsF) rfl (all_one (flt_one _ _)) ?_))
  have hkk := fun o1 o2 x y => up_call hbc (blw_new2 wc0 o1 o2 x y)
  refine wp_world (F := fun W => Row W w.heap.size 24 (bcs A (pack l).length cp l.length) ∧ Row W (w.heap.size + 1) 24 (bcs A' M.length cq j) ∧ Sl W W.heap.size A (pack l).length (bl (pack l)) ∧ Sl W W.heap.size A' M.length (bl M) ∧ Row W wc0.heap.size 24 (bcs A1 (pack l2).length c1 l2.length) ∧ Row W (wc0.heap.size + 1) 26 (flt 0 0) ∧ Sl W W.heap.size A1 (pack l2).length (bl (pack l2)) ∧ Below w.heap.size w W) ⟨r0.below (hkk _ _ _ _) r0.lt, ra.below (hkk _ _ _ _) ra.lt, hS.up (hkk _ _ _ _), hS'.up (hkk _ _ _ _), row_new2a _ _ _ _ _ _ _, row_new2b _ _ _ _ _ _ _, s1.up (blw_new2 _ _ _ _ _), up_call hb (hkk _ _ _ _)⟩ ?_
  generalize wc0.heap.size = g0
  clear hkk hbc hb r0 ra hS hS' s1 wc0  W0
  rintro Wg0 ⟨r0, ra, hS, hS', r1, f1, s1, hb⟩
  have a1 : Wg0.cell? ⟨g0 + 1, 0, none⟩ = some (.int .i64 0) := (f1.cell 0).trans rfl
  go_upto_region 4 with (first
    | (go_at_call 14; refine (strings_any _).mono ?_; rintro e w2 ⟨rfl, hb2⟩; have a2 : w2.cell? ⟨g0 + 1, 0, none⟩ = some (.int .i64 0) := ((f1.below hb2 f1.lt).cell 0).trans rfl))
  refine wp_world (F := fun W => Row W w.heap.size 24 (bcs A (pack l).length cp l.length) ∧ Row W (w.heap.size + 1) 24 (bcs A' M.length cq j) ∧ Row W g0 24 (bcs A1 (pack l2).length c1 l2.length) ∧ Row W (g0 + 1) 26 (flt 0 0) ∧ Sl W W.heap.size A (pack l).length (bl (pack l)) ∧ Sl W W.heap.size A' M.length (bl M) ∧ Sl W W.heap.size A1 (pack l2).length (bl (pack l2)) ∧ Below w.heap.size w W) ⟨r0.below hb2 r0.lt, ra.below hb2 ra.lt, r1.below hb2 r1.lt, f1.below hb2 f1.lt, hS.up hb2, hS'.up hb2, s1.up hb2, up_call hb hb2⟩ ?_
  clear a1 a2 hb2 w2 r0 ra r1 f1 hS hS' s1 hb Wg0
  rintro W2 ⟨r0, ra, r1, f1, hS, hS', s1, hb⟩
  have k1 : W2.cell? ⟨g0, 1, none⟩ = some (.int .i64 (l2.length : Int)) := (r1.cell 1).trans rfl
  go_wp2_with (first
    | (refine wpList_load_row rfl 24 _ rfl (w.heap.size + 1) rfl 24 (bcs A' M.length cq j) (0, 0) _ ra Try.underlying24 rfl (by rw [bcs_size]; exact cellsB) ?_)
    | (go_at_call 13; refine (HOK.out A' cq _ hS').mono ?_; rintro e w4 ⟨rfl, hb4⟩; have hbb := up_call hb hb4; have k2 : w4.cell? ⟨g0, 1, none⟩ = some (.int .i64 (l2.length : Int)) := ((r1.below hb4 r1.lt).cell 1).trans rfl; have k3 : w4.cell? ⟨w.heap.size + 1, 1, none⟩ = some (.int .i64 j) := ((ra.below hb4 ra.lt).cell 1).trans rfl))
  go_ret
  exact ⟨rfl, hbb⟩

set_option maxRecDepth 100000 in
set_option maxHeartbeats 4000000 in
theorem walk_good (l : List Bool) (v s : Nat) (hs : s = gsz v) (h1 : 1 ≤ v) (h2 : v ≤ 2147483647) (hl : l.length + s ≤ 131072) (m : List Bool) (M : List UInt8) (hM : M = pack m) (j : Int) (hj : j = (m.length : Int)) (hm : m.length ≤ 131072) (hx : l.length + s + m.length ≤ 131072) (A A' : Option Addr) (cp cq : Nat) (w : World) (hS : Sl w w.heap.size A (pack l).length (bl (pack l))) (hS' : Sl w w.heap.size A' M.length (bl M)) :
    Calls Try.prog 7 #[.agg (bcs A (pack l).length cp l.length), .int .i64 v, .agg (bcs A' M.length cq j)] w fun e w' => e = .returned (.bool true) ∧ Below w.heap.size w w' := by
  obtain ⟨l2, e2⟩ : ∃ l2, l2 = l ++ digB v s := ⟨_, rfl⟩
  have hln : l2.length = l.length + s := by rw [e2, List.length_append, digB_length]
  have hll : l2.length ≤ 131072 := by omega
  have hap := gamma_good l v s hs h1 h2 hl
  rw [← e2] at hap
  have HAP := Lib.hid hap
  have E2 := Lib.hid e2
  have HLN := Lib.hid hln
  have HSZ := Lib.hid hs
  have hok := ok_yes (pack m) m (pack_rep m) hm
  obtain ⟨l3, e3⟩ : ∃ l3, l3 = l2 ++ m := ⟨_, rfl⟩
  have hl3 : l3.length ≤ 131072 := by rw [e3, List.length_append]; omega
  have hrb := readg_back l m l3 v s (by rw [e3, e2]) hs h1 h2 hl3
  have HRB := Lib.hid hrb
  have HOK := Lib.hid hok
  have E3 := Lib.hid e3
  have t1 : decide ((131072 : Int) < (l2.length : Int) + j) = false := decide_eq_false (by omega)
  have t2 : (((l.length + s : Nat) : Int) == (l2.length : Int)) = true := beq_iff_eq.2 (by omega)
  have t2b : ((l.length : Int) + (s : Int) == (l2.length : Int)) = true := beq_iff_eq.2 (by omega)
  have t2c : (l.length + s == l2.length) = true := beq_iff_eq.2 (by omega)
  have t3 : (((l.length + s : Nat) : Int) == (l.length : Int) + (s : Int)) = true := beq_iff_eq.2 (by omega)
  subst hM hj
  have hv : -9223372036854775808 ≤ (v : Int) ∧ (v : Int) ≤ 9223372036854775807 := by omega
  have HV := Lib.hid hv
  clear hok hrb e3 hv
  clear e2 hln hap hs
  go_enter Try.func7, Try.ntmps7
  go_upto_region 1 with (fail)
  refine wp_world (F := fun W => Row W w.heap.size 24 (bcs A (pack l).length cp l.length) ∧ Row W (w.heap.size + 1) 24 (bcs A' (pack m).length cq m.length) ∧ Sl W W.heap.size A (pack l).length (bl (pack l)) ∧ Sl W W.heap.size A' (pack m).length (bl (pack m)) ∧ Below w.heap.size w W) ⟨(Row.new _ _ _).alloc _, Row.newAt _ _ _ _ (by simp), hS.up (((Below.refl _ _).alloc (Nat.le_refl _) _).alloc (by simp) _), hS'.up (((Below.refl _ _).alloc (Nat.le_refl _) _).alloc (by simp) _), ((Below.refl _ _).alloc (Nat.le_refl _) _).alloc (by simp) _⟩ ?_
  clear hS hS'
  rintro W0 ⟨r0, ra, hS, hS', hb⟩
  go_upto_region 2 with (first
    | (refine wpList_load_row rfl 24 _ rfl w.heap.size rfl 24 (bcs A (pack l).length cp l.length) (0, 0) _ r0 Try.underlying24 rfl (by rw [bcs_size]; exact cellsB) ?_)
    | (go_at_call 27; refine (HAP.out A cp _ hS).mono ?_; rintro e wc0 ⟨A1, c1, rfl, s1, hbc⟩)
    | (refine wpList_store_row rfl 24 _ _ rfl wc0.heap.size (bcs A1 (pack l2).length c1 l2.length) rfl rfl 24 (bcs none 0 0 0) ((Row.newEq _ _ _ _ _ rfl rfl).alloc _) (by rw [bcs_size]; exact cellsB) rfl (all_one (bcs_one _ _ _ _)) ?_)
    | (refine wpList_store_row rfl 26 _ _ rfl (wc0.heap.size + 1) (flt 0 0) rfl rfl 26 (flt 0 0) (Row.rowFar (Row.newEq _ _ _ _ _ (by simp) rfl) (by omega) _) (by rw [flt_size]; exact cellsF) rfl (all_one (flt_one _ _)) ?_))
  have hkk := fun o1 o2 x y => up_call hbc (blw_new2 wc0 o1 o2 x y)
  refine wp_world (F := fun W => Row W w.heap.size 24 (bcs A (pack l).length cp l.length) ∧ Row W (w.heap.size + 1) 24 (bcs A' (pack m).length cq m.length) ∧ Sl W W.heap.size A (pack l).length (bl (pack l)) ∧ Sl W W.heap.size A' (pack m).length (bl (pack m)) ∧ Row W wc0.heap.size 24 (bcs A1 (pack l2).length c1 l2.length) ∧ Row W (wc0.heap.size + 1) 26 (flt 0 0) ∧ Sl W W.heap.size A1 (pack l2).length (bl (pack l2)) ∧ Below w.heap.size w W) ⟨r0.below (hkk _ _ _ _) r0.lt, ra.below (hkk _ _ _ _) ra.lt, hS.up (hkk _ _ _ _), hS'.up (hkk _ _ _ _), row_new2a _ _ _ _ _ _ _, row_new2b _ _ _ _ _ _ _, s1.up (blw_new2 _ _ _ _ _), up_call hb (hkk _ _ _ _)⟩ ?_
  generalize wc0.heap.size = g0
  clear hkk hbc hb r0 ra hS hS' s1 wc0  W0
  rintro Wg0 ⟨r0, ra, hS, hS', r1, f1, s1, hb⟩
  have a1 : Wg0.cell? ⟨g0 + 1, 0, none⟩ = some (.int .i64 0) := (f1.cell 0).trans rfl
  go_upto_region 4 with (first
    | (go_at_call 14; refine (strings_any _).mono ?_; rintro e w2 ⟨rfl, hb2⟩; have a2 : w2.cell? ⟨g0 + 1, 0, none⟩ = some (.int .i64 0) := ((f1.below hb2 f1.lt).cell 0).trans rfl))
  refine wp_world (F := fun W => Row W w.heap.size 24 (bcs A (pack l).length cp l.length) ∧ Row W (w.heap.size + 1) 24 (bcs A' (pack m).length cq m.length) ∧ Row W g0 24 (bcs A1 (pack l2).length c1 l2.length) ∧ Row W (g0 + 1) 26 (flt 0 0) ∧ Sl W W.heap.size A (pack l).length (bl (pack l)) ∧ Sl W W.heap.size A' (pack m).length (bl (pack m)) ∧ Sl W W.heap.size A1 (pack l2).length (bl (pack l2)) ∧ Below w.heap.size w W) ⟨r0.below hb2 r0.lt, ra.below hb2 ra.lt, r1.below hb2 r1.lt, f1.below hb2 f1.lt, hS.up hb2, hS'.up hb2, s1.up hb2, up_call hb hb2⟩ ?_
  clear a1 a2 hb2 w2 r0 ra r1 f1 hS hS' s1 hb Wg0
  rintro W2 ⟨r0, ra, r1, f1, hS, hS', s1, hb⟩
  have k1 : W2.cell? ⟨g0, 1, none⟩ = some (.int .i64 (l2.length : Int)) := (r1.cell 1).trans rfl
  go_upto_region 6 with (first
    | (refine wpList_load_row rfl 24 _ rfl (w.heap.size + 1) rfl 24 (bcs A' (pack m).length cq m.length) (0, 0) _ ra Try.underlying24 rfl (by rw [bcs_size]; exact cellsB) ?_)
    | (go_at_call 13; refine (HOK.out A' cq _ hS').mono ?_; rintro e w4 ⟨rfl, hb4⟩; have k2 : w4.cell? ⟨g0, 1, none⟩ = some (.int .i64 (l2.length : Int)) := ((r1.below hb4 r1.lt).cell 1).trans rfl; have k3 : w4.cell? ⟨w.heap.size + 1, 1, none⟩ = some (.int .i64 (m.length : Int)) := ((ra.below hb4 ra.lt).cell 1).trans rfl))
  refine wp_world (F := fun W => Row W w.heap.size 24 (bcs A (pack l).length cp l.length) ∧ Row W (w.heap.size + 1) 24 (bcs A' (pack m).length cq m.length) ∧ Row W g0 24 (bcs A1 (pack l2).length c1 l2.length) ∧ Row W (g0 + 1) 26 (flt 0 0) ∧ Sl W W.heap.size A (pack l).length (bl (pack l)) ∧ Sl W W.heap.size A' (pack m).length (bl (pack m)) ∧ Sl W W.heap.size A1 (pack l2).length (bl (pack l2)) ∧ Below w.heap.size w W) ⟨r0.below hb4 r0.lt, ra.below hb4 ra.lt, r1.below hb4 r1.lt, f1.below hb4 f1.lt, hS.up hb4, hS'.up hb4, s1.up hb4, up_call hb hb4⟩ ?_
  clear k1 k2 k3 hb4 w4 r0 ra r1 f1 hS hS' s1 hb W2
  rintro W4 ⟨r0, ra, r1, f1, hS, hS', s1, hb⟩
  go_upto_region 7 with (first
    | (refine wpList_load_row rfl 24 _ rfl g0 rfl 24 (bcs A1 (pack l2).length c1 l2.length) (0, 0) _ r1 Try.underlying24 rfl (by rw [bcs_size]; exact cellsB) ?_)
    | (refine wpList_load_row rfl 24 _ rfl (w.heap.size + 1) rfl 24 (bcs A' (pack m).length cq m.length) (0, 0) _ ra Try.underlying24 rfl (by rw [bcs_size]; exact cellsB) ?_)
    | (refine wpList_two rfl _ _ rfl A1 A' _ _ c1 cq _ _ rfl rfl ?_)
    | (go_at_call 33; refine (join_two l2 m l3 E3.out hl3 _ _ (bsv_two _ _ _ l2 m A1 A' c1 cq rfl hll hm s1 hS')).mono ?_; rintro e wc1 ⟨A3, c3, rfl, s3, hbd⟩; have hbc := up_call ((Below.refl _ _).alloc (Nat.le_refl _) _) hbd; clear hbd)
    | (refine wpList_store_row rfl 24 _ _ rfl wc1.heap.size (bcs A3 (pack l3).length c3 l3.length) rfl rfl 24 (bcs none 0 0 0) ((Row.newEq _ _ _ _ _ rfl rfl).alloc _) (by rw [bcs_size]; exact cellsB) rfl (all_one (bcs_one _ _ _ _)) ?_)
    | (refine wpList_store_row rfl 26 _ _ rfl (wc1.heap.size + 1) (flt 0 0) rfl rfl 26 (flt 0 0) (Row.rowFar (Row.newEq _ _ _ _ _ (by simp) rfl) (by omega) _) (by rw [flt_size]; exact cellsF) rfl (all_one (flt_one _ _)) ?_))
  have hkk := fun o1 o2 x y => up_call hbc (blw_new2 wc1 o1 o2 x y)
  refine wp_world (F := fun W => Row W w.heap.size 24 (bcs A (pack l).length cp l.length) ∧ Row W (w.heap.size + 1) 24 (bcs A' (pack m).length cq m.length) ∧ Row W g0 24 (bcs A1 (pack l2).length c1 l2.length) ∧ Row W (g0 + 1) 26 (flt 0 0) ∧ Sl W W.heap.size A (pack l).length (bl (pack l)) ∧ Sl W W.heap.size A' (pack m).length (bl (pack m)) ∧ Sl W W.heap.size A1 (pack l2).length (bl (pack l2)) ∧ Row W wc1.heap.size 24 (bcs A3 (pack l3).length c3 l3.length) ∧ Row W (wc1.heap.size + 1) 26 (flt 0 0) ∧ Sl W W.heap.size A3 (pack l3).length (bl (pack l3)) ∧ Below w.heap.size w W) ⟨r0.below (hkk _ _ _ _) r0.lt, ra.below (hkk _ _ _ _) ra.lt, r1.below (hkk _ _ _ _) r1.lt, f1.below (hkk _ _ _ _) f1.lt, hS.up (hkk _ _ _ _), hS'.up (hkk _ _ _ _), s1.up (hkk _ _ _ _), row_new2a _ _ _ _ _ _ _, row_new2b _ _ _ _ _ _ _, s3.up (blw_new2 _ _ _ _ _), up_call hb (hkk _ _ _ _)⟩ ?_
  generalize wc1.heap.size = g1
  generalize W4.heap.size = gz
  clear hkk hbc hb r0 ra r1 f1 hS hS' s1 s3 wc1  W4
  rintro Wg1 ⟨r0, ra, r1, f1, hS, hS', s1, r3, f3, s3, hb⟩
  have b1 : Wg1.cell? ⟨w.heap.size, 1, none⟩ = some (.int .i64 (l.length : Int)) := (r0.cell 1).trans rfl
  go_upto_region 8 with (first
    | (refine wpList_load_row rfl 24 _ rfl g1 rfl 24 (bcs A3 (pack l3).length c3 l3.length) (0, 0) _ r3 Try.underlying24 rfl (by rw [bcs_size]; exact cellsB) ?_)
    | (go_at_call 28; refine (HRB.out A3 c3 _ s3).mono ?_; rintro e wc2 ⟨rfl, hbc⟩)
    | (refine wpList_store_row rfl 26 _ _ rfl wc2.heap.size (flt 0 0) rfl rfl 26 (flt 0 0) (Row.newEq _ _ _ _ _ rfl rfl) (by rw [flt_size]; exact cellsF) rfl (all_one (flt_one _ _)) ?_))
  have hkk := fun o1 x => up_call hbc (blw_new1 wc2 o1 x)
  refine wp_world (F := fun W => Row W w.heap.size 24 (bcs A (pack l).length cp l.length) ∧ Row W (w.heap.size + 1) 24 (bcs A' (pack m).length cq m.length) ∧ Row W g0 24 (bcs A1 (pack l2).length c1 l2.length) ∧ Row W (g0 + 1) 26 (flt 0 0) ∧ Row W g1 24 (bcs A3 (pack l3).length c3 l3.length) ∧ Row W (g1 + 1) 26 (flt 0 0) ∧ Sl W W.heap.size A (pack l).length (bl (pack l)) ∧ Sl W W.heap.size A' (pack m).length (bl (pack m)) ∧ Sl W W.heap.size A1 (pack l2).length (bl (pack l2)) ∧ Sl W W.heap.size A3 (pack l3).length (bl (pack l3)) ∧ Row W wc2.heap.size 26 (flt 0 0) ∧ Below w.heap.size w W) ⟨r0.below (hkk _ _) r0.lt, ra.below (hkk _ _) ra.lt, r1.below (hkk _ _) r1.lt, f1.below (hkk _ _) f1.lt, r3.below (hkk _ _) r3.lt, f3.below (hkk _ _) f3.lt, hS.up (hkk _ _), hS'.up (hkk _ _), s1.up (hkk _ _), s3.up (hkk _ _), row_new1 _ _ _ _, up_call hb (hkk _ _)⟩ ?_
  generalize wc2.heap.size = g2
  clear hkk hbc hb r0 ra r1 f1 r3 f3 hS hS' s1 s3 wc2 b1 Wg1
  rintro Wg2 ⟨r0, ra, r1, f1, r3, f3, hS, hS', s1, s3, f4, hb⟩
  have a3 : Wg2.cell? ⟨g1 + 1, 0, none⟩ = some (.int .i64 0) := (f3.cell 0).trans rfl
  have a4 : Wg2.cell? ⟨g2, 0, none⟩ = some (.int .i64 0) := (f4.cell 0).trans rfl
  have b1 : Wg2.cell? ⟨w.heap.size, 1, none⟩ = some (.int .i64 (l.length : Int)) := (r0.cell 1).trans rfl
  have b2 : Wg2.cell? ⟨g0, 1, none⟩ = some (.int .i64 (l2.length : Int)) := (r1.cell 1).trans rfl
  go_upto_region 8 with (fail)
  have wz : IntKind.i64.wrap ((l.length : Int) + (s : Int)) = (l.length : Int) + (s : Int) := iw _ (by omega)
  go_quiet ((go_at_call 29; exact Calls.quiet_of_same ((gammaSize_is v HV.out s HSZ.out _).mono fun _ _ ⟨a, b⟩ => ⟨a, b.symm⟩)))
  clear wz
  go_wp2
  go_ret
  exact ⟨rfl, blw_drewN hb _⟩
end Go.Proofs.Ytbahkidkpbabdaa.lawGBack
