/-
  The contract of the package's Cost.
-/
import Derived.Test.YtcmbpniikcghfaaPSm
import Derived.Test.YtcmbpniikcghfaaPCost
import Derived.Test.YtcmbpniikcghfaaLzC
import Derived.Test.YtcmbpniikcghfaaGTk
namespace Go.Proofs.Ytcmbpniikcghfaa
open Go.RowKit

attribute [local go_sem ↓] wp_store_act wp_load_flat run_load_flat wp_store_flat
attribute [local go_sem] flat_lit blkOf_ptr cells_agg sizedF sizeTF aggF flat_flt isRow_set_eq rowAt_set_eq

set_option maxRecDepth 100000 in
set_option maxHeartbeats 4000000 in
theorem lzcost_bad : PCostBad := by
  intro ts k i h A c w hS
  have hnq := neq_bad k i h.ne
  have HF := Lib.hid (fun w hS => check_bad ts k i h A c w hS)
  have HS := Lib.hid hS
  clear hS h
  go_enter Try.func21, Try.ntmps21
  go_upto_region 1 with (fail)
  refine wp_world (F := fun W => Row W w.heap.size 25 (flt 0 0) ∧ Tks W W.heap.size A ts.length ts ∧ Below w.heap.size w W) ⟨Row.newEq _ _ _ _ _ rfl rfl, HS.out.up ((Below.refl _ _).alloc (Nat.le_refl _) _), (Below.refl _ _).alloc (Nat.le_refl _) _⟩ ?_
  clear HS
  rintro W0 ⟨r0, hS, hb⟩
  go_upto_region 2 with (first
    | (go_at_call 31; refine (HF.out _ hS).mono ?_; rintro e w2 ⟨rfl, hb2⟩)
    | (refine wpList_store_row rfl 25 _ _ rfl w2.heap.size (flt k i) rfl rfl 25 (flt 0 0) (Row.newEq _ _ _ _ _ rfl rfl) (by rw [flt_size]; exact cellsF) rfl (all_one (flt_one _ _)) ?_))
  refine wp_world (F := fun W => Row W w2.heap.size 25 (flt k i) ∧ Row W w.heap.size 25 (flt 0 0) ∧ w.heap.size < w2.heap.size ∧ Below w.heap.size w W)
    ⟨row_new1 _ _ _ _, r0.below (up_call hb2 (blw_new1 _ _ _)) r0.lt, Nat.lt_of_lt_of_le r0.lt hb2.size, up_call hb (up_call hb2 (blw_new1 _ _ _))⟩ ?_
  generalize w2.heap.size = g6
  clear hb2 r0 hS hb w2 W0
  rintro W2 ⟨r6, r0, hlt, hb⟩
  go_upto_region 3 with (first
    | (refine wpList_load_row rfl 25 _ rfl g6 rfl 25 (flt k i) (0, 0) _ r6 Try.underlying25 rfl (by rw [flt_size]; exact cellsF) ?_))
  have i6 := r6.drew.is (flt_size _ _)
  have a6 := r6.drew.at
  have q0 := r0.drew
  have i0 := r0.drew.is (flt_size _ _)
  have n3 : ¬ w.heap.size = g6 := by omega
  have n4 : ¬ g6 = w.heap.size := by omega
  go_region_law (fail)
  all_goals
    go_wp2
    refine bodyPost_ret (results_tmp_row Try.results21 _ _ _ w.heap.size 25 (flt k i) _ rfl rfl (Row.row q0 _) Try.underlying25 rfl (by rw [flt_size]; exact cellsF)) rfl ⟨rfl, ?_⟩
    exact blw_row hb.drew (Nat.le_refl _) _

set_option maxRecDepth 100000 in
set_option maxHeartbeats 8000000 in
theorem lzcost_any : PCost := by
  intro l hg n hn hl A c w hS
  have hnq : ∀ w : World, (binOp .neq 25 (.agg (flt 0 0)) (.agg #[.int .i64 0, .int .i64 0])).run Try.prog w = .ok (.bool false) w := fun w => neq_flt 0 0 0 0 w
  have HF := Lib.hid (fun w hS => check_ok l hg n hn hl A c w hS)
  have HS := Lib.hid hS
  have HL := Lib.hid (And.intro hn hg)
  clear hS hn hg
  go_enter Try.func21, Try.ntmps21
  go_upto_region 1 with (fail)
  have ha : Below w.heap.size w (w.alloc (.cells #[.int .i64 0, .int .i64 0] 25)) := (Below.refl _ _).alloc (Nat.le_refl _) _
  refine wp_world (F := fun W => Row W w.heap.size 25 (flt 0 0) ∧ Tks W W.heap.size A n (tz l) ∧ Below w.heap.size w W) ⟨Row.newEq _ _ _ _ _ rfl rfl, HS.out.up ha, ha⟩ ?_
  clear ha
  rintro W0 ⟨r0, hS0, hb⟩
  go_upto_region 2 with (first
    | (go_at_call 31; refine (HF.out _ hS0).mono ?_; rintro e w2 ⟨rfl, hb2⟩)
    | (refine wpList_store_row rfl 25 _ _ rfl w2.heap.size (flt 0 0) rfl rfl 25 (flt 0 0) (Row.newEq _ _ _ _ _ rfl rfl) (by rw [flt_size]; exact cellsF) rfl (all_one (flt_one _ _)) ?_))
  refine wp_world (F := fun W => Row W w2.heap.size 25 (flt 0 0) ∧ Row W w.heap.size 25 (flt 0 0) ∧ w.heap.size < w2.heap.size ∧ Below w.heap.size w W)
    ⟨row_new1 _ _ _ _, r0.below (up_call hb2 (blw_new1 _ _ _)) r0.lt, Nat.lt_of_lt_of_le r0.lt hb2.size, up_call hb (up_call hb2 (blw_new1 _ _ _))⟩ ?_
  generalize w2.heap.size = g6
  clear hb2 r0 hb hS0 w2 W0
  rintro W2 ⟨r6, r0, hlt6, hb⟩
  go_upto_region 6 with (first
    | (refine wpList_load_row rfl 25 _ rfl g6 rfl 25 (flt 0 0) (0, 0) _ r6 Try.underlying25 rfl (by rw [flt_size]; exact cellsF) ?_))
  clear r6 hlt6
  go_loopw [5, 16] (fun v i wr => ∃ j s : Nat, j ≤ n ∧ i = .int .i64 j ∧ v = .int .i64 s ∧ s ≤ 41 * j ∧ Hid (s = costT (l.take j)) ∧ Row wr w.heap.size 25 (flt 0 0) ∧ Below w.heap.size w wr) (fun _ i _ => n - (intOf i).toNat)
  case atStart => exact ⟨0, 0, Nat.zero_le _, rfl, rfl, Nat.le_refl _, Lib.hid rfl, r0, hb⟩
  case round =>
    clear r0 hb
    obtain ⟨j, s, hj, rfl, rfl, hs, HC, r1, hb1⟩ := hrel
    by_cases hlt : j < n
    · obtain ⟨ad, rfl, hbl, k1, k2, k3⟩ := (HS.out.below hb1).at_ hlt
      have hjl : j < l.length := by rw [← HL.out.1]; exact hlt
      rw [tz_getD l j hjl] at k1 k2 k3
      have hok := HL.out.2 l[j] (List.getElem_mem hjl)
      have hco := cost_any l[j] hok
      have hcl := cost_le l[j] hok
      have hnx : costT (l.take (j + 1)) = s + l[j].cost := by rw [List.take_succ_eq_append_getElem hjl, costT_append, HC.out]; simp [costT]
      obtain ⟨q, hq⟩ : ∃ q, q = l[j].cost := ⟨_, rfl⟩
      rw [← hq] at hco hcl hnx
      obtain ⟨x1, x2, x3, hz3⟩ : ∃ a b c, l[j].z = (a, b, c) := ⟨_, _, _, rfl⟩
      rw [hz3] at k1 k2 k3 hco
      simp only at k1 k2 k3 hco
      obtain ⟨z3, hzz3⟩ : ∃ z : Int, z = (x3.toNat : Int) := ⟨_, rfl⟩
      unfold tcs at hco
      rw [← hzz3] at k3 hco
      have HN := Lib.hid hnx
      have HCO := Lib.hid hco
      clear hnx hco hz3 hzz3 hq hok hjl hbl
      go_upto_region 8 with (fail)
      have hkk := (Below.refl wr.heap.size wr).alloc (Nat.le_refl _) (.cells #[.int .i64 x1, .int .i64 x2, .int .u8 z3] 55)
      refine wp_world (F := fun W' => Row W' wr.heap.size 55 #[.int .i64 x1, .int .i64 x2, .int .u8 z3] ∧ Row W' w.heap.size 25 (flt 0 0) ∧ Below w.heap.size w W') ⟨Row.new _ _ _, r1.below hkk r1.lt, up_call hb1 hkk⟩ ?_
      generalize wr.heap.size = gt
      clear k1 k2 k3 r1 hb1 hkk wr
      rintro W1 ⟨rt, r1, hb1⟩
      have c0 := (rt.cell 0).trans rfl
      have c1 := (rt.cell 1).trans rfl
      have c2 := (rt.cell 2).trans rfl
      go_wp2_with (first
        | (go_at_call 32; refine (HCO.out _).mono ?_; rintro e w3 ⟨rfl, hb3⟩))
      go_roundw
      case rel => exact ⟨j + 1, s + q, by omega, by go_num, by go_num, by omega, Lib.hid HN.out.symm, r1.below hb3 r1.lt, up_call hb1 hb3⟩
      case measure => simp [intOf]; omega
    · obtain rfl : n = j := by omega
      have htk : l.take n = l := List.take_of_length_le (by rw [← HL.out.1]; exact Nat.le_refl _)
      have hc := HC.out
      rw [htk] at hc
      have HCC := Lib.hid hc
      clear htk hc
      go_wp2_with (first
        | (refine wpList_store_row rfl 25 _ _ rfl w.heap.size (flt 0 0) rfl rfl 25 (flt 0 0) r1 (by rw [flt_size]; exact cellsF) rfl (all_one (flt_one _ _)) ?_))
      refine bodyPost_ret (results_tmp_row Try.results21 _ _ _ w.heap.size 25 (flt 0 0) _ rfl rfl (Row.row r1 _) Try.underlying25 rfl (by rw [flt_size]; exact cellsF)) rfl ⟨?_, blw_row hb1 (Nat.le_refl _) _⟩
      rw [← HCC.out]
      rfl
end Go.Proofs.Ytcmbpniikcghfaa
