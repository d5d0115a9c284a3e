/-
  ArithPutMatchesSpec where the state is not valid.
-/
import Derived.Test.YtcnokjiohbifeaaAArgs
import Derived.Test.YtcnokjiohbifeaaRSent
import Derived.Test.YtcnokjiohbifeaaRPack
import Derived.Deep.RegionHeld3
namespace Go.Proofs.Ytcnokjiohbifeaa.lawPut
open Go.RowKit
attribute [local go_sem ↓] wp_load_flat run_load_flat
attribute [local go_sem] blkOf_ptr cells_agg sizedB sizeTB aggB sizedCd sizeTCd aggCd

set_option maxRecDepth 100000 in
set_option maxHeartbeats 8000000 in
theorem walk_form (a b q bit p : Int) (h : ¬ CoderZ a b q) (w : World) :
    Calls Try.prog 3 #[.agg (cds a b q), .int .i64 bit, .int .i64 p] w fun e w' => e = .returned (.bool true) ∧ Below w.heap.size w w' := by
  have hp := Put_form a b q bit p h
  have hf := Finish_bad a b q h
  have hok := coderok_any a b q
  rw [decide_eq_false h] at hok
  clear h
  have hsc : ∀ w : World, (binOp .neq 23 (.agg (cds 0 65535 0)) (.agg #[.int .i64 0, .int .i64 65535, .int .i64 0])).run Try.prog w = .ok (.bool false) w := fun w => neq_cds 0 65535 0 0 65535 0 w
  go_enter Try.func3, Try.ntmps3
  go_upto_region 1 with (fail)
  refine wp_world (F := fun W => Row W w.heap.size 23 (cds a b q) ∧ Below w.heap.size w W) ⟨Row.newEq _ _ _ _ _ rfl rfl, (Below.refl _ _).alloc (Nat.le_refl _) _⟩ ?_
  rintro W0 ⟨r0, hb⟩
  go_upto_region 2 with (first
    | (refine wpList_load_row rfl 23 _ rfl w.heap.size rfl 23 (cds a b q) (0, 0) _ r0 Try.underlying23 rfl (by rw [cds_size]; exact cellsCd) ?_)
    | (go_at_call 11; refine (hp _).mono ?_; rintro e w1 ⟨rfl, hb1⟩)
    | (refine wpList_out3 23 26 28 7 8 9 28 29 30 _ _ _ (cds 0 0 0) (bcs none 0 0 0) (flt 6 (-1)) rfl rfl rfl rfl rfl rfl rfl rfl rfl rfl rfl rfl rfl rfl rfl rfl rfl rfl allocCd allocB allocF (by rw [cds_size]; exact cellsCd) (by rw [bcs_size]; exact cellsB) (by rw [flt_size]; exact cellsF) rfl rfl rfl (all_one (cds_one _ _ _)) (all_one (bcs_one _ _ _ _)) (all_one (flt_one _ _)) (by decide) (by simp) rfl rfl rfl ?_; intro W1 r7 r8 r9 hbk))
  have hk := up_call hb1 hbk
  replace r0 := r0.below hk r0.lt
  replace hb := up_call hb hk
  generalize w1.heap.size = g7 at r7 r8 r9 ⊢
  clear hk hbk hb1
  go_upto_region 3 with (first
    | (refine wpList_load_row rfl 23 _ rfl w.heap.size rfl 23 (cds a b q) (0, 0) _ r0 Try.underlying23 rfl (by rw [cds_size]; exact cellsCd) ?_)
    | (go_at_call 12; refine (hf _).mono ?_; rintro e w2 ⟨rfl, hb2⟩)
    | (refine wpList_store_row rfl 26 _ _ rfl w2.heap.size (bcs none 0 0 0) rfl rfl 26 (bcs none 0 0 0) ((Row.newEq _ _ _ _ _ rfl rfl).alloc _) (by rw [bcs_size]; exact cellsB) rfl (all_one (bcs_one _ _ _ _)) ?_)
    | (refine wpList_store_row rfl 28 _ _ rfl (w2.heap.size + 1) (flt 6 (-1)) rfl rfl 28 (flt 0 0) (row_far_new2 _ _ _ _ _ _) (by rw [flt_size]; exact cellsF) rfl (all_one (flt_one _ _)) ?_))
  have hk0 := blw_new2 w2 (.cells #[.slice none 0 0, .int .i64 0] 26) (.cells #[.int .i64 0, .int .i64 0] 28) (bcs none 0 0 0) (flt 6 (-1))
  have hk := up_call hb2 hk0
  refine wp_world (F := fun W => Row W w.heap.size 23 (cds a b q) ∧ Row W g7 23 (cds 0 0 0) ∧ Row W (g7 + 1) 26 (bcs none 0 0 0) ∧ Row W (g7 + 1 + 1) 28 (flt 6 (-1)) ∧ Row W w2.heap.size 26 (bcs none 0 0 0) ∧ Row W (w2.heap.size + 1) 28 (flt 6 (-1)) ∧ Below w.heap.size w W)
    ⟨r0.below hk r0.lt, r7.below hk r7.lt, r8.below hk r8.lt, r9.below hk r9.lt, row_new2a _ _ _ _ _ _ _, row_new2b _ _ _ _ _ _ _, up_call hb hk⟩ ?_
  have hl10 : g7 + 1 + 1 < w2.heap.size := Nat.lt_of_lt_of_le r9.lt hb2.size
  generalize w2.heap.size = g10 at hl10
  clear hk hk0 hb2 r0 r7 r8 r9 hb w2
  rintro W2 ⟨r0, r7, r8, r9, r10, r11, hb⟩
  go_upto_region 5 with (first
    | (go_at_call 13; refine (codes_any _).mono ?_; rintro e w14 ⟨rfl, hb14⟩; have q0 := r0.below hb14 r0.lt; have q7 := r7.below hb14 r7.lt; have q8 := r8.below hb14 r8.lt; have q9 := r9.below hb14 r9.lt; have q10 := r10.below hb14 r10.lt; have q11 := r11.below hb14 r11.lt; have hb2 := up_call hb hb14)
    | (go_at_call 14; refine (start_any _).mono ?_; rintro e w15 ⟨rfl, hb15⟩; have p0 := q0.below hb15 q0.lt; have p7 := q7.below hb15 q7.lt; have p8 := q8.below hb15 q8.lt; have p9 := q9.below hb15 q9.lt; have p10 := q10.below hb15 q10.lt; have p11 := q11.below hb15 q11.lt; have hb3 := up_call hb2 hb15))
  clear r0 r7 r8 r9 r10 r11 hb hb14 q0 q7 q8 q9 q10 q11 hb2 hb15 hsc
  have hef : ∀ w : World, (binOp .eql 28 (.agg (flt 6 (-1))) (.agg (flt 6 (-1)))).run Try.prog w = .ok (.bool true) w := fun w => eql_flt 6 (-1) 6 (-1) w
  have hec : ∀ w : World, (binOp .eql 23 (.agg (cds 0 0 0)) (.agg #[.int .i64 0, .int .i64 0, .int .i64 0])).run Try.prog w = .ok (.bool true) w := fun w => eql_cds 0 0 0 0 0 0 w
  go_upto_region 7 with (first
    | (refine wpList_load_row rfl 23 _ rfl w.heap.size rfl 23 (cds a b q) (0, 0) _ p0 Try.underlying23 rfl (by rw [cds_size]; exact cellsCd) ?_)
    | (go_at_call 15; refine (hok _).mono ?_; rintro e w16 ⟨rfl, hb16⟩)
    | (go_at_call 16; refine (at_any 6 (-1) _).mono ?_; rintro e w17 ⟨rfl, hb17⟩)
    | (refine wpList_store_row rfl 28 _ _ rfl w17.heap.size (flt 6 (-1)) rfl rfl 28 (flt 0 0) (Row.newEq _ _ _ _ _ rfl rfl) (by rw [flt_size]; exact cellsF) rfl (all_one (flt_one _ _)) ?_))
  have hk := (up_call hb16 (up_call hb17 (blw_new1 w17 (.cells #[.int .i64 0, .int .i64 0] 28) (flt 6 (-1)))))
  refine wp_world (F := fun W => Row W g7 23 (cds 0 0 0) ∧ Row W (g7 + 1) 26 (bcs none 0 0 0) ∧ Row W (g7 + 1 + 1) 28 (flt 6 (-1)) ∧ Row W g10 26 (bcs none 0 0 0) ∧ Row W (g10 + 1) 28 (flt 6 (-1)) ∧ Row W w17.heap.size 28 (flt 6 (-1)) ∧ Below w.heap.size w W)
    ⟨p7.below hk p7.lt, p8.below hk p8.lt, p9.below hk p9.lt, p10.below hk p10.lt, p11.below hk p11.lt, row_new1 _ _ _ _, up_call hb3 hk⟩ ?_
  generalize w17.heap.size = g12
  clear hk hb16 hb17 p0 p7 p8 p9 p10 p11 hb3
  rintro W3 ⟨r7, r8, r9, r10, r11, r12, hb⟩
  go_wp2_with (first
    | (refine wpList_load_row rfl 28 _ rfl (g7 + 1 + 1) rfl 28 (flt 6 (-1)) (0, 0) _ r9 Try.underlying28 rfl (by rw [flt_size]; exact cellsF) ?_)
    | (refine wpList_load_row rfl 28 _ rfl g12 rfl 28 (flt 6 (-1)) (0, 0) _ r12 Try.underlying28 rfl (by rw [flt_size]; exact cellsF) ?_)
    | (refine wpList_load_rowG (by simp [Region.wanted, yielded, Act.put]) 28 _ rfl (g10 + 1) rfl 28 (flt 6 (-1)) (0, 0) _ r11 Try.underlying28 rfl (by rw [flt_size]; exact cellsF) ?_)
    | (refine wpList_load_rowG (by simp [Region.wanted, yielded, Act.put]) 28 _ rfl g12 rfl 28 (flt 6 (-1)) (0, 0) _ r12 Try.underlying28 rfl (by rw [flt_size]; exact cellsF) ?_)
    | (refine wpList_load_rowG (by simp [Region.wanted, yielded, Act.put]) 23 _ rfl g7 rfl 23 (cds 0 0 0) (0, 0) _ r7 Try.underlying23 rfl (by rw [cds_size]; exact cellsCd) ?_)
    | (refine wpList_load_rowG (by simp [Region.wanted, yielded, Act.put]) 26 _ rfl (g7 + 1) rfl 26 (bcs none 0 0 0) (0, 0) _ r8 Try.underlying26 rfl (by rw [bcs_size]; exact cellsB) ?_)
    | (refine wpList_load_rowG (by simp [Region.wanted, yielded, Act.put]) 26 _ rfl g10 rfl 26 (bcs none 0 0 0) (0, 0) _ u10 Try.underlying26 rfl (by rw [bcs_size]; exact cellsB) ?_)
    | (go_at_call 17; refine (same_none W3).mono ?_; rintro e w18 ⟨rfl, hb18⟩; have u10 := r10.below hb18 r10.lt; have hbx := up_call hb hb18)
    | (go_at_call 17; refine (same_none w18).mono ?_; rintro e w19 ⟨rfl, hb19⟩; have hbfin := up_call hbx hb19))
  go_ret
  exact ⟨rfl, hbfin⟩
end Go.Proofs.Ytcnokjiohbifeaa.lawPut
