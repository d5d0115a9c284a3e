/-
  PROVED: the statement on states and digests in pieces (DigestStatesMatchSpec): the walks.
-/
import Derived.Test.YtcippenhomhpbaaDoorLawJoin
import Derived.Test.YtcippenhomhpbaaDoorRefHash
namespace Go.Proofs.YtcippenhomhpbaaDoor.lawStates
open Go.ChangeShapes Go.WideShapes Go.ChangeAt Go.RowKit
open lawJoin

attribute [local go_sem ↓] wp_store_act wp_load_flat run_load_flat wp_store_flat
attribute [local go_sem] blkOf_ptr cells_agg sizedF sizeTF aggF sizedH sizeTH aggH sizedD sizeTD aggD flat_piece flat_flt isRow_alloc_eq isRow_set_eq rowAt_alloc_eq

theorem build_stc (x : St) : Array.foldl (fun (cs : Array Value) (x : Value × Nat) => cs.setIfInBounds x.snd x.fst)
    #[.int .u32 0, .int .u32 0, .int .u32 0, .int .u32 0, .int .u32 0, .int .u32 0, .int .u32 0, .int .u32 0, .slice none 0 0, .int .i64 0] (stc x).zipIdx 0 (stc x).size = hsc x (.slice none 0 0) 0 := by
  unfold stc hsc
  kernel_rfl
theorem same_zero (s : St) (cs : Array Value) (h : cs = hsc s (.slice none 0 0) 0) (w : World) :
    Calls Tryd.prog 15 #[.agg (hsc s (.slice none 0 0) 0), .agg cs] w fun e w' => e = .returned (.bool true) ∧ Below w.heap.size w w' := by
  subst h
  exact sameH_yes s 0 none none [] 0 0 0 w (by rw [bl_nil]; exact Sl.nil _ _ _) (by rw [bl_nil]; exact Sl.nil _ _ _)
theorem same_zH (cs : Array Value) (h : cs = zH) (w : World) :
    Calls Tryd.prog 15 #[.agg zH, .agg cs] w fun e w' => e = .returned (.bool true) ∧ Below w.heap.size w w' := by
  subst h
  rw [← zH_eq]
  exact same_zero _ _ rfl w

set_option maxRecDepth 100000 in
set_option maxHeartbeats 4000000 in
/-- the state is not valid -/
theorem walk_bad (s : St) (n : Int) (hn : -9223372036854775808 ≤ n ∧ n ≤ 9223372036854775807) (TA : Option Addr) (tl tc : Nat) (x : Value) (w : World) (hK : KIs w) (hv : okH tl n = false) :
    Calls Tryd.prog 4 #[.agg (hsc s (.slice TA tl tc) n), x] w fun e w' => e = .returned (.bool true) ∧ Below w.heap.size w w' := by
  have HK := Lib.hid hK
  have hg := hK.lt
  have HV := Lib.hid hv
  clear hK hv
  have h0 : Holds (w.alloc (.cells (hsc s (.slice TA tl tc) n) 30)) w.heap.size (hsc s (.slice TA tl tc) n) := ⟨_, Row.new _ _ _⟩
  have hb0 := up_alloc (Below.refl w.heap.size w) (.cells (hsc s (.slice TA tl tc) n) 30)
  have i0 := h0.is (n := 10) (hsc_size _ _ _)
  have j0 := h0.at
  go_enter Tryd.func4, Tryd.ntmps4
  go_upto_region 2 with (first
    | (go_at_call 13; refine (write_bad s n hn TA tl tc x _ HV.out).mono ?_; rintro e w1 ⟨rfl, hb1'⟩)
    | (refine wpList_store_row rfl 30 _ _ rfl w1.heap.size zH rfl rfl 30 zH ((Row.newEq _ _ _ _ _ rfl zH_lit).alloc _) (by rw [zH_size]; exact cellsH) rfl (all_one zH_one) ?_)
    | (refine wpList_store_row rfl 32 _ _ rfl (w1.heap.size + 1) (flt 6 (-1)) rfl rfl 32 (flt 0 0) (Row.rowFar (Row.newEq _ _ _ _ _ (by simp) rfl) (by omega) _) (by rw [flt_size]; exact cellsF) rfl (all_one (flt_one _ _)) ?_))
  have h1 := h0.below hb1'
  have hb1 := up_call hb0 hb1'
  have l1 := h1.lt
  refine wp_world (F := fun W => Holds W w.heap.size (hsc s (.slice TA tl tc) n) ∧ Holds W w1.heap.size zH ∧ Holds W (w1.heap.size + 1) (flt 6 (-1)) ∧ Below w.heap.size w W)
    ⟨holds_far (by omega) (holds_far (by omega) ((h1.alloc _).alloc _)), holds_far (by omega) (holds_same (n := 10) ((isRow_alloc_eq _ _ _ _ _).2 (by rw [if_neg (by simp)]; exact isRow_new rfl rfl))), holds_same (n := 2) (isRow_set (by omega) (isRow_new (by simp) rfl)), up_row (up_row (up_alloc (up_alloc hb1 _) _) hb1.size _) (by have := hb1.size; omega) _⟩ ?_
  generalize w1.heap.size = g1 at *
  have lg1 := l1
  clear hb1 hb1' h1 l1 h0 i0 j0 hb0 w1
  rintro w1 ⟨h1, x1, f1, hb1⟩
  have i1 := h1.is (n := 10) (hsc_size _ _ _)
  have j1 := h1.at
  go_upto_region 3 with (first
    | (go_at_call 14; refine (finish_bad s n hn TA tl tc _ HV.out).mono ?_; rintro e w2 ⟨rfl, hb2'⟩)
    | (refine wpList_store_row rfl 24 _ _ rfl w2.heap.size zD rfl rfl 24 zD ((Row.newEq _ _ _ _ _ rfl zD_lit).alloc _) (by rw [zD_size]; exact cellsD) rfl (all_one zD_one) ?_)
    | (refine wpList_store_row rfl 32 _ _ rfl (w2.heap.size + 1) (flt 6 (-1)) rfl rfl 32 (flt 0 0) (Row.rowFar (Row.newEq _ _ _ _ _ (by simp) rfl) (by omega) _) (by rw [flt_size]; exact cellsF) rfl (all_one (flt_one _ _)) ?_))
  have h2 := h1.below hb2'
  have x2 := x1.below hb2'
  have f2 := f1.below hb2'
  have hb2 := up_call hb1 hb2'
  have l2 := h2.lt
  have m2 := x2.lt
  have n2 := f2.lt
  refine wp_world (F := fun W => Holds W w.heap.size (hsc s (.slice TA tl tc) n) ∧ Holds W g1 zH ∧ Holds W (g1 + 1) (flt 6 (-1)) ∧ Holds W w2.heap.size zD ∧ Holds W (w2.heap.size + 1) (flt 6 (-1)) ∧ Below w.heap.size w W)
    ⟨holds_far (by omega) (holds_far (by omega) ((h2.alloc _).alloc _)), holds_far (by omega) (holds_far (by omega) ((x2.alloc _).alloc _)), holds_far (by omega) (holds_far (by omega) ((f2.alloc _).alloc _)), holds_far (by omega) (holds_same (n := 32) ((isRow_alloc_eq _ _ _ _ _).2 (by rw [if_neg (by simp)]; exact isRow_new rfl rfl))), holds_same (n := 2) (isRow_set (by omega) (isRow_new (by simp) rfl)), up_row (up_row (up_alloc (up_alloc hb2 _) _) hb2.size _) (by have := hb2.size; omega) _⟩ ?_
  generalize w2.heap.size = g2 at *
  clear hb2 hb2' h2 x2 f2 h1 x1 f1 i1 j1 hb1 w2 w1
  rintro w2 ⟨h2, x2, f2, d2, e2, hb2⟩
  go_upto_region 5 with (first
    | (go_at_call 10; refine (digests_any _ (KIs.keep HK.out hb2 hg)).mono ?_; rintro e w3 ⟨rfl, hb3'⟩)
    | (go_at_call 16; refine (start_any _).mono ?_; rintro e w4 ⟨rfl, hb4'⟩)
    | (go_at_call 17; refine (firstState_any _).mono ?_; rintro e w5 ⟨rfl, hb5'⟩)
    | (go_at_call 15; refine (same_zero first _ (build_stc first) _).mono ?_; rintro e w6 ⟨rfl, hb6'⟩))
  have hz2 : Below w2.heap.size w2 w6 := up_call (up_call (up_call hb3' hb4') hb5') hb6'
  have h6 := h2.below hz2
  have x6 := x2.below hz2
  have f6 := f2.below hz2
  have d6 := d2.below hz2
  have e6 := e2.below hz2
  have hb6 := up_call hb2 hz2
  have i6 := h6.is (n := 10) (hsc_size _ _ _)
  have j6 := h6.at
  clear hz2 hb3' hb4' hb5' hb6' h2 x2 f2 d2 e2 hb2
  go_upto_region 7 with (first
    | (go_at_call 18; refine (hashingOk_any s n hn TA tl tc _).mono ?_; rintro e w7 ⟨rfl, hb7'⟩; rw [HV.out])
    | (go_at_call 19; refine (at_any 6 (-1) _).mono ?_; rintro e w8 ⟨rfl, hb8'⟩; have hz8 := up_call hb7' hb8'; have x8 := x6.below hz8; have f8 := f6.below hz8; have d8 := d6.below hz8; have e8 := e6.below hz8; have hb8 := up_call hb6 hz8)
    | (refine wpList_store_row rfl 32 _ _ rfl w8.heap.size (flt 6 (-1)) rfl rfl 32 (flt 0 0) (Row.newEq _ _ _ _ _ rfl rfl) (by rw [flt_size]; exact cellsF) rfl (all_one (flt_one _ _)) ?_))
  have l8 := x8.lt
  have m8 := f8.lt
  have n8 := d8.lt
  have o8 := e8.lt
  refine wp_world (F := fun W => Holds W g1 zH ∧ Holds W (g1 + 1) (flt 6 (-1)) ∧ Holds W g2 zD ∧ Holds W (g2 + 1) (flt 6 (-1)) ∧ Holds W w8.heap.size (flt 6 (-1)) ∧ Below w.heap.size w W)
    ⟨holds_far (by omega) (x8.alloc _), holds_far (by omega) (f8.alloc _), holds_far (by omega) (d8.alloc _), holds_far (by omega) (e8.alloc _), holds_same (n := 2) (isRow_new rfl rfl), up_row (up_alloc hb8 _) hb8.size _⟩ ?_
  generalize w8.heap.size = g8 at *
  clear hz8 hb7' hb8' x8 f8 d8 e8 h6 i6 j6 x6 f6 d6 e6 hb6 hb8 w8 w7 w6 w5 w4 w3 w2
  rintro w8 ⟨x8, f8, d8, e8, a8, hb8⟩
  have i1 := x8.is (n := 10) zH_size
  have j1 := x8.at
  have i2 := f8.is (n := 2) rfl
  have j2 := f8.at
  have i3 := d8.is (n := 32) zD_size
  have i4 := e8.is (n := 2) rfl
  have j4 := e8.at
  have i5 := a8.is (n := 2) rfl
  have j5 := a8.at
  have hef := eql_flt 6 (-1) 6 (-1)
  simp only [beq_self_eq_true, Bool.and_self] at hef
  have hez := eql_zD
  go_wp2_with (first
    | (go_at_call 15; refine (same_zH _ zH_lit _).mono ?_; rintro e w9 ⟨rfl, hb9'⟩; have d9 := d8.below hb9'; have i9 := d9.is (n := 32) zD_size; have j9 := d9.at; have hb9 := up_call hb8 hb9'))
  go_ret
  exact ⟨rfl, hb9⟩
end Go.Proofs.YtcippenhomhpbaaDoor.lawStates
