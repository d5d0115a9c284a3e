/-
  PROVED: the statement on states and digests in pieces (DigestStatesMatchSpec): the walk where too many bytes are written.
-/
import Derived.Test.YtcippenhomhpbaaDoorLawStates
import Derived.Deep.DeepCutAuto
namespace Go.Proofs.YtcippenhomhpbaaDoor.lawStates
open Go.ChangeShapes Go.WideShapes Go.ChangeAt Go.RowKit
open lawJoin

attribute [local go_sem ↓] wp_store_act wp_load_flat run_load_flat wp_store_flat
attribute [local go_sem] blkOf_ptr cells_agg sizedF sizeTF aggF sizedH sizeTH aggH sizedD sizeTD aggD flat_piece flat_flt isRow_alloc_eq isRow_set_eq rowAt_alloc_eq

set_option maxRecDepth 100000 in
set_option maxHeartbeats 4000000 in
/-- too many bytes for a valid state -/
theorem walk_long (s : St) (n : Nat) (TA : Option Addr) (T : List UInt8) (tc : Nat) (A : Option Addr) (l c : Nat) (w : World) (hK : KIs w) (hT : Sl w w.heap.size TA T.length (bl T)) (hv : okH T.length (n : Int) = true) (hl : 1099511627776 - (n : Int) < (l : Int)) :
    Calls Tryd.prog 4 #[.agg (hsc s (.slice TA T.length tc) n), .slice A l c] w fun e w' => e = .returned (.bool true) ∧ Below w.heap.size w w' := by
  have HK := Lib.hid hK
  have hg := hK.lt
  have HV := Lib.hid hv
  have hn3 : -9223372036854775808 ≤ (n : Int) ∧ (n : Int) ≤ 9223372036854775807 := by have := okH_of hv; omega
  have ht64 : T.length < 64 := by have := okH_of hv; omega
  have hnb : n ≤ 1099511627776 := by have := okH_of hv; omega
  have HM : Hid (T.length % 64 = n % 64) := Lib.hid (by have := okH_of hv; omega)
  have HL := Lib.hid (hashed_length s T n)
  have hnz := neq_bs (hashed s T n) (hashed s T n) (hashed_length _ _ _) (hashed_length _ _ _)
  simp only [decide_true, Bool.not_true] at hnz
  clear hK hv
  have h0 : Holds (w.alloc (.cells (hsc s (.slice TA T.length tc) n) 30)) w.heap.size (hsc s (.slice TA T.length tc) n) := ⟨_, Row.new _ _ _⟩
  have hb0 := up_alloc (Below.refl w.heap.size w) (.cells (hsc s (.slice TA T.length tc) n) 30)
  have i0 := h0.is (n := 10) (hsc_size _ _ _)
  have j0 := h0.at
  go_enter Tryd.func4, Tryd.ntmps4
  go_upto_region 2 with (first
    | (go_at_call 13; refine (write_long s n TA T.length tc A l c _ HV.out hl).mono ?_; rintro e w1 ⟨rfl, hb1'⟩)
    | (refine wpList_store_row rfl 30 _ _ rfl w1.heap.size zH rfl rfl 30 zH ((Row.newEq _ _ _ _ _ rfl zH_lit).alloc _) (by rw [zH_size]; exact cellsH) rfl (all_one zH_one) ?_)
    | (refine wpList_store_row rfl 32 _ _ rfl (w1.heap.size + 1) (flt 3 (-2)) rfl rfl 32 (flt 0 0) (Row.rowFar (Row.newEq _ _ _ _ _ (by simp) rfl) (by omega) _) (by rw [flt_size]; exact cellsF) rfl (all_one (flt_one _ _)) ?_))
  have h1 := h0.below hb1'
  have hb1 := up_call hb0 hb1'
  have l1 := h1.lt
  refine wp_world (F := fun W => Holds W w.heap.size (hsc s (.slice TA T.length tc) n) ∧ Holds W w1.heap.size zH ∧ Holds W (w1.heap.size + 1) (flt 3 (-2)) ∧ Below w.heap.size w W)
    ⟨holds_far (by omega) (holds_far (by omega) ((h1.alloc _).alloc _)), holds_far (by omega) (holds_same (n := 10) ((isRow_alloc_eq _ _ _ _ _).2 (by rw [if_neg (by simp)]; exact isRow_new rfl rfl))), holds_same (n := 2) (isRow_set (by omega) (isRow_new (by simp) rfl)), up_row (up_row (up_alloc (up_alloc hb1 _) _) hb1.size _) (by have := hb1.size; omega) _⟩ ?_
  generalize w1.heap.size = g1 at *
  have lg1 := l1
  clear hb1 hb1' h1 l1 h0 i0 j0 hb0 w1
  rintro w1 ⟨h1, x1, f1, hb1⟩
  have i1 := h1.is (n := 10) (hsc_size _ _ _)
  have j1 := h1.at
  go_upto_region 3 with (first
    | (go_at_call 14; refine (finish_ok s n TA T tc _ (KIs.keep HK.out hb1 hg) (hT.up hb1) HV.out).mono ?_; rintro e w2 ⟨rfl, hb2'⟩)
    | (refine wpList_store_row rfl 24 _ _ rfl w2.heap.size (bs (hashed s T n)) rfl rfl 24 zD ((Row.newEq _ _ _ _ _ rfl zD_lit).alloc _) (by rw [bs_size, HL.out]; exact cellsD) (by rw [zD_size, bs_size, HL.out]) (all_one (bs_one _)) ?_)
    | (refine wpList_store_row rfl 32 _ _ rfl (w2.heap.size + 1) (flt 0 0) rfl rfl 32 (flt 0 0) (Row.rowFar (Row.newEq _ _ _ _ _ (by simp) rfl) (by omega) _) (by rw [flt_size]; exact cellsF) rfl (all_one (flt_one _ _)) ?_))
  have h2 := h1.below hb2'
  have x2 := x1.below hb2'
  have f2 := f1.below hb2'
  have hb2 := up_call hb1 hb2'
  have l2 := h2.lt
  have m2 := x2.lt
  have n2 := f2.lt
  refine wp_world (F := fun W => Holds W w.heap.size (hsc s (.slice TA T.length tc) n) ∧ Holds W g1 zH ∧ Holds W (g1 + 1) (flt 3 (-2)) ∧ Holds W w2.heap.size (bs (hashed s T n)) ∧ Holds W (w2.heap.size + 1) (flt 0 0) ∧ Below w.heap.size w W)
    ⟨holds_far (by omega) (holds_far (by omega) ((h2.alloc _).alloc _)), holds_far (by omega) (holds_far (by omega) ((x2.alloc _).alloc _)), holds_far (by omega) (holds_far (by omega) ((f2.alloc _).alloc _)), holds_far (by omega) (holds_same (n := 32) ((isRow_alloc_eq _ _ _ _ _).2 (by rw [if_neg (by simp)]; exact isRow_new rfl rfl))), holds_same (n := 2) (isRow_set (by omega) (isRow_new (by simp) rfl)), up_row (up_row (up_alloc (up_alloc hb2 _) _) hb2.size _) (by have := hb2.size; omega) _⟩ ?_
  generalize w2.heap.size = g2 at *
  clear hb2 hb2' h2 x2 f2 h1 x1 f1 i1 j1 hb1 w2 w1
  rintro w2 ⟨h2, x2, f2, d2, e2, hb2⟩
  go_upto_region 5 with (first
    | (go_at_call 10; refine (digests_any _ (KIs.keep HK.out hb2 hg)).mono ?_; rintro e w3 ⟨rfl, hb3'⟩)
    | (go_at_call 16; refine (start_any _).mono ?_; rintro e w4 ⟨rfl, hb4'⟩)
    | (go_at_call 17; refine (firstState_any _).mono ?_; rintro e w5 ⟨rfl, hb5'⟩)
    | (go_at_call 15; refine (same_zero first _ (build_stc first) _).mono ?_; rintro e w6 ⟨rfl, hb6'⟩))
  have hz2 : Below w2.heap.size w2 w6 := up_call (up_call (up_call hb3' hb4') hb5') hb6'
  have h6 := h2.below hz2
  have x6 := x2.below hz2
  have f6 := f2.below hz2
  have d6 := d2.below hz2
  have e6 := e2.below hz2
  have hb6 := up_call hb2 hz2
  have i6 := h6.is (n := 10) (hsc_size _ _ _)
  have j6 := h6.at
  have c6 : ∀ j v, (hsc s (.slice TA T.length tc) n)[j]? = some v → w6.drew.cell? ⟨w.heap.size, j, none⟩ = some v := fun j v h => (h6.cell j).trans h
  clear hz2 hb3' hb4' hb5' hb6' h2 x2 f2 d2 e2 hb2
  go_upto_region 8 with (first
    | (go_at_call 18; refine (hashingOk_any s n hn3 TA T.length tc _).mono ?_; rintro e w7 ⟨rfl, hb7'⟩; rw [HV.out]; have h7 := h6.below hb7'; have x7 := x6.below hb7'; have f7 := f6.below hb7'; have d7 := d6.below hb7'; have e7 := e6.below hb7'; have hb7 := up_call hb6 hb7'))
  clear h6 x6 f6 d6 e6 hb6 i6 j6 hb7' c6 w6
  have hT7 := hT.up hb7
  go_cut [68] (fun s68 W => s68 = .bool false ∧ Holds W w.heap.size (hsc s (.slice TA T.length tc) n) ∧ Holds W g1 zH ∧ Holds W (g1 + 1) (flt 3 (-2)) ∧ Below w.heap.size w W ∧ W.cell? ⟨w.heap.size, 9, none⟩ = some (.int .i64 n))
  case first =>
    have p0 : w7.drew.cell? ⟨w.heap.size, 0, none⟩ = some (.int .u32 (W s.a)) := (h7.cell 0).trans rfl
    have p1 : w7.drew.cell? ⟨w.heap.size, 1, none⟩ = some (.int .u32 (W s.b)) := (h7.cell 1).trans rfl
    have p2 : w7.drew.cell? ⟨w.heap.size, 2, none⟩ = some (.int .u32 (W s.c)) := (h7.cell 2).trans rfl
    have p3 : w7.drew.cell? ⟨w.heap.size, 3, none⟩ = some (.int .u32 (W s.d)) := (h7.cell 3).trans rfl
    have p4 : w7.drew.cell? ⟨w.heap.size, 4, none⟩ = some (.int .u32 (W s.e)) := (h7.cell 4).trans rfl
    have p5 : w7.drew.cell? ⟨w.heap.size, 5, none⟩ = some (.int .u32 (W s.f)) := (h7.cell 5).trans rfl
    have p6 : w7.drew.cell? ⟨w.heap.size, 6, none⟩ = some (.int .u32 (W s.g)) := (h7.cell 6).trans rfl
    have p7 : w7.drew.cell? ⟨w.heap.size, 7, none⟩ = some (.int .u32 (W s.h)) := (h7.cell 7).trans rfl
    have p8 : w7.drew.cell? ⟨w.heap.size, 8, none⟩ = some (.slice TA T.length tc) := (h7.cell 8).trans rfl
    have p9 : w7.drew.cell? ⟨w.heap.size, 9, none⟩ = some (.int .i64 n) := (h7.cell 9).trans rfl
    have q0 : w7.drew.cell? ⟨g2 + 1, 0, none⟩ = some (.int .i64 0) := (e7.cell 0).trans rfl
    have i7 := d7.drew.is (n := 32) (by rw [bs_size, HL.out])
    have j7 := d7.drew.at
    go_region_law (first
      | (go_simp; go_at_call 20; go_must (refine (refHashed_any s TA T T.length tc n w7.drew hT7.drew (by omega) (by omega) HM.out).mono ?_; rintro e w8 ⟨rfl, hb8'⟩; have h8 := h7.drew.below hb8'; have x8 := x7.drew.below hb8'; have f8 := f7.drew.below hb8'; have d8 := d7.drew.below hb8'; have i8 := d8.is (n := 32) (by rw [bs_size, HL.out]); have j8 := d8.at)))
    all_goals
      simp only [List.getElem_toArray, List.getElem_cons_succ, List.getElem_cons_zero, Act.put, List.setIfInBounds_toArray, List.set_cons_succ, List.set_cons_zero]
      go_wp2_with fail
      go_meet
      exact ⟨rfl, h8, x8, f8, hb7.drew.trans (hb8'.mono hb7.size), (h8.cell 9).trans rfl⟩
  case rest =>
    obtain ⟨rfl, h9, x9, f9, hb9, c9⟩ := hcut
    clear h7 x7 f7 d7 e7 hb7 hT7
    have hgt : decide (1099511627776 - (n : Int) < (l : Int)) = true := decide_eq_true hl
    have hef := eql_flt 3 (-2) 3 (-2)
    simp only [beq_self_eq_true, Bool.and_self] at hef
    go_upto_region 11 with fail
    have i1 := x9.drew.is (n := 10) zH_size
    have j1 := x9.drew.at
    have i2 := f9.drew.is (n := 2) rfl
    have j2 := f9.drew.at
    clear hgt
    go_region_law (first
      | (go_simp; go_at_call 19; go_must (refine (at_any 3 (-2) _).mono ?_; rintro e wa ⟨rfl, hba'⟩; have xa := x9.drew.below hba'; have fa := f9.drew.below hba'; have hba := up_call hb9.drew hba'; have i3 := xa.is (n := 10) zH_size; have j3 := xa.at; have i4 := fa.is (n := 2) rfl; have j4 := fa.at))
      | (go_simp; go_at_call 15; go_must (refine (same_zH _ zH_lit _).mono ?_; rintro e wb ⟨rfl, hbb'⟩)))
    all_goals
      simp only [List.getElem_toArray, List.getElem_cons_succ, List.getElem_cons_zero, Act.put, List.setIfInBounds_toArray, List.set_cons_succ, List.set_cons_zero]
      go_wp2_with fail
      go_ret
      exact ⟨rfl, up_call hba hbb'⟩
end Go.Proofs.YtcippenhomhpbaaDoor.lawStates
