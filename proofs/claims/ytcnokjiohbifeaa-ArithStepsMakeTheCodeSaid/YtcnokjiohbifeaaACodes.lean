/-
  The closed examples of package arith that every statement on it asks: 'codes' answers true.
-/
import Derived.Test.YtcnokjiohbifeaaAEncF
import Derived.Test.YtcnokjiohbifeaaADec
import Derived.Test.YtcnokjiohbifeaaRSub
namespace Go.Proofs.Ytcnokjiohbifeaa
open Go.RowKit

theorem blw_new3 (w : World) (o1 o2 o3 : Obj) (x y z : Array Value) : Below w.heap.size w ((((((w.alloc o1).alloc o2).alloc o3).setRow w.heap.size x).setRow (w.heap.size + 1) y).setRow (w.heap.size + 1 + 1) z) :=
  blw_row (blw_row (blw_row ((((Below.refl _ _).alloc (Nat.le_refl _) _).alloc (by simp) _).alloc (by simp; omega) _) (Nat.le_refl _) _) (Nat.le_succ _) _) (by omega) _
section
variable (w : World) (t u v : TypeId) (x0 y0 z0 x y z : Array Value)
theorem row3_b0 : Row (((w.alloc (.cells x0 t)).alloc (.cells y0 u)).alloc (.cells z0 v)) w.heap.size t x0 := ((Row.new w t x0).alloc _).alloc _
theorem row3_b1 : Row (((w.alloc (.cells x0 t)).alloc (.cells y0 u)).alloc (.cells z0 v)) (w.heap.size + 1) u y0 := (Row.newAt (w.alloc (.cells x0 t)) u y0 _ (by simp)).alloc _
theorem row3_b2 : Row (((w.alloc (.cells x0 t)).alloc (.cells y0 u)).alloc (.cells z0 v)) (w.heap.size + 1 + 1) v z0 := Row.newAt ((w.alloc (.cells x0 t)).alloc (.cells y0 u)) v z0 _ (by simp)
theorem row_new3a : Row ((((((w.alloc (.cells x0 t)).alloc (.cells y0 u)).alloc (.cells z0 v)).setRow w.heap.size x).setRow (w.heap.size + 1) y).setRow (w.heap.size + 1 + 1) z) w.heap.size t x := ((Row.row (row3_b0 w t u v x0 y0 z0) _).rowFar (by omega) _).rowFar (by omega) _
theorem row_new3b : Row ((((((w.alloc (.cells x0 t)).alloc (.cells y0 u)).alloc (.cells z0 v)).setRow w.heap.size x).setRow (w.heap.size + 1) y).setRow (w.heap.size + 1 + 1) z) (w.heap.size + 1) u y := (Row.row ((row3_b1 w t u v x0 y0 z0).rowFar (by omega) _) _).rowFar (by omega) _
theorem row_new3c : Row ((((((w.alloc (.cells x0 t)).alloc (.cells y0 u)).alloc (.cells z0 v)).setRow w.heap.size x).setRow (w.heap.size + 1) y).setRow (w.heap.size + 1 + 1) z) (w.heap.size + 1 + 1) v z := Row.row (((row3_b2 w t u v x0 y0 z0).rowFar (by omega) _).rowFar (by omega) _) _
theorem row_pre3b : Row ((((w.alloc (.cells x0 t)).alloc (.cells y0 u)).alloc (.cells z0 v)).setRow w.heap.size x) (w.heap.size + 1) u y0 := (row3_b1 w t u v x0 y0 z0).rowFar (by omega) _
theorem row_pre3c : Row (((((w.alloc (.cells x0 t)).alloc (.cells y0 u)).alloc (.cells z0 v)).setRow w.heap.size x).setRow (w.heap.size + 1) y) (w.heap.size + 1 + 1) v z0 := ((row3_b2 w t u v x0 y0 z0).rowFar (by omega) _).rowFar (by omega) _
end
theorem eql_cds (a b c d e f : Int) (w : World) : (binOp .eql 23 (.agg (cds a b c)) (.agg (cds d e f))).run Try.prog w = .ok (.bool (a == d && b == e && c == f)) w := by
  unfold cds
  simp [go_sem, Try.underlying23]
  by_cases h1 : a = d <;> by_cases h2 : b = e <;> by_cases h3 : c = f <;> simp [h1, h2, h3]
theorem neq_cds (a b c d e f : Int) (w : World) : (binOp .neq 23 (.agg (cds a b c)) (.agg (cds d e f))).run Try.prog w = .ok (.bool (!(a == d && b == e && c == f))) w := by
  unfold cds
  simp [go_sem, Try.underlying23]
  by_cases h1 : a = d <;> by_cases h2 : b = e <;> by_cases h3 : c = f <;> simp [h1, h2, h3]
/-- a choice that is written out, as a slice -/
theorem build_ch (x y : Int) (w : World) :
    (Instr.buildSlice 58 1 #[(0, .agg #[.int .i64 x, .int .i64 y])]).run Try.prog w = .ok (.slice (some ⟨w.heap.size, 0, none⟩) 1 1) (w.alloc (.cells #[.int .i64 x, .int .i64 y] 69)) := by
  kernel_rfl
theorem wpList_ch {ops : Array Oper} {rest : List Oper} {o : Oper} {a : Act} {w : World} {Q : Exit → Act → World → Prop} (hgd : o.guard = none) (p : Operand) (ho : o.op = .buildSlice 58 1 #[(0, p)])
    (x y : Int) (hx : a.eval p = .agg #[.int .i64 x, .int .i64 y])
    (h : wpList Try.prog ops Q rest (a.put o.dst (.slice (some ⟨w.heap.size, 0, none⟩) 1 1)) (w.alloc (.cells #[.int .i64 x, .int .i64 y] 69))) : wpList Try.prog ops Q (o :: rest) a w := by
  refine wpList_plain hgd fun K hK => ?_
  have hrun := build_ch x y w
  unfold Oper.wp
  simp [execOp, ho, hx, hrun, Result.andThen]
  exact hK _ _ h
/-- the choice of the examples, and its code 001 -/
def lc : List (Bool × Nat) := [(true, 2048)]
def c1x : List Bool := [false, false, true]
theorem lc_good : GoodP lc := fun c hc => by
  obtain rfl := List.mem_singleton.1 hc
  exact ⟨by decide, by decide⟩
theorem lc_step : stepN 0 65535 2048 true = (0, 65535, [0]) := by decide +kernel
theorem lc_code : codeN lc = c1x := by decide +kernel
theorem chs_lc (w : World) : Chs (w.alloc (.cells #[.int .i64 1, .int .i64 2048] 69)) (w.alloc (.cells #[.int .i64 1, .int .i64 2048] 69)).heap.size (some ⟨w.heap.size, 0, none⟩) 1 (cz lc) := by
  have hr := Row.new w 69 #[.int .i64 1, .int .i64 2048]
  refine ⟨rfl, fun _ => ⟨_, rfl, by simp, fun i z hi => ?_⟩⟩
  rcases i with _ | i
  · have hz : z = (1, 2048) := by
      have : (cz lc)[0]? = some ((1 : Int), (2048 : Int)) := rfl
      rw [this] at hi
      injection hi with hi
      exact hi.symm
    subst hz
    exact ⟨hr.cell 0, hr.cell 1⟩
  · simp [cz, lc] at hi
theorem encode_lc (w : World) : Calls Try.prog 29 #[.slice (some ⟨w.heap.size, 0, none⟩) 1 1] (w.alloc (.cells #[.int .i64 1, .int .i64 2048] 69)) fun e w' => ∃ A c, e = .returned (.tuple #[.agg (bcs A (pack c1x).length c c1x.length), .agg (flt 0 0)]) ∧ Sl w' w'.heap.size A (pack c1x).length (bl (pack c1x)) ∧ Below w.heap.size w w' := by
  have h := Encode_ok lc lc_good 1 rfl (by decide) (some ⟨w.heap.size, 0, none⟩) 1 _ (chs_lc w)
  rw [lc_code] at h
  exact h.mono fun e w' ⟨A, c, h1, h2, h3⟩ => ⟨A, c, h1, h2, up_call ((Below.refl _ _).alloc (Nat.le_refl _) _) h3⟩
theorem text_c1 (A : Option Addr) (c : Nat) (w : World) (hS : Sl w w.heap.size A (pack c1x).length (bl (pack c1x))) :
    Calls Try.prog 43 #[.agg (bcs A (pack c1x).length c c1x.length)] w fun e w' => e = .returned (.tuple #[.string ⟨#[48, 48, 49]⟩, .agg (flt 0 0)]) ∧ Below w.heap.size w w' :=
  text_ok (pack c1x) c1x (pack_rep c1x) (by decide) A c w hS
theorem sl_num (w : World) (x : Nat) (z : Int) (hz : z = (x : Int)) : Sl (w.alloc (.cells #[.int .i64 z] 3)) (w.alloc (.cells #[.int .i64 z] 3)).heap.size (some ⟨w.heap.size, 0, none⟩) 1 (nl [x]) := by
  subst hz
  rw [nl_one']
  exact (Sl.one w 3 _).wider (by simp)
theorem decode_c1 (A : Option Addr) (c : Nat) (w : World) (hS : Sl w w.heap.size A (pack c1x).length (bl (pack c1x))) :
    Calls Try.prog 32 #[.agg (bcs A (pack c1x).length c c1x.length), .slice (some ⟨w.heap.size, 0, none⟩) 1 1] (w.alloc (.cells #[.int .i64 2048] 3)) fun e w' => ∃ B d, e = .returned (.tuple #[.slice B 1 d, .agg (flt 0 0)]) ∧ Sl w' w'.heap.size B 1 (nl [1]) ∧ Below w.heap.size w w' := by
  have hb := (Below.refl w.heap.size w).alloc (Nat.le_refl _) (.cells #[.int .i64 2048] 3)
  have ht := round_trip lc lc_good
  rw [lc_code] at ht
  have h := Decode_run c1x [2048] (by decide) (fun p hp => by obtain rfl := List.mem_singleton.1 hp; decide) 1 rfl (by decide) (by decide) (fun j => c1x.getD j false) rfl [true] 1 ht.1 (by have := ht.2; have e : c1x.length = 3 := rfl; rw [e] at this; exact Nat.add_right_cancel this) A (some ⟨w.heap.size, 0, none⟩) c 1 _ (hS.up hb) (sl_num w 2048 2048 rfl)
  refine h.mono fun e w' ⟨_, _, h3, h4⟩ => ?_
  obtain ⟨B, d, e1, e2, _, _⟩ := h3 rfl
  refine ⟨B, d, e1, ?_, up_call hb h4⟩
  rw [show ([1] : List Nat) = [true].map Bool.toNat from rfl, nl_bool]
  exact e2
theorem put_lc (w : World) : Calls Try.prog 11 #[.agg (cds 0 65535 0), .int .i64 1, .int .i64 2048] w fun e w' => ∃ A c, e = .returned (.tuple #[.agg (cds 0 65535 0), .agg (bcs A (pack [false]).length c 1), .agg (flt 0 0)]) ∧ Below w.heap.size w w' := by
  have h := Put_ok 0 65535 0 2048 true (by decide) (by decide) (by decide) (by rw [lc_step]; decide) w
  rw [lc_step] at h
  exact h.mono fun e w' ⟨A, c, h1, _, h3⟩ => ⟨A, c, h1, h3⟩

set_option maxRecDepth 100000 in
set_option maxHeartbeats 4000000 in
theorem codes_any (w : World) : Calls Try.prog 13 #[] w fun e w' => e = .returned (.bool true) ∧ Below w.heap.size w w' := by
  have hseq : ∀ w : World, (binOp .eql 23 (.agg (cds 0 65535 0)) (.agg #[.int .i64 0, .int .i64 65535, .int .i64 0])).run Try.prog w = .ok (.bool true) w := fun w => eql_cds 0 65535 0 0 65535 0 w
  go_enter Try.func13, Try.ntmps13
  go_upto_region 2 with (first
    | (refine wpList_ch rfl _ rfl 1 2048 rfl ?_)
    | (go_at_call 29; refine (encode_lc _).mono ?_; rintro e w1 ⟨A1, c1, rfl, s1, hb1⟩)
    | (refine wpList_store_row rfl 26 _ _ rfl w1.heap.size (bcs A1 (pack c1x).length c1 c1x.length) rfl rfl 26 (bcs none 0 0 0) ((Row.newEq _ _ _ _ _ rfl rfl).alloc _) (by rw [bcs_size]; exact cellsB) rfl (all_one (bcs_one _ _ _ _)) ?_)
    | (refine wpList_store_row rfl 28 _ _ rfl (w1.heap.size + 1) (flt 0 0) rfl rfl 28 (flt 0 0) (row_far_new2 _ _ _ _ _ _) (by rw [flt_size]; exact cellsF) rfl (all_one (flt_one _ _)) ?_))
  have hk := blw_new2 w1 (.cells #[.slice none 0 0, .int .i64 0] 26) (.cells #[.int .i64 0, .int .i64 0] 28) (bcs A1 (pack c1x).length c1 c1x.length) (flt 0 0)
  refine wp_world (F := fun W => Row W w1.heap.size 26 (bcs A1 (pack c1x).length c1 c1x.length) ∧ Row W (w1.heap.size + 1) 28 (flt 0 0) ∧ Sl W W.heap.size A1 (pack c1x).length (bl (pack c1x)) ∧ Below w.heap.size w W)
    ⟨row_new2a _ _ _ _ _ _ _, row_new2b _ _ _ _ _ _ _, s1.up hk, up_call hb1 hk⟩ ?_
  generalize w1.heap.size = g1
  clear hk hb1 s1 w1
  rintro W1 ⟨r1, f2, s1, hb⟩
  go_upto_region 3 with (first
    | (refine wpList_load_row rfl 26 _ rfl g1 rfl 26 (bcs A1 (pack c1x).length c1 c1x.length) (0, 0) _ r1 Try.underlying26 rfl (by rw [bcs_size]; exact cellsB) ?_)
    | (go_at_call 43; refine (text_c1 A1 c1 _ s1).mono ?_; rintro e w2 ⟨rfl, hb2⟩)
    | (refine wpList_store_row rfl 28 _ _ rfl w2.heap.size (flt 0 0) rfl rfl 28 (flt 0 0) (Row.newEq _ _ _ _ _ rfl rfl) (by rw [flt_size]; exact cellsF) rfl (all_one (flt_one _ _)) ?_))
  have hk := up_call hb2 (blw_new1 w2 (.cells #[.int .i64 0, .int .i64 0] 28) (flt 0 0))
  refine wp_world (F := fun W => Row W g1 26 (bcs A1 (pack c1x).length c1 c1x.length) ∧ Row W (g1 + 1) 28 (flt 0 0) ∧ Row W w2.heap.size 28 (flt 0 0) ∧ Sl W W.heap.size A1 (pack c1x).length (bl (pack c1x)) ∧ Below w.heap.size w W)
    ⟨r1.below hk r1.lt, f2.below hk f2.lt, row_new1 _ _ _ _, s1.up hk, up_call hb hk⟩ ?_
  generalize w2.heap.size = g4
  clear hk hb2 s1 r1 f2 hb W1 w2
  rintro W2 ⟨r1, f2, f4, s1, hb⟩
  have hba := hb.alloc hb.size (.cells #[.int .i64 2048] 3)
  go_upto_region 4 with (first
    | (refine wpList_load_row rfl 26 _ rfl g1 rfl 26 (bcs A1 (pack c1x).length c1 c1x.length) (0, 0) _ r1 Try.underlying26 rfl (by rw [bcs_size]; exact cellsB) ?_)
    | (go_at_call 32; refine (decode_c1 A1 c1 _ s1).mono ?_; rintro e w3 ⟨B, d, rfl, s5, hb3⟩)
    | (refine wpList_store_row rfl 28 _ _ rfl w3.heap.size (flt 0 0) rfl rfl 28 (flt 0 0) (Row.newEq _ _ _ _ _ rfl rfl) (by rw [flt_size]; exact cellsF) rfl (all_one (flt_one _ _)) ?_))
  have hk0 := blw_new1 w3 (.cells #[.int .i64 0, .int .i64 0] 28) (flt 0 0)
  have hk := up_call hb3 hk0
  refine wp_world (F := fun W => Row W (g1 + 1) 28 (flt 0 0) ∧ Row W g4 28 (flt 0 0) ∧ Row W w3.heap.size 28 (flt 0 0) ∧ Sl W W.heap.size B 1 (nl [1]) ∧ Below w.heap.size w W)
    ⟨f2.below hk f2.lt, f4.below hk f4.lt, row_new1 _ _ _ _, s5.up hk0, up_call hb hk⟩ ?_
  generalize w3.heap.size = g6
  clear hk hk0 hb3 hba s1 s5 r1 f2 f4 hb w3
  rintro W3 ⟨f2, f4, f6, s5, hb⟩
  go_upto_region 5 with (first
    | (go_at_call 14; refine (start_any _).mono ?_; rintro e w4 ⟨rfl, hb4⟩)
    | (go_at_call 11; refine (put_lc _).mono ?_; rintro e w5 ⟨A8, c8, rfl, hb5⟩)
    | (refine wpList_store_row rfl 23 _ _ rfl w5.heap.size (cds 0 65535 0) rfl rfl 23 (cds 0 0 0) (row3_b0 _ _ _ _ _ _ _) (by rw [cds_size]; exact cellsCd) rfl (all_one (cds_one _ _ _)) ?_)
    | (refine wpList_store_row rfl 26 _ _ rfl (w5.heap.size + 1) (bcs A8 (pack [false]).length c8 1) rfl rfl 26 (bcs none 0 0 0) (row_pre3b _ _ _ _ _ _ _ _) (by rw [bcs_size]; exact cellsB) rfl (all_one (bcs_one _ _ _ _)) ?_)
    | (refine wpList_store_row rfl 28 _ _ rfl (w5.heap.size + 1 + 1) (flt 0 0) rfl rfl 28 (flt 0 0) (row_pre3c _ _ _ _ _ _ _ _ _) (by rw [flt_size]; exact cellsF) rfl (all_one (flt_one _ _)) ?_))
  have hk := up_call (up_call hb4 hb5) (blw_new3 w5 (.cells #[.int .i64 0, .int .i64 0, .int .i64 0] 23) (.cells #[.slice none 0 0, .int .i64 0] 26) (.cells #[.int .i64 0, .int .i64 0] 28) (cds 0 65535 0) (bcs A8 (pack [false]).length c8 1) (flt 0 0))
  refine wp_world (F := fun W => Row W (g1 + 1) 28 (flt 0 0) ∧ Row W g4 28 (flt 0 0) ∧ Row W g6 28 (flt 0 0) ∧ Row W w5.heap.size 23 (cds 0 65535 0) ∧ Row W (w5.heap.size + 1) 26 (bcs A8 (pack [false]).length c8 1) ∧ Row W (w5.heap.size + 1 + 1) 28 (flt 0 0) ∧ Sl W W.heap.size B 1 (nl [1]) ∧ Below w.heap.size w W)
    ⟨f2.below hk f2.lt, f4.below hk f4.lt, f6.below hk f6.lt, row_new3a _ _ _ _ _ _ _ _ _ _, row_new3b _ _ _ _ _ _ _ _ _ _, row_new3c _ _ _ _ _ _ _ _ _ _, s5.up hk, up_call hb hk⟩ ?_
  generalize w5.heap.size = g7
  clear hk hb4 hb5 s5 f2 f4 f6 hb W3 w4 w5
  rintro W4 ⟨f2, f4, f6, r7, r8, f9, s5, hb⟩
  have a1 : W4.cell? ⟨g1 + 1, 0, none⟩ = some (.int .i64 0) := (f2.cell 0).trans rfl
  have a2 : W4.cell? ⟨g4, 0, none⟩ = some (.int .i64 0) := (f4.cell 0).trans rfl
  have a3 : W4.cell? ⟨g6, 0, none⟩ = some (.int .i64 0) := (f6.cell 0).trans rfl
  have a4 : W4.cell? ⟨g7 + 1 + 1, 0, none⟩ = some (.int .i64 0) := (f9.cell 0).trans rfl
  go_upto_region 7 with (fail)
  go_wp2_with (first
    | (go_at_call 34; refine (ints_yes [1] 1 rfl (by decide) B (some ⟨W4.heap.size, 0, none⟩) _ _ _ (s5.up ((Below.refl _ _).alloc (Nat.le_refl _) _)) (sl_num W4 1 1 rfl)).mono ?_; rintro e w6 ⟨rfl, hb6⟩; have hk6 := (hb.alloc hb.size (.cells #[.int .i64 1] 3)).trans (hb6.mono (Nat.le_trans hb.size (by simp))); have q7 := (r7.alloc (.cells #[.int .i64 1] 3)).below hb6 (r7.alloc _).lt; have e8 : w6.cell? ⟨g7 + 1, 1, none⟩ = some (.int .i64 1) := (((r8.alloc (.cells #[.int .i64 1] 3)).below hb6 (r8.alloc _).lt).cell 1).trans rfl)
    | (refine wpList_load_rowG (by simp [Region.wanted, yielded, Act.put]) 23 _ rfl g7 rfl 23 (cds 0 65535 0) (0, 0) _ q7 Try.underlying23 rfl (by rw [cds_size]; exact cellsCd) ?_))
  go_ret
  exact ⟨rfl, hk6⟩
end Go.Proofs.Ytcnokjiohbifeaa
