/-
  The contracts of the package's readLiteral, readMatch and read: the token whose code begins at a position. The contracts of the package's readMatch and read. (Written by cards/gen_PRm.py.) The contract of the package's read: the token at a position. (Written by cards/gen_PRe.py.)
-/
import Derived.Test.YtahihgmlkcbfiaaPCode
import Derived.Test.YtahihgmlkcbfiaaBRg
import Derived.Test.YtahihgmlkcbfiaaRSub
import Derived.Test.YtahihgmlkcbfiaaTPlain
namespace Go.Proofs.Ytahihgmlkcbfiaa
open Go.RowKit

attribute [local go_sem ↓] wp_store_act wp_load_flat run_load_flat wp_store_flat
theorem flat_litF : Flat (.agg #[.int .i64 0, .int .i64 0]) 2 := flat_flt 0 0
theorem sizedTk : Sized Try.prog 37 := show (Try.prog.info? 37).map (·.size) = some (sizeT Try.prog 37) by kernel_rfl
theorem sizeTTk : sizeT Try.prog 37 = 3 := by kernel_rfl
theorem aggTk : AggT Try.prog 37 := .inl ⟨_, Try.underlying37⟩
theorem tk_one (d n x : Int) : ∀ v ∈ #[Value.int .i64 d, .int .i64 n, .int .u8 x], v.oneCell' = true := by
  intro v hv
  simp only [List.mem_toArray, List.mem_cons, List.not_mem_nil, or_false] at hv
  rcases hv with rfl | rfl | rfl <;> rfl
theorem flat_tk (d n x : Int) : Flat (.agg #[.int .i64 d, .int .i64 n, .int .u8 x]) 3 := ⟨_, rfl, rfl, tk_one _ _ _⟩
attribute [local go_sem] flat_litF blkOf_ptr cells_agg sizedF sizeTF aggF flat_flt sizedB sizeTB aggB flat_bcs isRow_set_eq rowAt_set_eq sizedTk sizeTTk aggTk flat_tk
theorem results_row_tmp_row {P : Program} {fn : Func} {p r q : Tmp} {t v : TypeId} (h : fn.results = #[.cell p t, .tmp r, .cell q v]) (tmps : Array Value) (w : World)
    (g k : Nat) (a b : TypeId) (cs ds : Array Value) (d e : TypeDesc) (x : Value)
    (hp : tmps.getD p undef = .pointer (some ⟨g, 0, none⟩)) (hr : tmps.getD r undef = x) (hq : tmps.getD q undef = .pointer (some ⟨k, 0, none⟩)) (hg : Row w g a cs) (hk : Row w k b ds)
    (hu : P.underlying t = some d) (hd : (match d with | .struct _ | .array _ _ => true | _ => false) = true) (hi : (P.info? t).map (·.size) = some cs.size)
    (hv : P.underlying v = some e) (he : (match e with | .struct _ | .array _ _ => true | _ => false) = true) (hj : (P.info? v).map (·.size) = some ds.size) :
    (results fn tmps).run P w = .ok (.tuple #[.agg cs, x, .agg ds]) w := by
  have hp' : tmps[p]?.getD undef = .pointer (some ⟨g, 0, none⟩) := by simpa using hp
  have hr' : tmps[r]?.getD undef = x := by simpa using hr
  have hq' : tmps[q]?.getD undef = .pointer (some ⟨k, 0, none⟩) := by simpa using hq
  simp [results, h, hp', hq', hr', asAddr, run_loadVar_row w g a t cs (0, 0) d hg hu hd hi, run_loadVar_row w k b v ds (0, 0) e hk hv he hj]

/-- what reading a token answers: the token and the place behind it; of a fault, the code alone -/
def RdOut (r : (Tk × Nat) ⊕ Nat) (w : World) (e : Ending) (w' : World) : Prop :=
  (match r with
    | .inl (t, b) => ∃ x, t.z.2.2 = x ∧ e = .returned (.tuple #[.agg (tcs t.z.1 t.z.2.1 x), .int .i64 (b : Nat), .agg (flt 0 0)])
    | .inr z => ∃ d n x b i, e = .returned (.tuple #[.agg #[.int .i64 d, .int .i64 n, .int .u8 x], .int .i64 b, .agg (flt (z : Nat) i)])) ∧ Below w.heap.size w w'

set_option maxRecDepth 100000 in
set_option maxHeartbeats 4000000 in
theorem readlit_any (l : List Bool) (_hl : l.length ≤ 131072) (a v : Nat) (k i : Int) (hv : v < 256) (ha : a ≤ 131072) (A : Option Addr) (c : Nat)
    (hR : ∀ w, Sl w w.heap.size A (pack l).length (bl (pack l)) → Calls Try.prog 65 #[.agg (bcs A (pack l).length c l.length), .int .i64 a, .int .i64 9] w fun e w' => e = .returned (.tuple #[.int .i64 (v : Int), .agg (flt k i)]) ∧ Below w.heap.size w w')
    (w : World) (hS : Sl w w.heap.size A (pack l).length (bl (pack l))) :
    Calls Try.prog 66 #[.agg (bcs A (pack l).length c l.length), .int .i64 a] w fun e w' => e = .returned (.tuple #[.agg #[.int .i64 0, .int .i64 0, .int .u8 (v : Int)], .int .i64 ((a + 9 : Nat) : Int), .agg (flt k i)]) ∧ Below w.heap.size w w' := by
  have HR := Lib.hid hR
  clear hR
  go_enter Try.func66, Try.ntmps66
  go_upto_region 1 with (fail)
  have ha3 : ∀ x y z, Below w.heap.size w (((w.alloc x).alloc y).alloc z) := fun x y z => (((Below.refl _ _).alloc (Nat.le_refl _) _).alloc (by simp) _).alloc (by simp; omega) _
  refine wp_world (F := fun W => Row W w.heap.size 43 (bcs A (pack l).length c l.length) ∧ Row W (w.heap.size + 1) 37 #[.int .i64 0, .int .i64 0, .int .u8 0] ∧ Row W (w.heap.size + 1 + 1) 25 (flt 0 0) ∧ Sl W W.heap.size A (pack l).length (bl (pack l)) ∧ Below w.heap.size w W)
    ⟨((Row.newEq _ _ _ _ _ rfl rfl).alloc _).alloc _, (Row.newEq _ _ _ _ _ (by simp) rfl).alloc _, Row.newEq _ _ _ _ _ (by simp) rfl, hS.up (ha3 _ _ _), ha3 _ _ _⟩ ?_
  clear ha3 hS
  rintro W0 ⟨r0, r1, r2, hS, hb⟩
  go_upto_region 2 with (first
    | (refine wpList_load_row rfl 43 _ rfl w.heap.size rfl 43 (bcs A (pack l).length c l.length) (0, 0) _ r0 Try.underlying43 rfl (by rw [bcs_size]; exact cellsB) ?_)
    | (go_at_call 65; refine (HR.out _ hS).mono ?_; rintro e w2 ⟨rfl, hb2⟩)
    | (refine wpList_store_row rfl 25 _ _ rfl w2.heap.size (flt k i) rfl rfl 25 (flt 0 0) (Row.newEq _ _ _ _ _ rfl rfl) (by rw [flt_size]; exact cellsF) rfl (all_one (flt_one _ _)) ?_))
  have hkk := up_call hb2 (blw_new1 w2 (.cells #[.int .i64 0, .int .i64 0] 25) (flt k i))
  refine wp_world (F := fun W => Row W w2.heap.size 25 (flt k i) ∧ Row W (w.heap.size + 1) 37 #[.int .i64 0, .int .i64 0, .int .u8 0] ∧ Row W (w.heap.size + 1 + 1) 25 (flt 0 0) ∧ w.heap.size + 1 + 1 < w2.heap.size ∧ Below w.heap.size w W)
    ⟨row_new1 _ _ _ _, r1.below hkk r1.lt, r2.below hkk r2.lt, Nat.lt_of_lt_of_le r2.lt hb2.size, up_call hb hkk⟩ ?_
  generalize w2.heap.size = g6
  clear hb2 hkk r0 r1 r2 hS hb w2 W0
  rintro W2 ⟨r6, r1, r2, hlt, hb⟩
  have w1 : IntKind.u8.wrap (v : Int) = (v : Int) := by
    rw [IntKind.wrap_u8]
    omega
  have i6 := r6.drew.is (flt_size _ _)
  have a6 := r6.drew.at
  have q1 := r1.drew
  have q2 := r2.drew
  have i1 := r1.drew.is (tcs0_size _ _ _)
  have i2 := r2.drew.is (flt_size _ _)
  have n1 : ¬ w.heap.size + 1 = g6 := by omega
  have n2 : ¬ g6 = w.heap.size + 1 := by omega
  have n3 : ¬ w.heap.size + 1 + 1 = g6 := by omega
  have n4 : ¬ g6 = w.heap.size + 1 + 1 := by omega
  have n5 : ¬ w.heap.size + 1 = w.heap.size + 1 + 1 := by omega
  have n6 : ¬ w.heap.size + 1 + 1 = w.heap.size + 1 := by omega
  have ww : IntKind.i64.wrap ((a : Int) + 9) = (a : Int) + 9 := by
    rw [IntKind.wrap_i64]
    omega
  go_region_law (fail)
  all_goals
    go_wp2
    refine bodyPost_ret (results_row_tmp_row Try.results66 _ _ (w.heap.size + 1) (w.heap.size + 1 + 1) 37 25 #[.int .i64 0, .int .i64 0, .int .u8 (v : Int)] (flt k i) _ _ _ rfl rfl rfl (by first | exact (Row.row q1 _).rowFar (by omega) _ | exact Row.row (q1.rowFar (by omega) _) _) (by first | exact Row.row (q2.rowFar (by omega) _) _ | exact (Row.row q2 _).rowFar (by omega) _) Try.underlying37 rfl (by rw [tcs0_size]; exact cellsT) Try.underlying25 rfl (by rw [flt_size]; exact cellsF)) rfl ⟨rfl, ?_⟩
    exact blw_row (blw_row hb.drew (by omega) _) (by omega) _
end Go.Proofs.Ytahihgmlkcbfiaa

namespace Go.Proofs.Ytahihgmlkcbfiaa
open Go.RowKit

attribute [local go_sem ↓] wp_store_act wp_load_flat run_load_flat wp_store_flat
attribute [local go_sem] flat_litF blkOf_ptr cells_agg sizedF sizeTF aggF flat_flt sizedB sizeTB aggB flat_bcs isRow_set_eq rowAt_set_eq sizedTk sizeTTk aggTk flat_tk
theorem neq_badF (k i : Int) (h : k ≠ 0) (w : World) : (binOp .neq 25 (.agg (flt k i)) (.agg #[.int .i64 0, .int .i64 0])).run Try.prog w = .ok (.bool true) w := by
  have h1 := neq_flt k i 0 0 w
  have h2 : (k == 0) = false := beq_eq_false_iff_ne.2 h
  rw [h2] at h1
  exact h1
set_option maxRecDepth 100000 in
set_option maxHeartbeats 8000000 in
theorem rm_first (l : List Bool) (f : Nat) (k : Int) (hk : k ≠ 0) (A : Option Addr) (c : Nat) (hG : ∀ w, Sl w w.heap.size A (pack l).length (bl (pack l)) → Calls Try.prog 72 #[.agg (bcs A (pack l).length c l.length), .int .i64 (f : Int)] w fun e w' => e = .returned (.tuple #[.int .i64 0, .int .i64 0, .agg (flt k (-2))]) ∧ Below w.heap.size w w') (m : Int) (w : World) (hS : Sl w w.heap.size A (pack l).length (bl (pack l))) :
    Calls Try.prog 67 #[.agg (bcs A (pack l).length c l.length), .int .i64 (f : Int), .int .i64 m] w fun e w' => (∃ d n x b i, e = .returned (.tuple #[.agg #[.int .i64 d, .int .i64 n, .int .u8 x], .int .i64 b, .agg (flt k i)])) ∧ Below w.heap.size w w' := by
  have hnq := neq_badF k (-2) hk
  have HG := Lib.hid hG
  clear hG hk
  go_enter Try.func67, Try.ntmps67
  go_upto_region 1 with (fail)
  have ha3 : ∀ x y z, Below w.heap.size w (((w.alloc x).alloc y).alloc z) := fun x y z => (((Below.refl _ _).alloc (Nat.le_refl _) _).alloc (by simp) _).alloc (by simp; omega) _
  refine wp_world (F := fun W => Row W w.heap.size 43 (bcs A (pack l).length c l.length) ∧ Row W (w.heap.size + 1) 37 #[.int .i64 0, .int .i64 0, .int .u8 0] ∧ Row W (w.heap.size + 1 + 1) 25 (flt 0 0) ∧ Sl W W.heap.size A (pack l).length (bl (pack l)) ∧ Below w.heap.size w W)
    ⟨((Row.newEq _ _ _ _ _ rfl rfl).alloc _).alloc _, (Row.newEq _ _ _ _ _ (by simp) rfl).alloc _, Row.newEq _ _ _ _ _ (by simp) rfl, hS.up (ha3 _ _ _), ha3 _ _ _⟩ ?_
  clear ha3 hS
  rintro W0 ⟨r0, r1, r2, hS, hb⟩
  go_upto_region 2 with (first
    | (refine wpList_load_row rfl 43 _ rfl w.heap.size rfl 43 (bcs A (pack l).length c l.length) (0, 0) _ r0 Try.underlying43 rfl (by rw [bcs_size]; exact cellsB) ?_)
    | (go_at_call 72; refine (HG.out _ hS).mono ?_; rintro e w2 ⟨rfl, hb2⟩)
    | (refine wpList_store_row rfl 25 _ _ rfl w2.heap.size (flt k (-2)) rfl rfl 25 (flt 0 0) (Row.newEq _ _ _ _ _ rfl rfl) (by rw [flt_size]; exact cellsF) rfl (all_one (flt_one _ _)) ?_))
  have hkk := up_call hb2 (blw_new1 w2 (.cells #[.int .i64 0, .int .i64 0] 25) (flt k (-2)))
  refine wp_world (F := fun W => Row W w2.heap.size 25 (flt k (-2)) ∧ Row W w.heap.size 43 (bcs A (pack l).length c l.length) ∧ Row W (w.heap.size + 1) 37 #[.int .i64 0, .int .i64 0, .int .u8 0] ∧ Row W (w.heap.size + 1 + 1) 25 (flt 0 0) ∧ w.heap.size + 1 + 1 < w2.heap.size ∧ Sl W W.heap.size A (pack l).length (bl (pack l)) ∧ Below w.heap.size w W)
    ⟨row_new1 _ _ _ _, r0.below hkk r0.lt, r1.below hkk r1.lt, r2.below hkk r2.lt, Nat.lt_of_lt_of_le r2.lt hb2.size, hS.up hkk, up_call hb hkk⟩ ?_
  generalize w2.heap.size = g6
  clear hb2 hkk r0 r1 r2 hS hb w2 W0
  rintro W2 ⟨r6, r0, r1, r2, hlt, hS, hb⟩
  go_upto_region 3 with (first
    | (refine wpList_load_row rfl 25 _ rfl g6 rfl 25 (flt k (-2)) (0, 0) _ r6 Try.underlying25 rfl (by rw [flt_size]; exact cellsF) ?_))
  have i6 := r6.drew.is (flt_size _ _)
  have a6 := r6.drew.at
  have q1 := r1.drew
  have q2 := r2.drew
  have i1 := r1.drew.is (tcs0_size _ _ _)
  have i2 := r2.drew.is (flt_size _ _)
  have n1 : ¬ w.heap.size + 1 = g6 := by omega
  have n2 : ¬ g6 = w.heap.size + 1 := by omega
  have n3 : ¬ w.heap.size + 1 + 1 = g6 := by omega
  have n4 : ¬ g6 = w.heap.size + 1 + 1 := by omega
  have n5 : ¬ w.heap.size + 1 = w.heap.size + 1 + 1 := by omega
  have n6 : ¬ w.heap.size + 1 + 1 = w.heap.size + 1 := by omega
  go_region_law (fail)
  all_goals
    go_wp2
    refine bodyPost_ret (results_row_tmp_row Try.results67 _ _ (w.heap.size + 1) (w.heap.size + 1 + 1) 37 25 #[.int .i64 0, .int .i64 0, .int .u8 0] (flt k (-2)) _ _ _ rfl rfl rfl (by first | exact (Row.row q1 _).rowFar (by omega) _ | exact Row.row (q1.rowFar (by omega) _) _) (by first | exact Row.row (q2.rowFar (by omega) _) _ | exact (Row.row q2 _).rowFar (by omega) _) Try.underlying37 rfl (by rw [tcs0_size]; exact cellsT) Try.underlying25 rfl (by rw [flt_size]; exact cellsF)) rfl ⟨⟨_, _, _, _, _, rfl⟩, ?_⟩
    exact blw_row (blw_row hb.drew (by omega) _) (by omega) _
set_option maxRecDepth 100000 in
set_option maxHeartbeats 8000000 in
theorem rm_far (l : List Bool) (f x y : Nat) (hx : 1536 < x) (A : Option Addr) (c : Nat) (hG : ∀ w, Sl w w.heap.size A (pack l).length (bl (pack l)) → Calls Try.prog 72 #[.agg (bcs A (pack l).length c l.length), .int .i64 (f : Int)] w fun e w' => e = .returned (.tuple #[.int .i64 (x : Int), .int .i64 (y : Int), .agg (flt 0 0)]) ∧ Below w.heap.size w w') (m : Int) (w : World) (hS : Sl w w.heap.size A (pack l).length (bl (pack l))) :
    Calls Try.prog 67 #[.agg (bcs A (pack l).length c l.length), .int .i64 (f : Int), .int .i64 m] w fun e w' => (∃ d n x b i, e = .returned (.tuple #[.agg #[.int .i64 d, .int .i64 n, .int .u8 x], .int .i64 b, .agg (flt 16 i)])) ∧ Below w.heap.size w w' := by
  have s1 : decide ((1536 : Int) < (x : Int)) = true := decide_eq_true (by omega)
  have s2 : decide (1536 < x) = true := decide_eq_true hx
  have hnq : ∀ w : World, (binOp .neq 25 (.agg (flt 0 0)) (.agg #[.int .i64 0, .int .i64 0])).run Try.prog w = .ok (.bool false) w := fun w => neq_flt 0 0 0 0 w
  have HG := Lib.hid hG
  clear hG
  go_enter Try.func67, Try.ntmps67
  go_upto_region 1 with (fail)
  have ha3 : ∀ x y z, Below w.heap.size w (((w.alloc x).alloc y).alloc z) := fun x y z => (((Below.refl _ _).alloc (Nat.le_refl _) _).alloc (by simp) _).alloc (by simp; omega) _
  refine wp_world (F := fun W => Row W w.heap.size 43 (bcs A (pack l).length c l.length) ∧ Row W (w.heap.size + 1) 37 #[.int .i64 0, .int .i64 0, .int .u8 0] ∧ Row W (w.heap.size + 1 + 1) 25 (flt 0 0) ∧ Sl W W.heap.size A (pack l).length (bl (pack l)) ∧ Below w.heap.size w W)
    ⟨((Row.newEq _ _ _ _ _ rfl rfl).alloc _).alloc _, (Row.newEq _ _ _ _ _ (by simp) rfl).alloc _, Row.newEq _ _ _ _ _ (by simp) rfl, hS.up (ha3 _ _ _), ha3 _ _ _⟩ ?_
  clear ha3 hS
  rintro W0 ⟨r0, r1, r2, hS, hb⟩
  go_upto_region 2 with (first
    | (refine wpList_load_row rfl 43 _ rfl w.heap.size rfl 43 (bcs A (pack l).length c l.length) (0, 0) _ r0 Try.underlying43 rfl (by rw [bcs_size]; exact cellsB) ?_)
    | (go_at_call 72; refine (HG.out _ hS).mono ?_; rintro e w2 ⟨rfl, hb2⟩)
    | (refine wpList_store_row rfl 25 _ _ rfl w2.heap.size (flt 0 0) rfl rfl 25 (flt 0 0) (Row.newEq _ _ _ _ _ rfl rfl) (by rw [flt_size]; exact cellsF) rfl (all_one (flt_one _ _)) ?_))
  have hkk := up_call hb2 (blw_new1 w2 (.cells #[.int .i64 0, .int .i64 0] 25) (flt 0 0))
  refine wp_world (F := fun W => Row W w2.heap.size 25 (flt 0 0) ∧ Row W w.heap.size 43 (bcs A (pack l).length c l.length) ∧ Row W (w.heap.size + 1) 37 #[.int .i64 0, .int .i64 0, .int .u8 0] ∧ Row W (w.heap.size + 1 + 1) 25 (flt 0 0) ∧ w.heap.size + 1 + 1 < w2.heap.size ∧ Sl W W.heap.size A (pack l).length (bl (pack l)) ∧ Below w.heap.size w W)
    ⟨row_new1 _ _ _ _, r0.below hkk r0.lt, r1.below hkk r1.lt, r2.below hkk r2.lt, Nat.lt_of_lt_of_le r2.lt hb2.size, hS.up hkk, up_call hb hkk⟩ ?_
  generalize w2.heap.size = g6
  clear hb2 hkk r0 r1 r2 hS hb w2 W0
  rintro W2 ⟨r6, r0, r1, r2, hlt, hS, hb⟩
  go_wp2_with (first
    | (refine wpList_load_row rfl 25 _ rfl g6 rfl 25 (flt 0 0) (0, 0) _ r6 Try.underlying25 rfl (by rw [flt_size]; exact cellsF) ?_)
    | (refine wpList_store_row rfl 37 _ _ rfl (w.heap.size + 1) #[.int .i64 0, .int .i64 0, .int .u8 0] rfl rfl 37 #[.int .i64 0, .int .i64 0, .int .u8 0] r1 cellsT rfl (all_tk _ _ _) ?_)
    | (refine wpList_store_row rfl 25 _ _ rfl (w.heap.size + 1 + 1) (flt 16 0) rfl rfl 25 (flt 0 0) (r2.rowFar (by omega) _) (by rw [flt_size]; exact cellsF) rfl (all_one (flt_one _ _)) ?_))
  refine bodyPost_ret (results_row_tmp_row Try.results67 _ _ (w.heap.size + 1) (w.heap.size + 1 + 1) 37 25 #[.int .i64 0, .int .i64 0, .int .u8 0] (flt 16 0) _ _ _ rfl rfl rfl (by first | exact (Row.row r1 _).rowFar (by omega) _ | exact Row.row (r1.rowFar (by omega) _) _) (by first | exact Row.row (r2.rowFar (by omega) _) _ | exact (Row.row r2 _).rowFar (by omega) _) Try.underlying37 rfl (by rw [tcs0_size]; exact cellsT) Try.underlying25 rfl (by rw [flt_size]; exact cellsF)) rfl ⟨⟨_, _, _, _, _, rfl⟩, ?_⟩
  exact blw_row (blw_row hb (by omega) _) (by omega) _
set_option maxRecDepth 100000 in
set_option maxHeartbeats 8000000 in
theorem rm_second (l : List Bool) (f x y : Nat) (hx : x ≤ 1536) (k : Int) (hk : k ≠ 0) (A : Option Addr) (c : Nat) (hG : ∀ w, Sl w w.heap.size A (pack l).length (bl (pack l)) → Calls Try.prog 72 #[.agg (bcs A (pack l).length c l.length), .int .i64 (f : Int)] w fun e w' => e = .returned (.tuple #[.int .i64 (x : Int), .int .i64 (y : Int), .agg (flt 0 0)]) ∧ Below w.heap.size w w') (hH : ∀ w, Sl w w.heap.size A (pack l).length (bl (pack l)) → Calls Try.prog 72 #[.agg (bcs A (pack l).length c l.length), .int .i64 (y : Int)] w fun e w' => e = .returned (.tuple #[.int .i64 0, .int .i64 0, .agg (flt k (-2))]) ∧ Below w.heap.size w w') (m : Int) (w : World) (hS : Sl w w.heap.size A (pack l).length (bl (pack l))) :
    Calls Try.prog 67 #[.agg (bcs A (pack l).length c l.length), .int .i64 (f : Int), .int .i64 m] w fun e w' => (∃ d n x b i, e = .returned (.tuple #[.agg #[.int .i64 d, .int .i64 n, .int .u8 x], .int .i64 b, .agg (flt k i)])) ∧ Below w.heap.size w w' := by
  have hnk := neq_badF k (-2) hk
  have HH := Lib.hid hH
  clear hH hk
  have s1 : decide ((1536 : Int) < (x : Int)) = false := decide_eq_false (by omega)
  have s2 : decide (1536 < x) = false := decide_eq_false (by omega)
  have hnq : ∀ w : World, (binOp .neq 25 (.agg (flt 0 0)) (.agg #[.int .i64 0, .int .i64 0])).run Try.prog w = .ok (.bool false) w := fun w => neq_flt 0 0 0 0 w
  have HG := Lib.hid hG
  clear hG
  go_enter Try.func67, Try.ntmps67
  go_upto_region 1 with (fail)
  have ha3 : ∀ x y z, Below w.heap.size w (((w.alloc x).alloc y).alloc z) := fun x y z => (((Below.refl _ _).alloc (Nat.le_refl _) _).alloc (by simp) _).alloc (by simp; omega) _
  refine wp_world (F := fun W => Row W w.heap.size 43 (bcs A (pack l).length c l.length) ∧ Row W (w.heap.size + 1) 37 #[.int .i64 0, .int .i64 0, .int .u8 0] ∧ Row W (w.heap.size + 1 + 1) 25 (flt 0 0) ∧ Sl W W.heap.size A (pack l).length (bl (pack l)) ∧ Below w.heap.size w W)
    ⟨((Row.newEq _ _ _ _ _ rfl rfl).alloc _).alloc _, (Row.newEq _ _ _ _ _ (by simp) rfl).alloc _, Row.newEq _ _ _ _ _ (by simp) rfl, hS.up (ha3 _ _ _), ha3 _ _ _⟩ ?_
  clear ha3 hS
  rintro W0 ⟨r0, r1, r2, hS, hb⟩
  go_upto_region 2 with (first
    | (refine wpList_load_row rfl 43 _ rfl w.heap.size rfl 43 (bcs A (pack l).length c l.length) (0, 0) _ r0 Try.underlying43 rfl (by rw [bcs_size]; exact cellsB) ?_)
    | (go_at_call 72; refine (HG.out _ hS).mono ?_; rintro e w2 ⟨rfl, hb2⟩)
    | (refine wpList_store_row rfl 25 _ _ rfl w2.heap.size (flt 0 0) rfl rfl 25 (flt 0 0) (Row.newEq _ _ _ _ _ rfl rfl) (by rw [flt_size]; exact cellsF) rfl (all_one (flt_one _ _)) ?_))
  have hkk := up_call hb2 (blw_new1 w2 (.cells #[.int .i64 0, .int .i64 0] 25) (flt 0 0))
  refine wp_world (F := fun W => Row W w2.heap.size 25 (flt 0 0) ∧ Row W w.heap.size 43 (bcs A (pack l).length c l.length) ∧ Row W (w.heap.size + 1) 37 #[.int .i64 0, .int .i64 0, .int .u8 0] ∧ Row W (w.heap.size + 1 + 1) 25 (flt 0 0) ∧ w.heap.size + 1 + 1 < w2.heap.size ∧ Sl W W.heap.size A (pack l).length (bl (pack l)) ∧ Below w.heap.size w W)
    ⟨row_new1 _ _ _ _, r0.below hkk r0.lt, r1.below hkk r1.lt, r2.below hkk r2.lt, Nat.lt_of_lt_of_le r2.lt hb2.size, hS.up hkk, up_call hb hkk⟩ ?_
  generalize w2.heap.size = g6
  clear hb2 hkk r0 r1 r2 hS hb w2 W0
  rintro W2 ⟨r6, r0, r1, r2, hlt, hS, hb⟩
  go_upto_region 7 with (first
    | (refine wpList_load_row rfl 25 _ rfl g6 rfl 25 (flt 0 0) (0, 0) _ r6 Try.underlying25 rfl (by rw [flt_size]; exact cellsF) ?_)
    | (refine wpList_load_row rfl 43 _ rfl w.heap.size rfl 43 (bcs A (pack l).length c l.length) (0, 0) _ r0 Try.underlying43 rfl (by rw [bcs_size]; exact cellsB) ?_)
    | (go_at_call 72; refine (HH.out _ hS).mono ?_; rintro e w3 ⟨rfl, hb3⟩; have q0 := r0.below hb3 r0.lt; have q1 := r1.below hb3 r1.lt; have q2 := r2.below hb3 r2.lt; have q6 := r6.below hb3 r6.lt; have hb4 := up_call hb hb3)
    | (refine wpList_store_row rfl 25 _ _ rfl g6 (flt k (-2)) rfl rfl 25 (flt 0 0) q6 (by rw [flt_size]; exact cellsF) rfl (all_one (flt_one _ _)) ?_))
  refine wp_world (F := fun W => Row W g6 25 (flt k (-2)) ∧ Row W (w.heap.size + 1) 37 #[.int .i64 0, .int .i64 0, .int .u8 0] ∧ Row W (w.heap.size + 1 + 1) 25 (flt 0 0) ∧ Below w.heap.size w W)
    ⟨Row.row q6 _, q1.rowFar (by omega) _, q2.rowFar (by omega) _, blw_row hb4 (by omega) _⟩ ?_
  clear q0 q1 q2 q6 hb4 hb3 r6 r0 r1 r2 hS hb w3 W2
  rintro W4 ⟨r6, r1, r2, hb⟩
  go_upto_region 9 with (first
    | (refine wpList_load_row rfl 25 _ rfl g6 rfl 25 (flt k (-2)) (0, 0) _ r6 Try.underlying25 rfl (by rw [flt_size]; exact cellsF) ?_))
  have i6 := r6.drew.is (flt_size _ _)
  have a6 := r6.drew.at
  have q1 := r1.drew
  have q2 := r2.drew
  have i1 := r1.drew.is (tcs0_size _ _ _)
  have i2 := r2.drew.is (flt_size _ _)
  have n1 : ¬ w.heap.size + 1 = g6 := by omega
  have n2 : ¬ g6 = w.heap.size + 1 := by omega
  have n3 : ¬ w.heap.size + 1 + 1 = g6 := by omega
  have n4 : ¬ g6 = w.heap.size + 1 + 1 := by omega
  have n5 : ¬ w.heap.size + 1 = w.heap.size + 1 + 1 := by omega
  have n6 : ¬ w.heap.size + 1 + 1 = w.heap.size + 1 := by omega
  go_region_law (fail)
  all_goals
    go_wp2
    refine bodyPost_ret (results_row_tmp_row Try.results67 _ _ (w.heap.size + 1) (w.heap.size + 1 + 1) 37 25 #[.int .i64 0, .int .i64 0, .int .u8 0] (flt k (-2)) _ _ _ rfl rfl rfl (by first | exact (Row.row q1 _).rowFar (by omega) _ | exact Row.row (q1.rowFar (by omega) _) _) (by first | exact Row.row (q2.rowFar (by omega) _) _ | exact (Row.row q2 _).rowFar (by omega) _) Try.underlying37 rfl (by rw [tcs0_size]; exact cellsT) Try.underlying25 rfl (by rw [flt_size]; exact cellsF)) rfl ⟨⟨_, _, _, _, _, rfl⟩, ?_⟩
    exact blw_row (blw_row hb.drew (by omega) _) (by omega) _
set_option maxRecDepth 100000 in
set_option maxHeartbeats 8000000 in
theorem rm_long (l : List Bool) (f x y u v : Nat) (hx : x ≤ 1536) (hu : u < 2147483648) (m : Nat) (hm : m < u + 2) (A : Option Addr) (c : Nat) (hG : ∀ w, Sl w w.heap.size A (pack l).length (bl (pack l)) → Calls Try.prog 72 #[.agg (bcs A (pack l).length c l.length), .int .i64 (f : Int)] w fun e w' => e = .returned (.tuple #[.int .i64 (x : Int), .int .i64 (y : Int), .agg (flt 0 0)]) ∧ Below w.heap.size w w') (hH : ∀ w, Sl w w.heap.size A (pack l).length (bl (pack l)) → Calls Try.prog 72 #[.agg (bcs A (pack l).length c l.length), .int .i64 (y : Int)] w fun e w' => e = .returned (.tuple #[.int .i64 (u : Int), .int .i64 (v : Int), .agg (flt 0 0)]) ∧ Below w.heap.size w w') (w : World) (hS : Sl w w.heap.size A (pack l).length (bl (pack l))) :
    Calls Try.prog 67 #[.agg (bcs A (pack l).length c l.length), .int .i64 (f : Int), .int .i64 (m : Int)] w fun e w' => (∃ d n x b i, e = .returned (.tuple #[.agg #[.int .i64 d, .int .i64 n, .int .u8 x], .int .i64 b, .agg (flt 16 i)])) ∧ Below w.heap.size w w' := by
  have s3 : decide ((m : Int) < (u : Int) + 2) = true := decide_eq_true (by omega)
  have HH := Lib.hid hH
  clear hH
  have s1 : decide ((1536 : Int) < (x : Int)) = false := decide_eq_false (by omega)
  have s2 : decide (1536 < x) = false := decide_eq_false (by omega)
  have hnq : ∀ w : World, (binOp .neq 25 (.agg (flt 0 0)) (.agg #[.int .i64 0, .int .i64 0])).run Try.prog w = .ok (.bool false) w := fun w => neq_flt 0 0 0 0 w
  have HG := Lib.hid hG
  clear hG
  go_enter Try.func67, Try.ntmps67
  go_upto_region 1 with (fail)
  have ha3 : ∀ x y z, Below w.heap.size w (((w.alloc x).alloc y).alloc z) := fun x y z => (((Below.refl _ _).alloc (Nat.le_refl _) _).alloc (by simp) _).alloc (by simp; omega) _
  refine wp_world (F := fun W => Row W w.heap.size 43 (bcs A (pack l).length c l.length) ∧ Row W (w.heap.size + 1) 37 #[.int .i64 0, .int .i64 0, .int .u8 0] ∧ Row W (w.heap.size + 1 + 1) 25 (flt 0 0) ∧ Sl W W.heap.size A (pack l).length (bl (pack l)) ∧ Below w.heap.size w W)
    ⟨((Row.newEq _ _ _ _ _ rfl rfl).alloc _).alloc _, (Row.newEq _ _ _ _ _ (by simp) rfl).alloc _, Row.newEq _ _ _ _ _ (by simp) rfl, hS.up (ha3 _ _ _), ha3 _ _ _⟩ ?_
  clear ha3 hS
  rintro W0 ⟨r0, r1, r2, hS, hb⟩
  go_upto_region 2 with (first
    | (refine wpList_load_row rfl 43 _ rfl w.heap.size rfl 43 (bcs A (pack l).length c l.length) (0, 0) _ r0 Try.underlying43 rfl (by rw [bcs_size]; exact cellsB) ?_)
    | (go_at_call 72; refine (HG.out _ hS).mono ?_; rintro e w2 ⟨rfl, hb2⟩)
    | (refine wpList_store_row rfl 25 _ _ rfl w2.heap.size (flt 0 0) rfl rfl 25 (flt 0 0) (Row.newEq _ _ _ _ _ rfl rfl) (by rw [flt_size]; exact cellsF) rfl (all_one (flt_one _ _)) ?_))
  have hkk := up_call hb2 (blw_new1 w2 (.cells #[.int .i64 0, .int .i64 0] 25) (flt 0 0))
  refine wp_world (F := fun W => Row W w2.heap.size 25 (flt 0 0) ∧ Row W w.heap.size 43 (bcs A (pack l).length c l.length) ∧ Row W (w.heap.size + 1) 37 #[.int .i64 0, .int .i64 0, .int .u8 0] ∧ Row W (w.heap.size + 1 + 1) 25 (flt 0 0) ∧ w.heap.size + 1 + 1 < w2.heap.size ∧ Sl W W.heap.size A (pack l).length (bl (pack l)) ∧ Below w.heap.size w W)
    ⟨row_new1 _ _ _ _, r0.below hkk r0.lt, r1.below hkk r1.lt, r2.below hkk r2.lt, Nat.lt_of_lt_of_le r2.lt hb2.size, hS.up hkk, up_call hb hkk⟩ ?_
  generalize w2.heap.size = g6
  clear hb2 hkk r0 r1 r2 hS hb w2 W0
  rintro W2 ⟨r6, r0, r1, r2, hlt, hS, hb⟩
  go_upto_region 7 with (first
    | (refine wpList_load_row rfl 25 _ rfl g6 rfl 25 (flt 0 0) (0, 0) _ r6 Try.underlying25 rfl (by rw [flt_size]; exact cellsF) ?_)
    | (refine wpList_load_row rfl 43 _ rfl w.heap.size rfl 43 (bcs A (pack l).length c l.length) (0, 0) _ r0 Try.underlying43 rfl (by rw [bcs_size]; exact cellsB) ?_)
    | (go_at_call 72; refine (HH.out _ hS).mono ?_; rintro e w3 ⟨rfl, hb3⟩; have q0 := r0.below hb3 r0.lt; have q1 := r1.below hb3 r1.lt; have q2 := r2.below hb3 r2.lt; have q6 := r6.below hb3 r6.lt; have hb4 := up_call hb hb3)
    | (refine wpList_store_row rfl 25 _ _ rfl g6 (flt 0 0) rfl rfl 25 (flt 0 0) q6 (by rw [flt_size]; exact cellsF) rfl (all_one (flt_one _ _)) ?_))
  refine wp_world (F := fun W => Row W g6 25 (flt 0 0) ∧ Row W (w.heap.size + 1) 37 #[.int .i64 0, .int .i64 0, .int .u8 0] ∧ Row W (w.heap.size + 1 + 1) 25 (flt 0 0) ∧ Below w.heap.size w W)
    ⟨Row.row q6 _, q1.rowFar (by omega) _, q2.rowFar (by omega) _, blw_row hb4 (by omega) _⟩ ?_
  clear q0 q1 q2 q6 hb4 hb3 r6 r0 r1 r2 hS hb w3 W2
  rintro W4 ⟨r6, r1, r2, hb⟩
  go_wp2_with (first
    | (refine wpList_load_row rfl 25 _ rfl g6 rfl 25 (flt 0 0) (0, 0) _ r6 Try.underlying25 rfl (by rw [flt_size]; exact cellsF) ?_)
    | (refine wpList_store_row rfl 37 _ _ rfl (w.heap.size + 1) #[.int .i64 0, .int .i64 0, .int .u8 0] rfl rfl 37 #[.int .i64 0, .int .i64 0, .int .u8 0] r1 cellsT rfl (all_tk _ _ _) ?_)
    | (refine wpList_store_row rfl 25 _ _ rfl (w.heap.size + 1 + 1) (flt 16 0) rfl rfl 25 (flt 0 0) (r2.rowFar (by omega) _) (by rw [flt_size]; exact cellsF) rfl (all_one (flt_one _ _)) ?_))
  refine bodyPost_ret (results_row_tmp_row Try.results67 _ _ (w.heap.size + 1) (w.heap.size + 1 + 1) 37 25 #[.int .i64 0, .int .i64 0, .int .u8 0] (flt 16 0) _ _ _ rfl rfl rfl (by first | exact (Row.row r1 _).rowFar (by omega) _ | exact Row.row (r1.rowFar (by omega) _) _) (by first | exact Row.row (r2.rowFar (by omega) _) _ | exact (Row.row r2 _).rowFar (by omega) _) Try.underlying37 rfl (by rw [tcs0_size]; exact cellsT) Try.underlying25 rfl (by rw [flt_size]; exact cellsF)) rfl ⟨⟨_, _, _, _, _, rfl⟩, ?_⟩
  exact blw_row (blw_row hb (by omega) _) (by omega) _
set_option maxRecDepth 100000 in
set_option maxHeartbeats 8000000 in
theorem rm_ok (l : List Bool) (f x y u v : Nat) (hx : x ≤ 1536) (hu : u < 2147483648) (m : Nat) (hm : u + 2 ≤ m) (A : Option Addr) (c : Nat) (hG : ∀ w, Sl w w.heap.size A (pack l).length (bl (pack l)) → Calls Try.prog 72 #[.agg (bcs A (pack l).length c l.length), .int .i64 (f : Int)] w fun e w' => e = .returned (.tuple #[.int .i64 (x : Int), .int .i64 (y : Int), .agg (flt 0 0)]) ∧ Below w.heap.size w w') (hH : ∀ w, Sl w w.heap.size A (pack l).length (bl (pack l)) → Calls Try.prog 72 #[.agg (bcs A (pack l).length c l.length), .int .i64 (y : Int)] w fun e w' => e = .returned (.tuple #[.int .i64 (u : Int), .int .i64 (v : Int), .agg (flt 0 0)]) ∧ Below w.heap.size w w') (w : World) (hS : Sl w w.heap.size A (pack l).length (bl (pack l))) :
    Calls Try.prog 67 #[.agg (bcs A (pack l).length c l.length), .int .i64 (f : Int), .int .i64 (m : Int)] w fun e w' => e = .returned (.tuple #[.agg #[.int .i64 (x : Int), .int .i64 ((u : Int) + 2), .int .u8 0], .int .i64 (v : Int), .agg (flt 0 0)]) ∧ Below w.heap.size w w' := by
  have s3 : decide ((m : Int) < (u : Int) + 2) = false := decide_eq_false (by omega)
  have HH := Lib.hid hH
  clear hH
  have s1 : decide ((1536 : Int) < (x : Int)) = false := decide_eq_false (by omega)
  have s2 : decide (1536 < x) = false := decide_eq_false (by omega)
  have hnq : ∀ w : World, (binOp .neq 25 (.agg (flt 0 0)) (.agg #[.int .i64 0, .int .i64 0])).run Try.prog w = .ok (.bool false) w := fun w => neq_flt 0 0 0 0 w
  have HG := Lib.hid hG
  clear hG
  go_enter Try.func67, Try.ntmps67
  go_upto_region 1 with (fail)
  have ha3 : ∀ x y z, Below w.heap.size w (((w.alloc x).alloc y).alloc z) := fun x y z => (((Below.refl _ _).alloc (Nat.le_refl _) _).alloc (by simp) _).alloc (by simp; omega) _
  refine wp_world (F := fun W => Row W w.heap.size 43 (bcs A (pack l).length c l.length) ∧ Row W (w.heap.size + 1) 37 #[.int .i64 0, .int .i64 0, .int .u8 0] ∧ Row W (w.heap.size + 1 + 1) 25 (flt 0 0) ∧ Sl W W.heap.size A (pack l).length (bl (pack l)) ∧ Below w.heap.size w W)
    ⟨((Row.newEq _ _ _ _ _ rfl rfl).alloc _).alloc _, (Row.newEq _ _ _ _ _ (by simp) rfl).alloc _, Row.newEq _ _ _ _ _ (by simp) rfl, hS.up (ha3 _ _ _), ha3 _ _ _⟩ ?_
  clear ha3 hS
  rintro W0 ⟨r0, r1, r2, hS, hb⟩
  go_upto_region 2 with (first
    | (refine wpList_load_row rfl 43 _ rfl w.heap.size rfl 43 (bcs A (pack l).length c l.length) (0, 0) _ r0 Try.underlying43 rfl (by rw [bcs_size]; exact cellsB) ?_)
    | (go_at_call 72; refine (HG.out _ hS).mono ?_; rintro e w2 ⟨rfl, hb2⟩)
    | (refine wpList_store_row rfl 25 _ _ rfl w2.heap.size (flt 0 0) rfl rfl 25 (flt 0 0) (Row.newEq _ _ _ _ _ rfl rfl) (by rw [flt_size]; exact cellsF) rfl (all_one (flt_one _ _)) ?_))
  have hkk := up_call hb2 (blw_new1 w2 (.cells #[.int .i64 0, .int .i64 0] 25) (flt 0 0))
  refine wp_world (F := fun W => Row W w2.heap.size 25 (flt 0 0) ∧ Row W w.heap.size 43 (bcs A (pack l).length c l.length) ∧ Row W (w.heap.size + 1) 37 #[.int .i64 0, .int .i64 0, .int .u8 0] ∧ Row W (w.heap.size + 1 + 1) 25 (flt 0 0) ∧ w.heap.size + 1 + 1 < w2.heap.size ∧ Sl W W.heap.size A (pack l).length (bl (pack l)) ∧ Below w.heap.size w W)
    ⟨row_new1 _ _ _ _, r0.below hkk r0.lt, r1.below hkk r1.lt, r2.below hkk r2.lt, Nat.lt_of_lt_of_le r2.lt hb2.size, hS.up hkk, up_call hb hkk⟩ ?_
  generalize w2.heap.size = g6
  clear hb2 hkk r0 r1 r2 hS hb w2 W0
  rintro W2 ⟨r6, r0, r1, r2, hlt, hS, hb⟩
  go_upto_region 7 with (first
    | (refine wpList_load_row rfl 25 _ rfl g6 rfl 25 (flt 0 0) (0, 0) _ r6 Try.underlying25 rfl (by rw [flt_size]; exact cellsF) ?_)
    | (refine wpList_load_row rfl 43 _ rfl w.heap.size rfl 43 (bcs A (pack l).length c l.length) (0, 0) _ r0 Try.underlying43 rfl (by rw [bcs_size]; exact cellsB) ?_)
    | (go_at_call 72; refine (HH.out _ hS).mono ?_; rintro e w3 ⟨rfl, hb3⟩; have q0 := r0.below hb3 r0.lt; have q1 := r1.below hb3 r1.lt; have q2 := r2.below hb3 r2.lt; have q6 := r6.below hb3 r6.lt; have hb4 := up_call hb hb3)
    | (refine wpList_store_row rfl 25 _ _ rfl g6 (flt 0 0) rfl rfl 25 (flt 0 0) q6 (by rw [flt_size]; exact cellsF) rfl (all_one (flt_one _ _)) ?_))
  refine wp_world (F := fun W => Row W g6 25 (flt 0 0) ∧ Row W (w.heap.size + 1) 37 #[.int .i64 0, .int .i64 0, .int .u8 0] ∧ Row W (w.heap.size + 1 + 1) 25 (flt 0 0) ∧ Below w.heap.size w W)
    ⟨Row.row q6 _, q1.rowFar (by omega) _, q2.rowFar (by omega) _, blw_row hb4 (by omega) _⟩ ?_
  clear q0 q1 q2 q6 hb4 hb3 r6 r0 r1 r2 hS hb w3 W2
  rintro W4 ⟨r6, r1, r2, hb⟩
  go_wp2_with (first
    | (refine wpList_load_row rfl 25 _ rfl g6 rfl 25 (flt 0 0) (0, 0) _ r6 Try.underlying25 rfl (by rw [flt_size]; exact cellsF) ?_)
    | (refine wpList_store_row rfl 37 _ _ rfl (w.heap.size + 1) #[.int .i64 (x : Int), .int .i64 ((u : Int) + 2), .int .u8 0] rfl rfl 37 #[.int .i64 0, .int .i64 0, .int .u8 0] r1 cellsT rfl (all_tk _ _ _) ?_)
    | (refine wpList_store_row rfl 25 _ _ rfl (w.heap.size + 1 + 1) (flt 0 0) rfl rfl 25 (flt 0 0) (r2.rowFar (by omega) _) (by rw [flt_size]; exact cellsF) rfl (all_one (flt_one _ _)) ?_))
  refine bodyPost_ret (results_row_tmp_row Try.results67 _ _ (w.heap.size + 1) (w.heap.size + 1 + 1) 37 25 #[.int .i64 (x : Int), .int .i64 ((u : Int) + 2), .int .u8 0] (flt 0 0) _ _ _ rfl rfl rfl (by first | exact (Row.row r1 _).rowFar (by omega) _ | exact Row.row (r1.rowFar (by omega) _) _) (by first | exact Row.row (r2.rowFar (by omega) _) _ | exact (Row.row r2 _).rowFar (by omega) _) Try.underlying37 rfl (by rw [tcs0_size]; exact cellsT) Try.underlying25 rfl (by rw [flt_size]; exact cellsF)) rfl ⟨rfl, ?_⟩
  exact blw_row (blw_row hb (by omega) _) (by omega) _
end Go.Proofs.Ytahihgmlkcbfiaa

namespace Go.Proofs.Ytahihgmlkcbfiaa
open Go.RowKit

attribute [local go_sem ↓] wp_store_act wp_load_flat run_load_flat wp_store_flat
attribute [local go_sem] flat_litF blkOf_ptr cells_agg sizedF sizeTF aggF flat_flt sizedB sizeTB aggB flat_bcs isRow_set_eq rowAt_set_eq sizedTk sizeTTk aggTk flat_tk
/-- a token, a place and a fault of which something is known -/
def RdP (Q : Int → Int → Int → Int → Int → Int → Prop) (w : World) (e : Ending) (w' : World) : Prop :=
  (∃ d n x b k i, Q d n x b k i ∧ e = .returned (.tuple #[.agg #[.int .i64 d, .int .i64 n, .int .u8 x], .int .i64 b, .agg (flt k i)])) ∧ Below w.heap.size w w'
set_option maxRecDepth 100000 in
set_option maxHeartbeats 8000000 in
theorem read_none (l : List Bool) (a : Int) (k i : Int) (hk : k ≠ 0) (A : Option Addr) (c : Nat) (hG : ∀ w, Sl w w.heap.size A (pack l).length (bl (pack l)) → Calls Try.prog 65 #[.agg (bcs A (pack l).length c l.length), .int .i64 a, .int .i64 1] w fun e w' => e = .returned (.tuple #[.int .i64 0, .agg (flt k i)]) ∧ Below w.heap.size w w') (m : Int) (Q : Int → Int → Int → Int → Int → Int → Prop) (hQ : Q 0 0 0 0 k i) (w : World) (hS : Sl w w.heap.size A (pack l).length (bl (pack l))) :
    Calls Try.prog 47 #[.agg (bcs A (pack l).length c l.length), .int .i64 a, .int .i64 m] w (RdP Q w) := by
  have hnq := neq_badF k i hk
  have HG := Lib.hid hG
  have HQ := Lib.hid hQ
  clear hG hk hQ
  go_enter Try.func47, Try.ntmps47
  go_upto_region 1 with (fail)
  have ha3 : ∀ x y z, Below w.heap.size w (((w.alloc x).alloc y).alloc z) := fun x y z => (((Below.refl _ _).alloc (Nat.le_refl _) _).alloc (by simp) _).alloc (by simp; omega) _
  refine wp_world (F := fun W => Row W w.heap.size 43 (bcs A (pack l).length c l.length) ∧ Row W (w.heap.size + 1) 37 #[.int .i64 0, .int .i64 0, .int .u8 0] ∧ Row W (w.heap.size + 1 + 1) 25 (flt 0 0) ∧ Sl W W.heap.size A (pack l).length (bl (pack l)) ∧ Below w.heap.size w W)
    ⟨((Row.newEq _ _ _ _ _ rfl rfl).alloc _).alloc _, (Row.newEq _ _ _ _ _ (by simp) rfl).alloc _, Row.newEq _ _ _ _ _ (by simp) rfl, hS.up (ha3 _ _ _), ha3 _ _ _⟩ ?_
  clear ha3 hS
  rintro W0 ⟨r0, r1, r2, hS, hb⟩
  go_upto_region 2 with (first
    | (refine wpList_load_row rfl 43 _ rfl w.heap.size rfl 43 (bcs A (pack l).length c l.length) (0, 0) _ r0 Try.underlying43 rfl (by rw [bcs_size]; exact cellsB) ?_)
    | (go_at_call 65; refine (HG.out _ hS).mono ?_; rintro e w2 ⟨rfl, hb2⟩)
    | (refine wpList_store_row rfl 25 _ _ rfl w2.heap.size (flt k i) rfl rfl 25 (flt 0 0) (Row.newEq _ _ _ _ _ rfl rfl) (by rw [flt_size]; exact cellsF) rfl (all_one (flt_one _ _)) ?_))
  have hkk := up_call hb2 (blw_new1 w2 (.cells #[.int .i64 0, .int .i64 0] 25) (flt k i))
  refine wp_world (F := fun W => Row W w2.heap.size 25 (flt k i) ∧ Row W w.heap.size 43 (bcs A (pack l).length c l.length) ∧ Row W (w.heap.size + 1) 37 #[.int .i64 0, .int .i64 0, .int .u8 0] ∧ Row W (w.heap.size + 1 + 1) 25 (flt 0 0) ∧ w.heap.size + 1 + 1 < w2.heap.size ∧ Sl W W.heap.size A (pack l).length (bl (pack l)) ∧ Below w.heap.size w W)
    ⟨row_new1 _ _ _ _, r0.below hkk r0.lt, r1.below hkk r1.lt, r2.below hkk r2.lt, Nat.lt_of_lt_of_le r2.lt hb2.size, hS.up hkk, up_call hb hkk⟩ ?_
  generalize w2.heap.size = g6
  clear hb2 hkk r0 r1 r2 hS hb w2 W0
  rintro W2 ⟨r6, r0, r1, r2, hlt, hS, hb⟩
  go_upto_region 3 with (first
    | (refine wpList_load_row rfl 25 _ rfl g6 rfl 25 (flt k i) (0, 0) _ r6 Try.underlying25 rfl (by rw [flt_size]; exact cellsF) ?_))
  have i6 := r6.drew.is (flt_size _ _)
  have a6 := r6.drew.at
  have q1 := r1.drew
  have q2 := r2.drew
  have i1 := r1.drew.is (tcs0_size _ _ _)
  have i2 := r2.drew.is (flt_size _ _)
  have n1 : ¬ w.heap.size + 1 = g6 := by omega
  have n2 : ¬ g6 = w.heap.size + 1 := by omega
  have n3 : ¬ w.heap.size + 1 + 1 = g6 := by omega
  have n4 : ¬ g6 = w.heap.size + 1 + 1 := by omega
  have n5 : ¬ w.heap.size + 1 = w.heap.size + 1 + 1 := by omega
  have n6 : ¬ w.heap.size + 1 + 1 = w.heap.size + 1 := by omega
  go_region_law (fail)
  all_goals
    go_wp2
    refine bodyPost_ret (results_row_tmp_row Try.results47 _ _ (w.heap.size + 1) (w.heap.size + 1 + 1) 37 25 #[.int .i64 0, .int .i64 0, .int .u8 0] (flt k i) _ _ _ rfl rfl rfl (by first | exact (Row.row q1 _).rowFar (by omega) _ | exact Row.row (q1.rowFar (by omega) _) _) (by first | exact Row.row (q2.rowFar (by omega) _) _ | exact (Row.row q2 _).rowFar (by omega) _) Try.underlying37 rfl (by rw [tcs0_size]; exact cellsT) Try.underlying25 rfl (by rw [flt_size]; exact cellsF)) rfl ⟨⟨_, _, _, _, _, _, HQ.out, rfl⟩, ?_⟩
    exact blw_row (blw_row hb.drew (by omega) _) (by omega) _
set_option maxRecDepth 100000 in
set_option maxHeartbeats 8000000 in
theorem read_lit (l : List Bool) (a : Int) (A : Option Addr) (c : Nat) (hG : ∀ w, Sl w w.heap.size A (pack l).length (bl (pack l)) → Calls Try.prog 65 #[.agg (bcs A (pack l).length c l.length), .int .i64 a, .int .i64 1] w fun e w' => e = .returned (.tuple #[.int .i64 0, .agg (flt 0 0)]) ∧ Below w.heap.size w w') (m : Int) (Q : Int → Int → Int → Int → Int → Int → Prop) (hL : ∀ w, Sl w w.heap.size A (pack l).length (bl (pack l)) → Calls Try.prog 66 #[.agg (bcs A (pack l).length c l.length), .int .i64 a] w (RdP Q w)) (w : World) (hS : Sl w w.heap.size A (pack l).length (bl (pack l))) :
    Calls Try.prog 47 #[.agg (bcs A (pack l).length c l.length), .int .i64 a, .int .i64 m] w (RdP Q w) := by
  have hnq : ∀ w : World, (binOp .neq 25 (.agg (flt 0 0)) (.agg #[.int .i64 0, .int .i64 0])).run Try.prog w = .ok (.bool false) w := fun w => neq_flt 0 0 0 0 w
  have HG := Lib.hid hG
  have HL := Lib.hid hL
  clear hG hL
  go_enter Try.func47, Try.ntmps47
  go_upto_region 1 with (fail)
  have ha3 : ∀ x y z, Below w.heap.size w (((w.alloc x).alloc y).alloc z) := fun x y z => (((Below.refl _ _).alloc (Nat.le_refl _) _).alloc (by simp) _).alloc (by simp; omega) _
  refine wp_world (F := fun W => Row W w.heap.size 43 (bcs A (pack l).length c l.length) ∧ Row W (w.heap.size + 1) 37 #[.int .i64 0, .int .i64 0, .int .u8 0] ∧ Row W (w.heap.size + 1 + 1) 25 (flt 0 0) ∧ Sl W W.heap.size A (pack l).length (bl (pack l)) ∧ Below w.heap.size w W)
    ⟨((Row.newEq _ _ _ _ _ rfl rfl).alloc _).alloc _, (Row.newEq _ _ _ _ _ (by simp) rfl).alloc _, Row.newEq _ _ _ _ _ (by simp) rfl, hS.up (ha3 _ _ _), ha3 _ _ _⟩ ?_
  clear ha3 hS
  rintro W0 ⟨r0, r1, r2, hS, hb⟩
  go_upto_region 2 with (first
    | (refine wpList_load_row rfl 43 _ rfl w.heap.size rfl 43 (bcs A (pack l).length c l.length) (0, 0) _ r0 Try.underlying43 rfl (by rw [bcs_size]; exact cellsB) ?_)
    | (go_at_call 65; refine (HG.out _ hS).mono ?_; rintro e w2 ⟨rfl, hb2⟩)
    | (refine wpList_store_row rfl 25 _ _ rfl w2.heap.size (flt 0 0) rfl rfl 25 (flt 0 0) (Row.newEq _ _ _ _ _ rfl rfl) (by rw [flt_size]; exact cellsF) rfl (all_one (flt_one _ _)) ?_))
  have hkk := up_call hb2 (blw_new1 w2 (.cells #[.int .i64 0, .int .i64 0] 25) (flt 0 0))
  refine wp_world (F := fun W => Row W w2.heap.size 25 (flt 0 0) ∧ Row W w.heap.size 43 (bcs A (pack l).length c l.length) ∧ Row W (w.heap.size + 1) 37 #[.int .i64 0, .int .i64 0, .int .u8 0] ∧ Row W (w.heap.size + 1 + 1) 25 (flt 0 0) ∧ w.heap.size + 1 + 1 < w2.heap.size ∧ Sl W W.heap.size A (pack l).length (bl (pack l)) ∧ Below w.heap.size w W)
    ⟨row_new1 _ _ _ _, r0.below hkk r0.lt, r1.below hkk r1.lt, r2.below hkk r2.lt, Nat.lt_of_lt_of_le r2.lt hb2.size, hS.up hkk, up_call hb hkk⟩ ?_
  generalize w2.heap.size = g6
  clear hb2 hkk r0 r1 r2 hS hb w2 W0
  rintro W2 ⟨r6, r0, r1, r2, hlt, hS, hb⟩
  go_wp2_with (first
    | (refine wpList_load_row rfl 25 _ rfl g6 rfl 25 (flt 0 0) (0, 0) _ r6 Try.underlying25 rfl (by rw [flt_size]; exact cellsF) ?_)
    | (refine wpList_load_row rfl 43 _ rfl w.heap.size rfl 43 (bcs A (pack l).length c l.length) (0, 0) _ r0 Try.underlying43 rfl (by rw [bcs_size]; exact cellsB) ?_)
    | (go_at_call 66; refine (HL.out _ hS).mono ?_; rintro e w3 ⟨⟨d, n, x, b, k, i, hq, rfl⟩, hb3⟩; have q1 := r1.below hb3 r1.lt; have q2 := r2.below hb3 r2.lt; have hb4 := up_call hb hb3; have HQ := Lib.hid hq; clear hq)
    | (refine wpList_store_row rfl 37 _ _ rfl (w.heap.size + 1) #[.int .i64 d, .int .i64 n, .int .u8 x] rfl rfl 37 #[.int .i64 0, .int .i64 0, .int .u8 0] q1 cellsT rfl (all_tk _ _ _) ?_)
    | (refine wpList_store_row rfl 25 _ _ rfl (w.heap.size + 1 + 1) (flt k i) rfl rfl 25 (flt 0 0) (q2.rowFar (by omega) _) (by rw [flt_size]; exact cellsF) rfl (all_one (flt_one _ _)) ?_))
  refine bodyPost_ret (results_row_tmp_row Try.results47 _ _ (w.heap.size + 1) (w.heap.size + 1 + 1) 37 25 #[.int .i64 d, .int .i64 n, .int .u8 x] (flt k i) _ _ _ rfl rfl rfl (by first | exact (Row.row q1 _).rowFar (by omega) _ | exact Row.row (q1.rowFar (by omega) _) _) (by first | exact Row.row (q2.rowFar (by omega) _) _ | exact (Row.row q2 _).rowFar (by omega) _) Try.underlying37 rfl (by rw [tcs0_size]; exact cellsT) Try.underlying25 rfl (by rw [flt_size]; exact cellsF)) rfl ⟨⟨_, _, _, _, _, _, HQ.out, rfl⟩, ?_⟩
  exact blw_row (blw_row hb4 (by omega) _) (by omega) _
set_option maxRecDepth 100000 in
set_option maxHeartbeats 8000000 in
theorem read_mat (l : List Bool) (a : Int) (ha : 0 ≤ a ∧ a ≤ 131072) (A : Option Addr) (c : Nat) (hG : ∀ w, Sl w w.heap.size A (pack l).length (bl (pack l)) → Calls Try.prog 65 #[.agg (bcs A (pack l).length c l.length), .int .i64 a, .int .i64 1] w fun e w' => e = .returned (.tuple #[.int .i64 1, .agg (flt 0 0)]) ∧ Below w.heap.size w w') (m : Int) (Q : Int → Int → Int → Int → Int → Int → Prop) (hL : ∀ w, Sl w w.heap.size A (pack l).length (bl (pack l)) → Calls Try.prog 67 #[.agg (bcs A (pack l).length c l.length), .int .i64 (a + 1), .int .i64 m] w (RdP Q w)) (w : World) (hS : Sl w w.heap.size A (pack l).length (bl (pack l))) :
    Calls Try.prog 47 #[.agg (bcs A (pack l).length c l.length), .int .i64 a, .int .i64 m] w (RdP Q w) := by
  have hnq : ∀ w : World, (binOp .neq 25 (.agg (flt 0 0)) (.agg #[.int .i64 0, .int .i64 0])).run Try.prog w = .ok (.bool false) w := fun w => neq_flt 0 0 0 0 w
  have HG := Lib.hid hG
  have HL := Lib.hid hL
  clear hG hL
  go_enter Try.func47, Try.ntmps47
  go_upto_region 1 with (fail)
  have ha3 : ∀ x y z, Below w.heap.size w (((w.alloc x).alloc y).alloc z) := fun x y z => (((Below.refl _ _).alloc (Nat.le_refl _) _).alloc (by simp) _).alloc (by simp; omega) _
  refine wp_world (F := fun W => Row W w.heap.size 43 (bcs A (pack l).length c l.length) ∧ Row W (w.heap.size + 1) 37 #[.int .i64 0, .int .i64 0, .int .u8 0] ∧ Row W (w.heap.size + 1 + 1) 25 (flt 0 0) ∧ Sl W W.heap.size A (pack l).length (bl (pack l)) ∧ Below w.heap.size w W)
    ⟨((Row.newEq _ _ _ _ _ rfl rfl).alloc _).alloc _, (Row.newEq _ _ _ _ _ (by simp) rfl).alloc _, Row.newEq _ _ _ _ _ (by simp) rfl, hS.up (ha3 _ _ _), ha3 _ _ _⟩ ?_
  clear ha3 hS
  rintro W0 ⟨r0, r1, r2, hS, hb⟩
  go_upto_region 2 with (first
    | (refine wpList_load_row rfl 43 _ rfl w.heap.size rfl 43 (bcs A (pack l).length c l.length) (0, 0) _ r0 Try.underlying43 rfl (by rw [bcs_size]; exact cellsB) ?_)
    | (go_at_call 65; refine (HG.out _ hS).mono ?_; rintro e w2 ⟨rfl, hb2⟩)
    | (refine wpList_store_row rfl 25 _ _ rfl w2.heap.size (flt 0 0) rfl rfl 25 (flt 0 0) (Row.newEq _ _ _ _ _ rfl rfl) (by rw [flt_size]; exact cellsF) rfl (all_one (flt_one _ _)) ?_))
  have hkk := up_call hb2 (blw_new1 w2 (.cells #[.int .i64 0, .int .i64 0] 25) (flt 0 0))
  refine wp_world (F := fun W => Row W w2.heap.size 25 (flt 0 0) ∧ Row W w.heap.size 43 (bcs A (pack l).length c l.length) ∧ Row W (w.heap.size + 1) 37 #[.int .i64 0, .int .i64 0, .int .u8 0] ∧ Row W (w.heap.size + 1 + 1) 25 (flt 0 0) ∧ w.heap.size + 1 + 1 < w2.heap.size ∧ Sl W W.heap.size A (pack l).length (bl (pack l)) ∧ Below w.heap.size w W)
    ⟨row_new1 _ _ _ _, r0.below hkk r0.lt, r1.below hkk r1.lt, r2.below hkk r2.lt, Nat.lt_of_lt_of_le r2.lt hb2.size, hS.up hkk, up_call hb hkk⟩ ?_
  generalize w2.heap.size = g6
  clear hb2 hkk r0 r1 r2 hS hb w2 W0
  rintro W2 ⟨r6, r0, r1, r2, hlt, hS, hb⟩
  go_wp2_with (first
    | (refine wpList_load_row rfl 25 _ rfl g6 rfl 25 (flt 0 0) (0, 0) _ r6 Try.underlying25 rfl (by rw [flt_size]; exact cellsF) ?_)
    | (refine wpList_load_row rfl 43 _ rfl w.heap.size rfl 43 (bcs A (pack l).length c l.length) (0, 0) _ r0 Try.underlying43 rfl (by rw [bcs_size]; exact cellsB) ?_)
    | (go_at_call 67; refine (HL.out _ hS).mono ?_; rintro e w3 ⟨⟨d, n, x, b, k, i, hq, rfl⟩, hb3⟩; have q1 := r1.below hb3 r1.lt; have q2 := r2.below hb3 r2.lt; have hb4 := up_call hb hb3; have HQ := Lib.hid hq; clear hq)
    | (refine wpList_store_row rfl 37 _ _ rfl (w.heap.size + 1) #[.int .i64 d, .int .i64 n, .int .u8 x] rfl rfl 37 #[.int .i64 0, .int .i64 0, .int .u8 0] q1 cellsT rfl (all_tk _ _ _) ?_)
    | (refine wpList_store_row rfl 25 _ _ rfl (w.heap.size + 1 + 1) (flt k i) rfl rfl 25 (flt 0 0) (q2.rowFar (by omega) _) (by rw [flt_size]; exact cellsF) rfl (all_one (flt_one _ _)) ?_))
  refine bodyPost_ret (results_row_tmp_row Try.results47 _ _ (w.heap.size + 1) (w.heap.size + 1 + 1) 37 25 #[.int .i64 d, .int .i64 n, .int .u8 x] (flt k i) _ _ _ rfl rfl rfl (by first | exact (Row.row q1 _).rowFar (by omega) _ | exact Row.row (q1.rowFar (by omega) _) _) (by first | exact Row.row (q2.rowFar (by omega) _) _ | exact (Row.row q2 _).rowFar (by omega) _) Try.underlying37 rfl (by rw [tcs0_size]; exact cellsT) Try.underlying25 rfl (by rw [flt_size]; exact cellsF)) rfl ⟨⟨_, _, _, _, _, _, HQ.out, rfl⟩, ?_⟩
  exact blw_row (blw_row hb4 (by omega) _) (by omega) _

/-- the token at a place, or the code of the fault -/
def TkP (r : (Tk × Nat) ⊕ Nat) (d n x b k i : Int) : Prop :=
  match r with
  | .inl (t, p) => d = t.z.1 ∧ n = t.z.2.1 ∧ x = (t.z.2.2.toNat : Int) ∧ b = (p : Nat) ∧ k = 0 ∧ i = 0
  | .inr z => k = (z : Nat)
theorem readg_bad (l : List Bool) (hl : l.length ≤ 131072) (f x y z : Nat) (hf : f ≤ l.length) (hG : gamF l f = (x, y, z)) (hz : z ≠ 0) (A : Option Addr) (c : Nat) (w : World) (hS : Sl w w.heap.size A (pack l).length (bl (pack l))) :
    Calls Try.prog 72 #[.agg (bcs A (pack l).length c l.length), .int .i64 (f : Int)] w fun e w' => e = .returned (.tuple #[.int .i64 0, .int .i64 0, .agg (flt (z : Int) (-2))]) ∧ Below w.heap.size w w' := by
  have hk := zrF_is l 31 f hf
  unfold gamF at hG
  split at hG
  · rename_i h1
    injection hG with e1 e2
    injection e2 with e2 e3
    subst e3
    exact readg_corrupt (pack l) l (pack_rep l) hl f _ hf hk h1 A c w hS
  · split at hG
    · rename_i h1 h2
      injection hG with e1 e2
      injection e2 with e2 e3
      subst e3
      have := hk.1
      exact readg_short (pack l) l (pack_rep l) hl f _ hf hk (by omega) h2 A c w hS
    · injection hG with e1 e2
      injection e2 with e2 e3
      exact absurd e3.symm hz
theorem readg_good (l : List Bool) (hl : l.length ≤ 131072) (f x y : Nat) (hf : f ≤ l.length) (hG : gamF l f = (x, y, 0)) (A : Option Addr) (c : Nat) (w : World) (hS : Sl w w.heap.size A (pack l).length (bl (pack l))) :
    Calls Try.prog 72 #[.agg (bcs A (pack l).length c l.length), .int .i64 (f : Int)] w fun e w' => e = .returned (.tuple #[.int .i64 (x : Int), .int .i64 (y : Int), .agg (flt 0 0)]) ∧ Below w.heap.size w w' := by
  have hk := zrF_is l 31 f hf
  unfold gamF at hG
  split at hG
  · injection hG with e1 e2
    injection e2 with e2 e3
    cases e3
  · split at hG
    · injection hG with e1 e2
      injection e2 with e2 e3
      cases e3
    · rename_i h1 h2
      injection hG with e1 e2
      injection e2 with e2 e3
      subst e1 e2
      have := hk.1
      exact readg_ok (pack l) l (pack_rep l) hl f _ hf hk (by omega) (by omega) A c w hS
theorem numF_first (g : Nat → Bool) (h : g 0 = false) : ∀ w, numF g (w + 1) = numF (fun i => g (1 + i)) w
  | 0 => by simp [numF, h]
  | w + 1 => by
    rw [numF_succ, numF_first g h w, numF_succ, show 1 + w = w + 1 by omega]
theorem read_any (l : List Bool) (hl : l.length ≤ 131072) (a : Nat) (ha : a ≤ l.length) (m : Nat) (_hm : m ≤ 1024) (A : Option Addr) (c : Nat) (w : World) (hS : Sl w w.heap.size A (pack l).length (bl (pack l))) :
    Calls Try.prog 47 #[.agg (bcs A (pack l).length c l.length), .int .i64 (a : Int), .int .i64 (m : Int)] w (RdP (TkP (tokF l a m)) w) := by
  obtain ⟨r, hr⟩ : ∃ r, r = tokF l a m := ⟨_, rfl⟩
  rw [← hr]
  unfold tokF at hr
  by_cases h1 : l.length ≤ a
  · rw [if_pos h1] at hr
    subst hr
    exact read_none l a 15 (-2) (by decide) A c (fun w hS => read_short (pack l) l (pack_rep l) hl a 1 ha (by omega) (by omega) A c w hS) m _ rfl w hS
  · rw [if_neg h1] at hr
    have hlt : a < l.length := by omega
    have hrd := fun w hS => read_ok (pack l) l (pack_rep l) hl a 1 (by omega) (by omega) A c w hS
    have hn1 : numF (fun i => l.getD (a + i) false) 1 = (l.getD a false).toNat := by simp [numF]
    by_cases h2 : l.getD a false = false
    · rw [if_pos h2] at hr
      rw [hn1, h2] at hrd
      refine read_lit l a A c hrd m _ ?_ w hS
      by_cases h3 : l.length < a + 9
      · rw [if_pos h3] at hr
        subst hr
        intro w hS
        refine (readlit_any l hl a 0 15 (-2) (by omega) (by omega) A c (fun w hS => read_short (pack l) l (pack_rep l) hl a 9 ha (by omega) h3 A c w hS) w hS).mono ?_
        rintro e w' ⟨rfl, hb⟩
        exact ⟨⟨_, _, _, _, _, _, rfl, rfl⟩, hb⟩
      · rw [if_neg h3] at hr
        subst hr
        intro w hS
        have hv := valB_part l (a + 1) 8 (by omega)
        have hn := numF_first (fun i => l.getD (a + i) false) h2 8
        have he : (fun i => l.getD (a + (1 + i)) false) = fun i => l.getD (a + 1 + i) false := by
          funext i
          rw [show a + (1 + i) = a + 1 + i by omega]
        rw [he, ← hv] at hn
        have hlt8 := valB_lt ((l.drop (a + 1)).take 8)
        have hl8 : ((l.drop (a + 1)).take 8).length = 8 := by rw [List.length_take, List.length_drop]; omega
        rw [hl8] at hlt8
        obtain ⟨v, hvv⟩ : ∃ v, v = valB ((l.drop (a + 1)).take 8) := ⟨_, rfl⟩
        rw [← hvv] at hn hlt8 ⊢
        have hok := fun w hS => read_ok (pack l) l (pack_rep l) hl a 9 (by omega) (by omega) A c w hS
        rw [hn] at hok
        refine (readlit_any l hl a v 0 0 (by omega) (by omega) A c hok w hS).mono ?_
        rintro e w' ⟨rfl, hb⟩
        refine ⟨⟨_, _, _, _, _, _, ⟨rfl, rfl, ?_, rfl, rfl, rfl⟩, rfl⟩, hb⟩
        show (v : Int) = ((UInt8.ofNat v).toNat : Int)
        rw [UInt8.toNat_ofNat']
        omega
    · rw [if_neg h2] at hr
      have h2' : l.getD a false = true := by cases h : l.getD a false with | true => rfl | false => exact absurd h h2
      rw [hn1, h2'] at hrd
      refine read_mat l a (by omega) A c hrd m _ ?_ w hS
      intro w hS
      have hge := gamF_end l (a + 1)
      obtain ⟨x, y, z, hG⟩ : ∃ x y z, gamF l (a + 1) = (x, y, z) := ⟨_, _, _, rfl⟩
      rw [hG] at hr hge
      simp only at hr hge
      have hA1 : (((a + 1 : Nat) : Int)) = (a : Int) + 1 := rfl
      by_cases hz : z = 0
      · rw [if_neg (by simp [hz])] at hr
        subst hz
        obtain ⟨e1, e2, e3⟩ := hge rfl
        have hg1 := fun w hS => readg_good l hl (a + 1) x y (by omega) hG A c w hS
        by_cases hx : 1536 < x
        · rw [if_pos hx] at hr
          subst hr
          refine (rm_far l (a + 1) x y hx A c hg1 m w hS).mono ?_
          rintro e w' ⟨⟨d, n, x, b, i, rfl⟩, hb⟩
          exact ⟨⟨_, _, _, _, _, _, rfl, rfl⟩, hb⟩
        · rw [if_neg hx] at hr
          have hge2 := gamF_end l y
          obtain ⟨u, v, z2, hG2⟩ : ∃ p q r, gamF l y = (p, q, r) := ⟨_, _, _, rfl⟩
          rw [hG2] at hr hge2
          simp only at hr hge2
          by_cases hz2 : z2 = 0
          · rw [if_neg (by simp [hz2])] at hr
            subst hz2
            obtain ⟨f1, f2, f3⟩ := hge2 rfl
            have hg2 := fun w hS => readg_good l hl y u v e2 hG2 A c w hS
            by_cases hu : m < u + 2
            · rw [if_pos hu] at hr
              subst hr
              refine (rm_long l (a + 1) x y u v (by omega) f3 m hu A c hg1 hg2 w hS).mono ?_
              rintro e w' ⟨⟨d, n, x, b, i, rfl⟩, hb⟩
              exact ⟨⟨_, _, _, _, _, _, rfl, rfl⟩, hb⟩
            · rw [if_neg hu] at hr
              subst hr
              refine (rm_ok l (a + 1) x y u v (by omega) f3 m (by omega) A c hg1 hg2 w hS).mono ?_
              rintro e w' ⟨rfl, hb⟩
              exact ⟨⟨(x : Int), (u : Int) + 2, 0, (v : Int), 0, 0, ⟨rfl, rfl, rfl, rfl, rfl, rfl⟩, rfl⟩, hb⟩
          · rw [if_pos hz2] at hr
            subst hr
            have hg2 := fun w hS => readg_bad l hl y u v z2 e2 hG2 hz2 A c w hS
            refine (rm_second l (a + 1) x y (by omega) z2 (by omega) A c hg1 hg2 m w hS).mono ?_
            rintro e w' ⟨⟨d, n, x, b, i, rfl⟩, hb⟩
            exact ⟨⟨_, _, _, _, _, _, rfl, rfl⟩, hb⟩
      · rw [if_pos hz] at hr
        subst hr
        have hg1 := fun w hS => readg_bad l hl (a + 1) x y z (by omega) hG hz A c w hS
        refine (rm_first l (a + 1) z (by omega) A c hg1 m w hS).mono ?_
        rintro e w' ⟨⟨d, n, x, b, i, rfl⟩, hb⟩
        exact ⟨⟨_, _, _, _, _, _, rfl, rfl⟩, hb⟩
end Go.Proofs.Ytahihgmlkcbfiaa
