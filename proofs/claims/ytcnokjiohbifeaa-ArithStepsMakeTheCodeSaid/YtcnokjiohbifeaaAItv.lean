/-
  The contracts of the reference's CoderOk and DecoderOk; the states of the coders as cells. The contracts of package arith's intervals (wide, split, part, offset, doubled), of isBit and isProbability.
-/
import Derived.Test.YtcnokjiohbifeaaRSteps
import Derived.Test.YtcnokjiohbifeaaGMem
import Derived.Test.YtcnokjiohbifeaaGRes
import Derived.Test.YtcnokjiohbifeaaGFlt
import Derived.Deep.Cut
namespace Go.Proofs.Ytcnokjiohbifeaa
open Go.RowKit

/-- an encoder's state -/
def cds (a b p : Int) : Array Value := #[.int .i64 a, .int .i64 b, .int .i64 p]
theorem cds_size (a b p : Int) : (cds a b p).size = 3 := rfl
theorem cds_one (a b p : Int) : ∀ v ∈ cds a b p, v.oneCell' = true := by
  intro v hv
  simp [cds] at hv
  rcases hv with rfl | rfl | rfl <;> rfl
/-- a decoder's state -/
def dcs (a b v i : Int) : Array Value := #[.int .i64 a, .int .i64 b, .int .i64 v, .int .i64 i]
theorem dcs_size (a b v i : Int) : (dcs a b v i).size = 4 := rfl
theorem dcs_one (a b v i : Int) : ∀ x ∈ dcs a b v i, x.oneCell' = true := by
  intro x hx
  simp [dcs] at hx
  rcases hx with rfl | rfl | rfl | rfl <;> rfl
theorem cellsCd : (Try.prog.info? 23).map (·.size) = some 3 := by kernel_rfl
theorem cellsDc : (Try.prog.info? 47).map (·.size) = some 4 := by kernel_rfl

/-- a valid encoder's state -/
def CoderZ (a b p : Int) : Prop := WideZ a b ∧ 0 ≤ p ∧ p ≤ 131056
instance (a b p : Int) : Decidable (CoderZ a b p) := inferInstanceAs (Decidable (_ ∧ _))
/-- a valid decoder's state -/
def DecoderZ (a b v i : Int) : Prop := WideZ a b ∧ (a ≤ v ∧ v ≤ b) ∧ 16 ≤ i ∧ i ≤ 131086
instance (a b v i : Int) : Decidable (DecoderZ a b v i) := inferInstanceAs (Decidable (_ ∧ _))

set_option maxRecDepth 100000 in
theorem coderok_any (a b p : Int) (w : World) :
    Calls Try.prog 15 #[.agg (cds a b p)] w fun e w' => e = .returned (.bool (decide (CoderZ a b p))) ∧ Below w.heap.size w w' := by
  have hw := wide_any a b
  have hi := in_any p 0 131056
  have hc0 : (cds a b p)[0]? = some (.int .i64 a) := rfl
  have hc1 : (cds a b p)[1]? = some (.int .i64 b) := rfl
  have hc2 : (cds a b p)[2]? = some (.int .i64 p) := rfl
  by_cases h1 : WideZ a b
  · rw [decide_eq_true h1] at hw
    have hd : decide (CoderZ a b p) = decide (0 ≤ p ∧ p ≤ 131056) := decide_eq_decide.2 ⟨fun h => h.2, fun h => ⟨h1, h⟩⟩
    rw [hd]
    generalize decide (0 ≤ p ∧ p ≤ 131056) = x at hi
    clear hd h1
    go_enter Try.func15, Try.ntmps15
    go_upto_region 1 with (fail)
    refine wp_world (F := fun W => Row W w.heap.size 23 (cds a b p) ∧ Below w.heap.size w W) ⟨Row.newEq _ _ _ _ _ rfl rfl, (Below.refl _ _).alloc (Nat.le_refl _) _⟩ ?_
    rintro W0 ⟨r0, hb0⟩
    have e0 := (r0.cell 0).trans hc0
    have e1 := (r0.cell 1).trans hc1
    have e2 := (r0.cell 2).trans hc2
    go_wp2_with (first
      | (go_at_call 44; refine (hw _).mono ?_; rintro e w9 ⟨rfl, h9⟩; subst w9)
      | (go_at_call 20; refine (hi _).mono ?_; rintro e w9 ⟨rfl, h9⟩; subst w9))
    go_ret
    exact ⟨rfl, hb0⟩
  · rw [decide_eq_false h1] at hw
    rw [decide_eq_false (show ¬ CoderZ a b p from fun h => h1 h.1)]
    clear hi h1
    go_enter Try.func15, Try.ntmps15
    go_upto_region 1 with (fail)
    refine wp_world (F := fun W => Row W w.heap.size 23 (cds a b p) ∧ Below w.heap.size w W) ⟨Row.newEq _ _ _ _ _ rfl rfl, (Below.refl _ _).alloc (Nat.le_refl _) _⟩ ?_
    rintro W0 ⟨r0, hb0⟩
    have e0 := (r0.cell 0).trans hc0
    have e1 := (r0.cell 1).trans hc1
    go_wp2_with (first
      | (go_at_call 44; refine (hw _).mono ?_; rintro e w9 ⟨rfl, h9⟩; subst w9))
    go_ret
    exact ⟨rfl, hb0⟩
set_option maxRecDepth 100000 in
set_option maxHeartbeats 1000000 in
theorem decoderok_any (a b v i : Int) (w : World) :
    Calls Try.prog 27 #[.agg (dcs a b v i)] w fun e w' => e = .returned (.bool (decide (DecoderZ a b v i))) ∧ Below w.heap.size w w' := by
  have hw := wide_any a b
  have hv := in_any v a b
  have hi := in_any i 16 131086
  have hc0 : (dcs a b v i)[0]? = some (.int .i64 a) := rfl
  have hc1 : (dcs a b v i)[1]? = some (.int .i64 b) := rfl
  have hc2 : (dcs a b v i)[2]? = some (.int .i64 v) := rfl
  have hc3 : (dcs a b v i)[3]? = some (.int .i64 i) := rfl
  by_cases h1 : WideZ a b
  · rw [decide_eq_true h1] at hw
    by_cases h2 : a ≤ v ∧ v ≤ b
    · rw [decide_eq_true h2] at hv
      have hd : decide (DecoderZ a b v i) = decide (16 ≤ i ∧ i ≤ 131086) := decide_eq_decide.2 ⟨fun h => h.2.2, fun h => ⟨h1, h2, h⟩⟩
      rw [hd]
      generalize decide (16 ≤ i ∧ i ≤ 131086) = x at hi
      clear hd h1 h2
      go_enter Try.func27, Try.ntmps27
      go_upto_region 1 with (fail)
      refine wp_world (F := fun W => Row W w.heap.size 47 (dcs a b v i) ∧ Below w.heap.size w W) ⟨Row.newEq _ _ _ _ _ rfl rfl, (Below.refl _ _).alloc (Nat.le_refl _) _⟩ ?_
      rintro W0 ⟨r0, hb0⟩
      have e0 := (r0.cell 0).trans hc0
      have e1 := (r0.cell 1).trans hc1
      have e2 := (r0.cell 2).trans hc2
      have e3 := (r0.cell 3).trans hc3
      go_wp2_with (first
        | (go_at_call 44; refine (hw _).mono ?_; rintro e w9 ⟨rfl, h9⟩; subst w9)
        | (go_at_call 20; (first | (with_reducible refine (hv _).mono ?_) | (with_reducible refine (hi _).mono ?_)); rintro e w9 ⟨rfl, h9⟩; subst w9))
      go_ret
      exact ⟨rfl, hb0⟩
    · rw [decide_eq_false h2] at hv
      rw [decide_eq_false (show ¬ DecoderZ a b v i from fun h => h2 h.2.1)]
      clear hi h1 h2
      go_enter Try.func27, Try.ntmps27
      go_upto_region 1 with (fail)
      refine wp_world (F := fun W => Row W w.heap.size 47 (dcs a b v i) ∧ Below w.heap.size w W) ⟨Row.newEq _ _ _ _ _ rfl rfl, (Below.refl _ _).alloc (Nat.le_refl _) _⟩ ?_
      rintro W0 ⟨r0, hb0⟩
      have e0 := (r0.cell 0).trans hc0
      have e1 := (r0.cell 1).trans hc1
      have e2 := (r0.cell 2).trans hc2
      go_wp2_with (first
        | (go_at_call 44; refine (hw _).mono ?_; rintro e w9 ⟨rfl, h9⟩; subst w9)
        | (go_at_call 20; refine (hv _).mono ?_; rintro e w9 ⟨rfl, h9⟩; subst w9))
      go_ret
      exact ⟨rfl, hb0⟩
  · rw [decide_eq_false h1] at hw
    rw [decide_eq_false (show ¬ DecoderZ a b v i from fun h => h1 h.1)]
    clear hi hv h1
    go_enter Try.func27, Try.ntmps27
    go_upto_region 1 with (fail)
    refine wp_world (F := fun W => Row W w.heap.size 47 (dcs a b v i) ∧ Below w.heap.size w W) ⟨Row.newEq _ _ _ _ _ rfl rfl, (Below.refl _ _).alloc (Nat.le_refl _) _⟩ ?_
    rintro W0 ⟨r0, hb0⟩
    have e0 := (r0.cell 0).trans hc0
    have e1 := (r0.cell 1).trans hc1
    go_wp2_with (first
      | (go_at_call 44; refine (hw _).mono ?_; rintro e w9 ⟨rfl, h9⟩; subst w9))
    go_ret
    exact ⟨rfl, hb0⟩
end Go.Proofs.Ytcnokjiohbifeaa

namespace Go.Proofs.Ytcnokjiohbifeaa
open Go.RowKit

/-- an interval's cells -/
def ivs (a b : Int) : Array Value := #[.int .i64 a, .int .i64 b]
theorem ivs_size (a b : Int) : (ivs a b).size = 2 := rfl
theorem ivs_one (a b : Int) : ∀ v ∈ ivs a b, v.oneCell' = true := by
  intro v hv
  simp [ivs] at hv
  rcases hv with rfl | rfl <;> rfl
theorem cellsIv : (Try.prog.info? 92).map (·.size) = some 2 := by kernel_rfl

set_option maxRecDepth 100000 in
set_option maxHeartbeats 2000000 in
theorem iwide_any (a b : Int) (w : World) :
    Calls Try.prog 56 #[.agg (ivs a b)] w fun e w' => e = .returned (.bool (decide (WideZ a b))) ∧ Below w.heap.size w w' := by
  have hc0 : (ivs a b)[0]? = some (.int .i64 a) := rfl
  have hc1 : (ivs a b)[1]? = some (.int .i64 b) := rfl
  have hd : decide (WideZ a b) = (decide (0 ≤ a) && decide (a < 32768) && decide (32768 ≤ b) && decide (b < 65536) && (decide (a < 16384) || decide (49152 ≤ b))) := by
    rw [Bool.eq_iff_iff]
    simp only [Bool.and_eq_true, Bool.or_eq_true, decide_eq_true_eq]
    unfold WideZ
    constructor
    · rintro ⟨h1, h2, h3, h4, h5⟩
      exact ⟨⟨⟨⟨h1, h2⟩, h3⟩, h4⟩, h5⟩
    · rintro ⟨⟨⟨⟨h1, h2⟩, h3⟩, h4⟩, h5⟩
      exact ⟨h1, h2, h3, h4, h5⟩
  rw [hd]
  clear hd
  obtain ⟨x1, tx1⟩ : ∃ x, decide (0 ≤ a) = x := ⟨_, rfl⟩
  obtain ⟨x2, tx2⟩ : ∃ x, decide (a < 32768) = x := ⟨_, rfl⟩
  obtain ⟨x3, tx3⟩ : ∃ x, decide (32768 ≤ b) = x := ⟨_, rfl⟩
  obtain ⟨x4, tx4⟩ : ∃ x, decide (b < 65536) = x := ⟨_, rfl⟩
  obtain ⟨x5, tx5⟩ : ∃ x, decide (a < 16384) = x := ⟨_, rfl⟩
  obtain ⟨x6, tx6⟩ : ∃ x, decide (49152 ≤ b) = x := ⟨_, rfl⟩
  rw [tx1, tx2, tx3, tx4, tx5, tx6]
  cases x1
  case false =>
    go_enter Try.func56, Try.ntmps56
    go_upto_region 1 with (fail)
    refine wp_world (F := fun W => Row W w.heap.size 92 (ivs a b) ∧ Below w.heap.size w W) ⟨Row.newEq _ _ _ _ _ rfl rfl, (Below.refl _ _).alloc (Nat.le_refl _) _⟩ ?_
    rintro W0 ⟨r0, hb0⟩
    have e0 := (r0.cell 0).trans hc0
    have e1 := (r0.cell 1).trans hc1
    clear r0
    go_wp2
    go_ret
    exact ⟨rfl, hb0⟩
  cases x2
  case false =>
    go_enter Try.func56, Try.ntmps56
    go_upto_region 1 with (fail)
    refine wp_world (F := fun W => Row W w.heap.size 92 (ivs a b) ∧ Below w.heap.size w W) ⟨Row.newEq _ _ _ _ _ rfl rfl, (Below.refl _ _).alloc (Nat.le_refl _) _⟩ ?_
    rintro W0 ⟨r0, hb0⟩
    have e0 := (r0.cell 0).trans hc0
    have e1 := (r0.cell 1).trans hc1
    clear r0
    go_wp2
    go_ret
    exact ⟨rfl, hb0⟩
  cases x3
  case false =>
    go_enter Try.func56, Try.ntmps56
    go_upto_region 1 with (fail)
    refine wp_world (F := fun W => Row W w.heap.size 92 (ivs a b) ∧ Below w.heap.size w W) ⟨Row.newEq _ _ _ _ _ rfl rfl, (Below.refl _ _).alloc (Nat.le_refl _) _⟩ ?_
    rintro W0 ⟨r0, hb0⟩
    have e0 := (r0.cell 0).trans hc0
    have e1 := (r0.cell 1).trans hc1
    clear r0
    go_wp2
    go_ret
    exact ⟨rfl, hb0⟩
  cases x4
  case false =>
    go_enter Try.func56, Try.ntmps56
    go_upto_region 1 with (fail)
    refine wp_world (F := fun W => Row W w.heap.size 92 (ivs a b) ∧ Below w.heap.size w W) ⟨Row.newEq _ _ _ _ _ rfl rfl, (Below.refl _ _).alloc (Nat.le_refl _) _⟩ ?_
    rintro W0 ⟨r0, hb0⟩
    have e0 := (r0.cell 0).trans hc0
    have e1 := (r0.cell 1).trans hc1
    clear r0
    go_wp2
    go_ret
    exact ⟨rfl, hb0⟩
  cases x5
  case true =>
    go_enter Try.func56, Try.ntmps56
    go_upto_region 1 with (fail)
    refine wp_world (F := fun W => Row W w.heap.size 92 (ivs a b) ∧ Below w.heap.size w W) ⟨Row.newEq _ _ _ _ _ rfl rfl, (Below.refl _ _).alloc (Nat.le_refl _) _⟩ ?_
    rintro W0 ⟨r0, hb0⟩
    have e0 := (r0.cell 0).trans hc0
    have e1 := (r0.cell 1).trans hc1
    clear r0
    go_wp2
    go_ret
    exact ⟨rfl, hb0⟩
  cases x6
  case false =>
    go_enter Try.func56, Try.ntmps56
    go_upto_region 1 with (fail)
    refine wp_world (F := fun W => Row W w.heap.size 92 (ivs a b) ∧ Below w.heap.size w W) ⟨Row.newEq _ _ _ _ _ rfl rfl, (Below.refl _ _).alloc (Nat.le_refl _) _⟩ ?_
    rintro W0 ⟨r0, hb0⟩
    have e0 := (r0.cell 0).trans hc0
    have e1 := (r0.cell 1).trans hc1
    clear r0
    go_wp2
    go_ret
    exact ⟨rfl, hb0⟩
  case true =>
    go_enter Try.func56, Try.ntmps56
    go_upto_region 1 with (fail)
    refine wp_world (F := fun W => Row W w.heap.size 92 (ivs a b) ∧ Below w.heap.size w W) ⟨Row.newEq _ _ _ _ _ rfl rfl, (Below.refl _ _).alloc (Nat.le_refl _) _⟩ ?_
    rintro W0 ⟨r0, hb0⟩
    have e0 := (r0.cell 0).trans hc0
    have e1 := (r0.cell 1).trans hc1
    clear r0
    go_wp2
    go_ret
    exact ⟨rfl, hb0⟩

set_option maxRecDepth 100000 in
theorem isplit_any (L H p : Nat) (h : WideR L H) (h1 : 1 ≤ p) (h2 : p ≤ 4095) (w : World) :
    Calls Try.prog 65 #[.agg (ivs L H), .int .i64 p] w fun e w' => e = .returned (.int .i64 (splitN L H p : Nat)) ∧ Below w.heap.size w w' := by
  obtain ⟨hs1, hs2⟩ := h.size
  obtain ⟨hl1, hl2⟩ := lower_bounds h h1 h2
  obtain ⟨hw1, hw2, hw3, hw4⟩ := h
  have hmul : (H - L + 1) * p ≤ 65536 * 4095 := Nat.mul_le_mul (by omega) h2
  have hprod : ((H : Int) - (L : Int) + 1) * (p : Int) = (((H - L + 1) * p : Nat) : Int) := by
    rw [show (H : Int) - (L : Int) + 1 = ((H - L + 1 : Nat) : Int) by omega, ← Int.natCast_mul]
  unfold splitN
  unfold lowerN at hl1 hl2 ⊢
  generalize (H - L + 1) * p = x at *
  obtain ⟨a, ha⟩ : ∃ a : Int, a = (L : Int) := ⟨_, rfl⟩
  obtain ⟨b, hb⟩ : ∃ b : Int, b = (H : Int) := ⟨_, rfl⟩
  have hc0 : (ivs L H)[0]? = some (.int .i64 L) := rfl
  have hc1 : (ivs L H)[1]? = some (.int .i64 H) := rfl
  clear ha hb a b
  go_enter Try.func65, Try.ntmps65
  go_upto_region 1 with (fail)
  refine wp_world (F := fun W => Row W w.heap.size 92 (ivs L H) ∧ Below w.heap.size w W) ⟨Row.newEq _ _ _ _ _ rfl rfl, (Below.refl _ _).alloc (Nat.le_refl _) _⟩ ?_
  rintro W0 ⟨r0, hb0⟩
  have e0 := (r0.cell 0).trans hc0
  have e1 := (r0.cell 1).trans hc1
  clear r0
  go_wp2
  go_ret
  exact ⟨ret_int (by omega), hb0⟩

set_option maxRecDepth 100000 in
set_option maxHeartbeats 2000000 in
theorem ipart_any (L H p : Nat) (bit : Bool) (h : WideR L H) (h1 : 1 ≤ p) (h2 : p ≤ 4095) (w : World) :
    Calls Try.prog 57 #[.agg (ivs L H), .int .i64 ((bit.toNat : Nat) : Int), .int .i64 p] w fun e w' => e = .returned (.agg (ivs ((partN L H p bit).1 : Nat) ((partN L H p bit).2 : Nat))) ∧ Below w.heap.size w w' := by
  have HSP := Lib.hid (isplit_any L H p h h1 h2)
  obtain ⟨hl1, hl2⟩ := lower_bounds h h1 h2
  obtain ⟨hw1, hw2, hw3, hw4⟩ := h
  have hq1 : splitN L H p < 65536 := by unfold splitN; omega
  obtain ⟨q, hq⟩ : ∃ q, q = splitN L H p := ⟨_, rfl⟩
  have hp1 : partN L H p true = (L, q) := by unfold partN; rw [← hq]; rfl
  have hp0 : partN L H p false = (q + 1, H) := by unfold partN; rw [← hq]; rfl
  rw [← hq] at HSP hq1
  have hc0 : (ivs L H)[0]? = some (.int .i64 L) := rfl
  have hc1 : (ivs L H)[1]? = some (.int .i64 H) := rfl
  clear hq hl1 hl2 hw1 hw2 hw4
  cases bit
  · rw [hp0, show (false : Bool).toNat = 0 from rfl]
    clear hp0 hp1
    go_enter Try.func57, Try.ntmps57
    go_upto_region 1 with (fail)
    refine wp_world (F := fun W => Row W w.heap.size 92 (ivs L H) ∧ Row W (w.heap.size + 1) 92 (ivs 0 0) ∧ Below w.heap.size w W) ⟨(Row.newEq _ _ _ _ _ rfl rfl).alloc _, Row.newEq _ _ _ _ _ (by simp) rfl, ((Below.refl _ _).alloc (Nat.le_refl _) _).alloc (by simp) _⟩ ?_
    rintro W0 ⟨r0, r1, hb0⟩
    go_wp2_with (first
      | (refine wpList_load_row rfl 92 _ rfl w.heap.size rfl 92 (ivs L H) (0, 0) _ r0 Try.underlying92 rfl (by rw [ivs_size]; exact cellsIv) ?_)
      | (go_at_call 65; refine (HSP.out _).mono ?_; rintro e w1 ⟨rfl, hb1⟩; have r0a := r0.below hb1 r0.lt; have r1a := r1.below hb1 r1.lt; have hba := up_call hb0 hb1; have e0 := (r0a.cell 0).trans hc0; have e1 := (r0a.cell 1).trans hc1; clear hb1)
      | (refine wpList_store_row rfl 92 _ _ rfl (w.heap.size + 1) (ivs ((q + 1 : Nat) : Int) (H : Int)) rfl (by go_num) 92 (ivs 0 0) r1a (by rw [ivs_size]; exact cellsIv) rfl (all_one (ivs_one _ _)) ?_))
    refine bodyPost_ret (results_row Try.results57 _ _ (w.heap.size + 1) 92 (ivs ((q + 1 : Nat) : Int) (H : Int)) _ rfl (Row.row r1a _) Try.underlying92 rfl (by rw [ivs_size]; exact cellsIv)) rfl ⟨rfl, blw_row hba (by omega) _⟩
  · rw [hp1, show (true : Bool).toNat = 1 from rfl]
    clear hp0 hp1
    go_enter Try.func57, Try.ntmps57
    go_upto_region 1 with (fail)
    refine wp_world (F := fun W => Row W w.heap.size 92 (ivs L H) ∧ Row W (w.heap.size + 1) 92 (ivs 0 0) ∧ Below w.heap.size w W) ⟨(Row.newEq _ _ _ _ _ rfl rfl).alloc _, Row.newEq _ _ _ _ _ (by simp) rfl, ((Below.refl _ _).alloc (Nat.le_refl _) _).alloc (by simp) _⟩ ?_
    rintro W0 ⟨r0, r1, hb0⟩
    go_wp2_with (first
      | (refine wpList_load_row rfl 92 _ rfl w.heap.size rfl 92 (ivs L H) (0, 0) _ r0 Try.underlying92 rfl (by rw [ivs_size]; exact cellsIv) ?_)
      | (go_at_call 65; refine (HSP.out _).mono ?_; rintro e w1 ⟨rfl, hb1⟩; have r0a := r0.below hb1 r0.lt; have r1a := r1.below hb1 r1.lt; have hba := up_call hb0 hb1; have e0 := (r0a.cell 0).trans hc0; have e1 := (r0a.cell 1).trans hc1; clear hb1)
      | (refine wpList_store_row rfl 92 _ _ rfl (w.heap.size + 1) (ivs (L : Int) (q : Int)) rfl (by go_num) 92 (ivs 0 0) r1a (by rw [ivs_size]; exact cellsIv) rfl (all_one (ivs_one _ _)) ?_))
    refine bodyPost_ret (results_row Try.results57 _ _ (w.heap.size + 1) 92 (ivs (L : Int) (q : Int)) _ rfl (Row.row r1a _) Try.underlying92 rfl (by rw [ivs_size]; exact cellsIv)) rfl ⟨rfl, blw_row hba (by omega) _⟩

/-- what offset answers -/
def offZ (L H : Nat) : Int := match twN L H with | none => 0 | some k => ((16384 * k : Nat) : Int)
def moreB (L H : Nat) : Bool := (twN L H).isSome
set_option maxRecDepth 100000 in
set_option maxHeartbeats 2000000 in
theorem ioffset_any (L H : Nat) (w : World) :
    Calls Try.prog 58 #[.agg (ivs L H)] w fun e w' => e = .returned (.tuple #[.int .i64 (offZ L H), .bool (moreB L H)]) ∧ Below w.heap.size w w' := by
  have hc0 : (ivs L H)[0]? = some (.int .i64 L) := rfl
  have hc1 : (ivs L H)[1]? = some (.int .i64 H) := rfl
  by_cases c1 : H < 32768
  · have e : offZ L H = 0 := by unfold offZ twN; rw [if_pos c1] <;> rfl
    have e2 : moreB L H = true := by unfold moreB twN; rw [if_pos c1] <;> rfl
    rw [e, e2]
    have t0 : decide ((H : Int) < 32768) = true := decide_eq_true (by omega)
    clear e e2
    go_enter Try.func58, Try.ntmps58
    go_upto_region 1 with (fail)
    refine wp_world (F := fun W => Row W w.heap.size 92 (ivs L H) ∧ Below w.heap.size w W) ⟨Row.newEq _ _ _ _ _ rfl rfl, (Below.refl _ _).alloc (Nat.le_refl _) _⟩ ?_
    rintro W0 ⟨r0, hb0⟩
    have e0 := (r0.cell 0).trans hc0
    have e1 := (r0.cell 1).trans hc1
    clear r0
    go_wp2
    go_ret2
    exact ⟨rfl, hb0⟩
  · by_cases c2 : 32768 ≤ L
    · have e : offZ L H = 32768 := by unfold offZ twN; rw [if_neg c1, if_pos c2] <;> rfl
      have e2 : moreB L H = true := by unfold moreB twN; rw [if_neg c1, if_pos c2] <;> rfl
      rw [e, e2]
      have t0 : decide ((H : Int) < 32768) = false := decide_eq_false (by omega)
      have t1 : decide ((32768 : Int) ≤ (L : Int)) = true := decide_eq_true (by omega)
      clear e e2
      go_enter Try.func58, Try.ntmps58
      go_upto_region 1 with (fail)
      refine wp_world (F := fun W => Row W w.heap.size 92 (ivs L H) ∧ Below w.heap.size w W) ⟨Row.newEq _ _ _ _ _ rfl rfl, (Below.refl _ _).alloc (Nat.le_refl _) _⟩ ?_
      rintro W0 ⟨r0, hb0⟩
      have e0 := (r0.cell 0).trans hc0
      have e1 := (r0.cell 1).trans hc1
      clear r0
      go_wp2
      go_ret2
      exact ⟨rfl, hb0⟩
    · by_cases c3 : 16384 ≤ L
      · by_cases c4 : H < 49152
        · have e : offZ L H = 16384 := by unfold offZ twN; rw [if_neg c1, if_neg c2, if_pos ⟨c3, c4⟩] <;> rfl
          have e2 : moreB L H = true := by unfold moreB twN; rw [if_neg c1, if_neg c2, if_pos ⟨c3, c4⟩] <;> rfl
          rw [e, e2]
          have t0 : decide ((H : Int) < 32768) = false := decide_eq_false (by omega)
          have t1 : decide ((32768 : Int) ≤ (L : Int)) = false := decide_eq_false (by omega)
          have t2 : decide ((16384 : Int) ≤ (L : Int)) = true := decide_eq_true (by omega)
          have t3 : decide ((H : Int) < 49152) = true := decide_eq_true (by omega)
          clear e e2
          go_enter Try.func58, Try.ntmps58
          go_upto_region 1 with (fail)
          refine wp_world (F := fun W => Row W w.heap.size 92 (ivs L H) ∧ Below w.heap.size w W) ⟨Row.newEq _ _ _ _ _ rfl rfl, (Below.refl _ _).alloc (Nat.le_refl _) _⟩ ?_
          rintro W0 ⟨r0, hb0⟩
          have e0 := (r0.cell 0).trans hc0
          have e1 := (r0.cell 1).trans hc1
          clear r0
          go_wp2
          go_ret2
          exact ⟨rfl, hb0⟩
        · have e : offZ L H = 0 := by unfold offZ twN; rw [if_neg c1, if_neg c2, if_neg (by omega)] <;> rfl
          have e2 : moreB L H = false := by unfold moreB twN; rw [if_neg c1, if_neg c2, if_neg (by omega)] <;> rfl
          rw [e, e2]
          have t0 : decide ((H : Int) < 32768) = false := decide_eq_false (by omega)
          have t1 : decide ((32768 : Int) ≤ (L : Int)) = false := decide_eq_false (by omega)
          have t2 : decide ((16384 : Int) ≤ (L : Int)) = true := decide_eq_true (by omega)
          have t3 : decide ((H : Int) < 49152) = false := decide_eq_false (by omega)
          clear e e2
          go_enter Try.func58, Try.ntmps58
          go_upto_region 1 with (fail)
          refine wp_world (F := fun W => Row W w.heap.size 92 (ivs L H) ∧ Below w.heap.size w W) ⟨Row.newEq _ _ _ _ _ rfl rfl, (Below.refl _ _).alloc (Nat.le_refl _) _⟩ ?_
          rintro W0 ⟨r0, hb0⟩
          have e0 := (r0.cell 0).trans hc0
          have e1 := (r0.cell 1).trans hc1
          clear r0
          go_wp2
          go_ret2
          exact ⟨rfl, hb0⟩
      · have e : offZ L H = 0 := by unfold offZ twN; rw [if_neg c1, if_neg c2, if_neg (by omega)] <;> rfl
        have e2 : moreB L H = false := by unfold moreB twN; rw [if_neg c1, if_neg c2, if_neg (by omega)] <;> rfl
        rw [e, e2]
        have t0 : decide ((H : Int) < 32768) = false := decide_eq_false (by omega)
        have t1 : decide ((32768 : Int) ≤ (L : Int)) = false := decide_eq_false (by omega)
        have t2 : decide ((16384 : Int) ≤ (L : Int)) = false := decide_eq_false (by omega)
        clear e e2
        go_enter Try.func58, Try.ntmps58
        go_upto_region 1 with (fail)
        refine wp_world (F := fun W => Row W w.heap.size 92 (ivs L H) ∧ Below w.heap.size w W) ⟨Row.newEq _ _ _ _ _ rfl rfl, (Below.refl _ _).alloc (Nat.le_refl _) _⟩ ?_
        rintro W0 ⟨r0, hb0⟩
        have e0 := (r0.cell 0).trans hc0
        have e1 := (r0.cell 1).trans hc1
        clear r0
        go_wp2
        go_ret2
        exact ⟨rfl, hb0⟩

set_option maxRecDepth 100000 in
set_option maxHeartbeats 2000000 in
theorem idoubled_any (L H q : Nat) (h1 : q ≤ L) (h2 : L ≤ H) (h3 : H < 65536) (x y : Nat) (hx : x = 2 * (L - q)) (hy : y = 2 * (H - q) + 1) (w : World) :
    Calls Try.prog 59 #[.agg (ivs L H), .int .i64 q] w fun e w' => e = .returned (.agg (ivs x y)) ∧ Below w.heap.size w w' := by
  have hx' : (x : Int) = 2 * ((L : Int) - (q : Int)) := by omega
  have hy' : (y : Int) = 2 * ((H : Int) - (q : Int)) + 1 := by omega
  rw [hx', hy']
  clear hx hy hx' hy' x y
  have hc0 : (ivs L H)[0]? = some (.int .i64 L) := rfl
  have hc1 : (ivs L H)[1]? = some (.int .i64 H) := rfl
  go_enter Try.func59, Try.ntmps59
  go_upto_region 1 with (fail)
  refine wp_world (F := fun W => Row W w.heap.size 92 (ivs L H) ∧ Row W (w.heap.size + 1) 92 (ivs 0 0) ∧ Below w.heap.size w W) ⟨(Row.newEq _ _ _ _ _ rfl rfl).alloc _, Row.newEq _ _ _ _ _ (by simp) rfl, ((Below.refl _ _).alloc (Nat.le_refl _) _).alloc (by simp) _⟩ ?_
  rintro W0 ⟨r0, r1, hb0⟩
  have e0 := (r0.cell 0).trans hc0
  have e1 := (r0.cell 1).trans hc1
  go_wp2_with (first
    | (refine wpList_store_row rfl 92 _ _ rfl (w.heap.size + 1) (ivs (2 * ((L : Int) - (q : Int))) (2 * ((H : Int) - (q : Int)) + 1)) rfl (by go_num) 92 (ivs 0 0) r1 (by rw [ivs_size]; exact cellsIv) rfl (all_one (ivs_one _ _)) ?_))
  refine bodyPost_ret (results_row Try.results59 _ _ (w.heap.size + 1) 92 (ivs (2 * ((L : Int) - (q : Int))) (2 * ((H : Int) - (q : Int)) + 1)) _ rfl (Row.row r1 _) Try.underlying92 rfl (by rw [ivs_size]; exact cellsIv)) rfl ⟨rfl, blw_row hb0 (by omega) _⟩

theorem aisbit_any (v : Int) (t : Bool) (ht : t = decide (v = 0 ∨ v = 1)) (w : World) :
    Calls Try.prog 38 #[.int .i64 v] w fun e w' => e = .returned (.bool t) ∧ w' = w := by
  by_cases h0 : v = 0
  · subst h0
    have HT := Lib.hid ht
    clear ht
    go_enter Try.func38, Try.ntmps38
    go_wp2
    go_ret
    exact ⟨ret_bool HT.out.symm, rfl⟩
  · have h1 : (v == 0) = false := beq_eq_false_iff_ne.2 h0
    have h2 : (v == 1) = t := by
      rw [ht]
      by_cases h : v = 1
      · subst h; rfl
      · rw [beq_eq_false_iff_ne.2 h, decide_eq_false]
        rintro (h3 | h3)
        · exact h0 h3
        · exact h h3
    clear ht
    go_enter Try.func38, Try.ntmps38
    go_wp2
    go_ret
    exact ⟨rfl, rfl⟩
theorem aisprob_any (p : Int) (t : Bool) (ht : t = decide (1 ≤ p ∧ p ≤ 4095)) (w : World) :
    Calls Try.prog 39 #[.int .i64 p] w fun e w' => e = .returned (.bool t) ∧ w' = w := by
  by_cases h0 : 0 < p
  · have t1 : decide (0 < p) = true := decide_eq_true h0
    have t2 : decide (p < 4096) = t := by rw [ht]; exact decide_eq_decide.2 ⟨fun h => by omega, fun h => by omega⟩
    clear ht h0
    go_enter Try.func39, Try.ntmps39
    go_wp2
    go_ret
    exact ⟨rfl, rfl⟩
  · have t1 : decide (0 < p) = false := decide_eq_false h0
    obtain rfl : t = false := by rw [ht]; exact decide_eq_false (by omega)
    clear ht h0
    go_enter Try.func39, Try.ntmps39
    go_wp2
    go_ret
    exact ⟨rfl, rfl⟩
end Go.Proofs.Ytcnokjiohbifeaa
