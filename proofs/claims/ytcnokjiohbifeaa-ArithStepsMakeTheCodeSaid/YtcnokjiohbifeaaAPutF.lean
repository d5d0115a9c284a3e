/-
  The contracts of arith.Put: its faults, and the new state with the bits that are certain now. The contract of arith.Put where all is well.
-/
import Derived.Test.YtcnokjiohbifeaaAPut
import Derived.Test.YtcnokjiohbifeaaAEnc
import Derived.BigRegion
import Derived.Deep.RegionHeld3
namespace Go.Proofs.Ytcnokjiohbifeaa
open Go.RowKit

/-- the fault of Put -/
inductive PutF : Int → Int → Int → Int → Int → Int → Int → Prop
  | form {a b q bit p : Int} (h : ¬ CoderZ a b q) : PutF a b q bit p 6 (-1)
  | bit {a b q bit p : Int} (h : CoderZ a b q) (hb : ¬ (bit = 0 ∨ bit = 1)) : PutF a b q bit p 4 (-2)
  | prob {a b q bit p : Int} (h : CoderZ a b q) (hb : bit = 0 ∨ bit = 1) (hp : ¬ (1 ≤ p ∧ p ≤ 4095)) : PutF a b q bit p 4 (-3)
  | large {L H P p : Nat} {b : Bool} (h : CoderZ L H P) (h1 : 1 ≤ p) (h2 : p ≤ 4095) (hl : 131056 < (sentN P (stepN L H p b).2.2).2) : PutF L H P ((b.toNat : Nat) : Int) p 14 (-1)
theorem PutF.ne {a b q bit p c i : Int} (h : PutF a b q bit p c i) : c ≠ 0 := by cases h <;> decide
theorem CoderZ.nat {a b q : Int} (h : CoderZ a b q) : ∃ L H P : Nat, a = L ∧ b = H ∧ q = P ∧ WideR L H ∧ P ≤ 131056 := by
  obtain ⟨hw, h1, h2⟩ := h
  obtain ⟨L, H, rfl, rfl, hw2⟩ := hw.nat
  exact ⟨L, H, q.toNat, rfl, rfl, by omega, hw2, by omega⟩
theorem CoderZ.wide {L H P : Nat} (h : CoderZ L H P) : WideR L H := by
  obtain ⟨L', H', e1, e2, hw⟩ := h.1.nat
  have a1 : L = L' := by omega
  have a2 : H = H' := by omega
  subst a1 a2
  exact hw
/-- Put: a fault, or all is well -/
theorem putf_or (a b q bit p : Int) : (∃ c i, PutF a b q bit p c i) ∨ ∃ (L H P n : Nat) (x : Bool), a = L ∧ b = H ∧ q = P ∧ bit = ((x.toNat : Nat) : Int) ∧ p = n ∧ CoderZ L H P ∧ 1 ≤ n ∧ n ≤ 4095 ∧ (sentN P (stepN L H n x).2.2).2 ≤ 131056 := by
  by_cases h : CoderZ a b q
  · by_cases hb : bit = 0 ∨ bit = 1
    · by_cases hp : 1 ≤ p ∧ p ≤ 4095
      · obtain ⟨L, H, P, rfl, rfl, rfl, hw, _⟩ := h.nat
        obtain ⟨n, rfl⟩ : ∃ n : Nat, p = n := ⟨p.toNat, by omega⟩
        obtain ⟨x, rfl⟩ : ∃ x : Bool, bit = ((x.toNat : Nat) : Int) := by
          rcases hb with rfl | rfl
          · exact ⟨false, rfl⟩
          · exact ⟨true, rfl⟩
        by_cases hl : 131056 < (sentN P (stepN L H n x).2.2).2
        · exact .inl ⟨14, -1, .large h (by omega) (by omega) hl⟩
        · exact .inr ⟨L, H, P, n, x, rfl, rfl, rfl, rfl, rfl, h, by omega, by omega, by omega⟩
      · exact .inl ⟨4, -3, .prob h hb hp⟩
    · exact .inl ⟨4, -2, .bit h hb⟩
  · exact .inl ⟨6, -1, .form h⟩
/-- what Put answers where it refuses -/
def PutBad (a b q bit p c i : Int) : Prop := ∀ w : World, Calls Try.prog 11 #[.agg (cds a b q), .int .i64 bit, .int .i64 p] w fun e w' => e = .returned (.tuple #[.agg (cds 0 0 0), .agg (bcs none 0 0 0), .agg (flt c i)]) ∧ Below w.heap.size w w'

set_option maxRecDepth 100000 in
set_option maxHeartbeats 4000000 in
theorem Put_form (a b q bit p : Int) (h : ¬ CoderZ a b q) : PutBad a b q bit p 6 (-1) := by
  intro w
  have hv := vcoder_any a b q
  rw [decide_eq_false h] at hv
  clear h
  go_enter Try.func11, Try.ntmps11
  go_upto_region 1 with (fail)
  refine wp_world (F := fun W => Row W w.heap.size 23 (cds a b q) ∧ Row W (w.heap.size + 1) 23 (cds 0 0 0) ∧ Row W (w.heap.size + 2) 26 (bcs none 0 0 0) ∧ Row W (w.heap.size + 3) 28 (flt 0 0) ∧ Below w.heap.size w W)
    ⟨(((Row.newEq _ _ _ _ _ rfl rfl).alloc _).alloc _).alloc _, ((Row.newEq _ _ _ _ _ (by simp) rfl).alloc _).alloc _, (Row.newEq _ _ _ _ _ (by simp) rfl).alloc _, Row.newEq _ _ _ _ _ (by simp) rfl, ((((Below.refl _ _).alloc (Nat.le_refl _) _).alloc (by simp) _).alloc (by simp; omega) _).alloc (by simp; omega) _⟩ ?_
  rintro W0 ⟨r0, r1, r2, r3, hb0⟩
  go_wp2_with (first
    | (refine wpList_load_row rfl 23 _ rfl w.heap.size rfl 23 (cds a b q) (0, 0) _ r0 Try.underlying23 rfl (by rw [cds_size]; exact cellsCd) ?_)
    | (go_at_call 37; refine (hv _).mono ?_; rintro e w1 ⟨rfl, hb1⟩; have q0 := r0.below hb1 r0.lt; have q1 := r1.below hb1 r1.lt; have q2 := r2.below hb1 r2.lt; have q3 := r3.below hb1 r3.lt; have hba := up_call hb0 hb1; clear hb1)
    | (refine wpList_store_row rfl 23 _ _ rfl (w.heap.size + 1) (cds 0 0 0) rfl rfl 23 (cds 0 0 0) q1 (by rw [cds_size]; exact cellsCd) rfl (all_one (cds_one _ _ _)) ?_)
    | (refine wpList_store_row rfl 26 _ _ rfl (w.heap.size + 2) (bcs none 0 0 0) rfl rfl 26 (bcs none 0 0 0) (q2.rowFar (by omega) _) (by rw [bcs_size]; exact cellsB) rfl (all_one (bcs_one _ _ _ _)) ?_)
    | (refine wpList_store_row rfl 28 _ _ rfl (w.heap.size + 3) (flt 6 (-1)) rfl rfl 28 (flt 0 0) ((q3.rowFar (by omega) _).rowFar (by omega) _) (by rw [flt_size]; exact cellsF) rfl (all_one (flt_one _ _)) ?_))
  refine bodyPost_ret (results_rows3 Try.results11 _ _ (w.heap.size + 1) (w.heap.size + 2) (w.heap.size + 3) 23 26 28 (cds 0 0 0) (bcs none 0 0 0) (flt 6 (-1)) _ _ _ rfl rfl rfl (((Row.row q1 _).rowFar (by omega) _).rowFar (by omega) _) ((Row.row (q2.rowFar (by omega) _) _).rowFar (by omega) _) (Row.row ((q3.rowFar (by omega) _).rowFar (by omega) _) _) Try.underlying23 rfl (by rw [cds_size]; exact cellsCd) Try.underlying26 rfl (by rw [bcs_size]; exact cellsB) Try.underlying28 rfl (by rw [flt_size]; exact cellsF)) rfl ⟨rfl, ?_⟩
  exact blw_row (blw_row (blw_row hba (by omega) _) (by omega) _) (by omega) _

set_option maxRecDepth 100000 in
set_option maxHeartbeats 4000000 in
theorem Put_bit (a b q bit p : Int) (h : CoderZ a b q) (hb : ¬ (bit = 0 ∨ bit = 1)) : PutBad a b q bit p 4 (-2) := by
  intro w
  have hv := vcoder_any a b q
  rw [decide_eq_true h] at hv
  have hbit := aisbit_any bit false (decide_eq_false hb).symm
  clear h hb
  go_enter Try.func11, Try.ntmps11
  go_upto_region 1 with (fail)
  refine wp_world (F := fun W => Row W w.heap.size 23 (cds a b q) ∧ Row W (w.heap.size + 1) 23 (cds 0 0 0) ∧ Row W (w.heap.size + 2) 26 (bcs none 0 0 0) ∧ Row W (w.heap.size + 3) 28 (flt 0 0) ∧ Below w.heap.size w W)
    ⟨(((Row.newEq _ _ _ _ _ rfl rfl).alloc _).alloc _).alloc _, ((Row.newEq _ _ _ _ _ (by simp) rfl).alloc _).alloc _, (Row.newEq _ _ _ _ _ (by simp) rfl).alloc _, Row.newEq _ _ _ _ _ (by simp) rfl, ((((Below.refl _ _).alloc (Nat.le_refl _) _).alloc (by simp) _).alloc (by simp; omega) _).alloc (by simp; omega) _⟩ ?_
  rintro W0 ⟨r0, r1, r2, r3, hb0⟩
  go_wp2_with (first
    | (refine wpList_load_row rfl 23 _ rfl w.heap.size rfl 23 (cds a b q) (0, 0) _ r0 Try.underlying23 rfl (by rw [cds_size]; exact cellsCd) ?_)
    | (go_at_call 37; refine (hv _).mono ?_; rintro e w1 ⟨rfl, hb1⟩; have q0 := r0.below hb1 r0.lt; have q1 := r1.below hb1 r1.lt; have q2 := r2.below hb1 r2.lt; have q3 := r3.below hb1 r3.lt; have hba := up_call hb0 hb1; clear hb1)
    | (go_at_call 38; refine (hbit _).mono ?_; rintro e w2 ⟨rfl, h2⟩; subst w2)
    | (refine wpList_store_row rfl 23 _ _ rfl (w.heap.size + 1) (cds 0 0 0) rfl rfl 23 (cds 0 0 0) q1 (by rw [cds_size]; exact cellsCd) rfl (all_one (cds_one _ _ _)) ?_)
    | (refine wpList_store_row rfl 26 _ _ rfl (w.heap.size + 2) (bcs none 0 0 0) rfl rfl 26 (bcs none 0 0 0) (q2.rowFar (by omega) _) (by rw [bcs_size]; exact cellsB) rfl (all_one (bcs_one _ _ _ _)) ?_)
    | (refine wpList_store_row rfl 28 _ _ rfl (w.heap.size + 3) (flt 4 (-2)) rfl rfl 28 (flt 0 0) ((q3.rowFar (by omega) _).rowFar (by omega) _) (by rw [flt_size]; exact cellsF) rfl (all_one (flt_one _ _)) ?_))
  refine bodyPost_ret (results_rows3 Try.results11 _ _ (w.heap.size + 1) (w.heap.size + 2) (w.heap.size + 3) 23 26 28 (cds 0 0 0) (bcs none 0 0 0) (flt 4 (-2)) _ _ _ rfl rfl rfl (((Row.row q1 _).rowFar (by omega) _).rowFar (by omega) _) ((Row.row (q2.rowFar (by omega) _) _).rowFar (by omega) _) (Row.row ((q3.rowFar (by omega) _).rowFar (by omega) _) _) Try.underlying23 rfl (by rw [cds_size]; exact cellsCd) Try.underlying26 rfl (by rw [bcs_size]; exact cellsB) Try.underlying28 rfl (by rw [flt_size]; exact cellsF)) rfl ⟨rfl, ?_⟩
  exact blw_row (blw_row (blw_row hba (by omega) _) (by omega) _) (by omega) _

set_option maxRecDepth 100000 in
set_option maxHeartbeats 4000000 in
theorem Put_prob (a b q bit p : Int) (h : CoderZ a b q) (hb : bit = 0 ∨ bit = 1) (hp : ¬ (1 ≤ p ∧ p ≤ 4095)) : PutBad a b q bit p 4 (-3) := by
  intro w
  have hv := vcoder_any a b q
  rw [decide_eq_true h] at hv
  have hbit := aisbit_any bit true (decide_eq_true hb).symm
  have hprob := aisprob_any p false (decide_eq_false hp).symm
  clear h hb hp
  go_enter Try.func11, Try.ntmps11
  go_upto_region 1 with (fail)
  refine wp_world (F := fun W => Row W w.heap.size 23 (cds a b q) ∧ Row W (w.heap.size + 1) 23 (cds 0 0 0) ∧ Row W (w.heap.size + 2) 26 (bcs none 0 0 0) ∧ Row W (w.heap.size + 3) 28 (flt 0 0) ∧ Below w.heap.size w W)
    ⟨(((Row.newEq _ _ _ _ _ rfl rfl).alloc _).alloc _).alloc _, ((Row.newEq _ _ _ _ _ (by simp) rfl).alloc _).alloc _, (Row.newEq _ _ _ _ _ (by simp) rfl).alloc _, Row.newEq _ _ _ _ _ (by simp) rfl, ((((Below.refl _ _).alloc (Nat.le_refl _) _).alloc (by simp) _).alloc (by simp; omega) _).alloc (by simp; omega) _⟩ ?_
  rintro W0 ⟨r0, r1, r2, r3, hb0⟩
  go_wp2_with (first
    | (refine wpList_load_row rfl 23 _ rfl w.heap.size rfl 23 (cds a b q) (0, 0) _ r0 Try.underlying23 rfl (by rw [cds_size]; exact cellsCd) ?_)
    | (go_at_call 37; refine (hv _).mono ?_; rintro e w1 ⟨rfl, hb1⟩; have q0 := r0.below hb1 r0.lt; have q1 := r1.below hb1 r1.lt; have q2 := r2.below hb1 r2.lt; have q3 := r3.below hb1 r3.lt; have hba := up_call hb0 hb1; clear hb1)
    | (go_at_call 38; refine (hbit _).mono ?_; rintro e w2 ⟨rfl, h2⟩; subst w2)
    | (go_at_call 39; refine (hprob _).mono ?_; rintro e w3 ⟨rfl, h3⟩; subst w3)
    | (refine wpList_store_row rfl 23 _ _ rfl (w.heap.size + 1) (cds 0 0 0) rfl rfl 23 (cds 0 0 0) q1 (by rw [cds_size]; exact cellsCd) rfl (all_one (cds_one _ _ _)) ?_)
    | (refine wpList_store_row rfl 26 _ _ rfl (w.heap.size + 2) (bcs none 0 0 0) rfl rfl 26 (bcs none 0 0 0) (q2.rowFar (by omega) _) (by rw [bcs_size]; exact cellsB) rfl (all_one (bcs_one _ _ _ _)) ?_)
    | (refine wpList_store_row rfl 28 _ _ rfl (w.heap.size + 3) (flt 4 (-3)) rfl rfl 28 (flt 0 0) ((q3.rowFar (by omega) _).rowFar (by omega) _) (by rw [flt_size]; exact cellsF) rfl (all_one (flt_one _ _)) ?_))
  refine bodyPost_ret (results_rows3 Try.results11 _ _ (w.heap.size + 1) (w.heap.size + 2) (w.heap.size + 3) 23 26 28 (cds 0 0 0) (bcs none 0 0 0) (flt 4 (-3)) _ _ _ rfl rfl rfl (((Row.row q1 _).rowFar (by omega) _).rowFar (by omega) _) ((Row.row (q2.rowFar (by omega) _) _).rowFar (by omega) _) (Row.row ((q3.rowFar (by omega) _).rowFar (by omega) _) _) Try.underlying23 rfl (by rw [cds_size]; exact cellsCd) Try.underlying26 rfl (by rw [bcs_size]; exact cellsB) Try.underlying28 rfl (by rw [flt_size]; exact cellsF)) rfl ⟨rfl, ?_⟩
  exact blw_row (blw_row (blw_row hba (by omega) _) (by omega) _) (by omega) _

set_option maxRecDepth 100000 in
set_option maxHeartbeats 4000000 in
theorem Put_large (L H P p : Nat) (b : Bool) (h : CoderZ L H P) (h1 : 1 ≤ p) (h2 : p ≤ 4095) (hl : 131056 < (sentN P (stepN L H p b).2.2).2) : PutBad L H P ((b.toNat : Nat) : Int) p 14 (-1) := by
  intro w
  have hw := h.wide
  have hP : P ≤ 131056 := by have := h.2.2; omega
  have hv := vcoder_any L H P
  rw [decide_eq_true h] at hv
  have hbit := aisbit_any ((b.toNat : Nat) : Int) true (by cases b <;> rfl)
  have hprob := aisprob_any (p : Int) true (decide_eq_true (by omega)).symm
  have hput := fun (base : Nat) (w : World) (hb : base ≤ w.heap.size) => aput_any base (.slice none 0 0) [] 0 rfl L H P p b hw h1 h2 (by omega) w (own_none _ _) hb
  have hsl := sent_length (stepN L H p b).2.2 P
  have hst := (step_ok hw h1 h2 b).2.1
  obtain ⟨fL, fH, fs, hf⟩ : ∃ fL fH fs, stepN L H p b = (fL, fH, fs) := ⟨_, _, _, rfl⟩
  rw [hf] at hput hsl hst hl
  obtain ⟨o, Q, hs⟩ : ∃ o Q, sentN P fs = (o, Q) := ⟨_, _, rfl⟩
  simp only at hput hsl hst hl
  rw [hs] at hput hsl hl
  simp only [List.nil_append] at hput hsl hl
  obtain ⟨bz, hbz⟩ : ∃ z : Int, z = ((b.toNat : Nat) : Int) := ⟨_, rfl⟩
  rw [← hbz] at hput hbit ⊢
  obtain ⟨m, hm⟩ : ∃ m, m = o.length := ⟨_, rfl⟩
  rw [← hm] at hput hsl
  have hm2 : m ≤ 131072 := by omega
  have HPUT := Lib.hid hput
  have HM := Lib.hid hm
  clear h hw hs hf hbz hput hst hsl h1 h2 hm
  have t0 : decide ((131056 : Int) < (Q : Int)) = true := decide_eq_true (by omega)
  go_enter Try.func11, Try.ntmps11
  go_upto_region 1 with (fail)
  refine wp_world (F := fun W => Row W w.heap.size 23 (cds L H P) ∧ Row W (w.heap.size + 1) 23 (cds 0 0 0) ∧ Row W (w.heap.size + 2) 26 (bcs none 0 0 0) ∧ Row W (w.heap.size + 3) 28 (flt 0 0) ∧ Below w.heap.size w W)
    ⟨(((Row.newEq _ _ _ _ _ rfl rfl).alloc _).alloc _).alloc _, ((Row.newEq _ _ _ _ _ (by simp) rfl).alloc _).alloc _, (Row.newEq _ _ _ _ _ (by simp) rfl).alloc _, Row.newEq _ _ _ _ _ (by simp) rfl, ((((Below.refl _ _).alloc (Nat.le_refl _) _).alloc (by simp) _).alloc (by simp; omega) _).alloc (by simp; omega) _⟩ ?_
  rintro W0 ⟨r0, r1, r2, r3, hb0⟩
  go_upto_region 7 with (first
    | (refine wpList_load_row rfl 23 _ rfl w.heap.size rfl 23 (cds L H P) (0, 0) _ r0 Try.underlying23 rfl (by rw [cds_size]; exact cellsCd) ?_)
    | (go_at_call 37; refine (hv _).mono ?_; rintro e w1 ⟨rfl, hb1⟩; have q0 := r0.below hb1 r0.lt; have q1 := r1.below hb1 r1.lt; have q2 := r2.below hb1 r2.lt; have q3 := r3.below hb1 r3.lt; have hba := up_call hb0 hb1; clear hb1)
    | (go_at_call 38; refine (hbit _).mono ?_; rintro e w2 ⟨rfl, h2⟩; subst w2)
    | (go_at_call 39; refine (hprob _).mono ?_; rintro e w3 ⟨rfl, h3⟩; subst w3))
  have hbs : w.heap.size + 4 ≤ w1.heap.size := q3.lt
  go_upto_region 8 with (first
    | (refine wpList_load_row rfl 23 _ rfl w.heap.size rfl 23 (cds L H P) (0, 0) _ q0 Try.underlying23 rfl (by rw [cds_size]; exact cellsCd) ?_)
    | (go_at_call 40; refine (HPUT.out (w.heap.size + 4) w1 hbs).mono ?_; rintro e w4 ⟨v, rfl, ho4, hb4, hkx⟩; have t0 := q0.below hb4 (by omega); have t1 := q1.below hb4 (by omega); have t2 := q2.below hb4 (by omega); have t3 := q3.below hb4 (by omega); have hbb := hba.trans (hb4.mono (by omega)); have hbt := Nat.le_trans hbs hb4.size; clear hb4 hkx)
    | (refine wpList_store_row rfl 23 _ _ rfl w4.heap.size (cds fL fH Q) rfl rfl 23 (cds 0 0 0) (Row.newEq _ _ _ _ _ rfl rfl) (by rw [cds_size]; exact cellsCd) rfl (all_one (cds_one _ _ _)) ?_))
  obtain ⟨A, c, hv2, _, _⟩ := own_form ho4
  subst hv2
  have hk1 := blw_new1 w4 (.cells #[.int .i64 0, .int .i64 0, .int .i64 0] 23) (cds fL fH Q)
  refine wp_world (F := fun W => Row W (w.heap.size + 1) 23 (cds 0 0 0) ∧ Row W (w.heap.size + 2) 26 (bcs none 0 0 0) ∧ Row W (w.heap.size + 3) 28 (flt 0 0) ∧ Row W w4.heap.size 23 (cds fL fH Q) ∧ Sl W w4.heap.size A m (bl (txL o)) ∧ Below w.heap.size w W)
    ⟨t1.below hk1 t1.lt, t2.below hk1 t2.lt, t3.below hk1 t3.lt, row_new1 _ _ _ _, (Sl.of_own ho4).below hk1, up_call hbb hk1⟩ ?_
  have hgn : w.heap.size + 3 < w4.heap.size := Nat.lt_of_lt_of_le (by omega) hbt
  generalize w4.heap.size = gn at hgn
  clear hk1 t0 t1 t2 t3 hbb hbt ho4 hbs q0 q1 q2 q3 hba r0 r1 r2 r3 hb0 W0 w1 w4 HPUT
  rintro W1 ⟨t1, t2, t3, t4, hS, hb⟩
  have e2 : W1.cell? ⟨gn, 2, none⟩ = some (.int .i64 Q) := (t4.cell 2).trans rfl
  go_wp2_with (first
    | (refine wpList_store_row rfl 23 _ _ rfl (w.heap.size + 1) (cds 0 0 0) rfl rfl 23 (cds 0 0 0) t1 (by rw [cds_size]; exact cellsCd) rfl (all_one (cds_one _ _ _)) ?_)
    | (refine wpList_store_row rfl 26 _ _ rfl (w.heap.size + 2) (bcs none 0 0 0) rfl rfl 26 (bcs none 0 0 0) (t2.rowFar (by omega) _) (by rw [bcs_size]; exact cellsB) rfl (all_one (bcs_one _ _ _ _)) ?_)
    | (refine wpList_store_row rfl 28 _ _ rfl (w.heap.size + 3) (flt 14 (-1)) rfl rfl 28 (flt 0 0) ((t3.rowFar (by omega) _).rowFar (by omega) _) (by rw [flt_size]; exact cellsF) rfl (all_one (flt_one _ _)) ?_))
  refine bodyPost_ret (results_rows3 Try.results11 _ _ (w.heap.size + 1) (w.heap.size + 2) (w.heap.size + 3) 23 26 28 (cds 0 0 0) (bcs none 0 0 0) (flt 14 (-1)) _ _ _ rfl rfl rfl (((Row.row t1 _).rowFar (by omega) _).rowFar (by omega) _) ((Row.row (t2.rowFar (by omega) _) _).rowFar (by omega) _) (Row.row ((t3.rowFar (by omega) _).rowFar (by omega) _) _) Try.underlying23 rfl (by rw [cds_size]; exact cellsCd) Try.underlying26 rfl (by rw [bcs_size]; exact cellsB) Try.underlying28 rfl (by rw [flt_size]; exact cellsF)) rfl ⟨rfl, ?_⟩
  exact blw_row (blw_row (blw_row hb (by omega) _) (by omega) _) (by omega) _

theorem Put_bad (a b q bit p c i : Int) (h : PutF a b q bit p c i) : PutBad a b q bit p c i := by
  cases h with
  | form h => exact Put_form _ _ _ _ _ h
  | bit h hb => exact Put_bit _ _ _ _ _ h hb
  | prob h hb hp => exact Put_prob _ _ _ _ _ h hb hp
  | large h h1 h2 hl => exact Put_large _ _ _ _ _ h h1 h2 hl
end Go.Proofs.Ytcnokjiohbifeaa

namespace Go.Proofs.Ytcnokjiohbifeaa
open Go.RowKit

theorem rowAt_set_eq {W : World} {g k : Nat} {cs : Array Value} (hg : g ≠ k) : rowAt (W.setRow k cs) g = rowAt W g := by
  unfold rowAt
  rw [setRow_other W k g cs hg]
theorem sizedCd : Sized Try.prog 23 := show (Try.prog.info? 23).map (·.size) = some (sizeT Try.prog 23) by kernel_rfl
theorem sizeTCd : sizeT Try.prog 23 = 3 := by kernel_rfl
theorem aggCd : AggT Try.prog 23 := .inl ⟨_, Try.underlying23⟩
theorem sizedB : Sized Try.prog 26 := show (Try.prog.info? 26).map (·.size) = some (sizeT Try.prog 26) by kernel_rfl
theorem sizeTB : sizeT Try.prog 26 = 2 := by kernel_rfl
theorem aggB : AggT Try.prog 26 := .inl ⟨_, Try.underlying26⟩
theorem flat_cds (a b c : Int) : Flat (.agg (cds a b c)) 3 := ⟨_, rfl, cds_size _ _ _, cds_one _ _ _⟩
theorem flat_bcs (A : Option Addr) (n c : Nat) (k : Int) : Flat (.agg (bcs A n c k)) 2 := ⟨_, rfl, bcs_size _ _ _ _, bcs_one _ _ _ _⟩
theorem flat_flt (a b : Int) : Flat (.agg (flt a b)) 2 := ⟨_, rfl, flt_size _ _, flt_one _ _⟩
attribute [local go_sem ↓] wp_store_act wp_load_flat run_load_flat wp_store_flat
attribute [local go_sem] blkOf_ptr cells_agg sizedF sizeTF aggF sizedCd sizeTCd aggCd sizedB sizeTB aggB flat_cds flat_bcs flat_flt isRow_set_eq rowAt_set_eq

set_option maxRecDepth 100000 in
set_option maxHeartbeats 4000000 in
theorem Put_ok (L H P p : Nat) (b : Bool) (h : CoderZ L H P) (h1 : 1 ≤ p) (h2 : p ≤ 4095) (hl : (sentN P (stepN L H p b).2.2).2 ≤ 131056) (w : World) :
    Calls Try.prog 11 #[.agg (cds L H P), .int .i64 ((b.toNat : Nat) : Int), .int .i64 p] w fun e w' => ∃ A c, e = .returned (.tuple #[.agg (cds ((stepN L H p b).1 : Nat) ((stepN L H p b).2.1 : Nat) ((sentN P (stepN L H p b).2.2).2 : Nat)), .agg (bcs A (pack (sentN P (stepN L H p b).2.2).1).length c (sentN P (stepN L H p b).2.2).1.length), .agg (flt 0 0)]) ∧ Sl w' w'.heap.size A (pack (sentN P (stepN L H p b).2.2).1).length (bl (pack (sentN P (stepN L H p b).2.2).1)) ∧ Below w.heap.size w w' := by
  have hw := h.wide
  have hP : P ≤ 131056 := by have := h.2.2; omega
  have hv := vcoder_any L H P
  rw [decide_eq_true h] at hv
  have hbit := aisbit_any ((b.toNat : Nat) : Int) true (by cases b <;> rfl)
  have hprob := aisprob_any (p : Int) true (decide_eq_true (by omega)).symm
  have hput := fun (base : Nat) (w : World) (hb : base ≤ w.heap.size) => aput_any base (.slice none 0 0) [] 0 rfl L H P p b hw h1 h2 (by omega) w (own_none _ _) hb
  have hsl := sent_length (stepN L H p b).2.2 P
  have hst := (step_ok hw h1 h2 b).2.1
  obtain ⟨fL, fH, fs, hf⟩ : ∃ fL fH fs, stepN L H p b = (fL, fH, fs) := ⟨_, _, _, rfl⟩
  rw [hf] at hput hsl hst hl ⊢
  obtain ⟨o, Q, hs⟩ : ∃ o Q, sentN P fs = (o, Q) := ⟨_, _, rfl⟩
  simp only at hput hsl hst hl ⊢
  rw [hs] at hput hsl hl ⊢
  simp only [List.nil_append] at hput hsl hl ⊢
  obtain ⟨bz, hbz⟩ : ∃ z : Int, z = ((b.toNat : Nat) : Int) := ⟨_, rfl⟩
  rw [← hbz] at hput hbit ⊢
  obtain ⟨m, hm⟩ : ∃ m, m = o.length := ⟨_, rfl⟩
  rw [← hm] at hput hsl
  have hm2 : m ≤ 131072 := by omega
  have HPUT := Lib.hid hput
  have HM := Lib.hid hm
  have HMK := Lib.hid (make_tx o (by rw [← hm]; omega))
  clear h hw hs hf hbz hput hst hsl h1 h2 hm
  have t0 : decide ((131056 : Int) < (Q : Int)) = false := decide_eq_false (by omega)
  go_enter Try.func11, Try.ntmps11
  go_upto_region 1 with (fail)
  refine wp_world (F := fun W => Row W w.heap.size 23 (cds L H P) ∧ Row W (w.heap.size + 1) 23 (cds 0 0 0) ∧ Row W (w.heap.size + 2) 26 (bcs none 0 0 0) ∧ Row W (w.heap.size + 3) 28 (flt 0 0) ∧ Below w.heap.size w W)
    ⟨(((Row.newEq _ _ _ _ _ rfl rfl).alloc _).alloc _).alloc _, ((Row.newEq _ _ _ _ _ (by simp) rfl).alloc _).alloc _, (Row.newEq _ _ _ _ _ (by simp) rfl).alloc _, Row.newEq _ _ _ _ _ (by simp) rfl, ((((Below.refl _ _).alloc (Nat.le_refl _) _).alloc (by simp) _).alloc (by simp; omega) _).alloc (by simp; omega) _⟩ ?_
  rintro W0 ⟨r0, r1, r2, r3, hb0⟩
  go_upto_region 7 with (first
    | (refine wpList_load_row rfl 23 _ rfl w.heap.size rfl 23 (cds L H P) (0, 0) _ r0 Try.underlying23 rfl (by rw [cds_size]; exact cellsCd) ?_)
    | (go_at_call 37; refine (hv _).mono ?_; rintro e w1 ⟨rfl, hb1⟩; have q0 := r0.below hb1 r0.lt; have q1 := r1.below hb1 r1.lt; have q2 := r2.below hb1 r2.lt; have q3 := r3.below hb1 r3.lt; have hba := up_call hb0 hb1; clear hb1)
    | (go_at_call 38; refine (hbit _).mono ?_; rintro e w2 ⟨rfl, h2⟩; subst w2)
    | (go_at_call 39; refine (hprob _).mono ?_; rintro e w3 ⟨rfl, h3⟩; subst w3))
  have hbs : w.heap.size + 4 ≤ w1.heap.size := q3.lt
  go_upto_region 8 with (first
    | (refine wpList_load_row rfl 23 _ rfl w.heap.size rfl 23 (cds L H P) (0, 0) _ q0 Try.underlying23 rfl (by rw [cds_size]; exact cellsCd) ?_)
    | (go_at_call 40; refine (HPUT.out (w.heap.size + 4) w1 hbs).mono ?_; rintro e w4 ⟨v, rfl, ho4, hb4, hkx⟩; have t0 := q0.below hb4 (by omega); have t1 := q1.below hb4 (by omega); have t2 := q2.below hb4 (by omega); have t3 := q3.below hb4 (by omega); have hbb := hba.trans (hb4.mono (by omega)); have hbt := Nat.le_trans hbs hb4.size; clear hb4 hkx)
    | (refine wpList_store_row rfl 23 _ _ rfl w4.heap.size (cds fL fH Q) rfl rfl 23 (cds 0 0 0) (Row.newEq _ _ _ _ _ rfl rfl) (by rw [cds_size]; exact cellsCd) rfl (all_one (cds_one _ _ _)) ?_))
  obtain ⟨A, c, hv2, _, _⟩ := own_form ho4
  subst hv2
  have hk1 := blw_new1 w4 (.cells #[.int .i64 0, .int .i64 0, .int .i64 0] 23) (cds fL fH Q)
  refine wp_world (F := fun W => Row W (w.heap.size + 1) 23 (cds 0 0 0) ∧ Row W (w.heap.size + 2) 26 (bcs none 0 0 0) ∧ Row W (w.heap.size + 3) 28 (flt 0 0) ∧ Row W w4.heap.size 23 (cds fL fH Q) ∧ Sl W w4.heap.size A m (bl (txL o)) ∧ Below w.heap.size w W)
    ⟨t1.below hk1 t1.lt, t2.below hk1 t2.lt, t3.below hk1 t3.lt, row_new1 _ _ _ _, (Sl.of_own ho4).below hk1, up_call hbb hk1⟩ ?_
  have hgn : w.heap.size + 3 < w4.heap.size := Nat.lt_of_lt_of_le (by omega) hbt
  generalize w4.heap.size = gn at hgn
  clear hk1 t0 t1 t2 t3 hbb hbt ho4 hbs q0 q1 q2 q3 hba r0 r1 r2 r3 hb0 W0 w1 w4 HPUT
  rintro W1 ⟨t1, t2, t3, t4, hS, hb⟩
  have e2 : W1.cell? ⟨gn, 2, none⟩ = some (.int .i64 Q) := (t4.cell 2).trans rfl
  have hcv := conv_sl (P := Try.prog) W1 24 9 5 Try.underlying24 Try.underlying5 Try.underlying9 m c hS
  go_upto_region 10 with fail
  go_upto_region 11 with (first
    | (go_at_call 41; refine (HMK.out _).mono ?_; rintro e w5 ⟨A5, c5, rfl, hs5, hb5⟩)
    | (refine wpList_store_row rfl 26 _ _ rfl w5.heap.size (bcs A5 (pack o).length c5 o.length) rfl rfl 26 (bcs none 0 0 0) ((Row.newEq _ _ _ _ _ rfl rfl).alloc _) (by rw [bcs_size]; exact cellsB) rfl (all_one (bcs_one _ _ _ _)) ?_)
    | (refine wpList_store_row rfl 28 _ _ rfl (w5.heap.size + 1) (flt 0 0) rfl rfl 28 (flt 0 0) (row_far_new2 _ _ _ _ _ _) (by rw [flt_size]; exact cellsF) rfl (all_one (flt_one _ _)) ?_))
  have hk2 := blw_new2 w5 (.cells #[.slice none 0 0, .int .i64 0] 26) (.cells #[.int .i64 0, .int .i64 0] 28) (bcs A5 (pack o).length c5 o.length) (flt 0 0)
  have hk3 := up_call hb5 hk2
  refine wp_world (F := fun W => Row W (w.heap.size + 1) 23 (cds 0 0 0) ∧ Row W (w.heap.size + 2) 26 (bcs none 0 0 0) ∧ Row W (w.heap.size + 3) 28 (flt 0 0) ∧ Row W gn 23 (cds fL fH Q) ∧ Row W w5.heap.size 26 (bcs A5 (pack o).length c5 o.length) ∧ Row W (w5.heap.size + 1) 28 (flt 0 0) ∧ Sl W W.heap.size A5 (pack o).length (bl (pack o)) ∧ Below w.heap.size w W)
    ⟨t1.below hk3 t1.lt, t2.below hk3 t2.lt, t3.below hk3 t3.lt, t4.below hk3 t4.lt, row_new2a _ _ _ _ _ _ _, row_new2b _ _ _ _ _ _ _, hs5.up hk2, up_call hb hk3⟩ ?_
  have hg5 : gn < w5.heap.size := Nat.lt_of_lt_of_le t4.lt hb5.size
  generalize w5.heap.size = g5 at hg5
  clear hk2 hk3 hs5 hb5 hS hb t1 t2 t3 t4 e2 hcv W1 w5 HMK
  rintro W2 ⟨t1, t2, t3, t4, t5, t6, hS, hb⟩
  obtain ⟨g0, hg0⟩ : ∃ g, g = w.heap.size := ⟨_, rfl⟩
  have i1 := t1.drew.is (cds_size _ _ _)
  have i2 : IsRow W2.drew (w.heap.size + 1 + 1) 2 := t2.drew.is (bcs_size _ _ _ _)
  have i3 : IsRow W2.drew (w.heap.size + 1 + 1 + 1) 2 := t3.drew.is (flt_size _ _)
  have i4 := t4.drew.is (cds_size _ _ _)
  have i5 := t5.drew.is (bcs_size _ _ _ _)
  have i6 := t6.drew.is (flt_size _ _)
  have a4 := t4.drew.at
  have a5 := t5.drew.at
  have a6 := t6.drew.at
  have n0 : ¬ gn = w.heap.size + 1 := by omega
  have n1 : ¬ gn = w.heap.size + 1 + 1 := by omega
  have n2 : ¬ gn = w.heap.size + 1 + 1 + 1 := by omega
  have n3 : ¬ g5 = w.heap.size + 1 := by omega
  have n4 : ¬ g5 = w.heap.size + 1 + 1 := by omega
  have n5 : ¬ g5 = w.heap.size + 1 + 1 + 1 := by omega
  have n6 : ¬ (g5 + 1) = w.heap.size + 1 := by omega
  have n7 : ¬ (g5 + 1) = w.heap.size + 1 + 1 := by omega
  have n8 : ¬ (g5 + 1) = w.heap.size + 1 + 1 + 1 := by omega
  have n9 : ¬ w.heap.size + 1 = w.heap.size + 1 + 1 := by omega
  have n10 : ¬ w.heap.size + 1 = w.heap.size + 1 + 1 + 1 := by omega
  have n11 : ¬ w.heap.size + 1 + 1 = w.heap.size + 1 + 1 + 1 := by omega
  have n12 : ¬ w.heap.size + 1 + 1 = w.heap.size + 1 := by omega
  have n13 : ¬ w.heap.size + 1 + 1 + 1 = w.heap.size + 1 := by omega
  have n14 : ¬ w.heap.size + 1 + 1 + 1 = w.heap.size + 1 + 1 := by omega
  have m3 : ¬ g5 = w.heap.size := by omega
  have m4 : ¬ gn = w.heap.size := by omega
  have m0 : ¬ w.heap.size + 1 + 1 = w.heap.size := by omega
  have m1 : ¬ w.heap.size + 1 = w.heap.size := by omega
  have m2 : ¬ w.heap.size + 2 = w.heap.size := by omega
  simp only [Act.put]
  go_region_law (fail)
  all_goals
    go_wp2
    refine bodyPost_ret (results_rows3 Try.results11 _ _ (w.heap.size + 1) (w.heap.size + 2) (w.heap.size + 3) 23 26 28 (cds fL fH Q) (bcs A5 (pack o).length c5 o.length) (flt 0 0) _ _ _ rfl rfl rfl (((Row.row t1.drew _).rowFar (by omega) _).rowFar (by omega) _) ((Row.row (t2.drew.rowFar (by omega) _) _).rowFar (by omega) _) (Row.row ((t3.drew.rowFar (by omega) _).rowFar (by omega) _) _) Try.underlying23 rfl (by rw [cds_size]; exact cellsCd) Try.underlying26 rfl (by rw [bcs_size]; exact cellsB) Try.underlying28 rfl (by rw [flt_size]; exact cellsF)) rfl ⟨A5, c5, rfl, ?_, ?_⟩
    · exact Sl.wider (((hS.drew.rowFar t1.drew (no_cds _ _ _) _).rowFar (t2.drew.rowFar (by omega) _) (no_bcs _ _ _ _) _).rowFar ((t3.drew.rowFar (by omega) _).rowFar (by omega) _) (no_flt _ _) _) (by simp)
    · exact blw_row (blw_row (blw_row hb.drew (by omega) _) (by omega) _) (by omega) _
end Go.Proofs.Ytcnokjiohbifeaa
