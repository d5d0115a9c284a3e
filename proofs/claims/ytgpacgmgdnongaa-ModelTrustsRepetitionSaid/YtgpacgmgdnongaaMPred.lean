/-
  The contracts of model.Predict: its faults, and the predictions.
-/
import Derived.Test.YtgpacgmgdnongaaMCi
import Derived.Lib.Walk
namespace Go.Proofs.Ytgpacgmgdnongaa
open Go.RowKit

/-- integers as cells -/
def zl (zs : List Int) : List Value := zs.map fun (z : Int) => .int .i64 z
theorem zl_length (zs : List Int) : (zl zs).length = zs.length := by simp [zl]
theorem zl_get (zs : List Int) (i : Nat) (h : i < zs.length) : (zl zs)[i]? = some (.int .i64 (zs.getD i 0)) := by
  unfold zl
  simp [List.getD_eq_getElem?_getD, h]
/-- bits as integers -/
def bz (l : List Bool) : List Int := l.map fun b => ((b.toNat : Nat) : Int)
theorem bz_length (l : List Bool) : (bz l).length = l.length := by simp [bz]
theorem bz_getD (l : List Bool) (i : Nat) : (bz l).getD i 0 = (((l.getD i false).toNat : Nat) : Int) := by
  unfold bz
  rw [List.getD_eq_getElem?_getD, List.getD_eq_getElem?_getD, List.getElem?_map]
  cases l[i]? <;> rfl
theorem zl_bz (l : List Bool) : zl (bz l) = il l := by
  unfold zl bz il
  rw [List.map_map]
  rfl
theorem zl_take (zs : List Int) (k : Nat) : (zl zs).take k = zl (zs.take k) := by unfold zl; rw [List.map_take]
attribute [irreducible] zl
theorem Sl.int {w : World} {B n : Nat} {A : Option Addr} {zs : List Int} (h : Sl w B A n (zl zs)) {k : Nat} (hk : k < n) : ∃ ad, A = some ad ∧ ad.block < B ∧ w.cell? (ad.add k) = some (.int .i64 (zs.getD k 0)) := by
  obtain ⟨ad, u, h1, h2, h3, h4⟩ := h.at_ hk
  have hn : k < zs.length := by
    have := h.1
    rw [zl_length] at this
    omega
  rw [zl_get zs k hn] at h3
  injection h3 with h3
  exact ⟨ad, h1, h2, by rw [h4, ← h3]⟩

def isB (z : Int) : Prop := z = 0 ∨ z = 1
instance (z : Int) : Decidable (isB z) := inferInstanceAs (Decidable (z = 0 ∨ z = 1))
/-- the first place that holds no bit, if there is one -/
theorem first_bad : ∀ (zs : List Int), (∃ l, zs = bz l) ∨ ∃ k, k < zs.length ∧ (∀ j, j < k → isB (zs.getD j 0)) ∧ ¬ isB (zs.getD k 0)
  | [] => .inl ⟨[], rfl⟩
  | z :: zs => by
    by_cases hz : isB z
    · rcases first_bad zs with ⟨l, rfl⟩ | ⟨k, h1, h2, h3⟩
      · left
        rcases hz with rfl | rfl
        · exact ⟨false :: l, rfl⟩
        · exact ⟨true :: l, rfl⟩
      · refine .inr ⟨k + 1, by simpa using h1, fun j hj => ?_, by simpa using h3⟩
        rcases j with _ | j
        · simpa using hz
        · simpa using h2 j (by omega)
    · exact .inr ⟨0, by simp, fun j hj => absurd hj (by omega), by simpa using hz⟩
theorem bz_isB (l : List Bool) (j : Nat) : isB ((bz l).getD j 0) := by
  rw [bz_getD]
  cases l.getD j false
  · exact .inl rfl
  · exact .inr rfl

/-- the faults of Predict -/
inductive PF (d : Int) (zs : List Int) : Int → Int → Prop
  | order (h : d < 0 ∨ 2 < d) : PF d zs 4 (-1)
  | long (h : 0 ≤ d ∧ d ≤ 2) (hl : 8192 ≤ zs.length) : PF d zs 2 (-2)
  | form (h : 0 ≤ d ∧ d ≤ 2) (hl : zs.length < 8192) (k : Nat) (hk : k < zs.length) (h1 : ∀ j, j < k → isB (zs.getD j 0)) (h2 : ¬ isB (zs.getD k 0)) : PF d zs 6 (k : Int)
theorem PF.ne {d : Int} {zs : List Int} {c i : Int} (h : PF d zs c i) : c ≠ 0 := by cases h <;> decide
theorem pf_or (d : Int) (zs : List Int) : (∃ c i, PF d zs c i) ∨ ∃ (D : Nat) (l : List Bool), d = D ∧ D ≤ 2 ∧ zs = bz l ∧ l.length < 8192 := by
  by_cases h1 : d < 0 ∨ 2 < d
  · exact .inl ⟨_, _, .order h1⟩
  · by_cases h2 : 8192 ≤ zs.length
    · exact .inl ⟨_, _, .long (by omega) h2⟩
    · rcases first_bad zs with ⟨l, rfl⟩ | ⟨k, h3, h4, h5⟩
      · exact .inr ⟨d.toNat, l, by omega, by omega, rfl, by rw [bz_length] at h2; omega⟩
      · exact .inl ⟨_, _, .form (by omega) (by omega) k h3 h4 h5⟩

/-- Predict refuses -/
def PBad (zs : List Int) (d c i : Int) : Prop := ∀ (A : Option Addr) (cp : Nat) (w : World), Sl w w.heap.size A zs.length (zl zs) →
    Calls Try.prog 8 #[.int .i64 d, .slice A zs.length cp] w fun e w' => e = .returned (.tuple #[.slice none 0 0, .agg (flt c i)]) ∧ Below w.heap.size w w'

set_option maxRecDepth 100000 in
set_option maxHeartbeats 4000000 in
theorem predict_order (zs : List Int) (d : Int) (h : d < 0 ∨ 2 < d) : PBad zs d 4 (-1) := by
  intro A cp w hS
  clear hS
  have t1 : (decide (d < 0) || decide (2 < d)) = true := by
    rcases h with h | h
    · rw [decide_eq_true h]; rfl
    · rw [decide_eq_true h, Bool.or_true]
  clear h
  go_enter Try.func8, Try.ntmps8
  by_cases h0 : d < 0
  · have t2 : decide (d < 0) = true := decide_eq_true h0
    go_wp2
    refine bodyPost_ret (results_tmp_row Try.results8 _ _ (.slice none 0 0) (w.heap.size + 1) 24 (flt 4 (-1)) _ rfl rfl (Row.newEq _ _ _ _ _ (by simp) rfl) Try.underlying24 rfl (by rw [flt_size]; exact cellsF)) rfl ⟨rfl, ((Below.refl _ _).alloc (Nat.le_refl _) _).alloc (by simp) _⟩
  · have t2 : decide (d < 0) = false := decide_eq_false h0
    have t3 : decide (2 < d) = true := by simpa [t2] using t1
    go_wp2
    refine bodyPost_ret (results_tmp_row Try.results8 _ _ (.slice none 0 0) (w.heap.size + 1) 24 (flt 4 (-1)) _ rfl rfl (Row.newEq _ _ _ _ _ (by simp) rfl) Try.underlying24 rfl (by rw [flt_size]; exact cellsF)) rfl ⟨rfl, ((Below.refl _ _).alloc (Nat.le_refl _) _).alloc (by simp) _⟩

set_option maxRecDepth 100000 in
set_option maxHeartbeats 4000000 in
theorem predict_long (zs : List Int) (d : Int) (h : 0 ≤ d ∧ d ≤ 2) (hl : 8192 ≤ zs.length) : PBad zs d 2 (-2) := by
  intro A cp w hS
  clear hS
  obtain ⟨h1, h2⟩ := h
  have t2 : decide (d < 0) = false := decide_eq_false (by omega)
  have t3 : decide (2 < d) = false := decide_eq_false (by omega)
  have t4 : decide ((8192 : Int) ≤ (zs.length : Int)) = true := decide_eq_true (by omega)
  go_enter Try.func8, Try.ntmps8
  go_wp2
  refine bodyPost_ret (results_tmp_row Try.results8 _ _ (.slice none 0 0) (w.heap.size + 1) 24 (flt 2 (-2)) _ rfl rfl (Row.newEq _ _ _ _ _ (by simp) rfl) Try.underlying24 rfl (by rw [flt_size]; exact cellsF)) rfl ⟨rfl, ((Below.refl _ _).alloc (Nat.le_refl _) _).alloc (by simp) _⟩

set_option maxRecDepth 100000 in
set_option maxHeartbeats 4000000 in
theorem predict_form (zs : List Int) (d : Int) (h : 0 ≤ d ∧ d ≤ 2) (hl : zs.length < 8192) (k : Nat) (hk : k < zs.length) (h1 : ∀ j, j < k → isB (zs.getD j 0)) (h2 : ¬ isB (zs.getD k 0)) : PBad zs d 6 (k : Int) := by
  intro A cp w hS
  obtain ⟨h3, h4⟩ := h
  have t2 : decide (d < 0) = false := decide_eq_false (by omega)
  have t3 : decide (2 < d) = false := decide_eq_false (by omega)
  have t4 : decide ((8192 : Int) ≤ (zs.length : Int)) = false := decide_eq_false (by omega)
  have H1 := Lib.hid h1
  have H2 := Lib.hid h2
  clear h1 h2
  go_enter Try.func8, Try.ntmps8
  go_upto_region 6 with fail
  refine wp_world (F := fun W => Row W (w.heap.size + 1) 24 (flt 0 0) ∧ Sl W W.heap.size A zs.length (zl zs) ∧ Below w.heap.size w W) ⟨Row.newEq _ _ _ _ _ (by simp) rfl, hS.up (((Below.refl _ _).alloc (Nat.le_refl _) _).alloc (by simp) _), ((Below.refl _ _).alloc (Nat.le_refl _) _).alloc (by simp) _⟩ ?_
  clear hS
  rintro W0 ⟨r0, hS, hb⟩
  go_loop [25] (fun i => ∃ j : Nat, j ≤ k ∧ i = .int .i64 j) (fun i => k - (intOf i).toNat)
  case atStart => exact ⟨0, Nat.zero_le _, rfl⟩
  case round =>
    obtain ⟨j, hj, rfl⟩ := hrel
    obtain ⟨ad, rfl, hbk, hcell⟩ := hS.int (show j < zs.length by omega)
    by_cases hlt : j < k
    · have hb1 := isbit_any (zs.getD j 0) true (by have h := H1.out j hlt; unfold isB at h; rw [decide_eq_true h])
      obtain ⟨z, hz⟩ : ∃ z, z = zs.getD j 0 := ⟨_, rfl⟩
      rw [← hz] at hcell hb1
      clear hz
      go_wp2_with (first
        | (go_at_call 18; refine (hb1 _).mono ?_; rintro e w31 ⟨rfl, h31⟩; subst w31))
      go_round
      case rel => exact ⟨j + 1, by omega, by go_num⟩
      case measure => simp [intOf]; omega
    · obtain rfl : j = k := by omega
      have hb1 := isbit_any (zs.getD j 0) false (by have h := H2.out; unfold isB at h; rw [decide_eq_false h])
      obtain ⟨z, hz⟩ : ∃ z, z = zs.getD j 0 := ⟨_, rfl⟩
      rw [← hz] at hcell hb1
      clear hz
      go_wp2_with (first
        | (go_at_call 18; refine (hb1 _).mono ?_; rintro e w31 ⟨rfl, h31⟩; subst w31)
        | (refine wpList_store_row rfl 24 _ _ rfl (w.heap.size + 1) (flt 6 j) rfl rfl 24 (flt 0 0) r0 (by rw [flt_size]; exact cellsF) rfl (all_one (flt_one _ _)) ?_))
      refine bodyPost_ret (results_tmp_row Try.results8 _ _ (.slice none 0 0) (w.heap.size + 1) 24 (flt 6 j) _ rfl rfl (Row.row r0 _) Try.underlying24 rfl (by rw [flt_size]; exact cellsF)) rfl ⟨rfl, blw_row hb (by omega) _⟩
/-- Predict refuses what is at fault -/
theorem predict_bad (d : Int) (zs : List Int) (c i : Int) (h : PF d zs c i) : PBad zs d c i := by
  cases h with
  | order h => exact predict_order zs d h
  | long h hl => exact predict_long zs d h hl
  | form h hl k hk h1 h2 => exact predict_form zs d h hl k hk h1 h2
end Go.Proofs.Ytgpacgmgdnongaa
