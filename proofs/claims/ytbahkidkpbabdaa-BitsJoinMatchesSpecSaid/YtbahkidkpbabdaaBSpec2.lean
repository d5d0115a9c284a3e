/-
  The faults of AppendGamma as a relation; what was added in gamma code is read again.
-/
import Derived.Test.YtbahkidkpbabdaaBTwo
namespace Go.Proofs.Ytbahkidkpbabdaa
open Go.RowKit

/-- the fault of AppendGamma -/
def GF (L : List UInt8) (k n c i : Int) : Prop :=
  (¬ Good L k ∧ c = 6 ∧ i = -1) ∨ ∃ l : List Bool, k = (l.length : Int) ∧ l.length ≤ 131072 ∧ L = pack l ∧
    (((n < 1 ∨ 2147483647 < n) ∧ c = 4 ∧ i = -2) ∨ (1 ≤ n ∧ n ≤ 2147483647 ∧ 131072 < l.length + gsz n ∧ c = 14 ∧ i = -1))
theorem GF.ne {L : List UInt8} {k n c i : Int} (h : GF L k n c i) : c ≠ 0 := by
  rcases h with ⟨_, rfl, _⟩ | ⟨l, _, _, _, ⟨_, rfl, _⟩ | ⟨_, _, _, rfl, _⟩⟩ <;> decide
theorem gamma_bad (L : List UInt8) (k n c i : Int) (h : GF L k n c i) (hn : -9223372036854775808 ≤ n ∧ n ≤ 9223372036854775807) (A : Option Addr) (cp : Nat) (w : World) (hS : Sl w w.heap.size A L.length (bl L)) :
    Calls Try.prog 27 #[.agg (bcs A L.length cp k), .int .i64 n] w fun e w' => e = .returned (.tuple #[.agg (bcs none 0 0 0), .agg (flt c i)]) ∧ Below w.heap.size w w' := by
  rcases h with ⟨hG, rfl, rfl⟩ | ⟨l, rfl, hl, rfl, h⟩
  · exact gamma_form L k hG n hn A cp w hS
  · rcases h with ⟨h1 | h1, rfl, rfl⟩ | ⟨h1, h2, h3, rfl, rfl⟩
    · exact gamma_low (pack l) l (pack_rep l) hl n hn h1 A cp w hS
    · exact gamma_great (pack l) l (pack_rep l) hl n hn h1 A cp w hS
    · exact gamma_large (pack l) l (pack_rep l) hl n hn h1 h2 h3 A cp w hS
theorem gf_or (L : List UInt8) (k n : Int) : (∃ c i, GF L k n c i) ∨ ∃ (l : List Bool) (v s : Nat), k = (l.length : Int) ∧ L = pack l ∧ n = v ∧ s = gsz v ∧ 1 ≤ v ∧ v ≤ 2147483647 ∧ l.length + s ≤ 131072 := by
  rcases good_dec L k with ⟨l, h1, h2, h3⟩ | hG
  · by_cases ha : n < 1 ∨ 2147483647 < n
    · exact .inl ⟨4, -2, .inr ⟨l, h1, h2, h3, .inl ⟨ha, rfl, rfl⟩⟩⟩
    · by_cases hc : 131072 < l.length + gsz n
      · exact .inl ⟨14, -1, .inr ⟨l, h1, h2, h3, .inr ⟨by omega, by omega, hc, rfl, rfl⟩⟩⟩
      · have hv : n = ((n.toNat : Nat) : Int) := by omega
        exact .inr ⟨l, n.toNat, gsz n, h1, h3, hv, by rw [← hv], by omega, by omega, by omega⟩
  · exact .inl ⟨6, -1, .inl ⟨hG, rfl, rfl⟩⟩
theorem gamma_good (l : List Bool) (v s : Nat) (hs : s = gsz v) (h1 : 1 ≤ v) (h2 : v ≤ 2147483647) (hl : l.length + s ≤ 131072) (A : Option Addr) (cp : Nat) (w : World) (hS : Sl w w.heap.size A (pack l).length (bl (pack l))) :
    Calls Try.prog 27 #[.agg (bcs A (pack l).length cp l.length), .int .i64 v] w (BitsOut w (l ++ digB v s)) :=
  gamma_ok (pack l) l (pack_rep l) (by omega) v h1 h2 s hs hl A cp w hS
theorem log2_bit (x : Nat) (h1 : 1 ≤ x) : x.testBit (Nat.log2 x) = true := by
  have h2 := Nat.log2_self_le (n := x) (by omega)
  have h3 := Nat.lt_log2_self (n := x)
  have h4 : x / 2 ^ Nat.log2 x = 1 := by
    have hp : 0 < 2 ^ Nat.log2 x := Nat.two_pow_pos _
    have a : 1 ≤ x / 2 ^ Nat.log2 x := (Nat.le_div_iff_mul_le hp).2 (by omega)
    have b : x / 2 ^ Nat.log2 x < 2 := (Nat.div_lt_iff_lt_mul hp).2 (by rw [Nat.pow_succ] at h3; omega)
    omega
  rw [Nat.testBit_eq_decide_div_mod_eq, h4]
  rfl
/-- the bits of a gamma code in their place -/
theorem gam_get (l m : List Bool) (v s i : Nat) (hi : i < s) : (l ++ digB v s ++ m).getD (l.length + i) false = v.testBit (s - 1 - i) := by
  rw [List.append_assoc, List.getD_eq_getElem?_getD, List.getElem?_append_right (by omega), show l.length + i - l.length = i by omega, List.getElem?_append_left (by rw [digB_length]; exact hi), ← List.getD_eq_getElem?_getD, digB_getD]
  simp [hi]
theorem gam_zr (l m : List Bool) (v s : Nat) (hs : s = gsz v) (h1 : 1 ≤ v) (h2 : v ≤ 2147483647) : Zr (l ++ digB v s ++ m) l.length 31 (Nat.log2 v) := by
  rw [gsz_nat v h1] at hs
  have h31 := log2_lt v 31 h1 (by omega)
  have hln : (l ++ digB v s ++ m).length = l.length + s + m.length := by simp [digB_length]; omega
  refine ⟨by omega, by omega, fun i hi => ?_, .inr (.inr ?_)⟩
  · rw [gam_get l m v s i (by omega)]
    exact Nat.testBit_lt_two_pow (Nat.lt_of_lt_of_le Nat.lt_log2_self (Nat.pow_le_pow_right (by omega) (by omega)))
  · rw [gam_get l m v s _ (by omega), show s - 1 - Nat.log2 v = Nat.log2 v by omega]
    exact log2_bit v h1
theorem gam_val (l m : List Bool) (v s : Nat) (hs : s = gsz v) (h1 : 1 ≤ v) : numF (fun i => (l ++ digB v s ++ m).getD (l.length + Nat.log2 v + i) false) (Nat.log2 v + 1) = v := by
  rw [gsz_nat v h1] at hs
  rw [numF_congr (g := fun i => v.testBit (Nat.log2 v + 1 - 1 - i)) fun i hi => ?_]
  · exact numF_digits v _ Nat.lt_log2_self
  · rw [Nat.add_assoc, gam_get l m v s _ (by omega), show s - 1 - (Nat.log2 v + i) = Nat.log2 v + 1 - 1 - i by omega]
/-- what was added in gamma code is read at its place -/
theorem readg_back (l m l3 : List Bool) (v s : Nat) (h3 : l3 = l ++ digB v s ++ m) (hs : s = gsz v) (h1 : 1 ≤ v) (h2 : v ≤ 2147483647) (hl : l3.length ≤ 131072) (A : Option Addr) (cp : Nat) (w : World) (hS : Sl w w.heap.size A (pack l3).length (bl (pack l3))) :
    Calls Try.prog 28 #[.agg (bcs A (pack l3).length cp l3.length), .int .i64 l.length] w fun e w' => e = .returned (.tuple #[.int .i64 v, .int .i64 ((l.length + s : Nat) : Int), .agg (flt 0 0)]) ∧ Below w.heap.size w w' := by
  have hln : l3.length = l.length + s + m.length := by rw [h3]; simp [digB_length]; omega
  have hz := gam_zr l m v s hs h1 h2
  have hv := gam_val l m v s hs h1
  rw [← h3] at hz hv
  have hg := hs
  rw [gsz_nat v h1] at hg
  have h31 := log2_lt v 31 h1 (by omega)
  have h := readg_ok (pack l3) l3 (pack_rep l3) hl l.length (Nat.log2 v) (by omega) hz h31 (by omega) A cp w hS
  rw [hv, show l.length + 2 * Nat.log2 v + 1 = l.length + s by omega] at h
  exact h
end Go.Proofs.Ytbahkidkpbabdaa
