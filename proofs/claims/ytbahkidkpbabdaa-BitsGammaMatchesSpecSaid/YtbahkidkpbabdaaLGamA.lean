/-
  What the walks of BitsGammaMatchesSpec need: the reference's gamma code as a slice, ReadGamma and GammaAt together.
-/
import Derived.Test.YtbahkidkpbabdaaLNumA
import Derived.Test.YtbahkidkpbabdaaRGam
namespace Go.Proofs.Ytbahkidkpbabdaa.lawGam
open Go.RowKit

theorem eq_same (c i : Int) (w : World) : (binOp .eql 26 (.agg (flt c i)) (.agg (flt c i))).run Try.prog w = .ok (.bool true) w := by
  rw [eql_flt]
  simp
theorem gammaSize_zero (n : Int) (hn : -9223372036854775808 ≤ n ∧ n ≤ 9223372036854775807) (h : n < 1) (w : World) :
    Calls Try.prog 29 #[.int .i64 n] w fun e w' => e = .returned (.int .i64 0) ∧ w = w' := by
  have := gammaSize_is n hn 0 (gsz_low n h).symm w
  exact this
theorem gammaSize_pos (v s : Nat) (hv : v ≤ 9223372036854775807) (hs : s = gsz v) (w : World) :
    Calls Try.prog 29 #[.int .i64 v] w fun e w' => e = .returned (.int .i64 s) ∧ w = w' :=
  gammaSize_is v (by omega) s hs w
theorem gsz_le (v : Nat) (h1 : 1 ≤ v) (hv : v ≤ 9223372036854775807) : gsz v ≤ 130 := by
  have h := log2_lt v 63 h1 (by omega)
  rw [gsz_nat v h1]
  omega
theorem rgamma_is (v s : Nat) (h1 : 1 ≤ v) (hv : v ≤ 9223372036854775807) (hs : s = gsz v) (w : World) :
    Calls Try.prog 30 #[.int .i64 v] w fun e w' => ∃ A c, e = .returned (.slice A s c) ∧ s ≤ c ∧ Sl w' w'.heap.size A s (il (digB v s)) ∧ Below w.heap.size w w' := by
  have hz : s = Nat.log2 v + (Nat.log2 v + 1) := by rw [hs, gsz_nat v h1]; omega
  refine (rgamma_any v (Nat.log2 v) h1 hv rfl w).mono ?_
  rintro e w' ⟨u, rfl, ho, hb⟩
  rw [← hz] at ho
  obtain ⟨A, c, rfl, h2, h3⟩ := own_form ho
  exact ⟨A, c, rfl, h2, Sl.of_own ho, hb⟩
/-- what ReadGamma and GammaAt answer at a position inside -/
def GR (l : List Bool) (y : Nat) (x n z j : Int) : Prop := ∃ k, Zr l y 31 k ∧
  ((k = 31 ∧ x = 0 ∧ n = 0 ∧ z = 16 ∧ j = -2) ∨ (k < 31 ∧ l.length < y + 2 * k + 1 ∧ x = 0 ∧ n = 0 ∧ z = 15 ∧ j = -2) ∨
   (k < 31 ∧ y + 2 * k + 1 ≤ l.length ∧ x = ((numF (fun i => l.getD (y + k + i) false) (k + 1) : Nat) : Int) ∧ n = ((y + 2 * k + 1 : Nat) : Int) ∧ z = 0 ∧ j = 0))
theorem gr_ex (l : List Bool) (y : Nat) (hy : y ≤ l.length) : (∃ z, z ≠ 0 ∧ GR l y 0 0 z (-2)) ∨ ∃ x n, GR l y x n 0 0 := by
  obtain ⟨k, hk⟩ := zr_ex l y hy 31
  have hle : k ≤ 31 := hk.1
  by_cases h1 : k = 31
  · exact .inl ⟨16, by decide, k, hk, .inl ⟨h1, rfl, rfl, rfl, rfl⟩⟩
  · by_cases h2 : y + 2 * k + 1 ≤ l.length
    · exact .inr ⟨_, _, k, hk, .inr (.inr ⟨by omega, h2, rfl, rfl, rfl, rfl⟩)⟩
    · exact .inl ⟨15, by decide, k, hk, .inr (.inl ⟨by omega, by omega, rfl, rfl, rfl, rfl⟩)⟩
theorem readg_gr (l : List Bool) (hl : l.length ≤ 131072) (y : Nat) (hy : y ≤ l.length) (x n z j : Int) (h : GR l y x n z j) (A : Option Addr) (c : Nat) (w : World) (hS : Sl w w.heap.size A (pack l).length (bl (pack l))) :
    Calls Try.prog 28 #[.agg (bcs A (pack l).length c l.length), .int .i64 y] w fun e w' => e = .returned (.tuple #[.int .i64 x, .int .i64 n, .agg (flt z j)]) ∧ Below w.heap.size w w' := by
  obtain ⟨k, hk, ⟨h1, rfl, rfl, rfl, rfl⟩ | ⟨h1, h2, rfl, rfl, rfl, rfl⟩ | ⟨h1, h2, rfl, rfl, rfl, rfl⟩⟩ := h
  · exact readg_corrupt (pack l) l (pack_rep l) hl y k hy hk h1 A c w hS
  · exact readg_short (pack l) l (pack_rep l) hl y k hy hk h1 h2 A c w hS
  · exact readg_ok (pack l) l (pack_rep l) hl y k hy hk h1 h2 A c w hS
theorem readg_out (l : List Bool) (hl : l.length ≤ 131072) (f : Int) (hf : f < 0 ∨ (l.length : Int) < f) (A : Option Addr) (c : Nat) (w : World) (hS : Sl w w.heap.size A (pack l).length (bl (pack l))) :
    Calls Try.prog 28 #[.agg (bcs A (pack l).length c l.length), .int .i64 f] w fun e w' => e = .returned (.tuple #[.int .i64 0, .int .i64 0, .agg (flt 4 (-2))]) ∧ Below w.heap.size w w' := by
  rcases hf with hf | hf
  · exact readg_neg (pack l) l (pack_rep l) hl f hf A c w hS
  · exact readg_far (pack l) l (pack_rep l) hl f hf A c w hS
theorem rgat_gr (l : List Bool) (hl : l.length ≤ 131072) (y : Nat) (hy : y ≤ l.length) (x n z j : Int) (h : GR l y x n z j) (A : Option Addr) (c : Nat) (hc : l.length ≤ c) (w : World) (hS : Sl w w.heap.size A l.length (il l)) :
    Calls Try.prog 32 #[.slice A l.length c, .int .i64 y] w fun e w' => e = .returned (.tuple #[.int .i64 x, .int .i64 n, .int .i64 z]) ∧ w = w' := by
  obtain ⟨k, hk, h⟩ := h
  refine (rgat_any l hl y k hy hk A c l.length rfl hc w hS).mono ?_
  rintro e w' ⟨x', n', z', rfl, ⟨g1, g2, g3⟩, rfl⟩
  rcases h with ⟨h1, rfl, rfl, rfl, rfl⟩ | ⟨h1, h2, rfl, rfl, rfl, rfl⟩ | ⟨h1, h2, rfl, rfl, rfl, rfl⟩
  · obtain ⟨rfl, rfl, rfl⟩ := g1 h1
    exact ⟨rfl, rfl⟩
  · obtain ⟨rfl, rfl, rfl⟩ := g2 h1 h2
    exact ⟨rfl, rfl⟩
  · obtain ⟨rfl, rfl, rfl⟩ := g3 h1 h2
    exact ⟨rfl, rfl⟩
end Go.Proofs.Ytbahkidkpbabdaa.lawGam
