/-
  The faults of Append, Read, AppendGamma, ReadGamma and Slice as relations, and what the functions answer there.
-/
import Derived.Test.YtbahkidkpbabdaaBOpen
namespace Go.Proofs.Ytbahkidkpbabdaa
open Go.RowKit

theorem good_dec (L : List UInt8) (k : Int) : (∃ l : List Bool, k = (l.length : Int) ∧ l.length ≤ 131072 ∧ L = pack l) ∨ ¬ Good L k := by
  by_cases h : Good L k
  · obtain ⟨l, h1, h2, h3⟩ := h
    exact .inl ⟨l, h1, h2, h3.pack⟩
  · exact .inr h
theorem good_pack (l : List Bool) (hl : l.length ≤ 131072) : Good (pack l) l.length := ⟨l, rfl, hl, pack_rep l⟩

/-- the fault of Append -/
def AF (L : List UInt8) (k v m c i : Int) : Prop :=
  (¬ Good L k ∧ c = 6 ∧ i = -1) ∨ ∃ l : List Bool, k = (l.length : Int) ∧ l.length ≤ 131072 ∧ L = pack l ∧
    (((v < 0 ∨ (0 ≤ m ∧ m ≤ 32 ∧ ((2 ^ m.toNat : Nat) : Int) ≤ v)) ∧ c = 4 ∧ i = -2) ∨ (0 ≤ v ∧ (m < 0 ∨ 32 < m) ∧ c = 4 ∧ i = -3) ∨
     (0 ≤ v ∧ 0 ≤ m ∧ m ≤ 32 ∧ v < ((2 ^ m.toNat : Nat) : Int) ∧ 131072 < k + m ∧ c = 14 ∧ i = -1))
theorem AF.ne {L : List UInt8} {k v m c i : Int} (h : AF L k v m c i) : c ≠ 0 := by
  rcases h with ⟨_, rfl, _⟩ | ⟨l, _, _, _, ⟨_, rfl, _⟩ | ⟨_, _, rfl, _⟩ | ⟨_, _, _, _, _, rfl, _⟩⟩ <;> decide
theorem append_bad (L : List UInt8) (k v m c i : Int) (h : AF L k v m c i) (A : Option Addr) (cp : Nat) (w : World) (hS : Sl w w.heap.size A L.length (bl L)) :
    Calls Try.prog 19 #[.agg (bcs A L.length cp k), .int .i64 v, .int .i64 m] w fun e w' => e = .returned (.tuple #[.agg (bcs none 0 0 0), .agg (flt c i)]) ∧ Below w.heap.size w w' := by
  rcases h with ⟨hG, rfl, rfl⟩ | ⟨l, rfl, hl, rfl, h⟩
  · exact append_form L k hG v m A cp w hS
  · rcases h with ⟨hv | ⟨h0, h1, h2⟩, rfl, rfl⟩ | ⟨hv, hm, rfl, rfl⟩ | ⟨hv, h0, h1, h2, h3, rfl, rfl⟩
    · exact append_neg (pack l) l (pack_rep l) hl v m hv A cp w hS
    · obtain ⟨n, rfl⟩ : ∃ n : Nat, m = n := ⟨m.toNat, by omega⟩
      rw [Int.toNat_natCast] at h2
      exact append_great (pack l) l (pack_rep l) hl v n (Int.le_trans (Int.natCast_nonneg _) h2) (by omega) h2 A cp w hS
    · rcases hm with hm | hm
      · exact append_narrow (pack l) l (pack_rep l) hl v m hv hm A cp w hS
      · exact append_wide (pack l) l (pack_rep l) hl v m hv hm A cp w hS
    · obtain ⟨n, rfl⟩ : ∃ n : Nat, m = n := ⟨m.toNat, by omega⟩
      obtain ⟨x, rfl⟩ : ∃ x : Nat, v = x := ⟨v.toNat, by omega⟩
      rw [Int.toNat_natCast] at h2
      exact append_large (pack l) l (pack_rep l) hl x n (by omega) (Int.ofNat_lt.1 h2) (by omega) A cp w hS
/-- Append: a fault, or all is well -/
theorem af_or (L : List UInt8) (k v m : Int) : (∃ c i, AF L k v m c i) ∨ ∃ (l : List Bool) (x n : Nat), k = (l.length : Int) ∧ L = pack l ∧ v = x ∧ m = n ∧ n ≤ 32 ∧ x < 2 ^ n ∧ l.length + n ≤ 131072 := by
  rcases good_dec L k with ⟨l, h1, h2, h3⟩ | hG
  · by_cases ha : v < 0 ∨ (0 ≤ m ∧ m ≤ 32 ∧ ((2 ^ m.toNat : Nat) : Int) ≤ v)
    · exact .inl ⟨4, -2, .inr ⟨l, h1, h2, h3, .inl ⟨ha, rfl, rfl⟩⟩⟩
    · by_cases hb : m < 0 ∨ 32 < m
      · exact .inl ⟨4, -3, .inr ⟨l, h1, h2, h3, .inr (.inl ⟨by omega, hb, rfl, rfl⟩)⟩⟩
      · have hlt : v < ((2 ^ m.toNat : Nat) : Int) := by
          by_cases h : v < ((2 ^ m.toNat : Nat) : Int)
          · exact h
          · exact absurd (.inr ⟨by omega, by omega, by omega⟩) ha
        have hv0 : 0 ≤ v := by
          by_cases h : 0 ≤ v
          · exact h
          · exact absurd (.inl (by omega)) ha
        by_cases hc : 131072 < k + m
        · exact .inl ⟨14, -1, .inr ⟨l, h1, h2, h3, .inr (.inr ⟨hv0, by omega, by omega, hlt, hc, rfl, rfl⟩)⟩⟩
        · exact .inr ⟨l, v.toNat, m.toNat, h1, h3, by omega, by omega, by omega, by omega, by omega⟩
  · exact .inl ⟨6, -1, .inl ⟨hG, rfl, rfl⟩⟩
theorem append_good (l : List Bool) (x n : Nat) (hn : n ≤ 32) (hx : x < 2 ^ n) (hl : l.length + n ≤ 131072) (A : Option Addr) (cp : Nat) (w : World) (hS : Sl w w.heap.size A (pack l).length (bl (pack l))) :
    Calls Try.prog 19 #[.agg (bcs A (pack l).length cp l.length), .int .i64 x, .int .i64 n] w (BitsOut w (l ++ digB x n)) :=
  append_ok (pack l) l (pack_rep l) (by omega) x n hn hx hl A cp w hS
theorem digB_at (l : List Bool) (x n : Nat) (hx : x < 2 ^ n) : numF (fun i => (l ++ digB x n).getD (l.length + i) false) n = x := by
  rw [numF_congr (g := fun i => x.testBit (n - 1 - i)) fun i hi => ?_]
  · exact numF_digits x n hx
  · rw [List.getD_eq_getElem?_getD, List.getElem?_append_right (by omega), ← List.getD_eq_getElem?_getD, show l.length + i - l.length = i by omega, digB_getD]
    simp [hi]
/-- what was added is read -/
theorem read_back (l l2 : List Bool) (x n : Nat) (h2 : l2 = l ++ digB x n) (hn : n ≤ 32) (hx : x < 2 ^ n) (hl : l.length + n ≤ 131072) (A : Option Addr) (cp : Nat) (w : World) (hS : Sl w w.heap.size A (pack l2).length (bl (pack l2))) :
    Calls Try.prog 20 #[.agg (bcs A (pack l2).length cp l2.length), .int .i64 l.length, .int .i64 n] w fun e w' => e = .returned (.tuple #[.int .i64 x, .agg (flt 0 0)]) ∧ Below w.heap.size w w' := by
  have hln : l2.length = l.length + n := by rw [h2, List.length_append, digB_length]
  have h := read_ok (pack l2) l2 (pack_rep l2) (by omega) l.length n hn (by omega) A cp w hS
  have hd := digB_at l x n hx
  rw [← h2] at hd
  rw [hd] at h
  exact h
theorem slice_first (l l2 m : List Bool) (h2 : l2 = l ++ m) (hl : l2.length ≤ 131072) (A : Option Addr) (cp : Nat) (w : World) (hS : Sl w w.heap.size A (pack l2).length (bl (pack l2))) :
    Calls Try.prog 26 #[.agg (bcs A (pack l2).length cp l2.length), .int .i64 0, .int .i64 l.length] w (BitsOut w l) := by
  have hle : l.length ≤ l2.length := by rw [h2, List.length_append]; omega
  have h := slice_ok (pack l2) l2 (pack_rep l2) hl 0 l.length (Nat.zero_le _) hle A cp w hS
  have e : (l2.drop 0).take (l.length - 0) = l := by rw [h2]; simp
  rw [e] at h
  exact h
/-- two bit strings that are the same -/
theorem same_pack (l : List Bool) (k : Int) (A B : Option Addr) (c d : Nat) (w : World) (hL : Sl w w.heap.size A (pack l).length (bl (pack l))) (hM : Sl w w.heap.size B (pack l).length (bl (pack l))) :
    Calls Try.prog 17 #[.agg (bcs A (pack l).length c k), .agg (bcs B (pack l).length d k)] w fun e w' => e = .returned (.bool true) ∧ Below w.heap.size w w' :=
  sameb_yes (pack l) k A B _ c d w hL hM
/-- no bits are the same as no bits -/
theorem same_none (w : World) : Calls Try.prog 17 #[.agg (bcs none 0 0 0), .agg #[.slice none 0 0, .int .i64 0]] w fun e w' => e = .returned (.bool true) ∧ Below w.heap.size w w' :=
  sameb_yes [] 0 none none 0 0 0 w (by rw [bl_nil]; exact Sl.nil _ _ _) (by rw [bl_nil]; exact Sl.nil _ _ _)
end Go.Proofs.Ytbahkidkpbabdaa
