/-
  Plain arithmetic of bits: the bits of bytes, the number of some bits, and when bytes stand for a list of bits. Helper text: it proves nothing of the program by itself.
-/
import Derived.WalkKit
namespace Go.Proofs.Ytcmbpniikcghfaa
open Go.RowKit

/-- the number of w bits, the first one the most significant -/
def numF (f : Nat → Bool) : Nat → Nat
  | 0 => 0
  | w + 1 => 2 * numF f w + (f w).toNat
theorem numF_zero (f : Nat → Bool) : numF f 0 = 0 := rfl
theorem numF_succ (f : Nat → Bool) (w : Nat) : numF f (w + 1) = 2 * numF f w + (f w).toNat := rfl
theorem numF_congr {f g : Nat → Bool} : ∀ {w : Nat}, (∀ i, i < w → f i = g i) → numF f w = numF g w
  | 0, _ => rfl
  | w + 1, h => by rw [numF_succ, numF_succ, h w (by omega), numF_congr (w := w) fun i hi => h i (by omega)]
theorem bool_lt (b : Bool) : b.toNat < 2 := by cases b <;> decide
theorem numF_lt (f : Nat → Bool) : ∀ w, numF f w < 2 ^ w
  | 0 => Nat.one_pos
  | w + 1 => by
    rw [numF_succ, Nat.pow_succ]
    have := numF_lt f w
    have := bool_lt (f w)
    omega
theorem testBit_step (n : Nat) (b : Bool) (i : Nat) : (2 * n + b.toNat).testBit i = if i = 0 then b else n.testBit (i - 1) := by
  cases i with
  | zero =>
    rw [if_pos rfl, Nat.testBit_zero]
    cases b
    · exact decide_eq_false (by simp only [Bool.toNat_false]; omega)
    · exact decide_eq_true (by simp only [Bool.toNat_true]; omega)
  | succ i =>
    rw [if_neg (by omega), Nat.testBit_succ]
    congr 1
    have := bool_lt b
    omega
theorem numF_testBit (f : Nat → Bool) : ∀ w i, (numF f w).testBit i = (decide (i < w) && f (w - 1 - i))
  | 0, i => by simp [numF]
  | w + 1, i => by
    rw [numF_succ, testBit_step]
    by_cases h : i = 0
    · subst h
      simp
    · rw [if_neg h, numF_testBit f w (i - 1)]
      have e : w - 1 - (i - 1) = w + 1 - 1 - i := by omega
      rw [e]
      congr 1
      exact decide_eq_decide.2 (by omega)
theorem numF_digits (v w : Nat) (h : v < 2 ^ w) : numF (fun i => v.testBit (w - 1 - i)) w = v := by
  apply Nat.eq_of_testBit_eq
  intro i
  rw [numF_testBit]
  by_cases hi : i < w
  · rw [show w - 1 - (w - 1 - i) = i by omega]
    simp [hi]
  · have hv : v < 2 ^ i := Nat.lt_of_lt_of_le h (Nat.pow_le_pow_right (by omega) (by omega))
    rw [Nat.testBit_lt_two_pow hv]
    simp [hi]
/-- the first bits of a number -/
theorem numF_part (v w k : Nat) (h : v < 2 ^ w) (hk : k ≤ w) : numF (fun i => v.testBit (w - 1 - i)) k = v / 2 ^ (w - k) := by
  apply Nat.eq_of_testBit_eq
  intro i
  rw [numF_testBit, Nat.testBit_div_two_pow]
  by_cases hi : i < k
  · rw [show w - 1 - (k - 1 - i) = i + (w - k) by omega]
    simp [hi]
  · have hv : v < 2 ^ (i + (w - k)) := Nat.lt_of_lt_of_le h (Nat.pow_le_pow_right (by omega) (by omega))
    rw [Nat.testBit_lt_two_pow hv]
    simp [hi]

/-- the bit at a place of bytes -/
def bt (L : List UInt8) (i : Nat) : Bool := (L.getD (i / 8) 0).toNat.testBit (7 - i % 8)
theorem bt_eq (L : List UInt8) (i : Nat) : bt L i = (L.getD (i / 8) 0).toNat.testBit (7 - i % 8) := rfl
theorem bt_out (L : List UInt8) (i : Nat) (h : 8 * L.length ≤ i) : bt L i = false := by
  unfold bt
  rw [List.getD_eq_getElem?_getD, List.getElem?_eq_none (by omega)]
  simp
theorem bt_nil (i : Nat) : bt [] i = false := bt_out _ _ (by simp)
theorem bt_append (L M : List UInt8) (i : Nat) : bt (L ++ M) i = if i < 8 * L.length then bt L i else bt M (i - 8 * L.length) := by
  unfold bt
  by_cases h : i < 8 * L.length
  · rw [if_pos h, List.getD_eq_getElem?_getD, List.getD_eq_getElem?_getD, List.getElem?_append_left (by omega)]
  · rw [if_neg h, List.getD_eq_getElem?_getD, List.getD_eq_getElem?_getD, List.getElem?_append_right (by omega)]
    rw [show i / 8 - L.length = (i - 8 * L.length) / 8 by omega, show (i - 8 * L.length) % 8 = i % 8 by omega]
theorem bt_zeros (n i : Nat) : bt (List.replicate n 0) i = false := by
  unfold bt
  rw [List.getD_eq_getElem?_getD, List.getElem?_replicate]
  split <;> simp
theorem bt_more (L : List UInt8) (n i : Nat) : bt (L ++ List.replicate n 0) i = bt L i := by
  rw [bt_append, bt_zeros]
  split
  · rfl
  · exact (bt_out L i (by omega)).symm
theorem bt_set (L : List UInt8) (j : Nat) (x : UInt8) (hj : j < L.length) (i : Nat) : bt (L.set j x) i = if i / 8 = j then x.toNat.testBit (7 - i % 8) else bt L i := by
  unfold bt
  rw [List.getD_eq_getElem?_getD, List.getElem?_set]
  by_cases h : j = i / 8
  · subst h
    simp [hj]
  · rw [if_neg h, if_neg (fun e => h e.symm), ← List.getD_eq_getElem?_getD]
theorem byte_bits {x y : UInt8} (h : ∀ k, k < 8 → x.toNat.testBit k = y.toNat.testBit k) : x = y := by
  apply UInt8.toNat_inj.1
  apply Nat.eq_of_testBit_eq
  intro k
  by_cases hk : k < 8
  · exact h k hk
  · have hx := x.toNat_lt
    have hy := y.toNat_lt
    have hp : 2 ^ 8 ≤ 2 ^ k := Nat.pow_le_pow_right (by omega) (by omega)
    rw [Nat.testBit_lt_two_pow (by omega), Nat.testBit_lt_two_pow (by omega)]
theorem bt_ext {L M : List UInt8} (hl : L.length = M.length) (h : ∀ i, i < 8 * L.length → bt L i = bt M i) : L = M := by
  apply List.ext_getElem hl
  intro j h1 h2
  apply byte_bits
  intro k hk
  have := h (8 * j + (7 - k)) (by omega)
  unfold bt at this
  rw [show (8 * j + (7 - k)) / 8 = j by omega, show 7 - (8 * j + (7 - k)) % 8 = k by omega] at this
  simpa [List.getD_eq_getElem?_getD, h1, h2] using this

/-- bytes stand for a list of bits -/
def Rep (L : List UInt8) (l : List Bool) : Prop := L.length = (l.length + 7) / 8 ∧ ∀ i, bt L i = l.getD i false
theorem Rep.ext {L M : List UInt8} {l : List Bool} (h : Rep L l) (k : Rep M l) : L = M := bt_ext (by rw [h.1, k.1]) fun i _ => by rw [h.2, k.2]
theorem Rep.inj {L : List UInt8} {l m : List Bool} (h : Rep L l) (k : Rep L m) (hl : l.length = m.length) : l = m := by
  apply List.ext_getElem hl
  intro i h1 h2
  have := (h.2 i).symm.trans (k.2 i)
  simpa [List.getD_eq_getElem?_getD, h1, h2] using this
theorem Rep.len {L : List UInt8} {l : List Bool} (h : Rep L l) : L.length = (l.length + 7) / 8 := h.1
theorem Rep.nil : Rep [] [] := ⟨rfl, fun i => by rw [bt_nil]; rfl⟩
/-- the bits of bytes from f on -/
def cutB (L : List UInt8) (f w : Nat) : List Bool := (List.range w).map fun i => bt L (f + i)
theorem cutB_length (L : List UInt8) (f w : Nat) : (cutB L f w).length = w := by simp [cutB]
theorem cutB_getD (L : List UInt8) (f w i : Nat) : (cutB L f w).getD i false = (decide (i < w) && bt L (f + i)) := by
  unfold cutB
  by_cases h : i < w <;> simp [List.getD_eq_getElem?_getD, h]
/-- bytes whose last bits are zeros stand for their first bits -/
theorem rep_of (L : List UInt8) (n : Nat) (hl : L.length = (n + 7) / 8) (hz : ∀ i, n ≤ i → bt L i = false) : Rep L (cutB L 0 n) := by
  refine ⟨by rw [cutB_length]; exact hl, fun i => ?_⟩
  rw [cutB_getD, Nat.zero_add]
  by_cases h : i < n
  · simp [h]
  · rw [hz i (by omega)]
    simp
/-- the bytes of a list of bits -/
def pack (l : List Bool) : List UInt8 := (List.range ((l.length + 7) / 8)).map fun j => UInt8.ofNat (numF (fun k => l.getD (8 * j + k) false) 8)
theorem pack_length (l : List Bool) : (pack l).length = (l.length + 7) / 8 := by simp [pack]
theorem pack_getD (l : List Bool) (j : Nat) (h : j < (l.length + 7) / 8) : (pack l).getD j 0 = UInt8.ofNat (numF (fun k => l.getD (8 * j + k) false) 8) := by
  unfold pack
  simp [List.getD_eq_getElem?_getD, h]
theorem byte_num (f : Nat → Bool) : (UInt8.ofNat (numF f 8)).toNat = numF f 8 := by
  have := numF_lt f 8
  rw [UInt8.toNat_ofNat']
  omega
theorem pack_rep (l : List Bool) : Rep (pack l) l := by
  refine ⟨pack_length l, fun i => ?_⟩
  by_cases h : i / 8 < (l.length + 7) / 8
  · rw [bt_eq, pack_getD l _ h, byte_num, numF_testBit]
    rw [show 8 * (i / 8) + (8 - 1 - (7 - i % 8)) = i by omega]
    simp
    omega
  · rw [bt_out _ _ (by rw [pack_length]; omega), List.getD_eq_getElem?_getD, List.getElem?_eq_none (by omega)]
    rfl
theorem Rep.pack {L : List UInt8} {l : List Bool} (h : Rep L l) : L = Go.Proofs.Ytcmbpniikcghfaa.pack l := h.ext (pack_rep l)
attribute [irreducible] pack
/-- the bits of a number in a width -/
def digB (v w : Nat) : List Bool := (List.range w).map fun i => v.testBit (w - 1 - i)
theorem digB_length (v w : Nat) : (digB v w).length = w := by simp [digB]
theorem digB_getD (v w i : Nat) : (digB v w).getD i false = (decide (i < w) && v.testBit (w - 1 - i)) := by
  unfold digB
  by_cases h : i < w <;> simp [List.getD_eq_getElem?_getD, h]
/-- the number of bits -/
def valB (l : List Bool) : Nat := numF (fun i => l.getD i false) l.length
theorem valB_digB (v w : Nat) (h : v < 2 ^ w) : valB (digB v w) = v := by
  unfold valB
  rw [digB_length, numF_congr (g := fun i => v.testBit (w - 1 - i)) fun i hi => by rw [digB_getD]; simp [hi]]
  exact numF_digits v w h
theorem valB_lt (l : List Bool) : valB l < 2 ^ l.length := numF_lt _ _
theorem digB_valB (l : List Bool) : digB (valB l) l.length = l := by
  apply List.ext_getElem (digB_length _ _)
  intro i h1 h2
  have h := digB_getD (valB l) l.length i
  have hi : i < l.length := h2
  rw [show (valB l).testBit (l.length - 1 - i) = _ from numF_testBit _ _ _] at h
  rw [show l.length - 1 - (l.length - 1 - i) = i by omega] at h
  simp only [hi, show l.length - 1 - i < l.length by omega, decide_true, Bool.true_and] at h
  rw [List.getD_eq_getElem?_getD, List.getElem?_eq_getElem h1, List.getD_eq_getElem?_getD, List.getElem?_eq_getElem h2] at h
  exact h
/-- a byte with a bit more -/
def orBit (x : UInt8) (p : Nat) (b : Bool) : UInt8 := UInt8.ofNat (x.toNat ||| b.toNat <<< (7 - p))
theorem orBit_nat (x : UInt8) (p : Nat) (b : Bool) : (orBit x p b).toNat = x.toNat ||| b.toNat <<< (7 - p) := by
  unfold orBit
  rw [UInt8.toNat_ofNat']
  apply Nat.mod_eq_of_lt
  apply Nat.or_lt_two_pow (n := 8) x.toNat_lt
  cases b
  · simp
  · rw [Bool.toNat_true, Nat.one_shiftLeft]
    exact Nat.pow_lt_pow_right (by omega) (by omega)
theorem orBit_testBit (x : UInt8) (p : Nat) (b : Bool) (k : Nat) : (orBit x p b).toNat.testBit k = (x.toNat.testBit k || (decide (k = 7 - p) && b)) := by
  rw [orBit_nat, Nat.testBit_or, Nat.testBit_shiftLeft]
  congr 1
  cases b
  · simp
  · rw [Bool.toNat_true, Bool.and_true]
    by_cases h : k = 7 - p
    · subst h
      simp
    · rw [decide_eq_false h]
      by_cases h2 : 7 - p ≤ k
      · obtain ⟨m, hm⟩ : ∃ m, k - (7 - p) = m + 1 := ⟨k - (7 - p) - 1, by omega⟩
        rw [hm, Nat.testBit_succ]
        simp
      · simp [h2]
theorem bt_orBit (L : List UInt8) (i : Nat) (b : Bool) (hi : i / 8 < L.length) (j : Nat) : bt (L.set (i / 8) (orBit (L.getD (i / 8) 0) (i % 8) b)) j = (bt L j || (decide (j = i) && b)) := by
  rw [bt_set _ _ _ hi]
  by_cases h : j / 8 = i / 8
  · rw [if_pos h, orBit_testBit, bt_eq, h]
    congr 2
    exact decide_eq_decide.2 (by omega)
  · rw [if_neg h, decide_eq_false (by intro e; exact h (by rw [e]))]
    simp
theorem log2_lt (n k : Nat) (h : 1 ≤ n) (hk : n < 2 ^ k) : Nat.log2 n < k := (Nat.log2_lt (by omega)).2 hk
/-- k zeros follow the place f, up to a limit -/
def Zr (l : List Bool) (f lim k : Nat) : Prop := k ≤ lim ∧ f + k ≤ l.length ∧ (∀ i, i < k → l.getD (f + i) false = false) ∧ (k = lim ∨ f + k = l.length ∨ l.getD (f + k) false = true)
theorem zr_ex (l : List Bool) (f : Nat) (hf : f ≤ l.length) : ∀ lim, ∃ k, Zr l f lim k
  | 0 => ⟨0, Nat.le_refl _, hf, fun i hi => absurd hi (by omega), .inl rfl⟩
  | lim + 1 => by
    obtain ⟨k, h1, h2, h3, h4⟩ := zr_ex l f hf lim
    by_cases hk : k = lim ∧ f + k < l.length ∧ l.getD (f + k) false = false
    · obtain ⟨rfl, h5, h6⟩ := hk
      refine ⟨k + 1, Nat.le_refl _, by omega, fun i hi => ?_, .inl rfl⟩
      by_cases hi2 : i < k
      · exact h3 i hi2
      · rw [show i = k by omega]
        exact h6
    · refine ⟨k, by omega, h2, h3, ?_⟩
      rcases h4 with h4 | h4
      · by_cases h5 : f + k = l.length
        · exact .inr (.inl h5)
        · refine .inr (.inr ?_)
          cases hb : l.getD (f + k) false with
          | true => rfl
          | false => exact absurd ⟨h4, by omega, hb⟩ hk
      · exact .inr h4
end Go.Proofs.Ytcmbpniikcghfaa
