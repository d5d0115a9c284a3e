/-
  The arithmetic coder in plain numbers: ranges, parts, doublings, codes, decoded values. Helper text: it proves nothing of the program by itself. The arithmetic coder's code in plain numbers: the digits of a code as one number, the encoder with pending bits, the decoder's value, and why a likely bit costs no more than one. Helper text: it proves nothing of the program by itself. The arithmetic decoder in plain numbers: its value is known from the code and from what all doublings subtracted, and a code is decoded to its bits. Helper text: it proves nothing of the program by itself. Digits whose carries are resolved, and the decoder's value modulo a power of two. Helper text: it proves nothing of the program by itself.
-/
import Derived.Test.YtcnokjiohbifeaaBPlain
namespace Go.Proofs.Ytcnokjiohbifeaa

/-- a wide range -/
def WideR (L H : Nat) : Prop := L < 32768 ∧ 32768 ≤ H ∧ H < 65536 ∧ (L < 16384 ∨ 49152 ≤ H)
instance (L H : Nat) : Decidable (WideR L H) := inferInstanceAs (Decidable (L < 32768 ∧ 32768 ≤ H ∧ H < 65536 ∧ (L < 16384 ∨ 49152 ≤ H)))
theorem WideR.size {L H : Nat} (h : WideR L H) : 16386 ≤ H - L + 1 ∧ L ≤ H := by
  obtain ⟨h1, h2, h3, h4⟩ := h
  omega
/-- the size of the lower part -/
def lowerN (L H p : Nat) : Nat := (H - L + 1) * p / 4096
def splitN (L H p : Nat) : Nat := L + lowerN L H p - 1
theorem lower_bounds {L H p : Nat} (h : WideR L H) (h1 : 1 ≤ p) (h2 : p ≤ 4095) : 4 ≤ lowerN L H p ∧ lowerN L H p + 4 ≤ H - L + 1 := by
  obtain ⟨hs, hle⟩ := h.size
  unfold lowerN
  obtain ⟨s, hs2⟩ : ∃ s, s = H - L + 1 := ⟨_, rfl⟩
  rw [← hs2] at hs ⊢
  have e1 : s * 1 ≤ s * p := Nat.mul_le_mul_left _ h1
  have e2 : s * p ≤ s * 4095 := Nat.mul_le_mul_left _ h2
  generalize s * p = x at *
  omega
/-- the part for a bit -/
def partN (L H p : Nat) (b : Bool) : Nat × Nat := if b then (L, splitN L H p) else (splitN L H p + 1, H)
theorem part_bounds {L H p : Nat} (h : WideR L H) (h1 : 1 ≤ p) (h2 : p ≤ 4095) (b : Bool) : L ≤ (partN L H p b).1 ∧ (partN L H p b).1 + 3 ≤ (partN L H p b).2 ∧ (partN L H p b).2 ≤ H := by
  obtain ⟨h3, h4⟩ := lower_bounds h h1 h2
  obtain ⟨_, h5⟩ := h.size
  unfold partN splitN
  cases b
  · simp only [Bool.false_eq_true, if_false]
    omega
  · simp only [if_true]
    omega
theorem part_size {L H p : Nat} (h : WideR L H) (h1 : 1 ≤ p) (h2 : p ≤ 4095) (b : Bool) : (partN L H p b).2 - (partN L H p b).1 + 1 = if b then lowerN L H p else H - L + 1 - lowerN L H p := by
  obtain ⟨h3, h4⟩ := lower_bounds h h1 h2
  obtain ⟨_, h5⟩ := h.size
  unfold partN splitN
  cases b
  · simp only [Bool.false_eq_true, if_false]
    omega
  · simp only [if_true]
    omega

/-- what the next doubling subtracts, in units of 16384 -/
def twN (L H : Nat) : Option Nat := if H < 32768 then some 0 else if 32768 ≤ L then some 2 else if 16384 ≤ L ∧ H < 49152 then some 1 else none
theorem tw_none {L H : Nat} (hH : H < 65536) (h : twN L H = none) : WideR L H := by
  unfold twN at h
  split at h
  · cases h
  · split at h
    · cases h
    · split at h
      · cases h
      · refine ⟨?_, ?_, hH, ?_⟩ <;> omega
theorem tw_wide {L H : Nat} (h : WideR L H) : twN L H = none := by
  obtain ⟨h1, h2, h3, h4⟩ := h
  unfold twN
  rw [if_neg (by omega), if_neg (by omega), if_neg (by omega)]
theorem tw_some {L H k : Nat} (hle : L ≤ H) (hH : H < 65536) (h : twN L H = some k) : k ≤ 2 ∧ 16384 * k ≤ L ∧ 2 * (H - 16384 * k) + 1 < 65536 := by
  unfold twN at h
  split at h
  · injection h with h; omega
  · split at h
    · injection h with h; omega
    · split at h
      · injection h with h; omega
      · cases h

/-- the doublings of a range, at most so many -/
def dblN : Nat → Nat → Nat → Nat × Nat × List Nat
  | 0, L, H => (L, H, [])
  | f + 1, L, H => match twN L H with
    | none => (L, H, [])
    | some k => ((dblN f (2 * (L - 16384 * k)) (2 * (H - 16384 * k) + 1)).1, (dblN f (2 * (L - 16384 * k)) (2 * (H - 16384 * k) + 1)).2.1, k :: (dblN f (2 * (L - 16384 * k)) (2 * (H - 16384 * k) + 1)).2.2)
theorem dbl_wide {L H : Nat} (h : WideR L H) (f : Nat) : dblN f L H = (L, H, []) := by
  cases f with
  | zero => rfl
  | succ f => rw [dblN, tw_wide h]
theorem dbl_some {L H k f : Nat} (h : twN L H = some k) : dblN (f + 1) L H = ((dblN f (2 * (L - 16384 * k)) (2 * (H - 16384 * k) + 1)).1, (dblN f (2 * (L - 16384 * k)) (2 * (H - 16384 * k) + 1)).2.1, k :: (dblN f (2 * (L - 16384 * k)) (2 * (H - 16384 * k) + 1)).2.2) := by
  rw [dblN, h]
theorem dbl_ok : ∀ (f L H : Nat), L ≤ H → H < 65536 → 65536 ≤ (H - L + 1) * 2 ^ f →
    WideR (dblN f L H).1 (dblN f L H).2.1 ∧ (dblN f L H).2.2.length ≤ f ∧ (dblN f L H).2.1 - (dblN f L H).1 + 1 = (H - L + 1) * 2 ^ (dblN f L H).2.2.length ∧ ∀ k ∈ (dblN f L H).2.2, k ≤ 2
  | 0, L, H, h1, h2, h3 => by
    rw [Nat.pow_zero, Nat.mul_one] at h3
    obtain rfl : L = 0 := by omega
    obtain rfl : H = 65535 := by omega
    refine ⟨by decide, Nat.le_refl _, by simp [dblN], by simp [dblN]⟩
  | f + 1, L, H, h1, h2, h3 => by
    cases ht : twN L H with
    | none =>
      rw [dbl_wide (tw_none h2 ht)]
      exact ⟨tw_none h2 ht, Nat.zero_le _, by simp, by simp⟩
    | some k =>
      obtain ⟨k1, k2, k3⟩ := tw_some h1 h2 ht
      have hsz : 2 * (H - 16384 * k) + 1 - 2 * (L - 16384 * k) + 1 = (H - L + 1) * 2 := by omega
      obtain ⟨i1, i2, i3, i4⟩ := dbl_ok f (2 * (L - 16384 * k)) (2 * (H - 16384 * k) + 1) (by omega) k3 (by rw [hsz, Nat.mul_assoc, ← Nat.pow_succ']; exact h3)
      rw [dbl_some ht]
      refine ⟨i1, by simpa using i2, ?_, ?_⟩
      · simp only [List.length_cons]
        rw [i3, hsz, Nat.mul_assoc, ← Nat.pow_succ']
      · intro x hx
        rcases List.mem_cons.1 hx with rfl | hx
        · exact k1
        · exact i4 x hx
/-- more fuel changes nothing -/
theorem dbl_more : ∀ (f L H g : Nat), L ≤ H → H < 65536 → 65536 ≤ (H - L + 1) * 2 ^ f → dblN (f + g) L H = dblN f L H
  | 0, L, H, g, h1, h2, h3 => by
    rw [Nat.pow_zero, Nat.mul_one] at h3
    obtain rfl : L = 0 := by omega
    obtain rfl : H = 65535 := by omega
    rw [Nat.zero_add, dbl_wide (by decide)]
    rfl
  | f + 1, L, H, g, h1, h2, h3 => by
    cases ht : twN L H with
    | none => rw [dbl_wide (tw_none h2 ht), dbl_wide (tw_none h2 ht)]
    | some k =>
      obtain ⟨k1, k2, k3⟩ := tw_some h1 h2 ht
      have hsz : 2 * (H - 16384 * k) + 1 - 2 * (L - 16384 * k) + 1 = (H - L + 1) * 2 := by omega
      have ih := dbl_more f (2 * (L - 16384 * k)) (2 * (H - 16384 * k) + 1) g (by omega) k3 (by rw [hsz, Nat.mul_assoc, ← Nat.pow_succ']; exact h3)
      rw [show f + 1 + g = (f + g) + 1 by omega, dbl_some ht, dbl_some ht, ih]

/-- the range behind a bit, and its doublings -/
def stepN (L H p : Nat) (b : Bool) : Nat × Nat × List Nat := dblN 14 (partN L H p b).1 (partN L H p b).2
theorem part_room {L H p : Nat} (h : WideR L H) (h1 : 1 ≤ p) (h2 : p ≤ 4095) (b : Bool) : (partN L H p b).1 ≤ (partN L H p b).2 ∧ (partN L H p b).2 < 65536 ∧ 65536 ≤ ((partN L H p b).2 - (partN L H p b).1 + 1) * 2 ^ 14 := by
  obtain ⟨h3, h4, h5⟩ := part_bounds h h1 h2 b
  obtain ⟨_, _, h6, _⟩ := h
  omega
theorem step_ok {L H p : Nat} (h : WideR L H) (h1 : 1 ≤ p) (h2 : p ≤ 4095) (b : Bool) :
    WideR (stepN L H p b).1 (stepN L H p b).2.1 ∧ (stepN L H p b).2.2.length ≤ 14 ∧ (stepN L H p b).2.1 - (stepN L H p b).1 + 1 = ((partN L H p b).2 - (partN L H p b).1 + 1) * 2 ^ (stepN L H p b).2.2.length ∧ ∀ k ∈ (stepN L H p b).2.2, k ≤ 2 := by
  obtain ⟨h3, h4, h5⟩ := part_room h h1 h2 b
  exact dbl_ok 14 _ _ h3 h4 h5
end Go.Proofs.Ytcnokjiohbifeaa

namespace Go.Proofs.Ytcnokjiohbifeaa

theorem numF_add (f : Nat → Bool) (a : Nat) : ∀ b, numF f (a + b) = numF f a * 2 ^ b + numF (fun i => f (a + i)) b
  | 0 => by simp [numF]
  | b + 1 => by
    rw [show a + (b + 1) = (a + b) + 1 by omega, numF_succ, numF_add f a b, numF_succ, Nat.pow_succ, Nat.mul_add, ← Nat.mul_assoc, Nat.mul_comm 2 (numF f a), Nat.mul_assoc, Nat.mul_comm 2 (2 ^ b)]
    omega
theorem numF_false (b : Nat) : numF (fun _ => false) b = 0 := by
  induction b with
  | zero => rfl
  | succ b ih => rw [numF_succ, ih]; rfl
theorem valB_append (l m : List Bool) : valB (l ++ m) = valB l * 2 ^ m.length + valB m := by
  unfold valB
  rw [List.length_append, numF_add]
  congr 1
  · congr 1
    refine numF_congr fun i hi => ?_
    rw [List.getD_eq_getElem?_getD, List.getD_eq_getElem?_getD, List.getElem?_append_left (by omega)]
  · refine numF_congr fun i hi => ?_
    rw [List.getD_eq_getElem?_getD, List.getD_eq_getElem?_getD, List.getElem?_append_right (by omega), show l.length + i - l.length = i by omega]
theorem valB_one (b : Bool) : valB [b] = b.toNat := by
  cases b <;> rfl
theorem valB_zeros (n : Nat) : valB (List.replicate n false) = 0 := by
  unfold valB
  rw [numF_congr (g := fun _ => false) fun i hi => by simp [List.getD_eq_getElem?_getD, List.getElem?_replicate]; split <;> rfl]
  exact numF_false _
theorem valB_ones : ∀ n : Nat, valB (List.replicate n true) + 1 = 2 ^ n
  | 0 => rfl
  | n + 1 => by
    have := valB_ones n
    rw [List.replicate_succ', valB_append, valB_one, Nat.pow_succ]
    simp only [List.length_singleton, Bool.toNat_true]
    omega
/-- the bits of a code are known by their number -/
theorem digB_of {v : Nat} {l : List Bool} (h : valB l = v) : l = digB v l.length := by
  rw [← h, digB_valB]

/-- the number of some digits 0, 1 or 2, behind a number -/
def valF : Nat → List Nat → Nat
  | v, [] => v
  | v, d :: l => valF (2 * v + d) l
theorem valF_from : ∀ (l : List Nat) (v : Nat), valF v l = v * 2 ^ l.length + valF 0 l
  | [], v => by simp [valF]
  | d :: l, v => by
    rw [valF, valF, valF_from l (2 * v + d), valF_from l (2 * 0 + d), List.length_cons, Nat.pow_succ, Nat.add_mul, Nat.add_mul, Nat.mul_assoc 2 v, ← Nat.mul_assoc v]
    generalize v * 2 ^ l.length = x
    generalize d * 2 ^ l.length = y
    omega
theorem valF_append : ∀ (l m : List Nat) (v : Nat), valF v (l ++ m) = valF (valF v l) m
  | [], _, _ => rfl
  | d :: l, m, v => by rw [List.cons_append, valF, valF, valF_append l m]

/-- what some doublings add to the code, and what is pending then -/
def sentN : Nat → List Nat → List Bool × Nat
  | P, [] => ([], P)
  | P, k :: l => if k = 1 then sentN (P + 1) l else (decide (k = 2) :: List.replicate P (decide (k ≠ 2)) ++ (sentN 0 l).1, (sentN 0 l).2)
theorem sent_one (P : Nat) (l : List Nat) : sentN P (1 :: l) = sentN (P + 1) l := by rw [sentN, if_pos rfl]
theorem sent_low (P : Nat) (l : List Nat) : sentN P (0 :: l) = (false :: List.replicate P true ++ (sentN 0 l).1, (sentN 0 l).2) := by
  rw [sentN, if_neg (by decide)]; rfl
theorem sent_high (P : Nat) (l : List Nat) : sentN P (2 :: l) = (true :: List.replicate P false ++ (sentN 0 l).1, (sentN 0 l).2) := by
  rw [sentN, if_neg (by decide)]; rfl
theorem sent_append : ∀ (l m : List Nat) (P : Nat), sentN P (l ++ m) = ((sentN P l).1 ++ (sentN (sentN P l).2 m).1, (sentN (sentN P l).2 m).2)
  | [], m, P => by simp [sentN]
  | k :: l, m, P => by
    rw [List.cons_append, sentN, sentN]
    by_cases h : k = 1
    · rw [if_pos h, if_pos h, sent_append l m]
    · rw [if_neg h, if_neg h, sent_append l m]
      simp
theorem sent_length : ∀ (l : List Nat) (P : Nat), (sentN P l).1.length + (sentN P l).2 = P + l.length
  | [], P => by simp [sentN]
  | k :: l, P => by
    rw [sentN]
    by_cases h : k = 1
    · rw [if_pos h]
      have := sent_length l (P + 1)
      simp only [List.length_cons]
      omega
    · rw [if_neg h]
      have := sent_length l 0
      simp only [List.length_cons, List.length_append, List.length_replicate, List.cons_append]
      omega
/-- the encoder's invariant: the bits that are out, and the pending ones, are the digits' number -/
theorem sent_val : ∀ (l : List Nat) (o : List Bool) (P v : Nat), (∀ k ∈ l, k ≤ 2) → v + 1 = valB o * 2 ^ (P + 1) + 2 ^ P →
    valF v l + 1 = valB (o ++ (sentN P l).1) * 2 ^ ((sentN P l).2 + 1) + 2 ^ (sentN P l).2
  | [], o, P, v, _, h => by simpa [sentN, valF] using h
  | k :: l, o, P, v, hk, h => by
    have hk0 := hk k List.mem_cons_self
    have hl : ∀ k ∈ l, k ≤ 2 := fun x hx => hk x (List.mem_cons_of_mem _ hx)
    rw [valF]
    obtain rfl | rfl | rfl : k = 0 ∨ k = 1 ∨ k = 2 := by omega
    · rw [sent_low]
      have ih := sent_val l (o ++ (false :: List.replicate P true)) 0 (2 * v + 0) hl (by
        have h1 := valB_ones P
        rw [valB_append, show (false :: List.replicate P true) = [false] ++ List.replicate P true from rfl, valB_append, valB_one]
        simp only [List.length_append, List.length_singleton, List.length_replicate, Bool.toNat_false, Nat.zero_mul, Nat.zero_add, Nat.pow_one, Nat.pow_zero]
        rw [show 1 + P = P + 1 by omega]
        rw [Nat.pow_succ] at h ⊢
        generalize valB o * (2 ^ P * 2) = x at *
        omega)
      rw [List.append_assoc] at ih
      exact ih
    · rw [sent_one]
      exact sent_val l o (P + 1) (2 * v + 1) hl (by
        rw [Nat.pow_succ 2 (P + 1), ← Nat.mul_assoc]
        rw [Nat.pow_succ 2 P] at h ⊢
        generalize valB o * (2 ^ P * 2) = x at *
        omega)
    · rw [sent_high]
      have ih := sent_val l (o ++ (true :: List.replicate P false)) 0 (2 * v + 2) hl (by
        rw [valB_append, show (true :: List.replicate P false) = [true] ++ List.replicate P false from rfl, valB_append, valB_one, valB_zeros]
        simp only [List.length_append, List.length_singleton, List.length_replicate, Bool.toNat_true, Nat.one_mul, Nat.add_zero, Nat.zero_add, Nat.pow_one, Nat.pow_zero]
        rw [show 1 + P = P + 1 by omega]
        rw [Nat.pow_succ] at h ⊢
        generalize valB o * (2 ^ P * 2) = x at *
        omega)
      rw [List.append_assoc] at ih
      exact ih
/-- the last two bits or more -/
def lastN (P L : Nat) : List Bool := (sentN (P + 1) [if L < 16384 then 0 else 2]).1
theorem last_low {P L : Nat} (h : L < 16384) : lastN P L = false :: List.replicate (P + 1) true := by
  unfold lastN; rw [if_pos h, sent_low]; simp [sentN]
theorem last_high {P L : Nat} (h : ¬ L < 16384) : lastN P L = true :: List.replicate (P + 1) false := by
  unfold lastN; rw [if_neg h, sent_high]; simp [sentN]
theorem last_length (P L : Nat) : (lastN P L).length = P + 2 := by
  by_cases h : L < 16384
  · rw [last_low h]; simp
  · rw [last_high h]; simp
theorem last_val {o : List Bool} {P v : Nat} (L : Nat) (h : v + 1 = valB o * 2 ^ (P + 1) + 2 ^ P) : valB (o ++ lastN P L) = 2 * v + (if L < 16384 then 1 else 2) := by
  rw [valB_append, last_length]
  by_cases hL : L < 16384
  · have h1 := valB_ones (P + 1)
    rw [last_low hL, if_pos hL, show (false :: List.replicate (P + 1) true) = [false] ++ List.replicate (P + 1) true from rfl, valB_append, valB_one, Bool.toNat_false, Nat.zero_mul, Nat.zero_add, Nat.pow_succ 2 (P + 1), ← Nat.mul_assoc]
    rw [Nat.pow_succ 2 P] at *
    generalize valB o * (2 ^ P * 2) = x at *
    omega
  · rw [last_high hL, if_neg hL, show (true :: List.replicate (P + 1) false) = [true] ++ List.replicate (P + 1) false from rfl, valB_append, valB_one, valB_zeros, Bool.toNat_true, Nat.one_mul, Nat.add_zero, List.length_replicate, Nat.pow_succ 2 (P + 1), ← Nat.mul_assoc]
    rw [Nat.pow_succ 2 P] at *
    generalize valB o * (2 ^ P * 2) = x at *
    omega

/-- the range behind some bits, and all doublings -/
def runN : Nat → Nat → List (Bool × Nat) → Nat × Nat × List Nat
  | L, H, [] => (L, H, [])
  | L, H, c :: l => ((runN (stepN L H c.2 c.1).1 (stepN L H c.2 c.1).2.1 l).1, (runN (stepN L H c.2 c.1).1 (stepN L H c.2 c.1).2.1 l).2.1, (stepN L H c.2 c.1).2.2 ++ (runN (stepN L H c.2 c.1).1 (stepN L H c.2 c.1).2.1 l).2.2)
/-- all probabilities are good ones -/
def GoodP (l : List (Bool × Nat)) : Prop := ∀ c ∈ l, 1 ≤ c.2 ∧ c.2 ≤ 4095
theorem run_ok : ∀ (l : List (Bool × Nat)) (L H : Nat), WideR L H → GoodP l → WideR (runN L H l).1 (runN L H l).2.1 ∧ (runN L H l).2.2.length ≤ 14 * l.length ∧ ∀ k ∈ (runN L H l).2.2, k ≤ 2
  | [], L, H, h, _ => ⟨h, by simp [runN], by simp [runN]⟩
  | c :: l, L, H, h, hg => by
    obtain ⟨g1, g2⟩ := hg c List.mem_cons_self
    obtain ⟨s1, s2, s3, s4⟩ := step_ok h g1 g2 c.1
    obtain ⟨i1, i2, i3⟩ := run_ok l _ _ s1 fun x hx => hg x (List.mem_cons_of_mem _ hx)
    rw [runN]
    refine ⟨i1, ?_, ?_⟩
    · simp only [List.length_append, List.length_cons]
      omega
    · intro k hk
      rcases List.mem_append.1 hk with hk | hk
      · exact s4 k hk
      · exact i3 k hk
theorem run_append : ∀ (l m : List (Bool × Nat)) (L H : Nat), runN L H (l ++ m) = ((runN (runN L H l).1 (runN L H l).2.1 m).1, (runN (runN L H l).1 (runN L H l).2.1 m).2.1, (runN L H l).2.2 ++ (runN (runN L H l).1 (runN L H l).2.1 m).2.2)
  | [], m, L, H => by simp [runN]
  | c :: l, m, L, H => by
    rw [List.cons_append, runN, runN, run_append l m]
    simp
/-- the whole code of some bits -/
def codeN (l : List (Bool × Nat)) : List Bool := (sentN 0 (runN 0 65535 l).2.2).1 ++ lastN (sentN 0 (runN 0 65535 l).2.2).2 (runN 0 65535 l).1
theorem code_length (l : List (Bool × Nat)) : (codeN l).length = (runN 0 65535 l).2.2.length + 2 := by
  unfold codeN
  have := sent_length (runN 0 65535 l).2.2 0
  rw [List.length_append, last_length]
  omega
theorem code_val (l : List (Bool × Nat)) (h : GoodP l) : valB (codeN l) = 2 * valF 0 (runN 0 65535 l).2.2 + (if (runN 0 65535 l).1 < 16384 then 1 else 2) := by
  obtain ⟨_, _, h3⟩ := run_ok l 0 65535 (by decide) h
  have e := sent_val (runN 0 65535 l).2.2 [] 0 0 h3 (by simp [valB, numF])
  rw [List.nil_append] at e
  exact last_val _ e
end Go.Proofs.Ytcnokjiohbifeaa

namespace Go.Proofs.Ytcnokjiohbifeaa

/-- the value behind some doublings, with the bits of a code from a place on -/
def moveN (c : Nat → Bool) : Nat → Nat → List Nat → Nat
  | v, _, [] => v
  | v, i, k :: s => moveN c (2 * (v - 16384 * k) + (c i).toNat) (i + 1) s
/-- the same, in integers -/
def moveZ (c : Nat → Bool) : Int → Nat → List Nat → Int
  | v, _, [] => v
  | v, i, k :: s => moveZ c (2 * (v - 16384 * (k : Int)) + ((c i).toNat : Int)) (i + 1) s
theorem moveZ_append (c : Nat → Bool) : ∀ (s t : List Nat) (v : Int) (i : Nat), moveZ c v i (s ++ t) = moveZ c (moveZ c v i s) (i + s.length) t
  | [], _, _, _ => rfl
  | k :: s, t, v, i => by
    rw [List.cons_append, moveZ, moveZ, moveZ_append c s t, List.length_cons, show i + 1 + s.length = i + (s.length + 1) by omega]
/-- the value is the code's number without all that was subtracted -/
theorem moveZ_val (c : Nat → Bool) : ∀ (s : List Nat) (v : Int) (i : Nat), moveZ c v i s = v * (2 ^ s.length : Nat) + (numF (fun j => c (i + j)) s.length : Nat) - 32768 * (valF 0 s : Nat)
  | [], v, i => by simp [moveZ, valF, numF]
  | k :: s, v, i => by
    rw [moveZ, moveZ_val c s, valF, valF_from s (2 * 0 + k), List.length_cons, Nat.add_comm s.length 1, numF_add, Nat.pow_add]
    have e1 : numF (fun j => c (i + j)) 1 = (c i).toNat := by simp [numF]
    have e2 : numF (fun j => c (i + (1 + j))) s.length = numF (fun j => c (i + 1 + j)) s.length := numF_congr fun j _ => by rw [Nat.add_assoc]
    rw [e1, e2]
    generalize numF (fun j => c (i + 1 + j)) s.length = x
    generalize valF 0 s = y
    generalize 2 ^ s.length = t
    generalize (c i).toNat = b
    push_cast
    rw [Int.add_mul, Int.mul_sub, Int.sub_mul]
    have f1 : v * (2 * (t : Int)) = 2 * v * t := by rw [← Int.mul_assoc, Int.mul_comm v 2]
    rw [f1, Int.add_mul, Int.mul_assoc 2 (16384 * (k : Int)), Int.mul_assoc 16384]
    generalize (k : Int) * (t : Int) = q
    generalize 2 * v * (t : Int) = r
    generalize (b : Int) * (t : Int) = z
    omega
/-- in a range, both are the same, and the value stays in the range -/
theorem move_dbl (c : Nat → Bool) : ∀ (f L H v i : Nat), L ≤ v → v ≤ H → H < 65536 →
    (moveN c v i (dblN f L H).2.2 : Int) = moveZ c v i (dblN f L H).2.2 ∧ (dblN f L H).1 ≤ moveN c v i (dblN f L H).2.2 ∧ moveN c v i (dblN f L H).2.2 ≤ (dblN f L H).2.1
  | 0, L, H, v, i, h1, h2, _ => ⟨rfl, h1, h2⟩
  | f + 1, L, H, v, i, h1, h2, h3 => by
    cases ht : twN L H with
    | none =>
      rw [dbl_wide (tw_none h3 ht)]
      exact ⟨rfl, h1, h2⟩
    | some k =>
      obtain ⟨k1, k2, k3⟩ := tw_some (Nat.le_trans h1 h2) h3 ht
      have hb := bool_lt (c i)
      obtain ⟨i1, i2, i3⟩ := move_dbl c f (2 * (L - 16384 * k)) (2 * (H - 16384 * k) + 1) (2 * (v - 16384 * k) + (c i).toNat) (i + 1) (by omega) (by omega) k3
      rw [dbl_some ht]
      refine ⟨?_, i2, i3⟩
      rw [moveN, moveZ, i1]
      congr 1
      omega
/-- backwards: whose value is in the range behind the doublings was in the range before them -/
theorem move_back (c : Nat → Bool) : ∀ (f L H : Nat) (v : Int) (i : Nat), L ≤ H → H < 65536 →
    ((dblN f L H).1 : Int) ≤ moveZ c v i (dblN f L H).2.2 → moveZ c v i (dblN f L H).2.2 ≤ (dblN f L H).2.1 → (L : Int) ≤ v ∧ v ≤ H
  | 0, L, H, v, i, _, _, h1, h2 => ⟨h1, h2⟩
  | f + 1, L, H, v, i, hle, hH, h1, h2 => by
    cases ht : twN L H with
    | none =>
      rw [dbl_wide (tw_none hH ht)] at h1 h2
      exact ⟨h1, h2⟩
    | some k =>
      obtain ⟨k1, k2, k3⟩ := tw_some hle hH ht
      have hb := bool_lt (c i)
      rw [dbl_some ht] at h1 h2
      rw [moveZ] at h1 h2
      have ih := move_back c f (2 * (L - 16384 * k)) (2 * (H - 16384 * k) + 1) _ (i + 1) (by omega) k3 h1 h2
      omega

/-- the decoder: the bits for some probabilities -/
def takeN (c : Nat → Bool) : Nat → Nat → Nat → Nat → List Nat → List Bool
  | _, _, _, _, [] => []
  | L, H, v, i, p :: ps => decide (v ≤ splitN L H p) :: takeN c (stepN L H p (decide (v ≤ splitN L H p))).1 (stepN L H p (decide (v ≤ splitN L H p))).2.1 (moveN c v i (stepN L H p (decide (v ≤ splitN L H p))).2.2) (i + (stepN L H p (decide (v ≤ splitN L H p))).2.2.length) ps
/-- how many doublings it makes -/
def manyN (c : Nat → Bool) : Nat → Nat → Nat → Nat → List Nat → Nat
  | _, _, _, _, [] => 0
  | L, H, v, i, p :: ps => (stepN L H p (decide (v ≤ splitN L H p))).2.2.length + manyN c (stepN L H p (decide (v ≤ splitN L H p))).1 (stepN L H p (decide (v ≤ splitN L H p))).2.1 (moveN c v i (stepN L H p (decide (v ≤ splitN L H p))).2.2) (i + (stepN L H p (decide (v ≤ splitN L H p))).2.2.length) ps
theorem part_decide {L H p : Nat} {b : Bool} {v : Nat} (h1 : (partN L H p b).1 ≤ v) (h2 : v ≤ (partN L H p b).2) : decide (v ≤ splitN L H p) = b := by
  unfold partN at h1 h2
  cases b
  · simp only [Bool.false_eq_true, if_false] at h1 h2
    exact decide_eq_false (by omega)
  · simp only [if_true] at h1 h2
    exact decide_eq_true h2
/-- the value of a bit's decoder lies in the bit's part -/
theorem part_of (L H p v : Nat) (h1 : L ≤ v) (h2 : v ≤ H) : (partN L H p (decide (v ≤ splitN L H p))).1 ≤ v ∧ v ≤ (partN L H p (decide (v ≤ splitN L H p))).2 := by
  unfold partN
  by_cases h : v ≤ splitN L H p
  · rw [decide_eq_true h, if_pos rfl]; exact ⟨h1, h⟩
  · rw [decide_eq_false h, if_neg (by decide)]; exact ⟨by omega, h2⟩
/-- all that the decoder's values need is the last one -/
theorem run_back (c : Nat → Bool) : ∀ (l : List (Bool × Nat)) (L H : Nat) (v : Int) (i : Nat), WideR L H → GoodP l →
    ((runN L H l).1 : Int) ≤ moveZ c v i (runN L H l).2.2 → moveZ c v i (runN L H l).2.2 ≤ (runN L H l).2.1 → (L : Int) ≤ v ∧ v ≤ H
  | [], L, H, v, i, _, _, h1, h2 => ⟨h1, h2⟩
  | b :: l, L, H, v, i, hw, hg, h1, h2 => by
    obtain ⟨g1, g2⟩ := hg b List.mem_cons_self
    obtain ⟨s1, s2, s3, s4⟩ := step_ok hw g1 g2 b.1
    rw [runN] at h1 h2
    rw [moveZ_append] at h1 h2
    have ih := run_back c l _ _ _ _ s1 (fun x hx => hg x (List.mem_cons_of_mem _ hx)) h1 h2
    obtain ⟨r1, r2, r3⟩ := part_room hw g1 g2 b.1
    have hb := move_back c 14 _ _ v i r1 r2 ih.1 ih.2
    obtain ⟨p1, p2, p3⟩ := part_bounds hw g1 g2 b.1
    omega
theorem run_take (c : Nat → Bool) : ∀ (l : List (Bool × Nat)) (L H v i : Nat), WideR L H → GoodP l →
    ((runN L H l).1 : Int) ≤ moveZ c v i (runN L H l).2.2 → moveZ c v i (runN L H l).2.2 ≤ (runN L H l).2.1 →
    takeN c L H v i (l.map (·.2)) = l.map (·.1) ∧ manyN c L H v i (l.map (·.2)) = (runN L H l).2.2.length
  | [], L, H, v, i, _, _, _, _ => ⟨rfl, rfl⟩
  | b :: l, L, H, v, i, hw, hg, h1, h2 => by
    obtain ⟨g1, g2⟩ := hg b List.mem_cons_self
    have hgl : GoodP l := fun x hx => hg x (List.mem_cons_of_mem _ hx)
    obtain ⟨s1, s2, s3, s4⟩ := step_ok hw g1 g2 b.1
    rw [runN] at h1 h2
    rw [moveZ_append] at h1 h2
    have ih := run_back c l _ _ _ _ s1 hgl h1 h2
    obtain ⟨r1, r2, r3⟩ := part_room hw g1 g2 b.1
    have hb := move_back c 14 _ _ (v : Int) i r1 r2 ih.1 ih.2
    have hd := part_decide (v := v) (by omega) (by omega : v ≤ (partN L H b.2 b.1).2)
    obtain ⟨m1, m2, m3⟩ := move_dbl c 14 _ _ v i (by omega : (partN L H b.2 b.1).1 ≤ v) (by omega : v ≤ (partN L H b.2 b.1).2) r2
    rw [← show stepN L H b.2 b.1 = dblN 14 (partN L H b.2 b.1).1 (partN L H b.2 b.1).2 from rfl] at m1
    rw [← m1] at h1 h2
    obtain ⟨t1, t2⟩ := run_take c l _ _ _ _ s1 hgl h1 h2
    rw [List.map_cons, List.map_cons, takeN, manyN, hd, t1, t2, runN, List.length_append]
    exact ⟨rfl, rfl⟩
/-- the bits of a code are decoded to what it was made of -/
theorem round_trip (l : List (Bool × Nat)) (h : GoodP l) :
    takeN (fun i => (codeN l).getD i false) 0 65535 (numF (fun i => (codeN l).getD i false) 16) 16 (l.map (·.2)) = l.map (·.1)
    ∧ manyN (fun i => (codeN l).getD i false) 0 65535 (numF (fun i => (codeN l).getD i false) 16) 16 (l.map (·.2)) + 2 = (codeN l).length := by
  obtain ⟨w, _, _⟩ := run_ok l 0 65535 (by decide) h
  have hv := code_val l h
  have hl := code_length l
  have hn : numF (fun i => (codeN l).getD i false) (16 + (runN 0 65535 l).2.2.length) = valB (codeN l) * 2 ^ 14 := by
    rw [show 16 + (runN 0 65535 l).2.2.length = (codeN l).length + 14 by omega, numF_add, numF_congr (f := fun i => (codeN l).getD ((codeN l).length + i) false) (g := fun _ => false) fun i _ => by rw [List.getD_eq_getElem?_getD, List.getElem?_eq_none (by omega)]; rfl, numF_false, Nat.add_zero, valB]
  have hm := moveZ_val (fun i => (codeN l).getD i false) (runN 0 65535 l).2.2 (numF (fun i => (codeN l).getD i false) 16 : Nat) 16
  rw [numF_add] at hn
  generalize hq : numF (fun i => (codeN l).getD i false) 16 = q at *
  generalize hx : numF (fun i => (codeN l).getD (16 + i) false) (runN 0 65535 l).2.2.length = x at *
  generalize valF 0 (runN 0 65535 l).2.2 = y at *
  have hz : moveZ (fun i => (codeN l).getD i false) (q : Nat) 16 (runN 0 65535 l).2.2 = if (runN 0 65535 l).1 < 16384 then 16384 else 32768 := by
    rw [hm, ← Int.natCast_mul, ← Int.natCast_add, hn, hv]
    split <;> omega
  obtain ⟨w1, w2, w3, w4⟩ := w
  obtain ⟨t1, t2⟩ := run_take (fun i => (codeN l).getD i false) l 0 65535 q 16 (by decide) h (by rw [hz]; split <;> omega) (by rw [hz]; split <;> omega)
  exact ⟨t1, by rw [t2, hl]⟩
end Go.Proofs.Ytcnokjiohbifeaa

namespace Go.Proofs.Ytcnokjiohbifeaa

/-- a carry changes no number -/
theorem valF_carry (a b : List Nat) (x y v : Nat) : valF v (a ++ (x + y / 2) :: (y % 2) :: b) = valF v (a ++ x :: y :: b) := by
  rw [valF_append, valF_append, valF, valF, valF, valF]
  congr 1
  omega
theorem carry_set (l : List Nat) (i : Nat) (h : i + 1 < l.length) :
    (l.set i (l.getD i 0 + l.getD (i + 1) 0 / 2)).set (i + 1) (l.getD (i + 1) 0 % 2) = l.take i ++ (l.getD i 0 + l.getD (i + 1) 0 / 2) :: (l.getD (i + 1) 0 % 2) :: l.drop (i + 2) := by
  apply List.ext_getElem?
  intro j
  rw [List.getElem?_set, List.getElem?_set]
  by_cases h1 : i + 1 = j
  · subst h1
    rw [if_pos rfl, List.length_set, if_pos h, List.getElem?_append_right (by simp; omega), List.length_take, show i + 1 - min i l.length = 1 by omega]
    rfl
  · rw [if_neg h1]
    by_cases h2 : i = j
    · subst h2
      rw [if_pos rfl, if_pos (by omega), List.getElem?_append_right (by simp; omega), List.length_take, show i - min i l.length = 0 by omega]
      rfl
    · rw [if_neg h2]
      by_cases h3 : j < i
      · rw [List.getElem?_append_left (by simp; omega), List.getElem?_take, if_pos h3]
      · obtain ⟨k, rfl⟩ : ∃ k, j = i + 2 + k := ⟨j - (i + 2), by omega⟩
        rw [List.getElem?_append_right (by simp; omega), List.length_take, show i + 2 + k - min i l.length = k + 2 by omega]
        simp [List.getElem?_drop]
theorem valF_set (l : List Nat) (i v : Nat) (h : i + 1 < l.length) :
    valF v ((l.set i (l.getD i 0 + l.getD (i + 1) 0 / 2)).set (i + 1) (l.getD (i + 1) 0 % 2)) = valF v l := by
  rw [carry_set l i h, valF_carry]
  congr 1
  apply List.ext_getElem?
  intro j
  by_cases h3 : j < i
  · rw [List.getElem?_append_left (by simp; omega), List.getElem?_take, if_pos h3]
  · rw [List.getElem?_append_right (by simp; omega), List.length_take]
    obtain ⟨k, rfl⟩ : ∃ k, j = i + k := ⟨j - i, by omega⟩
    rw [show i + k - min i l.length = k by omega]
    match k with
    | 0 => simp [List.getD_eq_getElem?_getD, (by omega : i < l.length)]
    | 1 => simp [List.getD_eq_getElem?_getD, h]
    | k + 2 =>
      simp only [List.getElem?_cons_succ, List.getElem?_drop]
      congr 1
      omega
/-- bits as numbers -/
def bnl (l : List Bool) : List Nat := l.map Bool.toNat
theorem valF_bnl : ∀ (l : List Bool), valF 0 (bnl l) = valB l := by
  intro l
  have h : ∀ (l : List Bool) (v : Nat), valF v (bnl l) = v * 2 ^ l.length + valB l := by
    intro l
    induction l with
    | nil => intro v; simp [bnl, valF, valB, numF]
    | cons b l ih =>
      intro v
      rw [show b :: l = [b] ++ l from rfl, valB_append, valB_one]
      rw [show bnl ([b] ++ l) = b.toNat :: bnl l from rfl, valF, ih]
      simp only [List.length_append, List.length_singleton]
      rw [Nat.add_comm 1, Nat.pow_succ, Nat.add_mul, ← Nat.mul_assoc, Nat.mul_comm (v * 2 ^ l.length) 2, ← Nat.mul_assoc, Nat.add_assoc]
  rw [h l 0]
  omega
/-- digits that are bits are known by their number -/
theorem bits_of_val {D : List Nat} (h : ∀ d ∈ D, d ≤ 1) {l : List Bool} (hl : D.length = l.length) (hv : valF 0 D = valB l) : D = bnl l := by
  have hD : D = bnl (D.map fun d => decide (d = 1)) := by
    unfold bnl
    rw [List.map_map]
    refine (List.map_id D).symm.trans (List.map_congr_left fun d hd => ?_)
    have := h d hd
    obtain rfl | rfl : d = 0 ∨ d = 1 := by omega
    · rfl
    · rfl
  generalize D.map (fun d => decide (d = 1)) = m at hD
  subst hD
  rw [valF_bnl] at hv
  have hml : m.length = l.length := by simpa [bnl] using hl
  rw [← digB_valB m, ← digB_valB l, hv, hml]
/-- the first digit is a bit, if the number is no larger than the digits can be -/
theorem first_digit {d n : Nat} {D : List Nat} (hD : D.length = n) (hv : valF 0 (d :: D) < 2 ^ (n + 1)) : d ≤ 1 := by
  rw [valF, valF_from, hD, Nat.pow_succ] at hv
  refine Nat.le_of_not_lt fun h => ?_
  have h1 : 2 * 2 ^ n ≤ (2 * 0 + d) * 2 ^ n := Nat.mul_le_mul_right _ (by omega)
  omega

/-- the value, the code's number and what was subtracted -/
theorem move_inv {c : Nat → Bool} {f L H v i V : Nat} (h1 : L ≤ v) (h2 : v ≤ H) (h3 : H < 65536) (h : v + 32768 * V = numF c i) :
    moveN c v i (dblN f L H).2.2 + 32768 * valF V (dblN f L H).2.2 = numF c (i + (dblN f L H).2.2.length) := by
  obtain ⟨m1, _, _⟩ := move_dbl c f L H v i h1 h2 h3
  rw [moveZ_val] at m1
  rw [numF_add, valF_from, ← h, Nat.add_mul, Nat.mul_assoc]
  generalize moveN c v i (dblN f L H).2.2 = a at *
  generalize numF (fun j => c (i + j)) (dblN f L H).2.2.length = x at *
  generalize valF 0 (dblN f L H).2.2 = y at *
  generalize 2 ^ (dblN f L H).2.2.length = t at *
  rw [← Int.natCast_mul] at m1
  rw [Nat.mul_add, ← Nat.mul_assoc]
  rw [Nat.mul_assoc]
  generalize v * t = q at *
  generalize V * t = r at *
  omega
/-- the last bits before a place -/
theorem numF_mod (c : Nat → Bool) (e w : Nat) : numF c (e + w) % 2 ^ w = numF (fun i => c (e + i)) w := by
  rw [numF_add, Nat.mul_comm, Nat.mul_add_mod, Nat.mod_eq_of_lt (numF_lt _ _)]
/-- the same where there are fewer -/
theorem numF_few (c : Nat → Bool) (e w : Nat) (h : e ≤ w) : numF c e % 2 ^ w = numF c e :=
  Nat.mod_eq_of_lt (Nat.lt_of_lt_of_le (numF_lt _ _) (Nat.pow_le_pow_right (by decide) h))
/-- the reference's value -/
theorem value_mod {v V N : Nat} (hv : v < 65536) (h : v + 32768 * V = N) : ((N % 16777216 : Nat) - ((32768 * V % 16777216 : Nat) : Int) + 16777216) % 16777216 = v := by
  omega
end Go.Proofs.Ytcnokjiohbifeaa
