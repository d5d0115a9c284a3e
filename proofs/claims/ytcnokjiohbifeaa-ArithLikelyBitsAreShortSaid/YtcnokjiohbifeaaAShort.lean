/-
  A bit that is at least as probable as its opposite costs at most one bit: a potential. Helper text: it proves nothing of the program by itself.
-/
import Derived.Test.YtcnokjiohbifeaaAPlain
namespace Go.Proofs.Ytcnokjiohbifeaa

/-- the bit is at least as probable as its opposite -/
def LikelyN (c : Bool × Nat) : Prop := if c.1 then 2048 ≤ c.2 else c.2 ≤ 2048
theorem likely_part {L H p : Nat} {b : Bool} (h : WideR L H) (h1 : 1 ≤ p) (h2 : p ≤ 4095) (hl : LikelyN (b, p)) :
    H - L + 1 ≤ 2 * ((partN L H p b).2 - (partN L H p b).1 + 1) + 1 := by
  rw [part_size h h1 h2]
  unfold lowerN
  unfold LikelyN at hl
  generalize H - L + 1 = s
  cases b
  · simp only [Bool.false_eq_true, if_false] at hl ⊢
    have e : s * p ≤ s * 2048 := Nat.mul_le_mul_left _ hl
    generalize s * p = x at *
    omega
  · simp only [if_true] at hl ⊢
    have e : s * 2048 ≤ s * p := Nat.mul_le_mul_left _ hl
    generalize s * p = x at *
    omega
/-- one step of the potential: t bits so far, M doublings -/
theorem pot_step {s q t M k : Nat} (hs : 16386 ≤ s) (hq : s ≤ 2 * q + 1) (ht : t < 16386) (h : 65536 * 2 ^ M * (16386 - t) ≤ s * 2 ^ t * 16386) :
    65536 * 2 ^ (M + k) * (16386 - (t + 1)) ≤ q * 2 ^ k * 2 ^ (t + 1) * 16386 := by
  -- (s - 1) / 2 ≤ q, and (s - 1) * 16386 ≥ s * 16385
  have a1 : s * 16385 ≤ 2 * q * 16386 := by omega
  have a2 : (16386 - (t + 1)) * 16386 ≤ (16386 - t) * 16385 := by
    have e1 : 16386 - t = 16386 - (t + 1) + 1 := by omega
    have e2 : 16386 - (t + 1) ≤ 16385 := by omega
    rw [e1]
    generalize 16386 - (t + 1) = d at e2 ⊢
    rw [Nat.add_mul, Nat.one_mul, show d * 16386 = d * 16385 + d from Nat.mul_succ d 16385]
    exact Nat.add_le_add_left e2 _
  refine Nat.le_of_mul_le_mul_right (c := 16386) ?_ (by decide)
  calc 65536 * 2 ^ (M + k) * (16386 - (t + 1)) * 16386
      = 65536 * 2 ^ (M + k) * ((16386 - (t + 1)) * 16386) := by rw [Nat.mul_assoc]
    _ ≤ 65536 * 2 ^ (M + k) * ((16386 - t) * 16385) := Nat.mul_le_mul_left _ a2
    _ = 65536 * 2 ^ M * (16386 - t) * (2 ^ k * 16385) := by
        rw [Nat.pow_add]
        generalize 16386 - t = d
        generalize 2 ^ M = x
        generalize 2 ^ k = y
        generalize (65536 : Nat) = A
        generalize (16385 : Nat) = B
        ac_rfl
    _ ≤ s * 2 ^ t * 16386 * (2 ^ k * 16385) := Nat.mul_le_mul_right _ h
    _ = s * 16385 * (2 ^ t * 16386 * 2 ^ k) := by ac_rfl
    _ ≤ 2 * q * 16386 * (2 ^ t * 16386 * 2 ^ k) := Nat.mul_le_mul_right _ a1
    _ = q * 2 ^ k * 2 ^ (t + 1) * 16386 * 16386 := by rw [Nat.pow_succ]; ac_rfl
theorem pot_run : ∀ (l : List (Bool × Nat)) (L H t M : Nat), WideR L H → GoodP l → (∀ c ∈ l, LikelyN c) → t + l.length ≤ 8192 →
    65536 * 2 ^ M * (16386 - t) ≤ (H - L + 1) * 2 ^ t * 16386 →
    65536 * 2 ^ (M + (runN L H l).2.2.length) * (16386 - (t + l.length)) ≤ ((runN L H l).2.1 - (runN L H l).1 + 1) * 2 ^ (t + l.length) * 16386
  | [], L, H, t, M, _, _, _, _, h => h
  | c :: l, L, H, t, M, hw, hg, hl, ht, h => by
    obtain ⟨g1, g2⟩ := hg c List.mem_cons_self
    obtain ⟨s1, s2, s3, s4⟩ := step_ok hw g1 g2 c.1
    rw [List.length_cons] at ht
    have hp := pot_step (k := (stepN L H c.2 c.1).2.2.length) hw.size.1 (likely_part hw g1 g2 (hl c List.mem_cons_self)) (by omega) h
    rw [← s3] at hp
    have ih := pot_run l _ _ (t + 1) _ s1 (fun x hx => hg x (List.mem_cons_of_mem _ hx)) (fun x hx => hl x (List.mem_cons_of_mem _ hx)) (by omega) hp
    rw [runN]
    simp only [List.length_append, List.length_cons]
    rw [show t + (l.length + 1) = t + 1 + l.length by omega, ← Nat.add_assoc M]
    exact ih
/-- likely bits have no more doublings than there are bits -/
theorem likely_short (l : List (Bool × Nat)) (hg : GoodP l) (hl : ∀ c ∈ l, LikelyN c) (hn : l.length ≤ 8192) : (runN 0 65535 l).2.2.length ≤ l.length := by
  obtain ⟨w, _, _⟩ := run_ok l 0 65535 (by decide) hg
  have h := pot_run l 0 65535 0 0 (by decide) hg hl (by omega) (by decide)
  obtain ⟨w1, w2, w3, w4⟩ := w
  have hs : (runN 0 65535 l).2.1 - (runN 0 65535 l).1 + 1 ≤ 65536 := by omega
  rw [Nat.zero_add, Nat.zero_add] at h
  generalize (runN 0 65535 l).2.1 - (runN 0 65535 l).1 + 1 = s at *
  generalize (runN 0 65535 l).2.2.length = m at *
  refine Nat.le_of_not_lt fun hlt => ?_
  have h1 : 2 ^ (l.length + 1) ≤ 2 ^ m := Nat.pow_le_pow_right (by decide) hlt
  have h2 : 65536 * 2 ^ m * 8194 ≤ 65536 * 2 ^ m * (16386 - l.length) := Nat.mul_le_mul_left _ (by omega)
  have h3 : s * 2 ^ l.length * 16386 ≤ 65536 * 2 ^ l.length * 16386 := Nat.mul_le_mul_right _ (Nat.mul_le_mul_right _ hs)
  have h4 : 0 < 2 ^ l.length := Nat.two_pow_pos _
  rw [Nat.pow_succ] at h1
  generalize 2 ^ l.length = x at *
  generalize 2 ^ m = y at *
  omega
/-- a code of likely bits -/
theorem code_short (l : List (Bool × Nat)) (hg : GoodP l) (hl : ∀ c ∈ l, LikelyN c) (hn : l.length ≤ 8192) : (codeN l).length ≤ l.length + 2 := by
  have := likely_short l hg hl hn
  rw [code_length]
  omega
end Go.Proofs.Ytcnokjiohbifeaa
