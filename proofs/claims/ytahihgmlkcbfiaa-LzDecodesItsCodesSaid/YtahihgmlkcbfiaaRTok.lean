/-
  The contracts of the reference's functions on tokens: TokenOk, Length, TokensFault, and of the statements' comparison of lists.
-/
import Derived.Test.YtahihgmlkcbfiaaTok
import Derived.Test.YtahihgmlkcbfiaaRIn
import Derived.Test.YtahihgmlkcbfiaaGMem
namespace Go.Proofs.Ytahihgmlkcbfiaa
open Go.RowKit

theorem in_dec (n a b : Int) (w : World) : Calls Try.prog 30 #[.int .i64 n, .int .i64 a, .int .i64 b] w fun e w' => e = .returned (.bool (decide (a ≤ n ∧ n ≤ b))) ∧ w' = w := by
  by_cases h : a ≤ n ∧ n ≤ b
  · rw [decide_eq_true h]
    exact in_yes n a b h.1 h.2 w
  · rw [decide_eq_false h]
    exact in_no n a b (by omega) w
theorem byte_zero (x : UInt8) : ((x.toNat : Int) == 0) = decide (x = 0) := by
  rw [Bool.eq_iff_iff, beq_iff_eq, decide_eq_true_eq]
  constructor
  · intro h
    exact UInt8.toNat_inj.1 (by show x.toNat = 0; omega)
  · rintro rfl
    rfl

set_option maxRecDepth 100000 in
set_option maxHeartbeats 1000000 in
theorem tokenok_any (d n : Int) (x : UInt8) (w : World) :
    Calls Try.prog 19 #[.agg (tcs d n x)] w fun e w' => e = .returned (.bool (decide (okT (d, n, x)))) ∧ Below w.heap.size w w' := by
  by_cases hd : d = 0
  · have hr : (n == 0) = decide (okT (d, n, x)) := by
      rw [Bool.eq_iff_iff, beq_iff_eq, decide_eq_true_eq]
      unfold okT
      simp only
      omega
    rw [← hr]
    subst hd
    clear hr
    unfold tcs
    go_enter Try.func19, Try.ntmps19
    go_wp2
    go_ret
    exact ⟨rfl, (Below.refl _ _).alloc (Nat.le_refl _) _⟩
  · have h0 : (d == 0) = false := beq_eq_false_iff_ne.2 hd
    have h1 : decide (d = 0) = false := decide_eq_false hd
    have hin1 := in_dec d 1 1536
    have hin2 := in_dec n 3 1024
    have hb := byte_zero x
    have hr : decide (okT (d, n, x)) = (decide (1 ≤ d ∧ d ≤ 1536) && decide (3 ≤ n ∧ n ≤ 1024) && decide (x = 0)) := by
      rw [Bool.eq_iff_iff, Bool.and_eq_true, Bool.and_eq_true, decide_eq_true_eq, decide_eq_true_eq, decide_eq_true_eq, decide_eq_true_eq]
      unfold okT
      simp only
      constructor
      · rintro (⟨h, _⟩ | ⟨h1, h2, h3⟩)
        · exact absurd h hd
        · exact ⟨⟨h1, h2⟩, h3⟩
      · rintro ⟨⟨h1, h2⟩, h3⟩
        exact .inr ⟨h1, h2, h3⟩
    rw [hr]
    obtain ⟨b1, hb1⟩ : ∃ b, b = decide (1 ≤ d ∧ d ≤ 1536) := ⟨_, rfl⟩
    obtain ⟨b2, hb2⟩ : ∃ b, b = decide (3 ≤ n ∧ n ≤ 1024) := ⟨_, rfl⟩
    obtain ⟨b3, hb3⟩ : ∃ b, b = decide (x = 0) := ⟨_, rfl⟩
    rw [← hb1] at hin1 ⊢
    rw [← hb2] at hin2 ⊢
    rw [← hb3] at hb ⊢
    obtain ⟨z, hz⟩ : ∃ z : Int, z = (x.toNat : Int) := ⟨_, rfl⟩
    unfold tcs
    rw [← hz] at hb ⊢
    clear hr hd hb1 hb2 hb3 hz
    cases b1 <;> cases b2 <;> cases b3
    all_goals
      go_enter Try.func19, Try.ntmps19
      go_wp2_with (first
        | (go_at_call 30; (with_reducible refine (hin1 _).mono ?_); rintro e w3 ⟨rfl, h3⟩; subst w3)
        | (go_at_call 30; (with_reducible refine (hin2 _).mono ?_); rintro e w4 ⟨rfl, h4⟩; subst w4))
      go_ret
      exact ⟨rfl, (Below.refl _ _).alloc (Nat.le_refl _) _⟩
set_option maxRecDepth 100000 in
set_option maxHeartbeats 1000000 in
theorem length_any (t : Tk) (h : t.ok) (w : World) :
    Calls Try.prog 38 #[.agg (tcs t.z.1 t.z.2.1 t.z.2.2)] w fun e w' => e = .returned (.int .i64 (t.len : Int)) ∧ Below w.heap.size w w' := by
  cases t with
  | lit x =>
    show Calls Try.prog 38 #[.agg (tcs 0 0 x)] w _
    unfold tcs
    go_enter Try.func38, Try.ntmps38
    go_wp2
    go_ret
    exact ⟨rfl, (Below.refl _ _).alloc (Nat.le_refl _) _⟩
  | mat d n =>
    have h0 : ((d : Int) == 0) = false := beq_eq_false_iff_ne.2 (by have := h.1; omega)
    have h1 : (d == 0) = false := beq_eq_false_iff_ne.2 (by have := h.1; omega)
    show Calls Try.prog 38 #[.agg (tcs (d : Int) (n : Int) 0)] w _
    clear h
    unfold tcs
    go_enter Try.func38, Try.ntmps38
    go_wp2
    go_ret
    exact ⟨rfl, (Below.refl _ _).alloc (Nat.le_refl _) _⟩
end Go.Proofs.Ytahihgmlkcbfiaa
