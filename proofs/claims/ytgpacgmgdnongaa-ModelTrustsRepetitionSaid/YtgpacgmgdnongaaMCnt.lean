/-
  The contracts of model.counts.share, weight and with.
-/
import Derived.Test.YtgpacgmgdnongaaMMap
import Derived.Test.YtgpacgmgdnongaaRIn
import Derived.Test.YtgpacgmgdnongaaGNew
import Derived.WalkKit
import Derived.IntWalk
import Derived.WalkSpells
import Derived.WalkLawsBesides
import Derived.Deep.DeepMust
namespace Go.Proofs.Ytgpacgmgdnongaa
open Go.RowKit

theorem iwm (z : Int) (h : -9223372036854775808 ≤ z ∧ z ≤ 9223372036854775807) : IntKind.i64.wrap z = z := by
  rw [IntKind.wrap_i64]; omega

set_option maxRecDepth 100000 in
set_option maxHeartbeats 2000000 in
theorem share_any (c : Nat × Nat) (hc : c.1 + c.2 ≤ 254) (w : World) :
    Calls Try.prog 29 #[.agg (ccs c)] w fun e w' => e = .returned (.int .i64 (shareC c)) ∧ Below w.heap.size w w' := by
  obtain ⟨z, o⟩ := c
  have hs : (((2 * (o : Int) + 1) * 2048) / ((z : Int) + o + 1)) = ((shareC (z, o) : Nat) : Int) := by
    unfold shareC
    push_cast
    rfl
  simp only at hc
  have HS := Lib.hid hs
  clear hs
  unfold ccs
  simp only
  go_enter Try.func29, Try.ntmps29
  go_wp2
  go_ret
  exact ⟨ret_int (by rw [← HS.out]), (Below.refl _ _).alloc (Nat.le_refl _) _⟩

theorem weight_wrap (z n o x : Nat) (ho : o ≤ 2) (hx : x ≤ 15) (h : x = min (z + n) 15) (y : Int) (hy : y = (x : Int)) : wrap64 (y * 2 ^ (2 * o)) = ((weightC (z, n) o : Nat) : Int) := by
  subst hy
  unfold weightC
  simp only
  rw [← h]
  obtain rfl | rfl | rfl : o = 0 ∨ o = 1 ∨ o = 2 := by omega
  all_goals
    simp
    rw [IntWalk.wrap64_in] <;> omega

set_option maxRecDepth 100000 in
set_option maxHeartbeats 2000000 in
theorem weight_any (c : Nat × Nat) (hc : c.1 + c.2 ≤ 254) (o : Nat) (ho : o ≤ 2) (w : World) :
    Calls Try.prog 28 #[.agg (ccs c), .int .i64 o] w fun e w' => e = .returned (.int .i64 (weightC c o)) ∧ Below w.heap.size w w' := by
  obtain ⟨z, n⟩ := c
  simp only at hc
  unfold ccs
  simp only
  go_enter Try.func28, Try.ntmps28
  go_wp2
  · go_ret
    exact ⟨ret_int (weight_wrap z n o 15 ho (by omega) (by omega) _ (by omega)), (Below.refl _ _).alloc (Nat.le_refl _) _⟩
  · go_ret
    exact ⟨ret_int (weight_wrap z n o (z + n) ho (by omega) (by omega) _ (by omega)), (Below.refl _ _).alloc (Nat.le_refl _) _⟩

theorem half_div (x : Nat) : ((x : Int) + 1) / 2 = (((x + 1) / 2 : Nat) : Int) := by omega

set_option maxRecDepth 100000 in
set_option maxHeartbeats 2000000 in
theorem with_any (c : Nat × Nat) (hc : c.1 + c.2 ≤ 254) (b : Bool) (w : World) :
    Calls Try.prog 30 #[.agg (ccs c), .int .i64 ((b.toNat : Nat) : Int)] w fun e w' => e = .returned (.agg (ccs (incB b c))) ∧ Below w.heap.size w w' := by
  obtain ⟨z, n⟩ := c
  simp only at hc
  unfold ccs
  simp only
  go_enter Try.func30, Try.ntmps30
  cases b with
  | true =>
    by_cases hh : z + (n + 1) = 255
    · have h1 : ((z : Int) + ((n : Int) + 1) == 255) = true := beq_iff_eq.2 (by omega)
      go_wp2
      refine bodyPost_ret (results_row Try.results30 _ _ (w.heap.size + 1) 58 (ccs (incB true (z, n))) _ rfl (Row.newEq _ _ _ _ _ (by simp) ?_) Try.underlying58 rfl (by rw [ccs_size]; exact cellsC)) rfl ⟨rfl, ((Below.refl _ _).alloc (Nat.le_refl _) _).alloc (by simp) _⟩
      unfold ccs incB halve
      simp [hh]
    · have h1 : ((z : Int) + ((n : Int) + 1) == 255) = false := beq_eq_false_iff_ne.2 (by omega)
      go_wp2
      refine bodyPost_ret (results_row Try.results30 _ _ (w.heap.size + 1) 58 (ccs (incB true (z, n))) _ rfl (Row.newEq _ _ _ _ _ (by simp) ?_) Try.underlying58 rfl (by rw [ccs_size]; exact cellsC)) rfl ⟨rfl, ((Below.refl _ _).alloc (Nat.le_refl _) _).alloc (by simp) _⟩
      unfold ccs incB halve
      simp [hh]
  | false =>
    by_cases hh : z + 1 + n = 255
    · have h1 : ((z : Int) + 1 + (n : Int) == 255) = true := beq_iff_eq.2 (by omega)
      go_wp2
      refine bodyPost_ret (results_row Try.results30 _ _ (w.heap.size + 1) 58 (ccs (incB false (z, n))) _ rfl (Row.newEq _ _ _ _ _ (by simp) ?_) Try.underlying58 rfl (by rw [ccs_size]; exact cellsC)) rfl ⟨rfl, ((Below.refl _ _).alloc (Nat.le_refl _) _).alloc (by simp) _⟩
      unfold ccs incB halve
      simp [hh]
    · have h1 : ((z : Int) + 1 + (n : Int) == 255) = false := beq_eq_false_iff_ne.2 (by omega)
      go_wp2
      refine bodyPost_ret (results_row Try.results30 _ _ (w.heap.size + 1) 58 (ccs (incB false (z, n))) _ rfl (Row.newEq _ _ _ _ _ (by simp) ?_) Try.underlying58 rfl (by rw [ccs_size]; exact cellsC)) rfl ⟨rfl, ((Below.refl _ _).alloc (Nat.le_refl _) _).alloc (by simp) _⟩
      unfold ccs incB halve
      simp [hh]
end Go.Proofs.Ytgpacgmgdnongaa
