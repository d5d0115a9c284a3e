/-
  What statements share: the contracts of the reference's 'In' and 'At', '==' between faults.
-/
import Derived.Test.YtcmbpniikcghfaaGFlt
import Derived.Test.YtcmbpniikcghfaaGMem
import Derived.WalkKit
import Derived.WalkSpells
import Derived.WalkLawsBesides
import Derived.ProofKit
import Derived.OpenShut
namespace Go.Proofs.Ytcmbpniikcghfaa
open Go.RowKit

theorem aggF : AggT Try.prog 25 := .inl ⟨_, Try.underlying25⟩
theorem sizedF : Sized Try.prog 25 := show (Try.prog.info? 25).map (·.size) = some (sizeT Try.prog 25) by kernel_rfl
theorem sizeTF : sizeT Try.prog 25 = 2 := by kernel_rfl

theorem eql_flt (a b c d : Int) (w : World) : (binOp .eql 25 (.agg (flt a b)) (.agg (flt c d))).run Try.prog w = .ok (.bool (a == c && b == d)) w := by
  unfold flt
  simp [go_sem, Try.underlying25]
  by_cases h1 : a = c <;> by_cases h2 : b = d <;> simp [h1, h2]
theorem neq_flt (a b c d : Int) (w : World) : (binOp .neq 25 (.agg (flt a b)) (.agg (flt c d))).run Try.prog w = .ok (.bool (!(a == c && b == d))) w := by
  unfold flt
  simp [go_sem, Try.underlying25]
  by_cases h1 : a = c <;> by_cases h2 : b = d <;> simp [h1, h2]

/-- the reference's In -/
theorem in_yes (n a b : Int) (h1 : a ≤ n) (h2 : n ≤ b) (w : World) :
    Calls Try.prog 10 #[.int .i64 n, .int .i64 a, .int .i64 b] w fun e w' => e = .returned (.bool true) ∧ w' = w := by
  go_enter Try.func10, Try.ntmps10
  go_wp2
  go_ret
  exact ⟨rfl, rfl⟩
theorem in_no (n a b : Int) (h : n < a ∨ b < n) (w : World) :
    Calls Try.prog 10 #[.int .i64 n, .int .i64 a, .int .i64 b] w fun e w' => e = .returned (.bool false) ∧ w' = w := by
  by_cases h1 : n < a
  · clear h
    go_enter Try.func10, Try.ntmps10
    go_wp2
    go_ret
    exact ⟨rfl, rfl⟩
  · have h2 : decide (n ≤ b) = false := decide_eq_false (by omega)
    clear h
    go_enter Try.func10, Try.ntmps10
    go_wp2
    go_ret
    exact ⟨rfl, rfl⟩
/-- the reference's At -/
theorem at_any (c i : Int) (w : World) :
    Calls Try.prog 11 #[.int .i64 c, .int .i64 i] w fun e w' => e = .returned (.agg (flt c i)) ∧ Below w.heap.size w w' := by
  go_enter Try.func11, Try.ntmps11
  go_wp2
  refine bodyPost_ret (results_row Try.results11 _ _ w.heap.size 25 (flt c i) _ rfl (Row.newEq _ _ _ _ _ rfl rfl) Try.underlying25 rfl (by rw [flt_size]; exact cellsF)) rfl ⟨rfl, ?_⟩
  exact (Below.refl _ _).alloc (Nat.le_refl _) _
end Go.Proofs.Ytcmbpniikcghfaa
