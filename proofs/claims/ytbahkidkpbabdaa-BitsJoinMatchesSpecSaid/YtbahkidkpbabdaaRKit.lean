/-
  What statements share: the contracts of the reference's 'In', 'At' and 'SameBytes', '==' between faults.
-/
import Derived.Test.YtbahkidkpbabdaaGFlt
import Derived.Test.YtbahkidkpbabdaaGRes
import Derived.WalkKit
import Derived.WalkSpells
import Derived.WalkLawsBesides
import Derived.ProofKit
import Derived.OpenShut
namespace Go.Proofs.Ytbahkidkpbabdaa
open Go.RowKit

theorem aggF : AggT Try.prog 26 := .inl ⟨_, Try.underlying26⟩
theorem sizedF : Sized Try.prog 26 := show (Try.prog.info? 26).map (·.size) = some (sizeT Try.prog 26) by kernel_rfl
theorem sizeTF : sizeT Try.prog 26 = 2 := by kernel_rfl

theorem eql_flt (a b c d : Int) (w : World) : (binOp .eql 26 (.agg (flt a b)) (.agg (flt c d))).run Try.prog w = .ok (.bool (a == c && b == d)) w := by
  unfold flt
  simp [go_sem, Try.underlying26]
  by_cases h1 : a = c <;> by_cases h2 : b = d <;> simp [h1, h2]
theorem neq_flt (a b c d : Int) (w : World) : (binOp .neq 26 (.agg (flt a b)) (.agg (flt c d))).run Try.prog w = .ok (.bool (!(a == c && b == d))) w := by
  unfold flt
  simp [go_sem, Try.underlying26]
  by_cases h1 : a = c <;> by_cases h2 : b = d <;> simp [h1, h2]

/-- the reference's In -/
theorem in_yes (n a b : Int) (h1 : a ≤ n) (h2 : n ≤ b) (w : World) :
    Calls Try.prog 31 #[.int .i64 n, .int .i64 a, .int .i64 b] w fun e w' => e = .returned (.bool true) ∧ w' = w := by
  go_enter Try.func31, Try.ntmps31
  go_wp2
  go_ret
  exact ⟨rfl, rfl⟩
theorem in_no (n a b : Int) (h : n < a ∨ b < n) (w : World) :
    Calls Try.prog 31 #[.int .i64 n, .int .i64 a, .int .i64 b] w fun e w' => e = .returned (.bool false) ∧ w' = w := by
  by_cases h1 : n < a
  · clear h
    go_enter Try.func31, Try.ntmps31
    go_wp2
    go_ret
    exact ⟨rfl, rfl⟩
  · have h2 : decide (n ≤ b) = false := decide_eq_false (by omega)
    clear h
    go_enter Try.func31, Try.ntmps31
    go_wp2
    go_ret
    exact ⟨rfl, rfl⟩
/-- the reference's At -/
theorem at_any (c i : Int) (w : World) :
    Calls Try.prog 16 #[.int .i64 c, .int .i64 i] w fun e w' => e = .returned (.agg (flt c i)) ∧ Below w.heap.size w w' := by
  go_enter Try.func16, Try.ntmps16
  go_wp2
  refine bodyPost_ret (results_row Try.results16 _ _ w.heap.size 26 (flt c i) _ rfl (Row.newEq _ _ _ _ _ rfl rfl) Try.underlying26 rfl (by rw [flt_size]; exact cellsF)) rfl ⟨rfl, ?_⟩
  exact (Below.refl _ _).alloc (Nat.le_refl _) _


theorem same_any (A B : Option Addr) (L M : List UInt8) (n m c d : Nat) (w : World) (hL : Sl w w.heap.size A n (bl L)) (hM : Sl w w.heap.size B m (bl M)) :
    Calls Try.prog 42 #[.slice A n c, .slice B m d] w fun e w' => e = .returned (.bool (decide (L = M))) ∧ w' = w := by
  have h1 := conv_sl (P := Try.prog) w 22 9 5 Try.underlying22 Try.underlying5 Try.underlying9 n c hL
  have h2 := conv_sl (P := Try.prog) w 22 9 5 Try.underlying22 Try.underlying5 Try.underlying9 m d hM
  have h3 := str_eq L M
  go_enter Try.func42, Try.ntmps42
  go_wp2
  go_ret
  exact ⟨ret_bool (by by_cases h : L = M <;> simp [h]), rfl⟩

end Go.Proofs.Ytbahkidkpbabdaa
