/-
  Parted out of others.
-/
import Derived.Test.YtcmbpniikcghfaaGFlatF
namespace Go.Proofs.Ytcmbpniikcghfaa
open Go.RowKit

theorem flat_litF : Flat (.agg #[.int .i64 0, .int .i64 0]) 2 := flat_flt 0 0
theorem sizedTk : Sized Try.prog 55 := show (Try.prog.info? 55).map (·.size) = some (sizeT Try.prog 55) by kernel_rfl
theorem sizeTTk : sizeT Try.prog 55 = 3 := by kernel_rfl
theorem aggTk : AggT Try.prog 55 := .inl ⟨_, Try.underlying55⟩
theorem tk_one (d n x : Int) : ∀ v ∈ #[Value.int .i64 d, .int .i64 n, .int .u8 x], v.oneCell' = true := by
  intro v hv
  simp only [List.mem_toArray, List.mem_cons, List.not_mem_nil, or_false] at hv
  rcases hv with rfl | rfl | rfl <;> rfl
theorem flat_tk (d n x : Int) : Flat (.agg #[.int .i64 d, .int .i64 n, .int .u8 x]) 3 := ⟨_, rfl, rfl, tk_one _ _ _⟩
theorem neq_bad (k i : Int) (h : k ≠ 0) (w : World) : (binOp .neq 25 (.agg (flt k i)) (.agg #[.int .i64 0, .int .i64 0])).run Try.prog w = .ok (.bool true) w := by
  have h1 := neq_flt k i 0 0 w
  have h2 : (k == 0) = false := beq_eq_false_iff_ne.2 h
  rw [h2] at h1
  exact h1
end Go.Proofs.Ytcmbpniikcghfaa
