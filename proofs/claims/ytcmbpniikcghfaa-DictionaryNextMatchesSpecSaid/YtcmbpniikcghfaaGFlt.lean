/-
  Faults as cells, and other small words that many packages share. Helper text: it proves nothing of the program by itself.
-/
import Derived.Test.YtcmbpniikcghfaaProg
import Derived.Test.YtcmbpniikcghfaaGMem
import Derived.WalkKit
namespace Go.Proofs.Ytcmbpniikcghfaa
open Go.RowKit

/-- a fault, as cells -/
def flt (c i : Int) : Array Value := #[.int .i64 c, .int .i64 i]
theorem cellsF : (Try.prog.info? 25).map (·.size) = some 2 := by kernel_rfl
theorem flt_size (c i : Int) : (flt c i).size = 2 := rfl
theorem flt_one (c i : Int) : ∀ v ∈ flt c i, v.oneCell' = true := by
  intro v hv
  simp only [flt, List.mem_toArray, List.mem_cons, List.not_mem_nil, or_false] at hv
  rcases hv with rfl | rfl <;> rfl
theorem flt_zero : flt 0 0 = #[.int .i64 0, .int .i64 0] := rfl
end Go.Proofs.Ytcmbpniikcghfaa
