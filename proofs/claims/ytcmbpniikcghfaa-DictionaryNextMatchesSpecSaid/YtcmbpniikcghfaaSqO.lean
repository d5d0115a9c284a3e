/-
  What the last texts of the statements about packed blocks open their arguments with.
-/
import Derived.Test.YtcmbpniikcghfaaSls
namespace Go.Proofs.Ytcmbpniikcghfaa
open Go.ChangeShapes Go.WideShapes Go.ChangeAt Go.RowKit
set_option maxRecDepth 100000 in
theorem laid_out : laidOutB Try.prog = true := by kernel_rfl
end Go.Proofs.Ytcmbpniikcghfaa
