/-
  Package dictionary keeps its contracts.
-/
import Derived.Test.YtcmbpniikcghfaaYDn
import Derived.Test.YtcmbpniikcghfaaYDw
import Derived.Test.YtcmbpniikcghfaaPPa
import Derived.Test.YtcmbpniikcghfaaPCs
namespace Go.Proofs.Ytcmbpniikcghfaa

theorem di_all : DI := ⟨train_bad, train_ok, next_bad, next_ok, worth_bad, worth_ok lzparse_any lzcost_any⟩
end Go.Proofs.Ytcmbpniikcghfaa
