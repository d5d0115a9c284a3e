/-
  Parted out of others.
-/
import Derived.Test.YtcmbpniikcghfaaTok
import Derived.Test.YtcmbpniikcghfaaTPlain
import Derived.Test.YtcmbpniikcghfaaGFlt
namespace Go.Proofs.Ytcmbpniikcghfaa
open Go.RowKit
def PCostBad : Prop := ∀ (ts : List TokZ) (k i : Int), TkF ts k i → ∀ (A : Option Addr) (c : Nat) (w : World), Tks w w.heap.size A ts.length ts → Calls Try.prog 21 #[.slice A ts.length c] w fun e w' => e = .returned (.tuple #[.int .i64 0, .agg (flt k i)]) ∧ Below w.heap.size w w'
def PCost : Prop := ∀ (l : List Tk), GoodT l → ∀ n : Nat, n = l.length → n ≤ 1024 → ∀ (A : Option Addr) (c : Nat) (w : World), Tks w w.heap.size A n (tz l) → Calls Try.prog 21 #[.slice A n c] w fun e w' => e = .returned (.tuple #[.int .i64 (costT l : Nat), .agg (flt 0 0)]) ∧ Below w.heap.size w w'
end Go.Proofs.Ytcmbpniikcghfaa
