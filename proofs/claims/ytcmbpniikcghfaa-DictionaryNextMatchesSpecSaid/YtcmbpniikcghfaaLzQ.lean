/-
  Parted out of others.
-/
import Derived.Test.YtcmbpniikcghfaaTabK
import Derived.Test.YtcmbpniikcghfaaTok
import Derived.Test.YtcmbpniikcghfaaGFlt
namespace Go.Proofs.Ytcmbpniikcghfaa
open Go.RowKit
def PParseBad : Prop := ∀ (N D : Nat) (A B : Option Addr) (cd ce : Nat) (w : World), (szF N 1024 D).1 ≠ 0 → Calls Try.prog 20 #[.slice A N cd, .slice B D ce] w fun e w' => (∃ G c, e = .returned (.tuple #[.slice G 0 c, .agg (flt (szF N 1024 D).1 (szF N 1024 D).2)])) ∧ Below w.heap.size w w'
def PParse : Prop := ∀ (L E : List UInt8) (N D : Nat), N = L.length → D = E.length → N ≤ 1024 → D ≤ 512 → ∀ (A B : Option Addr) (cd ce : Nat) (w : World), Sl w w.heap.size A N (bl L) → Sl w w.heap.size B D (bl E) →
  Calls Try.prog 20 #[.slice A N cd, .slice B D ce] w fun e w' => (∃ G c K t, Tab (E ++ L) D N K t 0 ∧ e = .returned (.tuple #[.slice G (pathT t N N 0).length c, .agg (flt 0 0)]) ∧ Tks w' w'.heap.size G (pathT t N N 0).length (tz (pathT t N N 0))) ∧ Below w.heap.size w w'
end Go.Proofs.Ytcmbpniikcghfaa
