/-
  What statements share: the contract of the reference's 'SameBytes'.
-/
import Derived.Test.YtcmbpniikcghfaaRIn
namespace Go.Proofs.Ytcmbpniikcghfaa
open Go.RowKit

theorem same_any (A B : Option Addr) (L M : List UInt8) (n m c d : Nat) (w : World) (hL : Sl w w.heap.size A n (bl L)) (hM : Sl w w.heap.size B m (bl M)) :
    Calls Try.prog 14 #[.slice A n c, .slice B m d] w fun e w' => e = .returned (.bool (decide (L = M))) ∧ w' = w := by
  have h1 := conv_sl (P := Try.prog) w 23 9 5 Try.underlying23 Try.underlying5 Try.underlying9 n c hL
  have h2 := conv_sl (P := Try.prog) w 23 9 5 Try.underlying23 Try.underlying5 Try.underlying9 m d hM
  have h3 := str_eq L M
  go_enter Try.func14, Try.ntmps14
  go_wp2
  go_ret
  exact ⟨ret_bool (by by_cases h : L = M <;> simp [h]), rfl⟩
end Go.Proofs.Ytcmbpniikcghfaa
