/-
  What Parse answers, as far as the costs are asked for.
-/
import Derived.Test.YtcmbpniikcghfaaYP
import Derived.Test.YtcmbpniikcghfaaLzQ
import Derived.Test.YtcmbpniikcghfaaLzC
namespace Go.Proofs.Ytcmbpniikcghfaa
open Go.RowKit

theorem costT_bound : ∀ l : List Tk, GoodT l → costT l ≤ 41 * l.length
  | [], _ => Nat.zero_le _
  | t :: l, h => by
    have h1 := cost_le t (h t (List.mem_cons_self ..))
    have h2 := costT_bound l fun x hx => h x (List.mem_cons_of_mem _ hx)
    have h3 : costT (t :: l) = t.cost + costT l := by simp [costT]
    rw [h3, List.length_cons]
    omega
/-- what Parse answers, as far as the costs are asked for -/
theorem parse_is (h : PParse) (L E : List UInt8) (N D : Nat) (hN : N = L.length) (hD : D = E.length) (h1 : N ≤ 1024) (h2 : D ≤ 512) (A B : Option Addr) (c d : Nat) (w : World) (hA : Sl w w.heap.size A N (bl L)) (hB : Sl w w.heap.size B D (bl E)) :
    Calls Try.prog 20 #[.slice A N c, .slice B D d] w fun e w' => (∃ (G : Option Addr) (g n k : Nat) (p : List Tk), GoodT p ∧ n = p.length ∧ n ≤ 1024 ∧ k = costT p ∧ k ≤ 41984 ∧ costIs E L k ∧ e = .returned (.tuple #[.slice G n g, .agg (flt 0 0)]) ∧ Tks w' w'.heap.size G n (tz p)) ∧ Below w.heap.size w w' := by
  refine (h L E N D hN hD h1 h2 A B c d w hA hB).mono ?_
  rintro e w' ⟨⟨G, g, K, t, hT, rfl, hS⟩, hb⟩
  have hX : (E ++ L).length = D + N := by rw [List.length_append, hN, hD]
  have hg := good_path hX h1 h2 hT N 0
  have hl := path_len hT N 0
  have hc := costT_bound _ hg
  exact ⟨⟨G, g, _, _, pathT t N N 0, hg, rfl, by omega, rfl, by omega, cost_path_is hD hN hT, rfl, hS⟩, hb⟩
end Go.Proofs.Ytcmbpniikcghfaa
