/-
  A bit string is valid or not; two that are the same.
-/
import Derived.Test.YtcnokjiohbifeaaRBits2
namespace Go.Proofs.Ytcnokjiohbifeaa
open Go.RowKit

theorem good_dec (L : List UInt8) (k : Int) : (∃ l : List Bool, k = (l.length : Int) ∧ l.length ≤ 131072 ∧ L = pack l) ∨ ¬ Good L k := by
  by_cases h : Good L k
  · obtain ⟨l, h1, h2, h3⟩ := h
    exact .inl ⟨l, h1, h2, h3.pack⟩
  · exact .inr h
theorem good_pack (l : List Bool) (hl : l.length ≤ 131072) : Good (pack l) l.length := ⟨l, rfl, hl, pack_rep l⟩
/-- two bit strings that are the same -/
theorem same_pack (l : List Bool) (k : Int) (A B : Option Addr) (c d : Nat) (w : World) (hL : Sl w w.heap.size A (pack l).length (bl (pack l))) (hM : Sl w w.heap.size B (pack l).length (bl (pack l))) :
    Calls Try.prog 17 #[.agg (bcs A (pack l).length c k), .agg (bcs B (pack l).length d k)] w fun e w' => e = .returned (.bool true) ∧ Below w.heap.size w w' :=
  sameb_yes (pack l) k A B _ c d w hL hM
/-- no bits are the same as no bits -/
theorem same_none (w : World) : Calls Try.prog 17 #[.agg (bcs none 0 0 0), .agg #[.slice none 0 0, .int .i64 0]] w fun e w' => e = .returned (.bool true) ∧ Below w.heap.size w w' :=
  sameb_yes [] 0 none none 0 0 0 w (by rw [bl_nil]; exact Sl.nil _ _ _) (by rw [bl_nil]; exact Sl.nil _ _ _)
end Go.Proofs.Ytcnokjiohbifeaa
