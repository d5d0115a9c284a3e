/-
  Parted out of others.
-/
import Derived.Test.YtcmbpniikcghfaaTPlain
import Derived.Test.YtcmbpniikcghfaaGMem
namespace Go.Proofs.Ytcmbpniikcghfaa
open Go.RowKit
/-- the fault of two lengths -/
def szF (n most m : Nat) : Int × Int := if most < n then (3, -1) else if 512 < m then (3, -2) else (0, 0)
/-- m bytes from h on are equal to those d before them, and no more are -/
def RepIs (W : List UInt8) (h d m : Nat) : Prop := h + m ≤ W.length ∧ (∀ k, k < m → W.getD (h + k) 0 = W.getD (h + k - d) 0) ∧ (h + m = W.length ∨ W.getD (h + m) 0 ≠ W.getD (h + m - d) 0)
theorem own_row3 {w : World} {base g : Nat} {e t : TypeId} {v : Value} {n : Nat} {xs : List Value} {cs : Array Value} (h : w.ownsRow base e 3 v n xs) (r : Row w g t cs) (ht : t ≠ e) (ds : Array Value) : (w.setRow g ds).ownsRow base e 3 v n xs := by
  refine ⟨h.1, ?_⟩
  rcases h.2 with h0 | ⟨k, cap, cur, h1, h2, h3, h4⟩
  · exact .inl h0
  · refine .inr ⟨k, cap, cur, h1, h2, Row.rowFar (t := e) h3 (fun hk => ?_) ds, h4⟩
    subst hk
    have := r.symm.trans h3
    simp only [Option.some.injEq, Obj.cells.injEq] at this
    exact ht this.2.1
theorem byte_zero (x : UInt8) : ((x.toNat : Int) == 0) = decide (x = 0) := by
  rw [Bool.eq_iff_iff, beq_iff_eq, decide_eq_true_eq]
  constructor
  · intro h
    exact UInt8.toNat_inj.1 (by show x.toNat = 0; omega)
  · rintro rfl
    rfl
end Go.Proofs.Ytcmbpniikcghfaa
