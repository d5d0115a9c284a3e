/-
  Parted out of others.
-/
import Derived.Test.YtcmbpniikcghfaaRCheK
namespace Go.Proofs.Ytcmbpniikcghfaa
open Go.RowKit
/-- the list of numbers as a function -/
def KF (C : List Nat) : Nat → Nat := fun j => C.getD j 0
theorem KF_set (C : List Nat) (i v j : Nat) (h : j ≠ i) : KF (C.set i v) j = KF C j := by
  unfold KF
  rw [List.getD_eq_getElem?_getD, List.getD_eq_getElem?_getD, List.getElem?_set_ne (Ne.symm h)]
theorem KF_at (C : List Nat) (i v : Nat) (h : i < C.length) : KF (C.set i v) i = v := by
  unfold KF
  rw [List.getD_eq_getElem?_getD, List.getElem?_set_self h]
  rfl
theorem getZ_set (T : List TokZ) (i : Nat) (v : TokZ) (j : Nat) (h : j ≠ i) : (T.set i v).getD j (0, 0, 0) = T.getD j (0, 0, 0) := by
  rw [List.getD_eq_getElem?_getD, List.getD_eq_getElem?_getD, List.getElem?_set_ne (Ne.symm h)]
theorem getZ_at (T : List TokZ) (i : Nat) (v : TokZ) (h : i < T.length) : (T.set i v).getD i (0, 0, 0) = v := by
  rw [List.getD_eq_getElem?_getD, List.getElem?_set_self h]
  rfl
/-- what is known behind the rounds from q on -/
def Done (X : List UInt8) (D N q : Nat) (C : List Nat) (Z : List TokZ) (t : Nat → Tk) : Prop :=
  C.length = N + 1 ∧ Z.length = N ∧ Tab X D N (KF C) t q ∧ ∀ j, q ≤ j → j < N → Z.getD j (0, 0, 0) = (t j).z
theorem cost_row {w : World} {g : Nat} {C : List Nat} (r : Row w g 3 (nl C).toArray) (i : Nat) (h : i < C.length) : w.cell? ⟨g, i, none⟩ = some (.int .i64 ((KF C i : Nat) : Int)) := by
  rw [r.cell, List.getElem?_toArray, nl_get C i h]
  rfl
theorem tok_row {w : World} {g : Nat} {Z : List TokZ} (r : Row w g 55 (tkc Z).toArray) (i : Nat) (h : i < Z.length) : w.cell? ⟨g, i * 3, none⟩ = some (.int .i64 (Z.getD i (0, 0, 0)).1) ∧ w.cell? ⟨g, i * 3 + 1, none⟩ = some (.int .i64 (Z.getD i (0, 0, 0)).2.1) ∧ w.cell? ⟨g, i * 3 + 2, none⟩ = some (.int .u8 ((Z.getD i (0, 0, 0)).2.2.toNat : Int)) := by
  obtain ⟨k1, k2, k3⟩ := tkc_get Z i Z[i] (List.getElem?_eq_getElem h)
  have e : Z.getD i (0, 0, 0) = Z[i] := by simp [List.getD_eq_getElem?_getD, h]
  rw [e]
  exact ⟨by rw [r.cell, List.getElem?_toArray, k1], by rw [r.cell, List.getElem?_toArray, k2], by rw [r.cell, List.getElem?_toArray, k3]⟩
end Go.Proofs.Ytcmbpniikcghfaa
