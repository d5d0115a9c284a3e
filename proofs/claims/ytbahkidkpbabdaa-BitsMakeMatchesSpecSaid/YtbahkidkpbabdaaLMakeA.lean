/-
  What the walks of BitsMakeMatchesSpec need: the outcomes of Make apart, and Make of what Text gave.
-/
import Derived.Test.YtbahkidkpbabdaaLNumA
import Derived.Test.YtbahkidkpbabdaaBText
namespace Go.Proofs.Ytbahkidkpbabdaa.lawMake
open Go.RowKit

theorem eq_same (c i : Int) (w : World) : (binOp .eql 26 (.agg (flt c i)) (.agg (flt c i))).run Try.prog w = .ok (.bool true) w := by
  rw [eql_flt]
  simp
/-- the bytes of a text before k are bits, and the byte at k, if there is one, is none -/
def UpTo (s : ByteArray) (k : Nat) : Prop := k ≤ s.size ∧ (∀ i (h : i < s.size), i < k → s[i] = 48 ∨ s[i] = 49) ∧ (∀ h : k < s.size, s[k] ≠ 48 ∧ s[k] ≠ 49)
theorem upto_ex (s : ByteArray) : ∃ k, UpTo s k := by
  have : ∀ n, n ≤ s.size → (∀ i (h : i < s.size), i < n → s[i] = 48 ∨ s[i] = 49) ∨ ∃ k, UpTo s k := by
    intro n
    induction n with
    | zero => exact fun _ => .inl fun i h hi => absurd hi (Nat.not_lt_zero i)
    | succ n ih =>
      intro hn
      rcases ih (by omega) with h | h
      · by_cases hb : s[n] = 48 ∨ s[n] = 49
        · refine .inl fun i hi hlt => ?_
          by_cases he : i = n
          · subst he; exact hb
          · exact h i hi (by omega)
        · exact .inr ⟨n, by omega, h, fun _ => ⟨fun e => hb (.inl e), fun e => hb (.inr e)⟩⟩
      · exact .inr h
  rcases this s.size (Nat.le_refl _) with h | h
  · exact ⟨s.size, Nat.le_refl _, h, fun h => absurd h (Nat.lt_irrefl _)⟩
  · exact h
theorem make_at (s : ByteArray) (hs : s.size ≤ 131072) (k : Nat) (h : UpTo s k) (hk : k < s.size) (w : World) :
    Calls Try.prog 11 #[.string s] w fun e w' => e = .returned (.tuple #[.agg (bcs none 0 0 0), .agg (flt 6 k)]) ∧ Below w.heap.size w w' :=
  (make_upto s hs k h.1 h.2.1 h.2.2 w).mono fun _ _ hm => hm.2 hk
theorem make_all (s : ByteArray) (hs : s.size ≤ 131072) (h : UpTo s s.size) (w : World) :
    Calls Try.prog 11 #[.string s] w (BitsOut w (txB s.data.toList)) :=
  (make_upto s hs s.size h.1 h.2.1 h.2.2 w).mono fun _ _ hm => hm.1 rfl
theorem txB_txL (l : List Bool) : txB (txL l) = l := by
  unfold txB txL
  rw [List.map_map]
  conv => rhs; rw [← List.map_id l]
  refine List.map_congr_left fun b _ => ?_
  cases b <;> rfl
theorem txS_size (l : List Bool) : (txS l).size = l.length := by
  show (txL l).toArray.size = _
  simp [txL_length]
theorem txS_get (l : List Bool) (i : Nat) (h : i < (txS l).size) : (txS l)[i] = 48 ∨ (txS l)[i] = 49 := by
  have hl : i < l.length := by rw [txS_size] at h; exact h
  have e : (txS l)[i] = chB l[i] := by
    show (txL l).toArray[i]'(by simpa [txL_length] using hl) = _
    simp [txL]
  rw [e]
  unfold chB
  split
  · exact .inr rfl
  · exact .inl rfl
theorem make_back (l : List Bool) (hl : l.length ≤ 131072) (w : World) :
    Calls Try.prog 11 #[.string (txS l)] w (BitsOut w l) := by
  have h := make_all (txS l) (by rw [txS_size]; exact hl) ⟨Nat.le_refl _, fun i h _ => txS_get l i h, fun h => absurd h (Nat.lt_irrefl _)⟩ w
  have e : txB (txS l).data.toList = l := by
    show txB (txL l).toArray.toList = l
    rw [List.toList_toArray]
    exact txB_txL l
  rw [e] at h
  exact h
theorem txB_length (L : List UInt8) : (txB L).length = L.length := by simp [txB]
theorem bit_at (s : ByteArray) (j : Nat) (h : j < s.size) (x : UInt8) (hx : s[j] = x) (b : Bool) (hb : b = (x == 49)) : (txB s.data.toList).getD j false = b := by
  have hj : j < s.data.toList.length := by simpa using h
  have h' : s.data.toList[j] = x := hx
  rw [List.getD_eq_getElem?_getD, List.getElem?_eq_getElem (by rw [txB_length]; exact hj), Option.getD_some]
  unfold txB
  rw [List.getElem_map, h', hb]
end Go.Proofs.Ytbahkidkpbabdaa.lawMake
