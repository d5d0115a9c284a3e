/-
  Parts of a slice of bits, and what a call keeps of an owned row.
-/
import Derived.Test.YtcmbpniikcghfaaIL
import Derived.Test.YtcmbpniikcghfaaBPlain
import Derived.Test.YtcmbpniikcghfaaGMem
namespace Go.Proofs.Ytcmbpniikcghfaa
open Go.RowKit

theorem own_below {w W : World} {base : Nat} {e : TypeId} {u : Value} {k : Nat} {xs : List Value} (h : w.ownsRow base e 1 u k xs) (hb : Below w.heap.size w W) : W.ownsRow base e 1 u k xs := by
  refine ⟨h.1, ?_⟩
  rcases h.2 with h0 | ⟨b, cap, cur, h1, h2, h3, h4⟩
  · exact .inl h0
  · exact .inr ⟨b, cap, cur, h1, h2, (hb.block b (Array.getElem?_eq_some_iff.1 h3).1).trans h3, h4⟩
theorem valB_part (l : List Bool) (f m : Nat) (h : f + m ≤ l.length) : valB ((l.drop f).take m) = numF (fun i => l.getD (f + i) false) m := by
  have hl : ((l.drop f).take m).length = m := by rw [List.length_take, List.length_drop]; omega
  unfold valB
  rw [hl]
  apply numF_congr
  intro i hi
  rw [List.getD_eq_getElem?_getD, List.getD_eq_getElem?_getD, List.getElem?_take, if_pos hi, List.getElem?_drop]
/-- a part of a slice -/
theorem Sl.part {w : World} {B n : Nat} {ad : Addr} {l : List Bool} (h : Sl w B (some ad) n (il l)) {c : Nat} (f e : Nat) (hfe : f < e) (he : e ≤ n) (hc : n ≤ c) : Sl w B (some (ad.add f)) (e - f) (il ((l.drop f).take (e - f))) := by
  have h1 := h.cut (k := f) (cap := c) (by omega) hc
  rw [if_neg (by omega)] at h1
  have h2 := h1.first (k := e - f) (by omega)
  rw [il_drop, il_take] at h2
  exact h2
end Go.Proofs.Ytcmbpniikcghfaa
