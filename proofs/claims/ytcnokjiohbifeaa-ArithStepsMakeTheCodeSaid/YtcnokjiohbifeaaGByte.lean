/-
  A byte of a slice of bytes, a bit of a number. Helper text: it proves nothing of the program by itself.
-/
import Derived.Test.YtcnokjiohbifeaaGSl
namespace Go.Proofs.Ytcnokjiohbifeaa
open Go.RowKit

theorem bl_get (L : List UInt8) (i : Nat) (h : i < L.length) : (bl L)[i]? = some (.int .u8 ((L.getD i 0).toNat : Int)) := by
  unfold bl
  simp [List.getD_eq_getElem?_getD, h]
theorem Sl.byte {w : World} {B n : Nat} {A : Option Addr} {L : List UInt8} (h : Sl w B A n (bl L)) {k : Nat} (hk : k < n) : ∃ ad, A = some ad ∧ ad.block < B ∧ w.cell? (ad.add k) = some (.int .u8 ((L.getD k 0).toNat : Int)) := by
  obtain ⟨ad, u, h1, h2, h3, h4⟩ := h.at_ hk
  have hn : k < L.length := by
    have := h.1
    rw [bl_length] at this
    omega
  rw [bl_get L k hn] at h3
  injection h3 with h3
  exact ⟨ad, h1, h2, by rw [h4, ← h3]⟩
theorem bit_mod (n : Nat) (p : Nat) : n / 2 ^ p % 2 = (n.testBit p).toNat := by
  rw [Nat.testBit_eq_decide_div_mod_eq]
  by_cases h : n / 2 ^ p % 2 = 1
  · rw [decide_eq_true h, h]
    rfl
  · rw [decide_eq_false h, Bool.toNat_false]
    omega
end Go.Proofs.Ytcnokjiohbifeaa
