/-
  Bits as cells of numbers. Helper text: it proves nothing of the program by itself.
-/
import Derived.Test.YtgpacgmgdnongaaProg
import Derived.Test.YtgpacgmgdnongaaGSl
namespace Go.Proofs.Ytgpacgmgdnongaa
open Go.RowKit

/-- bits as cells of numbers -/
def il (l : List Bool) : List Value := l.map fun b => .int .i64 ((b.toNat : Nat) : Int)
theorem il_length (l : List Bool) : (il l).length = l.length := by simp [il]
theorem il_append (l m : List Bool) : il (l ++ m) = il l ++ il m := by simp [il]
theorem il_nil : il [] = [] := rfl
theorem il_one (l : List Bool) : ∀ v ∈ il l, v.oneCell' = true := by
  intro v hv
  obtain ⟨x, _, rfl⟩ : ∃ x, x ∈ l ∧ Value.int .i64 ((x.toNat : Nat) : Int) = v := by simpa [il] using hv
  rfl
theorem il_get (l : List Bool) (i : Nat) (h : i < l.length) : (il l)[i]? = some (.int .i64 (((l.getD i false).toNat : Nat) : Int)) := by
  unfold il
  simp [List.getD_eq_getElem?_getD, h]
theorem il_snoc (l : List Bool) (j : Nat) (h : j < l.length) (b : Int) (hb : b = (((l.getD j false).toNat : Nat) : Int)) : il (l.take (j + 1)) = il (l.take j) ++ [.int .i64 b] := by
  subst hb
  rw [List.take_succ_eq_append_getElem h, il_append]
  simp [il, List.getD_eq_getElem?_getD, h]
attribute [irreducible] il
theorem il_take (l : List Bool) (k : Nat) : (il l).take k = il (l.take k) := by unfold il; rw [List.map_take]
theorem il_drop (l : List Bool) (k : Nat) : (il l).drop k = il (l.drop k) := by unfold il; rw [List.map_drop]
theorem Sl.bit {w : World} {B n : Nat} {A : Option Addr} {l : List Bool} (h : Sl w B A n (il l)) {k : Nat} (hk : k < n) : ∃ ad, A = some ad ∧ ad.block < B ∧ w.cell? (ad.add k) = some (.int .i64 (((l.getD k false).toNat : Nat) : Int)) := by
  obtain ⟨ad, u, h1, h2, h3, h4⟩ := h.at_ hk
  have hn : k < l.length := by
    have := h.1
    rw [il_length] at this
    omega
  rw [il_get l k hn] at h3
  injection h3 with h3
  exact ⟨ad, h1, h2, by rw [h4, ← h3]⟩
theorem own_drewN {w : World} {base : Nat} {e : TypeId} {v : Value} {n : Nat} {xs : List Value} (h : w.ownsRow base e 1 v n xs) (k : Nat) : (w.drewN k).ownsRow base e 1 v n xs := h
theorem infoI : (Try.prog.info? 3).map (fun i => (i.zero, i.size, i.bytes)) = some (some (.int .i64 0), 1, 8) := by kernel_rfl
theorem bit_lt2 (b : Bool) : ((b.toNat : Nat) : Int) ≤ 1 := by cases b <;> decide
end Go.Proofs.Ytgpacgmgdnongaa
