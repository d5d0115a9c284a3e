/-
  How a slice of integers among a statement's arguments is opened.
-/
import Derived.Test.YtcnokjiohbifeaaIL
import Derived.Test.YtcnokjiohbifeaaGPost
import Derived.Test.YtcnokjiohbifeaaRows
namespace Go.Proofs.Ytcnokjiohbifeaa
open Go.ChangeShapes Go.WideShapes Go.ChangeAt Go.RowKit

/-- Cells that are integers, one by one. -/
theorem ints_of {cs : List Value} (h : ∀ (i : Nat), i < cs.length → ∃ z : Int, cs[i]? = some (.int .i64 z)) : ∃ zs : List Int, cs = zs.map (fun (z : Int) => Value.int .i64 z) := by
  induction cs with
  | nil => exact ⟨[], rfl⟩
  | cons c cs ih =>
    obtain ⟨z, hz⟩ := h 0 (by simp)
    obtain ⟨zs, rfl⟩ := ih (fun i hi => by simpa using h (i + 1) (by simpa using hi))
    refine ⟨z :: zs, ?_⟩
    simp only [List.getElem?_cons_zero, Option.some.injEq] at hz
    simp only [List.map_cons, hz]
section
variable {H : Type} {enc : TypeId × Value → H} {P : Program}
/-- A SLICE OF INTEGERS, nil included. -/
theorem open_islice {t e : TypeId} (ht : P.underlying t = some (.slice e)) (he : P.underlying e = some (.int .i64)) (hce : P.cellsOf e = 1) {w : World} {r : Reach} {b0 : Nat} {base : Nat} {spare : Nat → Bool} {held : Bool}
    {v : Value} {d : DataW H} {ps : List MemPlace} (hval : Value.okWide P w r b0 t v) (hd : DataW.Trod enc P w base spare held t v d ps) :
    ∃ (A : Option Addr) (zs : List Int) (c : Nat), v = .slice A zs.length c ∧ zs.length ≤ c ∧ c ≤ maxLen ∧ Sl w w.heap.size A zs.length (zl zs) ∧ ((zs = [] ∧ d = .nil) ∨ ∃ el sp, d = .slice el sp ∧ el.length = zs.length) := by
  obtain ⟨a, len, cap, rfl⟩ := okWide_slice ht hval
  obtain ⟨fuel, hf⟩ := hd
  rcases Go.Deep.open_slice1 ht hce hf with ⟨h0, hx⟩ | ⟨ad, len', cap', m, k, V, D, Pl, h0, _, hl, hm, hmm, hx, hall⟩
  · simp only [Value.cells, List.cons.injEq, Value.slice.injEq, and_true] at h0
    obtain ⟨rfl, rfl, rfl⟩ := h0
    have hz0 : zl [] = [] := by unfold zl; rfl
    exact ⟨none, [], 0, rfl, Nat.le_refl _, Nat.zero_le _, by rw [hz0]; exact Sl.nil _ _ _, Or.inl ⟨rfl, congrArg Prod.fst hx⟩⟩
  · simp only [Value.cells, List.cons.injEq, Value.slice.injEq, and_true] at h0
    obtain ⟨rfl, rfl, rfl⟩ := h0
    have hlm : len ≤ m := by rw [hmm]; split <;> omega
    obtain ⟨zs, hL⟩ := ints_of (cs := (List.range len).map V) (fun i hi => by
      have hi' : i < len := by simpa using hi
      obtain ⟨h1, h2⟩ := hall i (by omega)
      obtain ⟨z, e1, _, _⟩ := DataW.trod_int he h2
      refine ⟨z, ?_⟩
      rw [List.getElem?_map, List.getElem?_range hi', Option.map_some]
      exact congrArg some (List.cons.inj e1).1)
    have hlen : zs.length = len := by
      have := congrArg List.length hL
      simpa using this.symm
    subst hlen
    refine ⟨some ad, zs, cap, rfl, hl, hm, ⟨zl_length zs, fun h0 => ⟨ad, rfl, ?_, fun j u hj => ?_⟩⟩, Or.inr ⟨_, _, congrArg Prod.fst hx, by simp⟩⟩
    · have := (hall 0 (by omega)).1
      have hb := block_lt_of_cell this
      simpa [add_block] using hb
    · have hb : zl zs = (List.range zs.length).map V := by rw [hL]; unfold zl; rfl
      rw [hb] at hj
      obtain ⟨i, hi, rfl⟩ := List.mem_map.1 (List.mem_of_getElem? hj)
      have hj' : j < zs.length := by
        have := (List.getElem?_eq_some_iff.1 hj).1
        simpa using this
      rw [List.getElem?_map, List.getElem?_range hj', Option.map_some] at hj
      rw [(hall j (by omega)).1]
      exact hj
end
end Go.Proofs.Ytcnokjiohbifeaa
