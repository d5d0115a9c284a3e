/-
  SHARED: regions that draw their order and hold calls, new variables and stores into them: what is known of the blocks in whatever order they were made.
-/
import Derived.Test.YtcippenhomhpbaaDoorLawKit
namespace Go.Proofs.YtcippenhomhpbaaDoor
open Go.RowKit

/-- 'wp_store_flat', over a frame that is not written out yet -/
theorem wp_store_act {P : Program} {d : Option Tmp} {ty ty' : TypeId} {x y : Tmp} {pos : String} {af : Array Edge} {a : Act} {w : World} {K : Act → World → Prop} {Q : Exit → Act → World → Prop}
    (hp : a.tmps.getD x undef = .pointer (some ⟨blkOf (a.tmps.getD x undef), 0, none⟩)) (hi : Sized P ty) (hf : Flat (a.tmps.getD y undef) (sizeT P ty)) (hr : IsRow w (blkOf (a.tmps.getD x undef)) (sizeT P ty)) :
    Oper.wp P { dst := d, op := .store ty (.tmp x) (.tmp y), type := ty', pos := pos, after := af, guard := none } a w K Q = K (a.put d undef) (w.setRow (blkOf (a.tmps.getD x undef)) (a.tmps.getD y undef).cells) :=
  wp_store_flat hp hi hf hr
theorem drew_size (w : World) : w.drew.heap.size = w.heap.size := rfl
theorem up_alloc {w W : World} (h : Below w.heap.size w W) (o : Obj) : Below w.heap.size w (W.alloc o) := h.alloc h.size o
theorem up_call {w W W' : World} (h : Below w.heap.size w W) (k : Below W.heap.size W W') : Below w.heap.size w W' := blw_call h h.size k
theorem up_row {w W : World} (h : Below w.heap.size w W) {g : Nat} (hg : w.heap.size ≤ g) (cs : Array Value) : Below w.heap.size w (W.setRow g cs) := blw_row h hg cs
theorem Sl.up {w W : World} {A : Option Addr} {n : Nat} {xs : List Value} (h : Sl w w.heap.size A n xs) (k : Below w.heap.size w W) : Sl W W.heap.size A n xs := (h.below k).wider k.size
theorem IsRow.alloc {W : World} {g n : Nat} (h : IsRow W g n) (o : Obj) : IsRow (W.alloc o) g n := by
  obtain ⟨t, cs, h1, h2⟩ := h
  exact ⟨t, cs, h1.alloc o, h2⟩
theorem IsRow.lt {W : World} {g n : Nat} (h : IsRow W g n) : g < W.heap.size := by
  obtain ⟨t, cs, h1, h2⟩ := h
  exact h1.lt
theorem IsRow.keep {W W' : World} {g n : Nat} (h : IsRow W g n) (k : Below W.heap.size W W') : IsRow W' g n := by
  obtain ⟨t, cs, h1, h2⟩ := h
  exact ⟨t, cs, h1.below k h1.lt, h2⟩
/-- the newest block, kept by a call -/
theorem keep_new {W W' : World} {cs : Array Value} {t : TypeId} (k : Below (W.alloc (.cells cs t)).heap.size (W.alloc (.cells cs t)) W') : IsRow W' W.heap.size cs.size := IsRow.keep ⟨t, cs, Row.new _ _ _, rfl⟩ k
/-- the newest but one -/
theorem keep_new2 {W W' : World} {cs : Array Value} {t : TypeId} {o : Obj} (k : Below ((W.alloc (.cells cs t)).alloc o).heap.size ((W.alloc (.cells cs t)).alloc o) W') : IsRow W' W.heap.size cs.size := IsRow.keep ⟨t, cs, (Row.new _ _ _).alloc _, rfl⟩ k
theorem keep_new_d {W W' : World} {cs : Array Value} {t : TypeId} (k : Below (W.alloc (.cells cs t)).drew.heap.size (W.alloc (.cells cs t)).drew W') : IsRow W' W.heap.size cs.size := IsRow.keep (W := (W.alloc (.cells cs t)).drew) ⟨t, cs, Row.new _ _ _, rfl⟩ k
theorem keep_new2_d {W W' : World} {cs : Array Value} {t : TypeId} {o : Obj} (k : Below ((W.alloc (.cells cs t)).alloc o).drew.heap.size ((W.alloc (.cells cs t)).alloc o).drew W') : IsRow W' W.heap.size cs.size := IsRow.keep (W := ((W.alloc (.cells cs t)).alloc o).drew) ⟨t, cs, (Row.new _ _ _).alloc _, rfl⟩ k
theorem isRow_old {W : World} {g n : Nat} {o : Obj} (h : IsRow W g n) : IsRow (W.alloc o) g n := h.alloc o
theorem isRow_new {W : World} {g n : Nat} {cs : Array Value} {t : TypeId} (hg : g = W.heap.size) (hn : cs.size = n) : IsRow (W.alloc (.cells cs t)) g n := by
  subst hg
  exact ⟨t, cs, Row.new _ _ _, hn⟩
theorem isRow_set {W : World} {g k n : Nat} {cs : Array Value} (hg : g ≠ k) (h : IsRow W g n) : IsRow (W.setRow k cs) g n := by
  obtain ⟨t, ds, h1, h2⟩ := h
  exact ⟨t, ds, h1.rowFar hg _, h2⟩
theorem isRow_alloc_eq (W : World) (g n : Nat) (cs : Array Value) (t : TypeId) : IsRow (W.alloc (.cells cs t)) g n ↔ if g = W.heap.size then cs.size = n else IsRow W g n := by
  by_cases h : g = W.heap.size
  · rw [if_pos h]
    subst h
    constructor
    · rintro ⟨t', ds, h1, h2⟩
      have h3 := (Row.new W t cs).symm.trans h1
      simp only [Option.some.injEq, Obj.cells.injEq] at h3
      rw [h3.1]
      exact h2
    · intro h
      exact ⟨t, cs, Row.new _ _ _, h⟩
  · rw [if_neg h]
    constructor
    · rintro ⟨t', ds, h1, h2⟩
      have hlt : g < W.heap.size := by
        have := h1.lt
        simp at this
        omega
      exact ⟨t', ds, (Below.heap_alloc W _ g hlt).symm.trans h1, h2⟩
    · exact fun h => h.alloc _
theorem isRow_set_eq {W : World} {g k n : Nat} {cs : Array Value} (hg : g ≠ k) : IsRow (W.setRow k cs) g n ↔ IsRow W g n := by
  constructor
  · rintro ⟨t, ds, h1, h2⟩
    exact ⟨t, ds, (setRow_other W k g cs hg).symm.trans h1, h2⟩
  · exact isRow_set hg
theorem rowAt_alloc_eq (W : World) (g : Nat) (cs : Array Value) (t : TypeId) : rowAt (W.alloc (.cells cs t)) g = if g = W.heap.size then cs else rowAt W g := by
  by_cases h : g = W.heap.size
  · rw [if_pos h]
    subst h
    exact (Row.new W t cs).at
  · rw [if_neg h]
    by_cases hlt : g < W.heap.size
    · unfold rowAt
      rw [show (W.alloc (.cells cs t)).heap[g]? = W.heap[g]? from Below.heap_alloc W _ g hlt]
    · have e1 : (W.alloc (.cells cs t)).heap[g]? = none := Array.getElem?_eq_none (by simp; omega)
      have e2 : W.heap[g]? = none := Array.getElem?_eq_none (by omega)
      unfold rowAt
      rw [e1, e2]
theorem rowAt_drew (W : World) (g : Nat) : rowAt W.drew g = rowAt W g := rfl
theorem isRow_drew (W : World) (g n : Nat) : IsRow W.drew g n ↔ IsRow W g n := Iff.rfl
/-- a block holds just these cells -/
def Holds (W : World) (g : Nat) (cs : Array Value) : Prop := ∃ t, Row W g t cs
theorem Holds.below {W W' : World} {g : Nat} {cs : Array Value} (h : Holds W g cs) (k : Below W.heap.size W W') : Holds W' g cs := by
  obtain ⟨t, h1⟩ := h
  exact ⟨t, h1.below k h1.lt⟩
theorem Holds.alloc {W : World} {g : Nat} {cs : Array Value} (h : Holds W g cs) (o : Obj) : Holds (W.alloc o) g cs := by
  obtain ⟨t, h1⟩ := h
  exact ⟨t, h1.alloc o⟩
theorem Holds.lt {W : World} {g : Nat} {cs : Array Value} (h : Holds W g cs) : g < W.heap.size := by
  obtain ⟨t, h1⟩ := h
  exact h1.lt
theorem Holds.drew {W : World} {g : Nat} {cs : Array Value} (h : Holds W g cs) : Holds W.drew g cs := h
theorem Holds.cell {W : World} {g : Nat} {cs : Array Value} (h : Holds W g cs) (i : Nat) : W.cell? ⟨g, i, none⟩ = cs[i]? := by
  obtain ⟨t, h1⟩ := h
  exact h1.cell i
theorem Holds.is {W : World} {g n : Nat} {cs : Array Value} (h : Holds W g cs) (hn : cs.size = n) : IsRow W g n := by
  obtain ⟨t, h1⟩ := h
  exact ⟨t, cs, h1, hn⟩
theorem Holds.at {W : World} {g : Nat} {cs : Array Value} (h : Holds W g cs) : rowAt W g = cs := by
  obtain ⟨t, h1⟩ := h
  exact h1.at
theorem holds_same {W : World} {g n : Nat} {cs : Array Value} (h : IsRow W g n) : Holds (W.setRow g cs) g cs := by
  obtain ⟨t, ds, h1, _⟩ := h
  exact ⟨t, h1.row _⟩
theorem holds_far {W : World} {g k : Nat} {cs ds : Array Value} (hg : g ≠ k) (h : Holds W g cs) : Holds (W.setRow k ds) g cs := by
  obtain ⟨t, h1⟩ := h
  exact ⟨t, h1.rowFar hg _⟩
end Go.Proofs.YtcippenhomhpbaaDoor
