/-
  Slices of byte slices.
-/
import Derived.Test.YtcmbpniikcghfaaGMem
import Derived.Test.YtcmbpniikcghfaaGPost
import Derived.Test.YtcmbpniikcghfaaRows
namespace Go.Proofs.Ytcmbpniikcghfaa
open Go.RowKit Go.WideShapes Go.ChangeShapes

/-- a slice of byte slices -/
def Sls (w : World) (B : Nat) (A : Option Addr) (n : Nat) (Ls : List (List UInt8)) : Prop :=
  Ls.length = n ∧ (0 < n → ∃ ad : Addr, A = some ad ∧ ad.block < B ∧ ∀ i L, Ls[i]? = some L → ∃ Ai ci, L.length ≤ ci ∧ ci ≤ maxLen ∧ w.cell? (ad.add i) = some (.slice Ai L.length ci) ∧ Sl w B Ai L.length (bl L))
theorem Sls.below {w W : World} {B n : Nat} {A : Option Addr} {Ls : List (List UInt8)} (h : Sls w B A n Ls) (hb : Below B w W) : Sls W B A n Ls := by
  refine ⟨h.1, fun hn => ?_⟩
  obtain ⟨ad, h1, h2, h3⟩ := h.2 hn
  refine ⟨ad, h1, h2, fun i L hi => ?_⟩
  obtain ⟨Ai, ci, c1, c2, k1, k3⟩ := h3 i L hi
  exact ⟨Ai, ci, c1, c2, by rw [← k1]; exact hb.cell (by rw [add_block]; exact h2), k3.below hb⟩
theorem Sls.wider {w : World} {B C n : Nat} {A : Option Addr} {Ls : List (List UInt8)} (h : Sls w B A n Ls) (hB : B ≤ C) : Sls w C A n Ls := by
  refine ⟨h.1, fun hn => ?_⟩
  obtain ⟨ad, h1, h2, h3⟩ := h.2 hn
  refine ⟨ad, h1, Nat.lt_of_lt_of_le h2 hB, fun i L hi => ?_⟩
  obtain ⟨Ai, ci, c1, c2, k1, k3⟩ := h3 i L hi
  exact ⟨Ai, ci, c1, c2, k1, k3.wider hB⟩
theorem Sls.up {w W : World} {A : Option Addr} {n : Nat} {Ls : List (List UInt8)} (h : Sls w w.heap.size A n Ls) (k : Below w.heap.size w W) : Sls W W.heap.size A n Ls := (h.below k).wider k.size
theorem Sls.at_ {w : World} {B n : Nat} {A : Option Addr} {Ls : List (List UInt8)} (h : Sls w B A n Ls) {i : Nat} (hi : i < n) : ∃ ad L Ai ci, A = some ad ∧ ad.block < B ∧ Ls[i]? = some L ∧ L.length ≤ ci ∧ ci ≤ maxLen ∧ w.cell? (ad.add i) = some (.slice Ai L.length ci) ∧ Sl w B Ai L.length (bl L) := by
  obtain ⟨ad, h1, h2, h3⟩ := h.2 (by omega)
  have hl : i < Ls.length := by rw [h.1]; exact hi
  have hg := List.getElem?_eq_getElem hl
  obtain ⟨Ai, ci, k⟩ := h3 i _ hg
  exact ⟨ad, _, Ai, ci, h1, h2, hg, k⟩
/-- the first of these byte strings that is too long -/
def longF : List (List UInt8) → Nat → Int × Int
  | [], _ => (0, 0)
  | L :: ls, i => if 1024 < L.length then (3, (i : Int)) else longF ls (i + 1)
/-- the fault of samples -/
def smF (Ls : List (List UInt8)) (k : Int) : Int × Int := if 64 < Ls.length then (2, k) else longF Ls 0
theorem longF_kind (Ls : List (List UInt8)) (i : Nat) : (longF Ls i = (0, 0) ∧ ∀ L ∈ Ls, L.length ≤ 1024) ∨ (longF Ls i).1 = 3 := by
  induction Ls generalizing i with
  | nil => exact .inl ⟨rfl, fun L h => by cases h⟩
  | cons L ls ih =>
    rw [longF]
    split
    · exact .inr rfl
    · rcases ih (i + 1) with ⟨h1, h2⟩ | h1
      · refine .inl ⟨h1, fun M hM => ?_⟩
        rcases List.mem_cons.1 hM with rfl | hM
        · omega
        · exact h2 M hM
      · exact .inr h1
theorem longF_at (Ls : List (List UInt8)) (j : Nat) (L : List UInt8) (h : Ls[j]? = some L) : longF (Ls.drop j) j = if 1024 < L.length then (3, (j : Int)) else longF (Ls.drop (j + 1)) (j + 1) := by
  obtain ⟨hl, h⟩ := List.getElem?_eq_some_iff.1 h
  rw [List.drop_eq_getElem_cons hl, longF, h]
set_option maxRecDepth 100000 in
/-- A SLICE OF BYTE SLICES, nil included. -/
theorem open_bslices {H : Type} {enc : TypeId × Value → H} {w : World} {r : Reach} {b0 : Nat} {base : Nat} {spare : Nat → Bool} {held : Bool} {v : Value} {d : DataW H} {ps : List MemPlace} (hval : Value.okWide Try.prog w r b0 22 v)
    (hd : DataW.Trod enc Try.prog w base spare held 22 v d ps) :
    ∃ (A : Option Addr) (n c : Nat) (Ls : List (List UInt8)), v = .slice A n c ∧ n ≤ c ∧ c ≤ maxLen ∧ Sls w w.heap.size A n Ls := by
  obtain ⟨a, len, cap, rfl⟩ := okWide_slice Try.underlying22 hval
  obtain ⟨fuel, hf⟩ := hd
  rcases Go.Deep.open_slice1 Try.underlying22 (by kernel_rfl) hf with ⟨h0, _⟩ | ⟨ad, len', cap', m, k, V, D, Pl, h0, _, hl, hm, hmm, hx, hall⟩
  · simp only [Value.cells, List.cons.injEq, Value.slice.injEq, and_true] at h0
    obtain ⟨rfl, rfl, rfl⟩ := h0
    exact ⟨none, 0, 0, [], rfl, Nat.le_refl _, Nat.zero_le _, rfl, fun h => absurd h (Nat.lt_irrefl _)⟩
  · simp only [Value.cells, List.cons.injEq, Value.slice.injEq, and_true] at h0
    obtain ⟨rfl, rfl, rfl⟩ := h0
    have hlm : len ≤ m := by rw [hmm]; split <;> omega
    have each : ∀ i, i < len → ∃ q : List UInt8 × (Option Addr × Nat), V i = .slice q.2.1 q.1.length q.2.2 ∧ q.1.length ≤ q.2.2 ∧ q.2.2 ≤ maxLen ∧ Sl w w.heap.size q.2.1 q.1.length (bl q.1) := by
      intro i hi
      obtain ⟨_, g0⟩ := hall i (by omega)
      obtain ⟨A, T, cp, et, e1, e2, hS, _⟩ := open_bslice_cells Try.underlying23 Try.underlying5 (by kernel_rfl) g0
      simp only [List.cons.injEq, and_true] at et
      exact ⟨(T, (A, cp)), et, e1, e2, hS⟩
    obtain ⟨q, hq⟩ := Go.Deep.choose_lt each
    refine ⟨some ad, len, cap, (List.range len).map fun i => (q i).1, rfl, hl, hm, by simp, fun hn => ⟨ad, rfl, ?_, fun i L hi => ?_⟩⟩
    · have hb := block_lt_of_cell (hall 0 (by omega)).1
      simpa [add_block] using hb
    · have hi' : i < len := by
        have := (List.getElem?_eq_some_iff.1 hi).1
        simpa using this
      rw [List.getElem?_map, List.getElem?_range hi', Option.map_some, Option.some.injEq] at hi
      subst hi
      obtain ⟨e0, _⟩ := hall i (by omega)
      obtain ⟨g0, g1, g2, g3⟩ := hq i hi'
      exact ⟨(q i).2.1, (q i).2.2, g1, g2, by rw [e0, g0], g3⟩
end Go.Proofs.Ytcmbpniikcghfaa
