/-
  Slices of byte slices as lists of values with what they stand for.
-/
import Derived.Test.YtcmbpniikcghfaaGFlatF
import Derived.Test.YtcmbpniikcghfaaSls
namespace Go.Proofs.Ytcmbpniikcghfaa
open Go.RowKit

theorem infoSl : (Try.prog.info? 23).map (fun i => (i.zero, i.size, i.bytes)) = some (some (.slice none 0 0), 1, 24) := by kernel_rfl
/-- a value that is this byte string's slice -/
def okP (w : World) (B : Nat) (p : Value × List UInt8) : Prop := ∃ Ai ci, p.1 = .slice Ai p.2.length ci ∧ p.2.length ≤ ci ∧ ci ≤ maxLen ∧ Sl w B Ai p.2.length (bl p.2)
theorem okP.up {w W : World} {p : Value × List UInt8} (h : okP w w.heap.size p) (hb : Below w.heap.size w W) : okP W W.heap.size p := by
  obtain ⟨Ai, ci, h1, h2, h3, h4⟩ := h
  exact ⟨Ai, ci, h1, h2, h3, h4.up hb⟩
theorem Sls.pairs {w : World} {B n : Nat} {A : Option Addr} {Ls : List (List UInt8)} (h : Sls w B A n Ls) : ∃ ps : List (Value × List UInt8), Ls = ps.map (·.2) ∧ ps.length = n ∧ Sl w B A n (ps.map (·.1)) ∧ ∀ p ∈ ps, okP w B p := by
  by_cases hn : n = 0
  · subst hn
    have hl : Ls = [] := List.length_eq_zero_iff.1 h.1
    subst hl
    exact ⟨[], rfl, rfl, Sl.nil _ _ _, fun p hp => by cases hp⟩
  · obtain ⟨ad, rfl, hb, hc⟩ := h.2 (by omega)
    have each : ∀ i, i < n → ∃ v : Value, w.cell? (ad.add i) = some v ∧ okP w B (v, Ls.getD i []) := by
      intro i hi
      have hl : i < Ls.length := by rw [h.1]; exact hi
      obtain ⟨Ai, ci, h1, h2, h3, h4⟩ := hc i Ls[i] (List.getElem?_eq_getElem hl)
      have hg : Ls.getD i [] = Ls[i] := by simp [List.getD_eq_getElem?_getD, hl]
      rw [hg]
      exact ⟨_, h3, Ai, ci, rfl, h1, h2, h4⟩
    obtain ⟨f, hf⟩ := Go.Deep.choose_lt each
    refine ⟨(List.range n).map fun i => (f i, Ls.getD i []), ?_, by simp, ⟨by simp, fun _ => ⟨ad, rfl, hb, fun j u hu => ?_⟩⟩, fun p hp => ?_⟩
    · apply List.ext_getElem
      · simp [h.1]
      · intro i h1 h2
        simp [List.getD_eq_getElem?_getD, h1]
    · have hj : j < n := by
        have := (List.getElem?_eq_some_iff.1 hu).1
        simpa using this
      rw [List.getElem?_map, List.getElem?_map, List.getElem?_range hj, Option.map_some, Option.map_some, Option.some.injEq] at hu
      rw [← hu]
      exact (hf j hj).1
    · obtain ⟨i, hi, rfl⟩ := List.mem_map.1 hp
      exact (hf i (List.mem_range.1 hi)).2
theorem Sls.of_pairs {w : World} {B n : Nat} {A : Option Addr} {ps : List (Value × List UInt8)} (h : Sl w B A n (ps.map (·.1))) (hp : ∀ p ∈ ps, okP w B p) : Sls w B A n (ps.map (·.2)) := by
  have hl := h.1
  rw [List.length_map] at hl
  refine ⟨by rw [List.length_map, hl], fun hn => ?_⟩
  obtain ⟨ad, h1, h2, h3⟩ := h.2 hn
  refine ⟨ad, h1, h2, fun i L hi => ?_⟩
  rw [List.getElem?_map] at hi
  obtain ⟨p, hpi, rfl⟩ := Option.map_eq_some_iff.1 hi
  obtain ⟨Ai, ci, k1, k2, k3, k4⟩ := hp p (List.mem_of_getElem? hpi)
  exact ⟨Ai, ci, k2, k3, by rw [h3 i p.1 (by rw [List.getElem?_map, hpi]; rfl), k1], k4⟩
theorem okP.one {w : World} {B : Nat} {p : Value × List UInt8} (h : okP w B p) : p.1.oneCell' = true := by
  obtain ⟨Ai, ci, h1, _⟩ := h
  rw [h1]
  rfl
/-- the parts turned round behind at, from j on -/
def turnP {α : Type} (ps : List α) (at_ j : Nat) : List α := ps.drop at_ ++ ((ps.take at_).drop j).reverse
theorem turn_start {α : Type} (ps : List α) (at_ : Nat) : turnP ps at_ at_ = ps.drop at_ := by
  unfold turnP
  have h : (ps.take at_).drop at_ = [] := List.drop_eq_nil_of_le (by rw [List.length_take]; omega)
  rw [h, List.reverse_nil, List.append_nil]
theorem turn_step {α : Type} (ps : List α) (at_ j : Nat) (p : α) (hj : j < at_) (h : ps[j]? = some p) : turnP ps at_ j = turnP ps at_ (j + 1) ++ [p] := by
  unfold turnP
  obtain ⟨hl, h⟩ := List.getElem?_eq_some_iff.1 h
  have hl2 : j < (ps.take at_).length := by rw [List.length_take]; omega
  rw [List.drop_eq_getElem_cons hl2, List.reverse_cons, List.append_assoc, List.getElem_take, h]
theorem turn_mem {α : Type} (ps : List α) (at_ j : Nat) : ∀ p ∈ turnP ps at_ j, p ∈ ps := by
  intro p hp
  rcases List.mem_append.1 hp with hp | hp
  · exact List.mem_of_mem_drop hp
  · exact List.mem_of_mem_take (List.mem_of_mem_drop (List.mem_reverse.1 hp))
theorem turn_perm {α : Type} (ps : List α) (at_ : Nat) : (turnP ps at_ 0).Perm ps := by
  unfold turnP
  rw [List.drop_zero]
  have h1 : (ps.drop at_ ++ (ps.take at_).reverse).Perm (ps.drop at_ ++ ps.take at_) := (List.reverse_perm _).append_left _
  have h2 : (ps.drop at_ ++ ps.take at_).Perm (ps.take at_ ++ ps.drop at_) := List.perm_append_comm
  rw [List.take_append_drop] at h2
  exact h1.trans h2
theorem turn_length {α : Type} (ps : List α) (at_ j : Nat) (hj : j ≤ at_) (ha : at_ ≤ ps.length) : (turnP ps at_ j).length = ps.length - j := by
  unfold turnP
  rw [List.length_append, List.length_drop, List.length_reverse, List.length_drop, List.length_take]
  omega
end Go.Proofs.Ytcmbpniikcghfaa
