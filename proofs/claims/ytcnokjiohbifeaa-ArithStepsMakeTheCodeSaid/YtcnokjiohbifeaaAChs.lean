/-
  Slices of choices (a bit and its probability), and the fault of Encode as a relation.
-/
import Derived.Test.YtcnokjiohbifeaaAItv
import Derived.Test.YtcnokjiohbifeaaGPost
import Derived.Test.YtcnokjiohbifeaaRows
import Derived.Deep.SlicePairs
namespace Go.Proofs.Ytcnokjiohbifeaa
open Go.RowKit Go.WideShapes Go.ChangeShapes

theorem cellsCh : (Try.prog.info? 69).map (·.size) = some 2 := by kernel_rfl
/-- a slice of choices -/
def Chs (w : World) (B : Nat) (A : Option Addr) (n : Nat) (zs : List (Int × Int)) : Prop :=
  zs.length = n ∧ (0 < n → ∃ ad : Addr, A = some ad ∧ ad.block < B ∧ ∀ i z, zs[i]? = some z → w.cell? (ad.add (i * 2)) = some (.int .i64 z.1) ∧ w.cell? ⟨(ad.add (i * 2)).block, (ad.add (i * 2)).off + 1, none⟩ = some (.int .i64 z.2))
theorem Chs.below {w W : World} {B n : Nat} {A : Option Addr} {zs : List (Int × Int)} (h : Chs w B A n zs) (hb : Below B w W) : Chs W B A n zs := by
  refine ⟨h.1, fun hn => ?_⟩
  obtain ⟨ad, h1, h2, h3⟩ := h.2 hn
  refine ⟨ad, h1, h2, fun i z hi => ?_⟩
  obtain ⟨k1, k2⟩ := h3 i z hi
  exact ⟨by rw [← k1]; exact hb.cell (by rw [add_block]; exact h2), by rw [← k2]; exact hb.cell (show (ad.add (i * 2)).block < B by rw [add_block]; exact h2)⟩
theorem Chs.wider {w : World} {B C n : Nat} {A : Option Addr} {zs : List (Int × Int)} (h : Chs w B A n zs) (hB : B ≤ C) : Chs w C A n zs :=
  ⟨h.1, fun hn => by
    obtain ⟨ad, h1, h2, h3⟩ := h.2 hn
    exact ⟨ad, h1, Nat.lt_of_lt_of_le h2 hB, h3⟩⟩
theorem Chs.up {w W : World} {A : Option Addr} {n : Nat} {zs : List (Int × Int)} (h : Chs w w.heap.size A n zs) (hb : Below w.heap.size w W) : Chs W W.heap.size A n zs := (h.below hb).wider hb.size
theorem Chs.at_ {w : World} {B n : Nat} {A : Option Addr} {zs : List (Int × Int)} (h : Chs w B A n zs) {i : Nat} (hi : i < n) : ∃ ad, A = some ad ∧ ad.block < B ∧ w.cell? (ad.add (i * 2)) = some (.int .i64 (zs.getD i (0, 0)).1) ∧ w.cell? ⟨(ad.add (i * 2)).block, (ad.add (i * 2)).off + 1, none⟩ = some (.int .i64 (zs.getD i (0, 0)).2) := by
  obtain ⟨ad, h1, h2, h3⟩ := h.2 (by omega)
  have hl : i < zs.length := by rw [h.1]; exact hi
  obtain ⟨k1, k2⟩ := h3 i zs[i] (List.getElem?_eq_getElem hl)
  have e : zs.getD i (0, 0) = zs[i] := by simp [List.getD_eq_getElem?_getD, hl]
  exact ⟨ad, h1, h2, by rw [e]; exact k1, by rw [e]; exact k2⟩
/-- a good choice -/
def okC (z : Int × Int) : Prop := (z.1 = 0 ∨ z.1 = 1) ∧ 1 ≤ z.2 ∧ z.2 ≤ 4095
instance (z : Int × Int) : Decidable (okC z) := inferInstanceAs (Decidable (_ ∧ _))
/-- choices as integers -/
def cz (l : List (Bool × Nat)) : List (Int × Int) := l.map fun c => (((c.1.toNat : Nat) : Int), (c.2 : Int))
theorem cz_length (l : List (Bool × Nat)) : (cz l).length = l.length := by simp [cz]
theorem cz_getD (l : List (Bool × Nat)) (i : Nat) (h : i < l.length) : (cz l).getD i (0, 0) = (((l[i].1.toNat : Nat) : Int), (l[i].2 : Int)) := by
  unfold cz
  simp [List.getD_eq_getElem?_getD, h]
theorem okC_cz (l : List (Bool × Nat)) (h : GoodP l) (i : Nat) (hi : i < l.length) : okC ((cz l).getD i (0, 0)) := by
  rw [cz_getD l i hi]
  obtain ⟨h1, h2⟩ := h l[i] (List.getElem_mem hi)
  refine ⟨?_, by show (1 : Int) ≤ (l[i].2 : Int); omega, by show (l[i].2 : Int) ≤ 4095; omega⟩
  show ((l[i].1.toNat : Nat) : Int) = 0 ∨ ((l[i].1.toNat : Nat) : Int) = 1
  cases l[i].1
  · exact .inl rfl
  · exact .inr rfl
/-- the fault of Encode -/
inductive ChF (zs : List (Int × Int)) : Int → Int → Prop
  | many (h : 8192 < zs.length) : ChF zs 2 (-1)
  | range (hl : zs.length ≤ 8192) (k : Nat) (hk : k < zs.length) (h1 : ∀ j, j < k → okC (zs.getD j (0, 0))) (h2 : ¬ okC (zs.getD k (0, 0))) : ChF zs 4 (k : Int)
theorem ChF.ne {zs : List (Int × Int)} {c i : Int} (h : ChF zs c i) : c ≠ 0 := by cases h <;> decide
theorem first_badC : ∀ (zs : List (Int × Int)), (∃ l, zs = cz l ∧ GoodP l) ∨ ∃ k, k < zs.length ∧ (∀ j, j < k → okC (zs.getD j (0, 0))) ∧ ¬ okC (zs.getD k (0, 0))
  | [] => .inl ⟨[], rfl, fun c hc => by cases hc⟩
  | z :: zs => by
    by_cases hz : okC z
    · rcases first_badC zs with ⟨l, rfl, hg⟩ | ⟨k, h1, h2, h3⟩
      · obtain ⟨hb, h1, h2⟩ := hz
        obtain ⟨b, hb2⟩ : ∃ b : Bool, z.1 = ((b.toNat : Nat) : Int) := by
          rcases hb with h | h
          · exact ⟨false, h⟩
          · exact ⟨true, h⟩
        refine .inl ⟨(b, z.2.toNat) :: l, ?_, ?_⟩
        · unfold cz
          rw [List.map_cons]
          congr 1
          refine Prod.ext hb2 ?_
          show z.2 = ((z.2.toNat : Nat) : Int)
          omega
        · intro c hc
          rcases List.mem_cons.1 hc with rfl | hc
          · exact ⟨by show 1 ≤ z.2.toNat; omega, by show z.2.toNat ≤ 4095; omega⟩
          · exact hg c hc
      · refine .inr ⟨k + 1, by simpa using h1, fun j hj => ?_, by simpa using h3⟩
        cases j with
        | zero => simpa using hz
        | succ j => simpa using h2 j (by omega)
    · exact .inr ⟨0, by simp, fun j hj => by omega, by simpa using hz⟩
theorem chf_or (zs : List (Int × Int)) : (∃ c i, ChF zs c i) ∨ ∃ l, zs = cz l ∧ GoodP l ∧ l.length ≤ 8192 := by
  by_cases h : 8192 < zs.length
  · exact .inl ⟨2, -1, .many h⟩
  · rcases first_badC zs with ⟨l, rfl, hg⟩ | ⟨k, h1, h2, h3⟩
    · exact .inr ⟨l, rfl, hg, by rw [cz_length] at h; omega⟩
    · exact .inl ⟨4, k, .range (by omega) k h1 h2 h3⟩
/-- a slice of choices among a statement's arguments -/
theorem open_choices {H : Type} {enc : TypeId × Value → H} {w : World} {r : Reach} {b0 : Nat} {base : Nat} {spare : Nat → Bool} {held : Bool} {v : Value} {d : DataW H} {ps : List MemPlace} (hval : Value.okWide Try.prog w r b0 58 v)
    (hd : DataW.Trod enc Try.prog w base spare held 58 v d ps) :
    ∃ (A : Option Addr) (zs : List (Int × Int)) (c : Nat), v = .slice A zs.length c ∧ zs.length ≤ c ∧ c ≤ maxLen ∧ Chs w w.heap.size A zs.length zs := by
  obtain ⟨a, len, cap, rfl⟩ := okWide_slice Try.underlying58 hval
  obtain ⟨fuel, hf⟩ := hd
  rcases Go.Deep.open_slice_pairs Try.underlying58 Try.underlying69 (by kernel_rfl) rfl rfl (by kernel_rfl) (by kernel_rfl) hf with ⟨h0, _⟩ | ⟨ad, len', cap', m, k, V0, V1, D0, D1, P0, P1, h0, _, hl, hm, hmm, _, hall⟩
  · simp only [Value.cells, List.cons.injEq, Value.slice.injEq, and_true] at h0
    obtain ⟨rfl, rfl, rfl⟩ := h0
    exact ⟨none, [], 0, rfl, Nat.le_refl _, Nat.zero_le _, rfl, fun h => absurd h (Nat.lt_irrefl _)⟩
  · simp only [Value.cells, List.cons.injEq, Value.slice.injEq, and_true] at h0
    obtain ⟨rfl, rfl, rfl⟩ := h0
    have hlm : len ≤ m := by rw [hmm]; split <;> omega
    have each : ∀ i, i < len → ∃ q : Int × Int, V0 i = .int .i64 q.1 ∧ V1 i = .int .i64 q.2 := by
      intro i hi
      obtain ⟨_, _, g0, g1⟩ := hall i (by omega)
      obtain ⟨x, ex, _, _⟩ := DataW.trod_int Try.underlying3 g0
      obtain ⟨y, ey, _, _⟩ := DataW.trod_int Try.underlying3 g1
      simp only [List.cons.injEq, and_true] at ex ey
      exact ⟨(x, y), ex, ey⟩
    obtain ⟨q, hq⟩ := Go.Deep.choose_lt each
    obtain ⟨zs, hzs⟩ : ∃ zs : List (Int × Int), zs = (List.range len).map q := ⟨_, rfl⟩
    have hlen : zs.length = len := by rw [hzs]; simp
    subst hlen
    refine ⟨some ad, zs, cap, rfl, hl, hm, rfl, fun hn => ⟨ad, rfl, ?_, fun i z hi => ?_⟩⟩
    · have hb := block_lt_of_cell (hall 0 (by omega)).1
      simpa [add_block] using hb
    · have hi' : i < zs.length := (List.getElem?_eq_some_iff.1 hi).1
      have hz : z = q i := by
        rw [hzs, List.getElem?_map, List.getElem?_range hi', Option.map_some, Option.some.injEq] at hi
        exact hi.symm
      subst hz
      obtain ⟨e0, e1, _, _⟩ := hall i (by omega)
      obtain ⟨g0, g1⟩ := hq i hi'
      refine ⟨by rw [e0, g0], ?_⟩
      rw [← g1, ← e1]
      exact congrArg w.cell? (add_add ad (i * 2) 1)
end Go.Proofs.Ytcnokjiohbifeaa
