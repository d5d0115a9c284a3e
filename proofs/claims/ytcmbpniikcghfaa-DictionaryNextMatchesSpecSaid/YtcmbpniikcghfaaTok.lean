/-
  Slices of tokens.
-/
import Derived.Test.YtcmbpniikcghfaaTPlain
import Derived.Test.YtcmbpniikcghfaaGMem
import Derived.Test.YtcmbpniikcghfaaGPost
import Derived.Test.YtcmbpniikcghfaaRows
import Derived.Deep.Slices
import Derived.Deep.SlicePairs
namespace Go.Proofs.Ytcmbpniikcghfaa
open Go.RowKit Go.WideShapes Go.ChangeShapes

/-- a token's cells -/
def tcs (d n : Int) (x : UInt8) : Array Value := #[.int .i64 d, .int .i64 n, .int .u8 (x.toNat : Int)]
theorem tcs_size (d n : Int) (x : UInt8) : (tcs d n x).size = 3 := rfl
theorem tcs_one (d n : Int) (x : UInt8) : ∀ v ∈ tcs d n x, v.oneCell' = true := by
  intro v hv
  simp [tcs] at hv
  rcases hv with rfl | rfl | rfl <;> rfl
theorem cellsT : (Try.prog.info? 55).map (·.size) = some 3 := by kernel_rfl
/-- a slice of tokens -/
def Tks (w : World) (B : Nat) (A : Option Addr) (n : Nat) (ts : List TokZ) : Prop :=
  ts.length = n ∧ (0 < n → ∃ ad : Addr, A = some ad ∧ ad.block < B ∧ ∀ i t, ts[i]? = some t → w.cell? (ad.add (i * 3)) = some (.int .i64 t.1) ∧ w.cell? ⟨(ad.add (i * 3)).block, (ad.add (i * 3)).off + 1, none⟩ = some (.int .i64 t.2.1) ∧ w.cell? ⟨(ad.add (i * 3)).block, (ad.add (i * 3)).off + 2, none⟩ = some (.int .u8 (t.2.2.toNat : Int)))
theorem Tks.below {w W : World} {B n : Nat} {A : Option Addr} {ts : List TokZ} (h : Tks w B A n ts) (hb : Below B w W) : Tks W B A n ts := by
  refine ⟨h.1, fun hn => ?_⟩
  obtain ⟨ad, h1, h2, h3⟩ := h.2 hn
  refine ⟨ad, h1, h2, fun i t hi => ?_⟩
  obtain ⟨k1, k2, k3⟩ := h3 i t hi
  exact ⟨by rw [← k1]; exact hb.cell (by rw [add_block]; exact h2), by rw [← k2]; exact hb.cell (show (ad.add (i * 3)).block < B by rw [add_block]; exact h2), by rw [← k3]; exact hb.cell (show (ad.add (i * 3)).block < B by rw [add_block]; exact h2)⟩
theorem Tks.wider {w : World} {B C n : Nat} {A : Option Addr} {ts : List TokZ} (h : Tks w B A n ts) (hB : B ≤ C) : Tks w C A n ts :=
  ⟨h.1, fun hn => by
    obtain ⟨ad, h1, h2, h3⟩ := h.2 hn
    exact ⟨ad, h1, Nat.lt_of_lt_of_le h2 hB, h3⟩⟩
theorem Tks.up {w W : World} {A : Option Addr} {n : Nat} {ts : List TokZ} (h : Tks w w.heap.size A n ts) (hb : Below w.heap.size w W) : Tks W W.heap.size A n ts := (h.below hb).wider hb.size
theorem Tks.at_ {w : World} {B n : Nat} {A : Option Addr} {ts : List TokZ} (h : Tks w B A n ts) {i : Nat} (hi : i < n) : ∃ ad, A = some ad ∧ ad.block < B ∧ w.cell? (ad.add (i * 3)) = some (.int .i64 (ts.getD i (0, 0, 0)).1) ∧ w.cell? ⟨(ad.add (i * 3)).block, (ad.add (i * 3)).off + 1, none⟩ = some (.int .i64 (ts.getD i (0, 0, 0)).2.1) ∧ w.cell? ⟨(ad.add (i * 3)).block, (ad.add (i * 3)).off + 2, none⟩ = some (.int .u8 ((ts.getD i (0, 0, 0)).2.2.toNat : Int)) := by
  obtain ⟨ad, h1, h2, h3⟩ := h.2 (by omega)
  have hl : i < ts.length := by rw [h.1]; exact hi
  obtain ⟨k1, k2, k3⟩ := h3 i ts[i] (List.getElem?_eq_getElem hl)
  have e : ts.getD i (0, 0, 0) = ts[i] := by simp [List.getD_eq_getElem?_getD, hl]
  exact ⟨ad, h1, h2, by rw [e]; exact k1, by rw [e]; exact k2, by rw [e]; exact k3⟩
theorem Tks.nil (w : World) (B : Nat) (A : Option Addr) : Tks w B A 0 [] := ⟨rfl, fun h => absurd h (Nat.lt_irrefl _)⟩
theorem u8_of {z : Int} (h : 0 ≤ z ∧ z ≤ 255) : ∃ x : UInt8, z = (x.toNat : Int) :=
  ⟨UInt8.ofNat z.toNat, by simp only [UInt8.toNat_ofNat']; omega⟩
theorem three_cells {l : List Value} (h : l.length = 3) : ∃ a b c, l = [a, b, c] := by
  match l, h with
  | [a, b, c], _ => exact ⟨a, b, c, rfl⟩
set_option maxRecDepth 100000 in
/-- a slice of tokens among a statement's arguments -/
theorem open_tokens {H : Type} {enc : TypeId × Value → H} {w : World} {r : Reach} {b0 : Nat} {base : Nat} {spare : Nat → Bool} {held : Bool} {v : Value} {d : DataW H} {ps : List MemPlace} (hval : Value.okWide Try.prog w r b0 42 v)
    (hd : DataW.Trod enc Try.prog w base spare held 42 v d ps) :
    ∃ (A : Option Addr) (ts : List TokZ) (c : Nat), v = .slice A ts.length c ∧ ts.length ≤ c ∧ c ≤ maxLen ∧ Tks w w.heap.size A ts.length ts := by
  obtain ⟨a, len, cap, rfl⟩ := okWide_slice Try.underlying42 hval
  obtain ⟨fuel, hf⟩ := hd
  have ce : Try.prog.cellsOf 55 = 3 := by kernel_rfl
  have c1 : Try.prog.cellsOf 3 = 1 := by kernel_rfl
  have c2 : Try.prog.cellsOf 5 = 1 := by kernel_rfl
  rcases Go.Deep.open_slice Try.underlying42 hf with ⟨h0, _⟩ | ⟨ad, len', cap', m, k, D, Pl, h0, _, hl, hm, hmm, _, hall⟩
  · simp only [Value.cells, List.cons.injEq, Value.slice.injEq, and_true] at h0
    obtain ⟨rfl, rfl, rfl⟩ := h0
    exact ⟨none, [], 0, rfl, Nat.le_refl _, Nat.zero_le _, Tks.nil _ _ _⟩
  · simp only [Value.cells, List.cons.injEq, Value.slice.injEq, and_true] at h0
    obtain ⟨rfl, rfl, rfl⟩ := h0
    have hlm : len ≤ m := by rw [hmm]; split <;> omega
    have each : ∀ i, i < len → ∃ q : TokZ, w.cell? (ad.add (i * 3)) = some (.int .i64 q.1) ∧ w.cell? ((ad.add (i * 3)).add 1) = some (.int .i64 q.2.1) ∧ w.cell? ((ad.add (i * 3)).add 2) = some (.int .u8 (q.2.2.toNat : Int)) := by
      intro i hi
      obtain ⟨cs, g1, g2⟩ := hall i (by omega)
      rw [ce] at g1
      obtain ⟨_, hlen, hcell⟩ := World.cells?_some g1
      obtain ⟨v0, v1, v2, rfl⟩ := three_cells hlen
      obtain ⟨xs, k', _, _, _, hxl, hel⟩ := DataW.trod_struct Try.underlying55 g2
      have h1 : DataW.trod enc Try.prog w base spare held k' 3 ((([v0, v1, v2] : List Value).drop 0).take (Try.prog.cellsOf 3)) = xs[0]? := hel 0 _ rfl
      have h2 : DataW.trod enc Try.prog w base spare held k' 3 ((([v0, v1, v2] : List Value).drop 1).take (Try.prog.cellsOf 3)) = xs[1]? := hel 1 _ rfl
      have h3 : DataW.trod enc Try.prog w base spare held k' 5 ((([v0, v1, v2] : List Value).drop 2).take (Try.prog.cellsOf 5)) = xs[2]? := hel 2 _ rfl
      have l3 : xs.length = 3 := hxl
      rw [List.getElem?_eq_getElem (by omega)] at h1 h2 h3
      simp only [c1, c2, List.drop_succ_cons, List.drop_zero, List.take_succ_cons, List.take_zero] at h1 h2 h3
      obtain ⟨x, ex, _, _⟩ := DataW.trod_int Try.underlying3 h1
      obtain ⟨y, ey, _, _⟩ := DataW.trod_int Try.underlying3 h2
      obtain ⟨z, ez, _, hz⟩ := DataW.trod_int Try.underlying5 h3
      simp only [List.cons.injEq, and_true] at ex ey ez
      subst ex ey ez
      obtain ⟨u, rfl⟩ := u8_of (bounds_u8 hz)
      have e0 := hcell 0 (by omega)
      have e1 := hcell 1 (by omega)
      have e2 := hcell 2 (by omega)
      exact ⟨(x, y, u), by simpa [add_add] using e0, by simpa using e1, by simpa using e2⟩
    obtain ⟨q, hq⟩ := Go.Deep.choose_lt each
    obtain ⟨ts, hts⟩ : ∃ ts : List TokZ, ts = (List.range len).map q := ⟨_, rfl⟩
    have hlen : ts.length = len := by rw [hts]; simp
    subst hlen
    refine ⟨some ad, ts, cap, rfl, hl, hm, rfl, fun hn => ⟨ad, rfl, ?_, fun i z hi => ?_⟩⟩
    · have hb := block_lt_of_cell (hq 0 hn).1
      simpa [add_block] using hb
    · have hi' : i < ts.length := (List.getElem?_eq_some_iff.1 hi).1
      have hz : z = q i := by
        rw [hts, List.getElem?_map, List.getElem?_range hi', Option.map_some, Option.some.injEq] at hi
        exact hi.symm
      subst hz
      obtain ⟨e0, e1, e2⟩ := hq i hi'
      exact ⟨e0, e1, e2⟩
end Go.Proofs.Ytcmbpniikcghfaa
