/-
  How a bit string among a statement's arguments is opened.
-/
import Derived.Test.YtahihgmlkcbfiaaBNum
import Derived.Test.YtahihgmlkcbfiaaGPost
import Derived.Test.YtahihgmlkcbfiaaRows
namespace Go.Proofs.Ytahihgmlkcbfiaa
open Go.ChangeShapes Go.WideShapes Go.ChangeAt Go.RowKit

theorem laid_out : laidOutB Try.prog = true := by kernel_rfl
theorem two_of {l : List Value} (h : l.length = 2) : ∃ a b, l = [a, b] := by
  match l, h with
  | [a, b], _ => exact ⟨a, b, rfl⟩
/-- A BIT STRING BY VALUE. -/
theorem open_bits {H : Type} {enc : TypeId × Value → H} {w : World} {r : Reach} {b0 : Nat} {base : Nat} {spare : Nat → Bool} {held : Bool} {v : Value} {d : DataW H} {ps : List MemPlace} (hval : Value.okWide Try.prog w r b0 43 v)
    (hd : DataW.Trod enc Try.prog w base spare held 43 v d ps) :
    ∃ (A : Option Addr) (L : List UInt8) (c : Nat) (n : Int), v = .agg (bcs A L.length c n) ∧ -9223372036854775808 ≤ n ∧ n ≤ 9223372036854775807 ∧ L.length ≤ c ∧ c ≤ maxLen ∧ Sl w w.heap.size A L.length (bl L) := by
  obtain ⟨cs, rfl, hsz⟩ := okWide_struct Try.underlying43 hval
  rw [show Try.prog.cellsOf 43 = 2 by kernel_rfl] at hsz
  obtain ⟨l⟩ := cs
  obtain ⟨a, b, rfl⟩ := two_of (l := l) hsz
  obtain ⟨fuel, hf⟩ := hd
  obtain ⟨xs, m, _, ex, _, hlen, hel⟩ := DataW.trod_struct Try.underlying43 hf
  have h1 : DataW.trod enc Try.prog w base spare held m 22 ((([a, b] : List Value).drop 0).take (Try.prog.cellsOf 22)) = xs[0]? := hel 0 _ rfl
  have h2 : DataW.trod enc Try.prog w base spare held m 3 ((([a, b] : List Value).drop 1).take (Try.prog.cellsOf 3)) = xs[1]? := hel 1 _ rfl
  have l3 : xs.length = 2 := hlen
  rw [List.getElem?_eq_getElem (by omega)] at h1 h2
  simp only [show Try.prog.cellsOf 22 = 1 by kernel_rfl, show Try.prog.cellsOf 3 = 1 by kernel_rfl, List.drop_succ_cons, List.drop_zero, List.take_succ_cons, List.take_zero] at h1 h2
  obtain ⟨A, T, cp, et, hc, hcm, hS, _⟩ := open_bslice_cells Try.underlying22 Try.underlying5 (by kernel_rfl) h1
  obtain ⟨n, en, _, hwf⟩ := DataW.trod_int Try.underlying3 h2
  simp only [List.cons.injEq, and_true] at et en
  subst et en
  exact ⟨A, T, cp, n, rfl, (bounds_i64 hwf).1, (bounds_i64 hwf).2, hc, hcm, hS⟩
end Go.Proofs.Ytahihgmlkcbfiaa
