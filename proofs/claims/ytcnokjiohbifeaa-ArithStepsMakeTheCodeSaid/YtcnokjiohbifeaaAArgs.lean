/-
  How the states of the coders among a statement's arguments are opened; three results stored into new blocks.
-/
import Derived.Test.YtcnokjiohbifeaaACodes
import Derived.Test.YtcnokjiohbifeaaBOpen
import Derived.Test.YtcnokjiohbifeaaIOpen
import Derived.Test.YtcnokjiohbifeaaGOut3
namespace Go.Proofs.Ytcnokjiohbifeaa
open Go.ChangeShapes Go.WideShapes Go.ChangeAt Go.RowKit

theorem allocCd : AllocRun Try.prog 23 #[.int .i64 0, .int .i64 0, .int .i64 0] := fun w => by kernel_rfl
theorem allocDc : AllocRun Try.prog 47 #[.int .i64 0, .int .i64 0, .int .i64 0, .int .i64 0] := fun w => by kernel_rfl
theorem allocB : AllocRun Try.prog 26 #[.slice none 0 0, .int .i64 0] := fun w => by kernel_rfl
theorem allocF : AllocRun Try.prog 28 #[.int .i64 0, .int .i64 0] := fun w => by kernel_rfl
theorem three_of {l : List Value} (h : l.length = 3) : ∃ a b c, l = [a, b, c] := by
  match l, h with
  | [a, b, c], _ => exact ⟨a, b, c, rfl⟩
theorem four_of {l : List Value} (h : l.length = 4) : ∃ a b c d, l = [a, b, c, d] := by
  match l, h with
  | [a, b, c, d], _ => exact ⟨a, b, c, d, rfl⟩
/-- AN ENCODER'S STATE BY VALUE. -/
theorem open_coder {H : Type} {enc : TypeId × Value → H} {w : World} {r : Reach} {b0 : Nat} {base : Nat} {spare : Nat → Bool} {held : Bool} {v : Value} {d : DataW H} {ps : List MemPlace} (hval : Value.okWide Try.prog w r b0 23 v)
    (hd : DataW.Trod enc Try.prog w base spare held 23 v d ps) : ∃ a b q : Int, v = .agg (cds a b q) := by
  obtain ⟨cs, rfl, hsz⟩ := okWide_struct Try.underlying23 hval
  rw [show Try.prog.cellsOf 23 = 3 by kernel_rfl] at hsz
  obtain ⟨l⟩ := cs
  obtain ⟨x, y, z, rfl⟩ := three_of (l := l) hsz
  obtain ⟨fuel, hf⟩ := hd
  obtain ⟨xs, m, _, ex, _, hlen, hel⟩ := DataW.trod_struct Try.underlying23 hf
  have h1 : DataW.trod enc Try.prog w base spare held m 3 ((([x, y, z] : List Value).drop 0).take (Try.prog.cellsOf 3)) = xs[0]? := hel 0 _ rfl
  have h2 : DataW.trod enc Try.prog w base spare held m 3 ((([x, y, z] : List Value).drop 1).take (Try.prog.cellsOf 3)) = xs[1]? := hel 1 _ rfl
  have h3 : DataW.trod enc Try.prog w base spare held m 3 ((([x, y, z] : List Value).drop 2).take (Try.prog.cellsOf 3)) = xs[2]? := hel 2 _ rfl
  have l3 : xs.length = 3 := hlen
  rw [List.getElem?_eq_getElem (by omega)] at h1 h2 h3
  simp only [show Try.prog.cellsOf 3 = 1 by kernel_rfl, List.drop_succ_cons, List.drop_zero, List.take_succ_cons, List.take_zero] at h1 h2 h3
  obtain ⟨a, ea, _, _⟩ := DataW.trod_int Try.underlying3 h1
  obtain ⟨b, eb, _, _⟩ := DataW.trod_int Try.underlying3 h2
  obtain ⟨q, eq, _, _⟩ := DataW.trod_int Try.underlying3 h3
  simp only [List.cons.injEq, and_true] at ea eb eq
  subst ea eb eq
  exact ⟨a, b, q, rfl⟩
/-- A DECODER'S STATE BY VALUE. -/
theorem open_decoder {H : Type} {enc : TypeId × Value → H} {w : World} {r : Reach} {b0 : Nat} {base : Nat} {spare : Nat → Bool} {held : Bool} {v : Value} {d : DataW H} {ps : List MemPlace} (hval : Value.okWide Try.prog w r b0 47 v)
    (hd : DataW.Trod enc Try.prog w base spare held 47 v d ps) : ∃ a b x i : Int, v = .agg (dcs a b x i) := by
  obtain ⟨cs, rfl, hsz⟩ := okWide_struct Try.underlying47 hval
  rw [show Try.prog.cellsOf 47 = 4 by kernel_rfl] at hsz
  obtain ⟨l⟩ := cs
  obtain ⟨x, y, z, t, rfl⟩ := four_of (l := l) hsz
  obtain ⟨fuel, hf⟩ := hd
  obtain ⟨xs, m, _, ex, _, hlen, hel⟩ := DataW.trod_struct Try.underlying47 hf
  have h1 : DataW.trod enc Try.prog w base spare held m 3 ((([x, y, z, t] : List Value).drop 0).take (Try.prog.cellsOf 3)) = xs[0]? := hel 0 _ rfl
  have h2 : DataW.trod enc Try.prog w base spare held m 3 ((([x, y, z, t] : List Value).drop 1).take (Try.prog.cellsOf 3)) = xs[1]? := hel 1 _ rfl
  have h3 : DataW.trod enc Try.prog w base spare held m 3 ((([x, y, z, t] : List Value).drop 2).take (Try.prog.cellsOf 3)) = xs[2]? := hel 2 _ rfl
  have h4 : DataW.trod enc Try.prog w base spare held m 3 ((([x, y, z, t] : List Value).drop 3).take (Try.prog.cellsOf 3)) = xs[3]? := hel 3 _ rfl
  have l3 : xs.length = 4 := hlen
  rw [List.getElem?_eq_getElem (by omega)] at h1 h2 h3 h4
  simp only [show Try.prog.cellsOf 3 = 1 by kernel_rfl, List.drop_succ_cons, List.drop_zero, List.take_succ_cons, List.take_zero] at h1 h2 h3 h4
  obtain ⟨a, ea, _, _⟩ := DataW.trod_int Try.underlying3 h1
  obtain ⟨b, eb, _, _⟩ := DataW.trod_int Try.underlying3 h2
  obtain ⟨q, eq, _, _⟩ := DataW.trod_int Try.underlying3 h3
  obtain ⟨u, eu, _, _⟩ := DataW.trod_int Try.underlying3 h4
  simp only [List.cons.injEq, and_true] at ea eb eq eu
  subst ea eb eq eu
  exact ⟨a, b, q, u, rfl⟩
end Go.Proofs.Ytcnokjiohbifeaa
