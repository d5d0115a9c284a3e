/-
  The contracts of package lz as propositions; the closed examples of the statements about it, out of them.
-/
import Derived.Test.YtahihgmlkcbfiaaRChe
import Derived.Test.YtahihgmlkcbfiaaRExp
import Derived.Test.YtahihgmlkcbfiaaTPlain
import Derived.Test.YtahihgmlkcbfiaaRKit
import Derived.Test.YtahihgmlkcbfiaaRBits2
namespace Go.Proofs.Ytahihgmlkcbfiaa
open Go.RowKit

def PValid : Prop := ∀ (d n : Int) (x : UInt8) (w : World), Calls Try.prog 18 #[.agg (tcs d n x)] w fun e w' => e = .returned (.bool (decide (okT (d, n, x)))) ∧ Below w.heap.size w w'
def PParseBad : Prop := ∀ (N D : Nat) (A B : Option Addr) (cd ce : Nat) (w : World), (szF N 1024 D).1 ≠ 0 → Calls Try.prog 11 #[.slice A N cd, .slice B D ce] w fun e w' => (∃ G c, e = .returned (.tuple #[.slice G 0 c, .agg (flt (szF N 1024 D).1 (szF N 1024 D).2)])) ∧ Below w.heap.size w w'
def PParse : Prop := ∀ (L E : List UInt8) (N D : Nat), N = L.length → D = E.length → N ≤ 1024 → D ≤ 512 → ∀ (A B : Option Addr) (cd ce : Nat) (w : World), Sl w w.heap.size A N (bl L) → Sl w w.heap.size B D (bl E) →
  Calls Try.prog 11 #[.slice A N cd, .slice B D ce] w fun e w' => (∃ G c K t, Tab (E ++ L) D N K t 0 ∧ e = .returned (.tuple #[.slice G (pathT t N N 0).length c, .agg (flt 0 0)]) ∧ Tks w' w'.heap.size G (pathT t N N 0).length (tz (pathT t N N 0))) ∧ Below w.heap.size w w'
def PExpandBad : Prop := ∀ (ts : List TokZ) (k i : Int), TkF ts k i → ∀ (A B : Option Addr) (c d m : Nat) (w : World), Tks w w.heap.size A ts.length ts → Calls Try.prog 16 #[.slice A ts.length c, .slice B m d] w fun e w' => (∃ G c, e = .returned (.tuple #[.slice G 0 c, .agg (flt k i)])) ∧ Below w.heap.size w w'
def PExpandLong : Prop := ∀ (l : List Tk), GoodT l → ∀ n : Nat, n = l.length → n ≤ 1024 → ∀ (A B : Option Addr) (c d m : Nat), 512 < m → ∀ w : World, Tks w w.heap.size A n (tz l) → Calls Try.prog 16 #[.slice A n c, .slice B m d] w fun e w' => (∃ G c, e = .returned (.tuple #[.slice G 0 c, .agg (flt 3 (-2))])) ∧ Below w.heap.size w w'
/-- what Expand answers -/
def XOut (D : Nat) (r : List UInt8 ⊕ (Int × Int)) (w : World) (e : Ending) (w' : World) : Prop :=
  (match r with
    | .inl W => ∃ A c, e = .returned (.tuple #[.slice A (W.length - D) c, .agg (flt 0 0)]) ∧ Sl w' w'.heap.size A (W.length - D) (bl (W.drop D))
    | .inr (k, i) => ∃ A c, e = .returned (.tuple #[.slice A 0 c, .agg (flt k i)])) ∧ Below w.heap.size w w'
def PExpand : Prop := ∀ (l : List Tk), GoodT l → ∀ n : Nat, n = l.length → n ≤ 1024 → ∀ (L : List UInt8) (D : Nat), D = L.length → D ≤ 512 → ∀ (A B : Option Addr) (c cd : Nat) (w : World), Tks w w.heap.size A n (tz l) → Sl w w.heap.size B D (bl L) → Calls Try.prog 16 #[.slice A n c, .slice B D cd] w (XOut D (runT D l L 0) w)
def PCostBad : Prop := ∀ (ts : List TokZ) (k i : Int), TkF ts k i → ∀ (A : Option Addr) (c : Nat) (w : World), Tks w w.heap.size A ts.length ts → Calls Try.prog 21 #[.slice A ts.length c] w fun e w' => e = .returned (.tuple #[.int .i64 0, .agg (flt k i)]) ∧ Below w.heap.size w w'
def PCost : Prop := ∀ (l : List Tk), GoodT l → ∀ n : Nat, n = l.length → n ≤ 1024 → ∀ (A : Option Addr) (c : Nat) (w : World), Tks w w.heap.size A n (tz l) → Calls Try.prog 21 #[.slice A n c] w fun e w' => e = .returned (.tuple #[.int .i64 (costT l : Nat), .agg (flt 0 0)]) ∧ Below w.heap.size w w'
def PEncBad : Prop := ∀ (ts : List TokZ) (k i : Int), TkF ts k i → ∀ (A : Option Addr) (c : Nat) (w : World), Tks w w.heap.size A ts.length ts → Calls Try.prog 22 #[.slice A ts.length c] w fun e w' => (∃ B d, e = .returned (.tuple #[.agg (bcs B 0 d 0), .agg (flt k i)])) ∧ Below w.heap.size w w'
def PEnc : Prop := ∀ (l : List Tk), GoodT l → ∀ n : Nat, n = l.length → n ≤ 1024 → ∀ (A : Option Addr) (c : Nat) (w : World), Tks w w.heap.size A n (tz l) → Calls Try.prog 22 #[.slice A n c] w (BitsOut w (codeT l))
def PDecForm : Prop := ∀ (L : List UInt8) (k : Int), ¬ Good L k → ∀ (c : Int) (A : Option Addr) (d : Nat) (w : World), Sl w w.heap.size A L.length (bl L) → Calls Try.prog 27 #[.agg (bcs A L.length d k), .int .i64 c] w fun e w' => (∃ G c, e = .returned (.tuple #[.slice G 0 c, .int .i64 0, .agg (flt 6 (-1))])) ∧ Below w.heap.size w w'
def PDecRange : Prop := ∀ (l : List Bool), l.length ≤ 131072 → ∀ c : Int, (c < 0 ∨ 1024 < c) → ∀ (A : Option Addr) (d : Nat) (w : World), Sl w w.heap.size A (pack l).length (bl (pack l)) → Calls Try.prog 27 #[.agg (bcs A (pack l).length d l.length), .int .i64 c] w fun e w' => (∃ G c, e = .returned (.tuple #[.slice G 0 c, .int .i64 0, .agg (flt 4 (-2))])) ∧ Below w.heap.size w w'
/-- what Decode answers -/
def YOut (r : (List Tk × Nat) ⊕ (Nat × Nat)) (w : World) (e : Ending) (w' : World) : Prop :=
  (match r with
    | .inl (o, b) => ∃ B d, e = .returned (.tuple #[.slice B o.length d, .int .i64 (b : Nat), .agg (flt 0 0)]) ∧ Tks w' w'.heap.size B o.length (tz o)
    | .inr (z, a) => ∃ B d, e = .returned (.tuple #[.slice B 0 d, .int .i64 0, .agg (flt (z : Nat) (a : Nat))])) ∧ Below w.heap.size w w'
def PDec : Prop := ∀ (l : List Bool), l.length ≤ 131072 → ∀ c : Nat, c ≤ 1024 → ∀ (A : Option Addr) (d : Nat) (w : World), Sl w w.heap.size A (pack l).length (bl (pack l)) → Calls Try.prog 27 #[.agg (bcs A (pack l).length d l.length), .int .i64 c] w (YOut (decF l c 0 c []) w)
/-- all that the statements ask of package lz -/
structure LZ : Prop where
  valid : PValid
  parseBad : PParseBad
  parse : PParse
  expandBad : PExpandBad
  expandLong : PExpandLong
  expand : PExpand
  costBad : PCostBad
  cost : PCost
  encBad : PEncBad
  enc : PEnc
  decForm : PDecForm
  decRange : PDecRange
  dec : PDec

theorem tks_one (w : World) (d m : Int) (t : TokZ) (z : Int) (ht : t = (d, m, t.2.2)) (hz : z = (t.2.2.toNat : Int)) : Tks (w.alloc (.cells #[.int .i64 d, .int .i64 m, .int .u8 z] 37)) (w.alloc (.cells #[.int .i64 d, .int .i64 m, .int .u8 z] 37)).heap.size (some ⟨w.heap.size, 0, none⟩) 1 [t] := by
  refine ⟨rfl, fun _ => ⟨_, rfl, by simp, fun i q hi => ?_⟩⟩
  rcases i with _ | i
  · simp only [List.getElem?_cons_zero, Option.some.injEq] at hi
    subst hi
    have r := Row.new w 37 #[.int .i64 d, .int .i64 m, .int .u8 z]
    rw [add_lit0]
    rw [ht, hz] at *
    exact ⟨(r.cell 0).trans rfl, (r.cell 1).trans rfl, (r.cell 2).trans (by rw [ht] at hz; simp)⟩
  · simp at hi
end Go.Proofs.Ytahihgmlkcbfiaa
