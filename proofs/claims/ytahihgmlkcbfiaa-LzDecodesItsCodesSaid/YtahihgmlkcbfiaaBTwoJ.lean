/-
  Join of two bit strings that are written out.
-/
import Derived.Test.YtahihgmlkcbfiaaBJoin
namespace Go.Proofs.Ytahihgmlkcbfiaa
open Go.RowKit

theorem bsv_two (w : World) (t : TypeId) (cs : Array Value) (l1 l2 : List Bool) (A1 A2 : Option Addr) (c1 c2 : Nat) (h : cs = #[.slice A1 (pack l1).length c1, .int .i64 l1.length, .slice A2 (pack l2).length c2, .int .i64 l2.length])
    (h1 : l1.length ≤ 131072) (h2 : l2.length ≤ 131072) (s1 : Sl w w.heap.size A1 (pack l1).length (bl (pack l1))) (s2 : Sl w w.heap.size A2 (pack l2).length (bl (pack l2))) :
    BsV (w.alloc (.cells cs t)) (w.alloc (.cells cs t)).heap.size (some ⟨w.heap.size, 0, none⟩) 2 [l1, l2] := by
  subst h
  have hb := (Below.refl w.heap.size w).alloc (Nat.le_refl _) (.cells #[.slice A1 (pack l1).length c1, .int .i64 l1.length, .slice A2 (pack l2).length c2, .int .i64 l2.length] t)
  have hr := Row.new w t #[.slice A1 (pack l1).length c1, .int .i64 l1.length, .slice A2 (pack l2).length c2, .int .i64 l2.length]
  refine ⟨rfl, fun _ => ⟨_, rfl, by simp, fun i l hi => ?_⟩⟩
  rcases i with _ | _ | i
  · obtain rfl : l1 = l := by simpa using hi
    exact ⟨A1, c1, hr.cell 0, hr.cell 1, (s1.below hb).wider hb.size, h1⟩
  · obtain rfl : l2 = l := by simpa using hi
    exact ⟨A2, c2, hr.cell 2, hr.cell 3, (s2.below hb).wider hb.size, h2⟩
  · simp at hi
theorem build_two (A1 A2 : Option Addr) (n1 n2 c1 c2 : Nat) (k1 k2 : Int) (w : World) :
    (Instr.buildSlice 61 2 #[(0, .agg (bcs A1 n1 c1 k1)), (1, .agg (bcs A2 n2 c2 k2))]).run Try.prog w = .ok (.slice (some ⟨w.heap.size, 0, none⟩) 2 2) (w.alloc (.cells #[.slice A1 n1 c1, .int .i64 k1, .slice A2 n2 c2, .int .i64 k2] 43)) := by
  kernel_rfl
theorem wpList_two {ops : Array Oper} {rest : List Oper} {o : Oper} {a : Act} {w : World} {Q : Exit → Act → World → Prop} (hgd : o.guard = none) (x y : Operand) (ho : o.op = .buildSlice 61 2 #[(0, x), (1, y)])
    (A1 A2 : Option Addr) (n1 n2 c1 c2 : Nat) (k1 k2 : Int) (hx : a.eval x = .agg (bcs A1 n1 c1 k1)) (hy : a.eval y = .agg (bcs A2 n2 c2 k2))
    (h : wpList Try.prog ops Q rest (a.put o.dst (.slice (some ⟨w.heap.size, 0, none⟩) 2 2)) (w.alloc (.cells #[.slice A1 n1 c1, .int .i64 k1, .slice A2 n2 c2, .int .i64 k2] 43))) : wpList Try.prog ops Q (o :: rest) a w := by
  refine wpList_plain hgd fun K hK => ?_
  have hrun := build_two A1 A2 n1 n2 c1 c2 k1 k2 w
  unfold Oper.wp
  simp [execOp, ho, hx, hy, hrun, Result.andThen]
  exact hK _ _ h
theorem join_two (l1 l2 l : List Bool) (h : l = l1 ++ l2) (hl : l.length ≤ 131072) (A : Option Addr) (w : World) (hS : BsV w w.heap.size A 2 [l1, l2]) :
    Calls Try.prog 33 #[.slice A 2 2] w (BitsOut w l) := by
  have e : [l1, l2].flatten = l := by rw [h]; simp
  have := join_ok [l1, l2] 2 (by decide) (by rw [e]; exact hl) A 2 w hS
  rw [e] at this
  exact this
end Go.Proofs.Ytahihgmlkcbfiaa
