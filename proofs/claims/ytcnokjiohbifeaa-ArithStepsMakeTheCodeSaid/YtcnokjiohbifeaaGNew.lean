/-
  What a call's results leave where they are stored into new blocks: rules of no program. Helper text: it proves nothing of the program by itself.
-/
import Derived.Test.YtcnokjiohbifeaaGSl
namespace Go.Proofs.Ytcnokjiohbifeaa
open Go.RowKit

theorem blw_new1 (w : World) (o : Obj) (x : Array Value) : Below w.heap.size w ((w.alloc o).setRow w.heap.size x) :=
  blw_row ((Below.refl _ _).alloc (Nat.le_refl _) _) (Nat.le_refl _) _
theorem row_new1 (w : World) (t : TypeId) (x0 x : Array Value) : Row ((w.alloc (.cells x0 t)).setRow w.heap.size x) w.heap.size t x := Row.row (Row.new w t x0) _
theorem blw_new2 (w : World) (o1 o2 : Obj) (x y : Array Value) : Below w.heap.size w ((((w.alloc o1).alloc o2).setRow w.heap.size x).setRow (w.heap.size + 1) y) :=
  blw_row (blw_row (((Below.refl _ _).alloc (Nat.le_refl _) _).alloc (by simp) _) (Nat.le_refl _) _) (Nat.le_succ _) _
theorem row_new2a (w : World) (t u : TypeId) (x0 y0 x y : Array Value) : Row ((((w.alloc (.cells x0 t)).alloc (.cells y0 u)).setRow w.heap.size x).setRow (w.heap.size + 1) y) w.heap.size t x :=
  Row.rowFar (Row.row ((Row.new w t x0).alloc _) _) (by omega) _
theorem row_new2b (w : World) (t u : TypeId) (x0 y0 x y : Array Value) : Row ((((w.alloc (.cells x0 t)).alloc (.cells y0 u)).setRow w.heap.size x).setRow (w.heap.size + 1) y) (w.heap.size + 1) u y :=
  Row.row (Row.rowFar (Row.newAt (w.alloc (.cells x0 t)) u y0 _ (by simp)) (by omega) _) _
/-- a new block that keeps what it was made with -/
theorem row_far_new2 (w : World) (t u : TypeId) (x0 y0 x : Array Value) : Row (((w.alloc (.cells x0 t)).alloc (.cells y0 u)).setRow w.heap.size x) (w.heap.size + 1) u y0 :=
  Row.rowFar (Row.newAt (w.alloc (.cells x0 t)) u y0 _ (by simp)) (by omega) _
end Go.Proofs.Ytcnokjiohbifeaa
