/-
  Three results of a call stored into three new variables, as one step of a walk: the world behind it is opaque, with what is known of it. Helper text: it proves nothing of the program by itself.
-/
import Derived.Test.YtcnokjiohbifeaaGSl
namespace Go.Proofs.Ytcnokjiohbifeaa
open Go.RowKit

section
variable {P : Program} {ops : Array Oper} {rest : List Oper} {a : Act} {w : World} {Q : Exit → Act → World → Prop}
/-- a new variable's run -/
def AllocRun (P : Program) (t : TypeId) (c0 : Array Value) : Prop := ∀ w : World, (Instr.alloc t true (.tuple #[])).run P w = .ok (.pointer (some ⟨w.heap.size, 0, none⟩)) (w.alloc (.cells c0 t))
theorem wpList_alloc_run {o : Oper} (hg : o.guard = none) (t : TypeId) (ho : o.op = .alloc t) (c0 : Array Value) (hA : AllocRun P t c0) (h : wpList P ops Q rest (a.put o.dst (.pointer (some ⟨w.heap.size, 0, none⟩))) (w.alloc (.cells c0 t))) : wpList P ops Q (o :: rest) a w := by
  refine wpList_plain hg fun K hK => ?_
  have hrun := hA w
  unfold Oper.wp
  simp [execOp, ho, hrun, Result.andThen]
  exact hK _ _ h
theorem eval_put_far (a : Act) (p x : Tmp) (v : Value) (h : x ≠ p) : (a.put (some p) v).eval (.tmp x) = a.eval (.tmp x) := by
  show (a.tmps.setIfInBounds p v).getD x undef = a.tmps.getD x undef
  simp only [Array.getD_eq_getD_getElem?]
  rw [Array.getElem?_setIfInBounds_ne (Ne.symm h)]
theorem eval_put_same (a : Act) (p : Tmp) (v : Value) (h : p < a.tmps.size) : (a.put (some p) v).eval (.tmp p) = v := by
  show (a.tmps.setIfInBounds p v).getD p undef = v
  simp only [Array.getD_eq_getD_getElem?]
  rw [Array.getElem?_setIfInBounds_self_of_lt h]
  rfl
theorem size_put (a : Act) (p : Tmp) (v : Value) : (a.put (some p) v).tmps.size = a.tmps.size := by
  show (a.tmps.setIfInBounds p v).size = _
  simp
theorem wpList_out3 {o1 o2 o3 o4 o5 o6 : Oper} (t u v : TypeId) (p q r x y z : Tmp) (c0 e0 f0 cs es fs : Array Value)
    (g1 : o1.guard = none) (g2 : o2.guard = none) (g3 : o3.guard = none) (g4 : o4.guard = none) (g5 : o5.guard = none) (g6 : o6.guard = none)
    (h1 : o1.op = .alloc t) (h2 : o2.op = .alloc u) (h3 : o3.op = .alloc v) (h4 : o4.op = .store t (.tmp p) (.tmp x)) (h5 : o5.op = .store u (.tmp q) (.tmp y)) (h6 : o6.op = .store v (.tmp r) (.tmp z))
    (d1 : o1.dst = some p) (d2 : o2.dst = some q) (d3 : o3.dst = some r) (d4 : o4.dst = none) (d5 : o5.dst = none) (d6 : o6.dst = none)
    (A1 : AllocRun P t c0) (A2 : AllocRun P u e0) (A3 : AllocRun P v f0)
    (s1 : (P.info? t).map (·.size) = some cs.size) (s2 : (P.info? u).map (·.size) = some es.size) (s3 : (P.info? v).map (·.size) = some fs.size) (z1 : c0.size = cs.size) (z2 : e0.size = es.size) (z3 : f0.size = fs.size)
    (n1 : cs.all (·.oneCell') = true) (n2 : es.all (·.oneCell') = true) (n3 : fs.all (·.oneCell') = true)
    (l1 : p ≠ q ∧ p ≠ r ∧ q ≠ r ∧ x ≠ p ∧ x ≠ q ∧ x ≠ r ∧ y ≠ p ∧ y ≠ q ∧ y ≠ r ∧ z ≠ p ∧ z ≠ q ∧ z ≠ r) (l2 : p < a.tmps.size ∧ q < a.tmps.size ∧ r < a.tmps.size)
    (ex : a.eval (.tmp x) = .agg cs) (ey : a.eval (.tmp y) = .agg es) (ez : a.eval (.tmp z) = .agg fs)
    (h : ∀ W, Row W w.heap.size t cs → Row W (w.heap.size + 1) u es → Row W (w.heap.size + 1 + 1) v fs → Below w.heap.size w W → wpList P ops Q rest (((a.put (some p) (.pointer (some ⟨w.heap.size, 0, none⟩))).put (some q) (.pointer (some ⟨w.heap.size + 1, 0, none⟩))).put (some r) (.pointer (some ⟨w.heap.size + 1 + 1, 0, none⟩))) W) : wpList P ops Q (o1 :: o2 :: o3 :: o4 :: o5 :: o6 :: rest) a w := by
  obtain ⟨l3, l4, l5, k1, k2, k3, k4, k5, k6, k7, k8, k9⟩ := l1
  obtain ⟨m1, m2, m3⟩ := l2
  refine wpList_alloc_run g1 t h1 c0 A1 ?_
  refine wpList_alloc_run g2 u h2 e0 A2 ?_
  refine wpList_alloc_run g3 v h3 f0 A3 ?_
  rw [d1, d2, d3]
  simp only [World.size_alloc]
  have ep : (((a.put (some p) (.pointer (some ⟨w.heap.size, 0, none⟩))).put (some q) (.pointer (some ⟨w.heap.size + 1, 0, none⟩))).put (some r) (.pointer (some ⟨w.heap.size + 1 + 1, 0, none⟩))).eval (.tmp p) = .pointer (some ⟨w.heap.size, 0, none⟩) := by
    rw [eval_put_far _ _ _ _ l4, eval_put_far _ _ _ _ l3, eval_put_same _ _ _ m1]
  have eq : (((a.put (some p) (.pointer (some ⟨w.heap.size, 0, none⟩))).put (some q) (.pointer (some ⟨w.heap.size + 1, 0, none⟩))).put (some r) (.pointer (some ⟨w.heap.size + 1 + 1, 0, none⟩))).eval (.tmp q) = .pointer (some ⟨w.heap.size + 1, 0, none⟩) := by
    rw [eval_put_far _ _ _ _ l5, eval_put_same _ _ _ (by rw [size_put]; exact m2)]
  have er : (((a.put (some p) (.pointer (some ⟨w.heap.size, 0, none⟩))).put (some q) (.pointer (some ⟨w.heap.size + 1, 0, none⟩))).put (some r) (.pointer (some ⟨w.heap.size + 1 + 1, 0, none⟩))).eval (.tmp r) = .pointer (some ⟨w.heap.size + 1 + 1, 0, none⟩) := by
    rw [eval_put_same _ _ _ (by rw [size_put, size_put]; exact m3)]
  have ex' := (eval_put_far ((a.put (some p) (.pointer (some ⟨w.heap.size, 0, none⟩))).put (some q) (.pointer (some ⟨w.heap.size + 1, 0, none⟩))) r x (.pointer (some ⟨w.heap.size + 1 + 1, 0, none⟩)) k3).trans ((eval_put_far _ _ _ _ k2).trans ((eval_put_far _ _ _ _ k1).trans ex))
  have ey' := (eval_put_far ((a.put (some p) (.pointer (some ⟨w.heap.size, 0, none⟩))).put (some q) (.pointer (some ⟨w.heap.size + 1, 0, none⟩))) r y (.pointer (some ⟨w.heap.size + 1 + 1, 0, none⟩)) k6).trans ((eval_put_far _ _ _ _ k5).trans ((eval_put_far _ _ _ _ k4).trans ey))
  have ez' := (eval_put_far ((a.put (some p) (.pointer (some ⟨w.heap.size, 0, none⟩))).put (some q) (.pointer (some ⟨w.heap.size + 1, 0, none⟩))) r z (.pointer (some ⟨w.heap.size + 1 + 1, 0, none⟩)) k9).trans ((eval_put_far _ _ _ _ k8).trans ((eval_put_far _ _ _ _ k7).trans ez))
  generalize (((a.put (some p) (.pointer (some ⟨w.heap.size, 0, none⟩))).put (some q) (.pointer (some ⟨w.heap.size + 1, 0, none⟩))).put (some r) (.pointer (some ⟨w.heap.size + 1 + 1, 0, none⟩))) = a' at *
  have b0 : Row (((w.alloc (.cells c0 t)).alloc (.cells e0 u)).alloc (.cells f0 v)) w.heap.size t c0 := ((Row.new w t c0).alloc _).alloc _
  have b1 : Row (((w.alloc (.cells c0 t)).alloc (.cells e0 u)).alloc (.cells f0 v)) (w.heap.size + 1) u e0 := (Row.newAt (w.alloc (.cells c0 t)) u e0 _ (by simp)).alloc _
  have b2 : Row (((w.alloc (.cells c0 t)).alloc (.cells e0 u)).alloc (.cells f0 v)) (w.heap.size + 1 + 1) v f0 := Row.newAt ((w.alloc (.cells c0 t)).alloc (.cells e0 u)) v f0 _ (by simp)
  have bb : Below w.heap.size w (((w.alloc (.cells c0 t)).alloc (.cells e0 u)).alloc (.cells f0 v)) := (((Below.refl _ _).alloc (Nat.le_refl _) _).alloc (by simp) _).alloc (by simp; omega) _
  refine wpList_store_row g4 t _ _ h4 w.heap.size cs ep ex' t c0 b0 s1 z1 n1 ?_
  rw [d4]
  refine wpList_store_row g5 u _ _ h5 (w.heap.size + 1) es eq ey' u e0 (b1.rowFar (by omega) _) s2 z2 n2 ?_
  rw [d5]
  refine wpList_store_row g6 v _ _ h6 (w.heap.size + 1 + 1) fs er ez' v f0 ((b2.rowFar (by omega) _).rowFar (by omega) _) s3 z3 n3 ?_
  rw [d6]
  exact h _ (((Row.row b0 _).rowFar (by omega) _).rowFar (by omega) _) ((Row.row (b1.rowFar (by omega) _) _).rowFar (by omega) _) (Row.row ((b2.rowFar (by omega) _).rowFar (by omega) _) _) (blw_row (blw_row (blw_row bb (Nat.le_refl _) _) (by omega) _) (by omega) _)
end
end Go.Proofs.Ytcnokjiohbifeaa
