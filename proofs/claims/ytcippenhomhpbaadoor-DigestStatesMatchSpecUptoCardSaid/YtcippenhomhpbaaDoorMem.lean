/-
  Small words for memory, of no program: a block that is known whole ('Row'), how it is kept, and how results that lie in blocks are read. Helper text: it proves nothing of the program by itself.
-/
import Derived.WalkKit
import Derived.WalkSmall
import Derived.Deep.Draws
import Derived.Laws.CopyOwn
import Derived.Lib.Hide
namespace Go.Proofs.YtcippenhomhpbaaDoor
open Go.RowKit

/-- Block g is just the cells cs; none of them is frozen. -/
def Row (w : World) (g : Nat) (t : TypeId) (cs : Array Value) : Prop := w.heap[g]? = some (.cells cs t (0, 0))

section
variable {w w' : World} {g : Nat} {t : TypeId} {cs : Array Value}
theorem Row.cell (h : Row w g t cs) (i : Nat) : w.cell? ⟨g, i, none⟩ = cs[i]? := cell_of_row w g i cs t (0, 0) h
theorem Row.free (h : Row w g t cs) (i : Nat) : w.frozen? ⟨g, i, none⟩ = false := frozen_of_row w g i cs t h
theorem Row.lt (h : Row w g t cs) : g < w.heap.size := (Array.getElem?_eq_some_iff.1 h).1
theorem Row.new (w : World) (t : TypeId) (cs : Array Value) : Row (w.alloc (.cells cs t)) w.heap.size t cs := heap_alloc_new w _
theorem Row.newAt (w : World) (t : TypeId) (cs : Array Value) (n : Nat) (hn : n = w.heap.size) : Row (w.alloc (.cells cs t)) n t cs := by
  subst hn
  exact heap_alloc_new w _
theorem Row.newEq (w : World) (t : TypeId) (cs ds : Array Value) (n : Nat) (hn : n = w.heap.size) (h : cs = ds) : Row (w.alloc (.cells cs t)) n t ds := by
  subst hn h
  exact heap_alloc_new w _
theorem Row.alloc (h : Row w g t cs) (o : Obj) : Row (w.alloc o) g t cs := (Below.heap_alloc w o g h.lt).trans h
theorem Row.drew (h : Row w g t cs) : Row w.drew g t cs := h
theorem Row.drewN (h : Row w g t cs) (n : Nat) : Row (w.drewN n) g t cs := h
theorem Row.put (h : Row w g t cs) (i : Nat) (u : Value) : Row (w.setCell ⟨g, i, none⟩ u) g t (cs.setIfInBounds i u) := heap_setCell_same w g i cs t u h
theorem Row.far (h : Row w g t cs) {p : Addr} (hp : g ≠ p.block) (u : Value) : Row (w.setCell p u) g t cs := (heap_setCell_other w p g u hp).trans h
theorem Row.row (h : Row w g t cs) (cs' : Array Value) : Row (w.setRow g cs') g t cs' := setRow_heap w g cs cs' t (0, 0) h
theorem Row.rowFar (h : Row w g t cs) {k : Nat} (hk : g ≠ k) (cs' : Array Value) : Row (w.setRow k cs') g t cs := (setRow_other w k g cs' hk).trans h
theorem Row.below {B : Nat} (h : Row w g t cs) (hb : Below B w w') (hg : g < B) : Row w' g t cs := (hb.block g hg).trans h
theorem Row.grown {row : Option Nat} (h : Row w g t cs) (hb : w.grownBy w' row) (hg : some g ≠ row) : Row w' g t cs := (hb.block g h.lt hg).trans h
end

theorem blw_drewN {B : Nat} {a w : World} (h : Below B a w) (n : Nat) : Below B a (w.drewN n) := ⟨h.os, h.tape, h.output, h.size, h.block⟩
theorem blw_row {B : Nat} {a w : World} (h : Below B a w) {g : Nat} (hg : B ≤ g) (cs : Array Value) : Below B a (w.setRow g cs) := below_setRow h hg cs
/-- a callee's new blocks, seen from the caller -/
theorem blw_call {B : Nat} {a w w' : World} (h : Below B a w) (hB : B ≤ w.heap.size) (k : Below w.heap.size w w') : Below B a w' := h.trans (k.mono hB)

/-- what a callee leaves of the caller's cells, as rules for the walk -/
theorem blw_cells {W w1 : World} (hb : Below W.heap.size W w1) : (∀ b o, b < W.heap.size → w1.cell? ⟨b, o, none⟩ = W.cell? ⟨b, o, none⟩) ∧ (∀ b o, b < W.heap.size → w1.frozen? ⟨b, o, none⟩ = W.frozen? ⟨b, o, none⟩) :=
  ⟨fun b o h => hb.cell (p := ⟨b, o, none⟩) h, fun b o h => hb.frozen (p := ⟨b, o, none⟩) h⟩
/-- two results that lie in blocks -/
theorem results_rows {P : Program} {fn : Func} {p q : Tmp} {t u : TypeId} (h : fn.results = #[.cell p t, .cell q u]) (tmps : Array Value) (w : World)
    (g k : Nat) (a b : TypeId) (cs ds : Array Value) (d e : TypeDesc)
    (hp : tmps.getD p undef = .pointer (some ⟨g, 0, none⟩)) (hq : tmps.getD q undef = .pointer (some ⟨k, 0, none⟩)) (hg : Row w g a cs) (hk : Row w k b ds)
    (hu : P.underlying t = some d) (hd : (match d with | .struct _ | .array _ _ => true | _ => false) = true) (hi : (P.info? t).map (·.size) = some cs.size)
    (hv : P.underlying u = some e) (he : (match e with | .struct _ | .array _ _ => true | _ => false) = true) (hj : (P.info? u).map (·.size) = some ds.size) :
    (results fn tmps).run P w = .ok (.tuple #[.agg cs, .agg ds]) w := by
  have hp' : tmps[p]?.getD undef = .pointer (some ⟨g, 0, none⟩) := by simpa using hp
  have hq' : tmps[q]?.getD undef = .pointer (some ⟨k, 0, none⟩) := by simpa using hq
  simp [results, h, hp', hq', asAddr, run_loadVar_row w g a t cs (0, 0) d hg hu hd hi, run_loadVar_row w k b u ds (0, 0) e hk hv he hj]

/-- one result that lies in a block -/
theorem results_row {P : Program} {fn : Func} {p : Tmp} {t : TypeId} (h : fn.results = #[.cell p t]) (tmps : Array Value) (w : World) (g : Nat) (a : TypeId) (cs : Array Value) (d : TypeDesc)
    (hp : tmps.getD p undef = .pointer (some ⟨g, 0, none⟩)) (hg : Row w g a cs)
    (hu : P.underlying t = some d) (hd : (match d with | .struct _ | .array _ _ => true | _ => false) = true) (hi : (P.info? t).map (·.size) = some cs.size) :
    (results fn tmps).run P w = .ok (.agg cs) w := results_cell_row h tmps w g a cs (0, 0) d hp hg hu hd hi

/-! ### whole rows inside a region that draws its order: rules at the level of the whole operation, for 'attribute [local go_sem ↓]' -/
/-- the block of a pointer -/
def blkOf : Value → Nat
  | .pointer (some a) => a.block
  | _ => 0
/-- the cells of a block -/
def rowAt (w : World) (g : Nat) : Array Value := match w.heap[g]? with
  | some (.cells cs _ _) => cs
  | _ => #[]
/-- a block of n cells, none of them frozen -/
def IsRow (w : World) (g n : Nat) : Prop := ∃ t cs, Row w g t cs ∧ cs.size = n
theorem Row.is {w : World} {g : Nat} {t : TypeId} {cs : Array Value} (h : Row w g t cs) {n : Nat} (hn : cs.size = n) : IsRow w g n := ⟨t, cs, h, hn⟩
theorem Row.at {w : World} {g : Nat} {t : TypeId} {cs : Array Value} (h : Row w g t cs) : rowAt w g = cs := by
  unfold Row at h
  simp [rowAt, h]
/-- n cells of one cell each -/
def Flat (v : Value) (n : Nat) : Prop := ∃ cs : Array Value, v = .agg cs ∧ cs.size = n ∧ ∀ u ∈ cs, u.oneCell' = true
/-- the number of cells of a type -/
def sizeT (P : Program) (t : TypeId) : Nat := ((P.info? t).map (·.size)).getD 0
/-- a type's number of cells is known -/
def Sized (P : Program) (t : TypeId) : Prop := (P.info? t).map (·.size) = some (sizeT P t)
theorem blkOf_ptr (a : Addr) : blkOf (.pointer (some a)) = a.block := rfl
theorem cells_agg (cs : Array Value) : (Value.agg cs).cells = cs := rfl
theorem wp_store_flat {P : Program} {d : Option Tmp} {ty ty' : TypeId} {x y : Tmp} {pos : String} {af : Array Edge} {ts : Array Value} {ds : List Deferred} {w : World} {K : Act → World → Prop} {Q : Exit → Act → World → Prop}
    (hp : ts.getD x undef = .pointer (some ⟨blkOf (ts.getD x undef), 0, none⟩)) (hi : Sized P ty) (hf : Flat (ts.getD y undef) (sizeT P ty)) (hr : IsRow w (blkOf (ts.getD x undef)) (sizeT P ty)) :
    Oper.wp P { dst := d, op := .store ty (.tmp x) (.tmp y), type := ty', pos := pos, after := af, guard := none } { tmps := ts, defers := ds } w K Q = K (({ tmps := ts, defers := ds } : Act).put d undef) (w.setRow (blkOf (ts.getD x undef)) (ts.getD y undef).cells) := by
  obtain ⟨cs, hv, hn, h1⟩ := hf
  obtain ⟨t, old, hr, ho⟩ := hr
  have h2 := run_storeVar_row (P := P) w (blkOf (ts.getD x undef)) t ty old cs hr (by rw [show (P.info? ty).map (·.size) = some (sizeT P ty) from hi, hn]) (by rw [ho, hn]) (Array.all_eq_true_iff_forall_mem.2 h1)
  have hx : Act.eval ({ tmps := ts, defers := ds } : Act) (.tmp x) = .pointer (some ⟨blkOf (ts.getD x undef), 0, none⟩) := hp
  have hy : Act.eval ({ tmps := ts, defers := ds } : Act) (.tmp y) = .agg cs := hv
  rw [hv]
  unfold Oper.wp execOp
  simp only [hx, hy, Instr.storeAt, Instr.sureAddr, Sem.run_bind, Sem.run_pure, Result.andThen_ok, h2]
  rfl
theorem all_one {cs : Array Value} (h : ∀ v ∈ cs, v.oneCell' = true) : cs.all (·.oneCell') = true := Array.all_eq_true_iff_forall_mem.2 h
theorem ret_int {k : IntKind} {a b : Int} (h : a = b) : Ending.returned (.int k a) = .returned (.int k b) := by rw [h]
theorem ret_agg {a b : Array Value} (h : a = b) : Ending.returned (.agg a) = .returned (.agg b) := by rw [h]
theorem ret_bool {a b : Bool} (h : a = b) : Ending.returned (.bool a) = .returned (.bool b) := by rw [h]
theorem ret_string {a b : ByteArray} (h : a = b) : Ending.returned (.string a) = .returned (.string b) := by rw [h]
theorem ret_eq {a b : Value} (h : a = b) : Ending.returned a = .returned b := by rw [h]
end Go.Proofs.YtcippenhomhpbaaDoor
