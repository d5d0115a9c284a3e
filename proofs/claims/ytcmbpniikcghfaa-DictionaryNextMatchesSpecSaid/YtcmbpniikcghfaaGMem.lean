/-
  Small words for memory, of no program: a block that is known whole ('Row'), how it is kept, and how results that lie in blocks are read. Helper text: it proves nothing of the program by itself. Small words for slices of one-cell elements, of no program: a slice that reads as a list ('Sl'), nil let in; appending to a row of the call's own from any source, and appending zeros. Helper text: it proves nothing of the program by itself. A byte of a slice of bytes, a bit of a number. Helper text: it proves nothing of the program by itself. How results are read where some lie in slots and the last in a block. Helper text: it proves nothing of the program by itself. What a call's results leave where they are stored into new blocks: rules of no program. Helper text: it proves nothing of the program by itself. Rows of other types stay where an owned slice grows.
-/
import Derived.WalkKit
import Derived.WalkSmall
import Derived.Deep.Draws
import Derived.Laws.CopyOwn
import Derived.Lib.Hide
import Derived.Laws.CopyRow
import Derived.Laws.IdiomStrings
import Derived.Laws.BytesArg
import Derived.Maps.AppendAt
import Derived.Lib.AppendZerosOnto
import Derived.Deep.AppendLies
namespace Go.Proofs.Ytcmbpniikcghfaa
open Go.RowKit

/-- Block g is just the cells cs; none of them is frozen. -/
def Row (w : World) (g : Nat) (t : TypeId) (cs : Array Value) : Prop := w.heap[g]? = some (.cells cs t (0, 0))

section
variable {w w' : World} {g : Nat} {t : TypeId} {cs : Array Value}
theorem Row.cell (h : Row w g t cs) (i : Nat) : w.cell? ⟨g, i, none⟩ = cs[i]? := cell_of_row w g i cs t (0, 0) h
theorem Row.free (h : Row w g t cs) (i : Nat) : w.frozen? ⟨g, i, none⟩ = false := frozen_of_row w g i cs t h
theorem Row.lt (h : Row w g t cs) : g < w.heap.size := (Array.getElem?_eq_some_iff.1 h).1
theorem Row.new (w : World) (t : TypeId) (cs : Array Value) : Row (w.alloc (.cells cs t)) w.heap.size t cs := heap_alloc_new w _
theorem Row.newAt (w : World) (t : TypeId) (cs : Array Value) (n : Nat) (hn : n = w.heap.size) : Row (w.alloc (.cells cs t)) n t cs := by
  subst hn
  exact heap_alloc_new w _
theorem Row.newEq (w : World) (t : TypeId) (cs ds : Array Value) (n : Nat) (hn : n = w.heap.size) (h : cs = ds) : Row (w.alloc (.cells cs t)) n t ds := by
  subst hn h
  exact heap_alloc_new w _
theorem Row.alloc (h : Row w g t cs) (o : Obj) : Row (w.alloc o) g t cs := (Below.heap_alloc w o g h.lt).trans h
theorem Row.drew (h : Row w g t cs) : Row w.drew g t cs := h
theorem Row.drewN (h : Row w g t cs) (n : Nat) : Row (w.drewN n) g t cs := h
theorem Row.put (h : Row w g t cs) (i : Nat) (u : Value) : Row (w.setCell ⟨g, i, none⟩ u) g t (cs.setIfInBounds i u) := heap_setCell_same w g i cs t u h
theorem Row.far (h : Row w g t cs) {p : Addr} (hp : g ≠ p.block) (u : Value) : Row (w.setCell p u) g t cs := (heap_setCell_other w p g u hp).trans h
theorem Row.row (h : Row w g t cs) (cs' : Array Value) : Row (w.setRow g cs') g t cs' := setRow_heap w g cs cs' t (0, 0) h
theorem Row.rowFar (h : Row w g t cs) {k : Nat} (hk : g ≠ k) (cs' : Array Value) : Row (w.setRow k cs') g t cs := (setRow_other w k g cs' hk).trans h
theorem Row.below {B : Nat} (h : Row w g t cs) (hb : Below B w w') (hg : g < B) : Row w' g t cs := (hb.block g hg).trans h
theorem Row.grown {row : Option Nat} (h : Row w g t cs) (hb : w.grownBy w' row) (hg : some g ≠ row) : Row w' g t cs := (hb.block g h.lt hg).trans h
end

theorem blw_drewN {B : Nat} {a w : World} (h : Below B a w) (n : Nat) : Below B a (w.drewN n) := ⟨h.os, h.tape, h.output, h.size, h.block⟩
theorem blw_row {B : Nat} {a w : World} (h : Below B a w) {g : Nat} (hg : B ≤ g) (cs : Array Value) : Below B a (w.setRow g cs) := below_setRow h hg cs
/-- a callee's new blocks, seen from the caller -/
theorem blw_call {B : Nat} {a w w' : World} (h : Below B a w) (hB : B ≤ w.heap.size) (k : Below w.heap.size w w') : Below B a w' := h.trans (k.mono hB)

/-- what a callee leaves of the caller's cells, as rules for the walk -/
theorem blw_cells {W w1 : World} (hb : Below W.heap.size W w1) : (∀ b o, b < W.heap.size → w1.cell? ⟨b, o, none⟩ = W.cell? ⟨b, o, none⟩) ∧ (∀ b o, b < W.heap.size → w1.frozen? ⟨b, o, none⟩ = W.frozen? ⟨b, o, none⟩) :=
  ⟨fun b o h => hb.cell (p := ⟨b, o, none⟩) h, fun b o h => hb.frozen (p := ⟨b, o, none⟩) h⟩
/-- two results that lie in blocks -/
theorem results_rows {P : Program} {fn : Func} {p q : Tmp} {t u : TypeId} (h : fn.results = #[.cell p t, .cell q u]) (tmps : Array Value) (w : World)
    (g k : Nat) (a b : TypeId) (cs ds : Array Value) (d e : TypeDesc)
    (hp : tmps.getD p undef = .pointer (some ⟨g, 0, none⟩)) (hq : tmps.getD q undef = .pointer (some ⟨k, 0, none⟩)) (hg : Row w g a cs) (hk : Row w k b ds)
    (hu : P.underlying t = some d) (hd : (match d with | .struct _ | .array _ _ => true | _ => false) = true) (hi : (P.info? t).map (·.size) = some cs.size)
    (hv : P.underlying u = some e) (he : (match e with | .struct _ | .array _ _ => true | _ => false) = true) (hj : (P.info? u).map (·.size) = some ds.size) :
    (results fn tmps).run P w = .ok (.tuple #[.agg cs, .agg ds]) w := by
  have hp' : tmps[p]?.getD undef = .pointer (some ⟨g, 0, none⟩) := by simpa using hp
  have hq' : tmps[q]?.getD undef = .pointer (some ⟨k, 0, none⟩) := by simpa using hq
  simp [results, h, hp', hq', asAddr, run_loadVar_row w g a t cs (0, 0) d hg hu hd hi, run_loadVar_row w k b u ds (0, 0) e hk hv he hj]

/-- one result that lies in a block -/
theorem results_row {P : Program} {fn : Func} {p : Tmp} {t : TypeId} (h : fn.results = #[.cell p t]) (tmps : Array Value) (w : World) (g : Nat) (a : TypeId) (cs : Array Value) (d : TypeDesc)
    (hp : tmps.getD p undef = .pointer (some ⟨g, 0, none⟩)) (hg : Row w g a cs)
    (hu : P.underlying t = some d) (hd : (match d with | .struct _ | .array _ _ => true | _ => false) = true) (hi : (P.info? t).map (·.size) = some cs.size) :
    (results fn tmps).run P w = .ok (.agg cs) w := results_cell_row h tmps w g a cs (0, 0) d hp hg hu hd hi

/-! ### whole rows inside a region that draws its order: rules at the level of the whole operation, for 'attribute [local go_sem ↓]' -/
/-- the block of a pointer -/
def blkOf : Value → Nat
  | .pointer (some a) => a.block
  | _ => 0
/-- the cells of a block -/
def rowAt (w : World) (g : Nat) : Array Value := match w.heap[g]? with
  | some (.cells cs _ _) => cs
  | _ => #[]
/-- a block of n cells, none of them frozen -/
def IsRow (w : World) (g n : Nat) : Prop := ∃ t cs, Row w g t cs ∧ cs.size = n
theorem Row.is {w : World} {g : Nat} {t : TypeId} {cs : Array Value} (h : Row w g t cs) {n : Nat} (hn : cs.size = n) : IsRow w g n := ⟨t, cs, h, hn⟩
theorem Row.at {w : World} {g : Nat} {t : TypeId} {cs : Array Value} (h : Row w g t cs) : rowAt w g = cs := by
  unfold Row at h
  simp [rowAt, h]
/-- n cells of one cell each -/
def Flat (v : Value) (n : Nat) : Prop := ∃ cs : Array Value, v = .agg cs ∧ cs.size = n ∧ ∀ u ∈ cs, u.oneCell' = true
/-- the number of cells of a type -/
def sizeT (P : Program) (t : TypeId) : Nat := ((P.info? t).map (·.size)).getD 0
/-- a type's number of cells is known -/
def Sized (P : Program) (t : TypeId) : Prop := (P.info? t).map (·.size) = some (sizeT P t)
theorem blkOf_ptr (a : Addr) : blkOf (.pointer (some a)) = a.block := rfl
theorem cells_agg (cs : Array Value) : (Value.agg cs).cells = cs := rfl
theorem wp_store_flat {P : Program} {d : Option Tmp} {ty ty' : TypeId} {x y : Tmp} {pos : String} {af : Array Edge} {ts : Array Value} {ds : List Deferred} {w : World} {K : Act → World → Prop} {Q : Exit → Act → World → Prop}
    (hp : ts.getD x undef = .pointer (some ⟨blkOf (ts.getD x undef), 0, none⟩)) (hi : Sized P ty) (hf : Flat (ts.getD y undef) (sizeT P ty)) (hr : IsRow w (blkOf (ts.getD x undef)) (sizeT P ty)) :
    Oper.wp P { dst := d, op := .store ty (.tmp x) (.tmp y), type := ty', pos := pos, after := af, guard := none } { tmps := ts, defers := ds } w K Q = K (({ tmps := ts, defers := ds } : Act).put d undef) (w.setRow (blkOf (ts.getD x undef)) (ts.getD y undef).cells) := by
  obtain ⟨cs, hv, hn, h1⟩ := hf
  obtain ⟨t, old, hr, ho⟩ := hr
  have h2 := run_storeVar_row (P := P) w (blkOf (ts.getD x undef)) t ty old cs hr (by rw [show (P.info? ty).map (·.size) = some (sizeT P ty) from hi, hn]) (by rw [ho, hn]) (Array.all_eq_true_iff_forall_mem.2 h1)
  have hx : Act.eval ({ tmps := ts, defers := ds } : Act) (.tmp x) = .pointer (some ⟨blkOf (ts.getD x undef), 0, none⟩) := hp
  have hy : Act.eval ({ tmps := ts, defers := ds } : Act) (.tmp y) = .agg cs := hv
  rw [hv]
  unfold Oper.wp execOp
  simp only [hx, hy, Instr.storeAt, Instr.sureAddr, Sem.run_bind, Sem.run_pure, Result.andThen_ok, h2]
  rfl
theorem all_one {cs : Array Value} (h : ∀ v ∈ cs, v.oneCell' = true) : cs.all (·.oneCell') = true := Array.all_eq_true_iff_forall_mem.2 h
theorem ret_int {k : IntKind} {a b : Int} (h : a = b) : Ending.returned (.int k a) = .returned (.int k b) := by rw [h]
theorem ret_agg {a b : Array Value} (h : a = b) : Ending.returned (.agg a) = .returned (.agg b) := by rw [h]
theorem ret_bool {a b : Bool} (h : a = b) : Ending.returned (.bool a) = .returned (.bool b) := by rw [h]
theorem ret_string {a b : ByteArray} (h : a = b) : Ending.returned (.string a) = .returned (.string b) := by rw [h]
theorem ret_eq {a b : Value} (h : a = b) : Ending.returned a = .returned b := by rw [h]

/-! ### regions and parts of blocks -/
/-- a type is a struct or an array -/
def AggT (P : Program) (t : TypeId) : Prop := (∃ fs, P.underlying t = some (.struct fs)) ∨ ∃ n e, P.underlying t = some (.array n e)
theorem wp_load_flat {P : Program} {d : Option Tmp} {ty ty' : TypeId} {x : Tmp} {pos : String} {af : Array Edge} {gd : Option (Nat × Bool)} {ts : Array Value} {ds : List Deferred} {w : World} {K : Act → World → Prop} {Q : Exit → Act → World → Prop}
    (hp : ts.getD x undef = .pointer (some ⟨blkOf (ts.getD x undef), 0, none⟩)) (hi : Sized P ty) (ha : AggT P ty) (hr : IsRow w (blkOf (ts.getD x undef)) (sizeT P ty)) :
    Oper.wp P { dst := d, op := .load ty (.tmp x), type := ty', pos := pos, after := af, guard := gd } { tmps := ts, defers := ds } w K Q = K (({ tmps := ts, defers := ds } : Act).put d (.agg (rowAt w (blkOf (ts.getD x undef))))) w := by
  obtain ⟨t, cs, hr, ho⟩ := hr
  have hx : Act.eval ({ tmps := ts, defers := ds } : Act) (.tmp x) = .pointer (some ⟨blkOf (ts.getD x undef), 0, none⟩) := hp
  have hi' : (P.info? ty).map (·.size) = some cs.size := by rw [show (P.info? ty).map (·.size) = some (sizeT P ty) from hi, ho]
  have hl : (loadVar ty ⟨blkOf (ts.getD x undef), 0, none⟩).run P w = .ok (.agg cs) w := by
    rcases ha with ⟨fs, hu⟩ | ⟨n, e, hu⟩
    · exact run_loadVar_row w (blkOf (ts.getD x undef)) t ty cs (0, 0) _ hr hu rfl hi'
    · exact run_loadVar_row w (blkOf (ts.getD x undef)) t ty cs (0, 0) _ hr hu rfl hi'
  rw [hr.at]
  unfold Oper.wp execOp
  simp only [hx, Instr.loadAt, Instr.sureAddr, Sem.run_bind, Sem.run_pure, Result.andThen_ok, hl]
  rfl
/-- the same at the level of the operation's run -/
theorem run_load_flat {P : Program} {d : Option Tmp} {ty ty' : TypeId} {x : Operand} {pos : String} {af : Array Edge} {gd : Option (Nat × Bool)} {ρ : Operand → Value} {w : World}
    (hp : ρ x = .pointer (some ⟨blkOf (ρ x), 0, none⟩)) (hi : Sized P ty) (ha : AggT P ty) (hr : IsRow w (blkOf (ρ x)) (sizeT P ty)) :
    Sem.run P (execOp ρ { dst := d, op := .load ty x, type := ty', pos := pos, after := af, guard := gd }) w = .ok (.value (.agg (rowAt w (blkOf (ρ x))))) w := by
  generalize blkOf (ρ x) = g at *
  obtain ⟨t, cs, hr, ho⟩ := hr
  have hi' : (P.info? ty).map (·.size) = some cs.size := by rw [show (P.info? ty).map (·.size) = some (sizeT P ty) from hi, ho]
  have hl : (loadVar ty ⟨g, 0, none⟩).run P w = .ok (.agg cs) w := by
    rcases ha with ⟨fs, hu⟩ | ⟨n, e, hu⟩
    · exact run_loadVar_row w g t ty cs (0, 0) _ hr hu rfl hi'
    · exact run_loadVar_row w g t ty cs (0, 0) _ hr hu rfl hi'
  rw [hr.at]
  unfold execOp
  simp only [hp, Instr.loadAt, Instr.sureAddr, Sem.run_bind, Sem.run_pure, Result.andThen_ok, hl]
/-- a whole row is loaded by an operation with a guard that says yes -/
theorem wpList_load_rowG {P : Program} {ops : Array Oper} {rest : List Oper} {o : Oper} {a : Act} {w : World} {Q : Exit → Act → World → Prop} (hw : Region.wanted o (yielded ops a.tmps) = true) (ty : TypeId) (x : Operand) (ho : o.op = .load ty x)
    (g : Nat) (hx : a.eval x = .pointer (some ⟨g, 0, none⟩)) (t : TypeId) (cs : Array Value) (fr : Nat × Nat) (d : TypeDesc) (hg : w.heap[g]? = some (.cells cs t fr))
    (hu : P.underlying ty = some d) (hd : (match d with | .struct _ | .array _ _ => true | _ => false) = true) (hi : (P.info? ty).map (·.size) = some cs.size)
    (h : wpList P ops Q rest (a.put o.dst (.agg cs)) w) : wpList P ops Q (o :: rest) a w :=
  BigFrame.wpList_want hw fun _ hK => wp_load_row ty x ho g hx t cs fr d hg hu hd hi (hK _ _ h)
/-- the walk goes on in whatever world the facts hold in -/
theorem wp_world {P : Program} {C : Code} {Q : Exit → Act → World → Prop} {a : Act} {w : World} {F : World → Prop} (hF : F w) (h : ∀ w', F w' → C.wp P Q a w') : C.wp P Q a w := h w hF
/-- an owned row, where another block is written whole -/
theorem own_far {w : World} {base : Nat} {e : TypeId} {u : Value} {k : Nat} {xs : List Value} (h : w.ownsRow base e 1 u k xs) {g : Nat} (hg : ∀ b, u.ownBlock = some b → b ≠ g) (cs : Array Value) : (w.setRow g cs).ownsRow base e 1 u k xs := by
  refine ⟨h.1, ?_⟩
  rcases h.2 with h0 | ⟨b, cap, cur, rfl, h2, h3, h4⟩
  · exact .inl h0
  · exact .inr ⟨b, cap, cur, rfl, h2, (setRow_other w g b cs (hg b rfl)).trans h3, h4⟩
/-- an owned row, where another block is written whole -/
theorem own_row {w : World} {base : Nat} {e : TypeId} {u : Value} {k : Nat} {xs : List Value} (h : w.ownsRow base e 1 u k xs) {g : Nat} (hg : g < base) (cs : Array Value) : (w.setRow g cs).ownsRow base e 1 u k xs := by
  refine ⟨h.1, ?_⟩
  rcases h.2 with h0 | ⟨b, cap, cur, h1, h2, h3, h4⟩
  · exact .inl h0
  · exact .inr ⟨b, cap, cur, h1, h2, (setRow_other w g b cs (by omega)).trans h3, h4⟩
/-- 'wp_store_flat', over a frame that is not written out yet -/
theorem wp_store_act {P : Program} {d : Option Tmp} {ty ty' : TypeId} {x y : Tmp} {pos : String} {af : Array Edge} {a : Act} {w : World} {K : Act → World → Prop} {Q : Exit → Act → World → Prop}
    (hp : a.tmps.getD x undef = .pointer (some ⟨blkOf (a.tmps.getD x undef), 0, none⟩)) (hi : Sized P ty) (hf : Flat (a.tmps.getD y undef) (sizeT P ty)) (hr : IsRow w (blkOf (a.tmps.getD x undef)) (sizeT P ty)) :
    Oper.wp P { dst := d, op := .store ty (.tmp x) (.tmp y), type := ty', pos := pos, after := af, guard := none } a w K Q = K (a.put d undef) (w.setRow (blkOf (a.tmps.getD x undef)) (a.tmps.getD y undef).cells) :=
  wp_store_flat hp hi hf hr
theorem drew_size (w : World) : w.drew.heap.size = w.heap.size := rfl
theorem up_alloc {w W : World} (h : Below w.heap.size w W) (o : Obj) : Below w.heap.size w (W.alloc o) := h.alloc h.size o
theorem up_call {w W W' : World} (h : Below w.heap.size w W) (k : Below W.heap.size W W') : Below w.heap.size w W' := blw_call h h.size k
theorem up_row {w W : World} (h : Below w.heap.size w W) {g : Nat} (hg : w.heap.size ≤ g) (cs : Array Value) : Below w.heap.size w (W.setRow g cs) := blw_row h hg cs
theorem IsRow.alloc {W : World} {g n : Nat} (h : IsRow W g n) (o : Obj) : IsRow (W.alloc o) g n := by
  obtain ⟨t, cs, h1, h2⟩ := h
  exact ⟨t, cs, h1.alloc o, h2⟩
theorem IsRow.lt {W : World} {g n : Nat} (h : IsRow W g n) : g < W.heap.size := by
  obtain ⟨t, cs, h1, h2⟩ := h
  exact h1.lt
theorem IsRow.keep {W W' : World} {g n : Nat} (h : IsRow W g n) (k : Below W.heap.size W W') : IsRow W' g n := by
  obtain ⟨t, cs, h1, h2⟩ := h
  exact ⟨t, cs, h1.below k h1.lt, h2⟩
/-- the newest block, kept by a call -/
theorem keep_new {W W' : World} {cs : Array Value} {t : TypeId} (k : Below (W.alloc (.cells cs t)).heap.size (W.alloc (.cells cs t)) W') : IsRow W' W.heap.size cs.size := IsRow.keep ⟨t, cs, Row.new _ _ _, rfl⟩ k
/-- the newest but one -/
theorem keep_new2 {W W' : World} {cs : Array Value} {t : TypeId} {o : Obj} (k : Below ((W.alloc (.cells cs t)).alloc o).heap.size ((W.alloc (.cells cs t)).alloc o) W') : IsRow W' W.heap.size cs.size := IsRow.keep ⟨t, cs, (Row.new _ _ _).alloc _, rfl⟩ k
theorem keep_new_d {W W' : World} {cs : Array Value} {t : TypeId} (k : Below (W.alloc (.cells cs t)).drew.heap.size (W.alloc (.cells cs t)).drew W') : IsRow W' W.heap.size cs.size := IsRow.keep (W := (W.alloc (.cells cs t)).drew) ⟨t, cs, Row.new _ _ _, rfl⟩ k
theorem keep_new2_d {W W' : World} {cs : Array Value} {t : TypeId} {o : Obj} (k : Below ((W.alloc (.cells cs t)).alloc o).drew.heap.size ((W.alloc (.cells cs t)).alloc o).drew W') : IsRow W' W.heap.size cs.size := IsRow.keep (W := ((W.alloc (.cells cs t)).alloc o).drew) ⟨t, cs, (Row.new _ _ _).alloc _, rfl⟩ k
theorem isRow_old {W : World} {g n : Nat} {o : Obj} (h : IsRow W g n) : IsRow (W.alloc o) g n := h.alloc o
theorem isRow_new {W : World} {g n : Nat} {cs : Array Value} {t : TypeId} (hg : g = W.heap.size) (hn : cs.size = n) : IsRow (W.alloc (.cells cs t)) g n := by
  subst hg
  exact ⟨t, cs, Row.new _ _ _, hn⟩
theorem isRow_set {W : World} {g k n : Nat} {cs : Array Value} (hg : g ≠ k) (h : IsRow W g n) : IsRow (W.setRow k cs) g n := by
  obtain ⟨t, ds, h1, h2⟩ := h
  exact ⟨t, ds, h1.rowFar hg _, h2⟩
theorem isRow_alloc_eq (W : World) (g n : Nat) (cs : Array Value) (t : TypeId) : IsRow (W.alloc (.cells cs t)) g n ↔ if g = W.heap.size then cs.size = n else IsRow W g n := by
  by_cases h : g = W.heap.size
  · rw [if_pos h]
    subst h
    constructor
    · rintro ⟨t', ds, h1, h2⟩
      have h3 := (Row.new W t cs).symm.trans h1
      simp only [Option.some.injEq, Obj.cells.injEq] at h3
      rw [h3.1]
      exact h2
    · intro h
      exact ⟨t, cs, Row.new _ _ _, h⟩
  · rw [if_neg h]
    constructor
    · rintro ⟨t', ds, h1, h2⟩
      have hlt : g < W.heap.size := by
        have := h1.lt
        simp at this
        omega
      exact ⟨t', ds, (Below.heap_alloc W _ g hlt).symm.trans h1, h2⟩
    · exact fun h => h.alloc _
theorem isRow_set_eq {W : World} {g k n : Nat} {cs : Array Value} (hg : g ≠ k) : IsRow (W.setRow k cs) g n ↔ IsRow W g n := by
  constructor
  · rintro ⟨t, ds, h1, h2⟩
    exact ⟨t, ds, (setRow_other W k g cs hg).symm.trans h1, h2⟩
  · exact isRow_set hg
theorem rowAt_alloc_eq (W : World) (g : Nat) (cs : Array Value) (t : TypeId) : rowAt (W.alloc (.cells cs t)) g = if g = W.heap.size then cs else rowAt W g := by
  by_cases h : g = W.heap.size
  · rw [if_pos h]
    subst h
    exact (Row.new W t cs).at
  · rw [if_neg h]
    by_cases hlt : g < W.heap.size
    · unfold rowAt
      rw [show (W.alloc (.cells cs t)).heap[g]? = W.heap[g]? from Below.heap_alloc W _ g hlt]
    · have e1 : (W.alloc (.cells cs t)).heap[g]? = none := Array.getElem?_eq_none (by simp; omega)
      have e2 : W.heap[g]? = none := Array.getElem?_eq_none (by omega)
      unfold rowAt
      rw [e1, e2]
theorem rowAt_drew (W : World) (g : Nat) : rowAt W.drew g = rowAt W g := rfl
theorem isRow_drew (W : World) (g n : Nat) : IsRow W.drew g n ↔ IsRow W g n := Iff.rfl
/-- a block holds just these cells -/
def Holds (W : World) (g : Nat) (cs : Array Value) : Prop := ∃ t, Row W g t cs
theorem Holds.below {W W' : World} {g : Nat} {cs : Array Value} (h : Holds W g cs) (k : Below W.heap.size W W') : Holds W' g cs := by
  obtain ⟨t, h1⟩ := h
  exact ⟨t, h1.below k h1.lt⟩
theorem Holds.alloc {W : World} {g : Nat} {cs : Array Value} (h : Holds W g cs) (o : Obj) : Holds (W.alloc o) g cs := by
  obtain ⟨t, h1⟩ := h
  exact ⟨t, h1.alloc o⟩
theorem Holds.lt {W : World} {g : Nat} {cs : Array Value} (h : Holds W g cs) : g < W.heap.size := by
  obtain ⟨t, h1⟩ := h
  exact h1.lt
theorem Holds.drew {W : World} {g : Nat} {cs : Array Value} (h : Holds W g cs) : Holds W.drew g cs := h
theorem Holds.cell {W : World} {g : Nat} {cs : Array Value} (h : Holds W g cs) (i : Nat) : W.cell? ⟨g, i, none⟩ = cs[i]? := by
  obtain ⟨t, h1⟩ := h
  exact h1.cell i
theorem Holds.is {W : World} {g n : Nat} {cs : Array Value} (h : Holds W g cs) (hn : cs.size = n) : IsRow W g n := by
  obtain ⟨t, h1⟩ := h
  exact ⟨t, cs, h1, hn⟩
theorem Holds.at {W : World} {g : Nat} {cs : Array Value} (h : Holds W g cs) : rowAt W g = cs := by
  obtain ⟨t, h1⟩ := h
  exact h1.at
theorem holds_same {W : World} {g n : Nat} {cs : Array Value} (h : IsRow W g n) : Holds (W.setRow g cs) g cs := by
  obtain ⟨t, ds, h1, _⟩ := h
  exact ⟨t, h1.row _⟩
theorem holds_far {W : World} {g k : Nat} {cs ds : Array Value} (hg : g ≠ k) (h : Holds W g cs) : Holds (W.setRow k ds) g cs := by
  obtain ⟨t, h1⟩ := h
  exact ⟨t, h1.rowFar hg _⟩
/-- a store of a whole array into a part of a block -/
theorem run_storeVar_part {P : Program} (w : World) (g off : Nat) (t ty : TypeId) (old cells : Array Value) (hg : Row w g t old) (hi : (P.info? ty).map (·.size) = some cells.size) (hl : off + cells.size ≤ old.size) (h1 : ∀ v ∈ cells, v.oneCell' = true) :
    (storeVar ty ⟨g, off, none⟩ (.agg cells)).run P w = .ok () (w.setRow g (old.toList.take off ++ cells.toList ++ old.toList.drop (off + cells.size)).toArray) := by
  have := run_storeCells_at (P := P) g off t cells.toList 0 old w hg (by simpa using hl) (fun v hv => h1 v (by simpa using hv))
  simp only [Nat.add_zero, Array.length_toList] at this
  cases hq : P.info? ty with
  | none => simp [hq] at hi
  | some i =>
    have hs : cells.size = i.size := by simp [hq] at hi; omega
    simp only [storeVar, sizeOf, typeInfo, Value.cells]
    simp [hq, hs]
    rw [hs, List.append_assoc] at this
    exact this
theorem wpList_store_part {P : Program} {ops : Array Oper} {rest : List Oper} {o : Oper} {a : Act} {w : World} {Q : Exit → Act → World → Prop} (hgd : o.guard = none) (ty : TypeId) (x y : Operand) (ho : o.op = .store ty x y)
    (g off : Nat) (cells : Array Value) (hx : a.eval x = .pointer (some ⟨g, off, none⟩)) (hy : a.eval y = .agg cells) (t : TypeId) (old : Array Value) (hg : Row w g t old) (hi : (P.info? ty).map (·.size) = some cells.size)
    (hl : off + cells.size ≤ old.size) (h1 : ∀ v ∈ cells, v.oneCell' = true) (new : Array Value) (hnew : new = (old.toList.take off ++ cells.toList ++ old.toList.drop (off + cells.size)).toArray)
    (h : wpList P ops Q rest (a.put o.dst undef) (w.setRow g new)) : wpList P ops Q (o :: rest) a w := by
  refine wpList_plain hgd fun _ hK => ?_
  subst hnew
  unfold Oper.wp execOp
  simp only [ho, hx, hy, Instr.storeAt, Instr.sureAddr, Sem.run_bind, Sem.run_pure, Result.andThen_ok, run_storeVar_part w g off t ty old cells hg hi hl h1]
  exact hK _ _ h
theorem holds_cell {w : World} {g : Nat} {cs : Array Value} {a : Addr} (hg : g ≠ a.block) (h : Holds w g cs) (v : Value) : Holds (w.setCell a v) g cs := by
  obtain ⟨t, h1⟩ := h
  exact ⟨t, h1.far hg v⟩

/-! ### a call that writes one block of what was there -/
theorem gr_refl (w : World) (g : Nat) : w.grownBy w (some g) := ⟨rfl, rfl, rfl, Nat.le_refl _, fun _ _ _ => rfl⟩
theorem gr_cell {w W : World} {g : Nat} (h : w.grownBy W (some g)) (o : Nat) (v : Value) : w.grownBy (W.setCell ⟨g, o, none⟩ v) (some g) :=
  ⟨h.os, h.tape, h.output, by simpa using h.size, fun k hk hne => (heap_setCell_other W ⟨g, o, none⟩ k v (fun e => hne (by rw [e]))).trans (h.block k hk hne)⟩
theorem gr_drew {w W : World} {g : Nat} (h : w.grownBy W (some g)) : w.grownBy W.drew (some g) := ⟨h.os, h.tape, h.output, h.size, h.block⟩
theorem gr_drewN {w W : World} {g : Nat} (h : w.grownBy W (some g)) (n : Nat) : w.grownBy (W.drewN n) (some g) := ⟨h.os, h.tape, h.output, h.size, h.block⟩
theorem gr_alloc {w W : World} {g : Nat} (h : w.grownBy W (some g)) (o : Obj) : w.grownBy (W.alloc o) (some g) :=
  ⟨h.os, h.tape, h.output, by have := h.size; simp; omega, fun k hk hne => (Below.heap_alloc W o k (Nat.lt_of_lt_of_le hk h.size)).trans (h.block k hk hne)⟩
theorem gr_setRow {w W : World} {g : Nat} (h : w.grownBy W (some g)) (k : Nat) (cs : Array Value) (hk : k = g ∨ w.heap.size ≤ k) : w.grownBy (W.setRow k cs) (some g) :=
  ⟨h.os, h.tape, h.output, by simpa using h.size, fun b hb hne => (setRow_other W k b cs (fun e => by
    rcases hk with rfl | hk
    · exact hne (by rw [e])
    · omega)).trans (h.block b hb hne)⟩
theorem gr_call {w W W' : World} {g : Nat} (h : w.grownBy W (some g)) (k : Below W.heap.size W W') : w.grownBy W' (some g) :=
  ⟨k.os.trans h.os, k.tape.trans h.tape, k.output.trans h.output, Nat.le_trans h.size k.size, fun b hb hne => (k.block b (Nat.lt_of_lt_of_le hb h.size)).trans (h.block b hb hne)⟩
theorem gr_trans {w W W' : World} {g : Nat} (h : w.grownBy W (some g)) (k : W.grownBy W' (some g)) : w.grownBy W' (some g) :=
  ⟨k.os.trans h.os, k.tape.trans h.tape, k.output.trans h.output, Nat.le_trans h.size k.size, fun b hb hne => (k.block b (Nat.lt_of_lt_of_le hb h.size) hne).trans (h.block b hb hne)⟩
theorem gr_below {B g : Nat} {a w W : World} (h : Below B a w) (k : w.grownBy W (some g)) (hB : B ≤ w.heap.size) (hg : B ≤ g) : Below B a W := h.grown k hB fun b hb => by
  injection hb with hb
  omega
end Go.Proofs.Ytcmbpniikcghfaa

namespace Go.Proofs.Ytcmbpniikcghfaa
open Go.RowKit

theorem add_block (a : Addr) (n : Nat) : (a.add n).block = a.block := by unfold Addr.add; split <;> rfl
theorem add_add (a : Addr) (i j : Nat) : (a.add i).add j = a.add (i + j) := by
  unfold Addr.add
  by_cases hi : i = 0 <;> by_cases hj : j = 0 <;> simp [hi, hj, Nat.add_assoc]
theorem add_at (b o i : Nat) : (⟨b, o, none⟩ : Addr).add i = ⟨b, o + i, none⟩ := by unfold Addr.add; split <;> simp_all
theorem add_zero' (a : Addr) : a.add 0 = a := rfl

/-- the n cells from address A on (nil where n is 0 at will) are xs, and they lie below block B -/
def Sl (w : World) (B : Nat) (A : Option Addr) (n : Nat) (xs : List Value) : Prop :=
  xs.length = n ∧ (0 < n → ∃ ad : Addr, A = some ad ∧ ad.block < B ∧ ∀ j u, xs[j]? = some u → w.cell? (ad.add j) = some u)

section
variable {w w' : World} {B C n : Nat} {A : Option Addr} {xs : List Value}
theorem Sl.nil (w : World) (B : Nat) (A : Option Addr) : Sl w B A 0 [] := ⟨rfl, fun h => absurd h (by omega)⟩
theorem Sl.at_ (h : Sl w B A n xs) {k : Nat} (hk : k < n) : ∃ ad u, A = some ad ∧ ad.block < B ∧ xs[k]? = some u ∧ w.cell? (ad.add k) = some u := by
  obtain ⟨ad, e, hb, hc⟩ := h.2 (by omega)
  have hl : k < xs.length := by have := h.1; omega
  exact ⟨ad, xs[k], e, hb, List.getElem?_eq_getElem hl, hc k _ (List.getElem?_eq_getElem hl)⟩
theorem Sl.keep (h : Sl w B A n xs) (hk : ∀ p : Addr, p.block < B → w'.cell? p = w.cell? p) : Sl w' B A n xs :=
  ⟨h.1, fun hn => by
    obtain ⟨ad, e, hb, hc⟩ := h.2 hn
    exact ⟨ad, e, hb, fun j u hu => (hk _ (by rw [add_block]; exact hb)).trans (hc j u hu)⟩⟩
theorem Sl.wider (h : Sl w B A n xs) (hB : B ≤ C) : Sl w C A n xs :=
  ⟨h.1, fun hn => by
    obtain ⟨ad, e, hb, hc⟩ := h.2 hn
    exact ⟨ad, e, by omega, hc⟩⟩
theorem Sl.below (h : Sl w B A n xs) (hb : Below B w w') : Sl w' B A n xs := h.keep fun _ hp => hb.cell hp
theorem Sl.drewN (h : Sl w B A n xs) (k : Nat) : Sl (w.drewN k) B A n xs := h
theorem Sl.drew (h : Sl w B A n xs) : Sl w.drew B A n xs := h
theorem Sl.cut (h : Sl w B A n xs) {k cap : Nat} (hk : k ≤ n) (hc : n ≤ cap) : Sl w B (if cap = k then A else A.map (·.add k)) (n - k) (xs.drop k) := by
  refine ⟨by rw [List.length_drop, h.1], fun hn => ?_⟩
  obtain ⟨ad, rfl, hb, hcell⟩ := h.2 (by omega)
  rw [if_neg (by omega)]
  refine ⟨ad.add k, rfl, by rw [add_block]; exact hb, fun j u hu => ?_⟩
  rw [add_add]
  exact hcell _ u (by rw [← hu, List.getElem?_drop])
theorem Sl.first (h : Sl w B A n xs) {k : Nat} (hk : k ≤ n) : Sl w B A k (xs.take k) := by
  refine ⟨by rw [List.length_take, h.1]; omega, fun hn => ?_⟩
  obtain ⟨ad, rfl, hb, hcell⟩ := h.2 (by omega)
  refine ⟨ad, rfl, hb, fun j u hu => hcell j u ?_⟩
  rw [List.getElem?_take] at hu
  split at hu
  · exact hu
  · cases hu
theorem Sl.of_own {base : Nat} {e : TypeId} {c : Nat} (h : w.ownsRow base e 1 (.slice A n c) n xs) : Sl w w.heap.size A n xs := by
  refine ⟨by simpa using h.1, fun hn => ?_⟩
  rcases h.2 with ⟨_, h0⟩ | ⟨g, cap, cur, hv, _, hg, _⟩
  · omega
  · injection hv with hA
    subst hA
    exact ⟨_, rfl, (Array.getElem?_eq_some_iff.1 hg).1, h.cells (g := g) rfl⟩
theorem Sl.of_row {g : Nat} {t : TypeId} {cs : Array Value} (h : Row w g t cs) (o n : Nat) (hn : o + n ≤ cs.size) : Sl w w.heap.size (some ⟨g, o, none⟩) n ((cs.toList.drop o).take n) := by
  refine ⟨by simp; omega, fun _ => ⟨_, rfl, h.lt, fun j u hu => ?_⟩⟩
  rw [add_at, h.cell]
  rw [List.getElem?_take] at hu
  split at hu
  · simpa using hu
  · cases hu
theorem Sl.of_head {g : Nat} {t : TypeId} {bk : List Value} (h : Row w g t bk.toArray) (n : Nat) (hn : n ≤ bk.length) : Sl w w.heap.size (some ⟨g, 0, none⟩) n (bk.take n) := by
  have := Sl.of_row h 0 n (by simpa using hn)
  simpa using this
end

/-- a new block of one cell, as a source -/
theorem Sl.one (w : World) (t : TypeId) (u : Value) : Sl (w.alloc (.cells #[u] t)) (w.heap.size + 1) (some ⟨w.heap.size, 0, none⟩) 1 [u] := by
  refine ⟨rfl, fun _ => ⟨_, rfl, Nat.lt_succ_self _, fun j x hx => ?_⟩⟩
  rw [add_at, (Row.new w t #[u]).cell]
  simpa using hx

/-- the form of an owned slice -/
theorem own_form {w : World} {base : Nat} {e : TypeId} {v : Value} {n : Nat} {xs : List Value} (h : w.ownsRow base e 1 v n xs) : ∃ A c, v = .slice A n c ∧ n ≤ c ∧ c ≤ maxLen := by
  rcases h.2 with ⟨rfl, rfl⟩ | ⟨g, cap, cur, rfl, _, _, h1, h2, _⟩
  · exact ⟨none, 0, rfl, Nat.le_refl _, by unfold maxLen; omega⟩
  · exact ⟨_, cap, rfl, h1, h2⟩

section
variable {P : Program} (w : World)

theorem run_app_nil (base : Nat) (t ty e : TypeId) (i : TypeInfo) (ht : P.underlying t = some (.slice e)) (hi : P.info? e = some i)
    (v : Value) (n : Nat) (xs : List Value) (hown : w.ownsRow base e 1 v n xs) (c : Nat) : (Builtin.append_ #[t, t] ty #[v, .slice none 0 c]).run P w = .ok v w := by
  rcases hown.2 with ⟨rfl, rfl⟩ | ⟨g, cap, cur, rfl, _, _, hnc, _⟩
  · simp [Builtin.append_, run_underlying ht, sizeOf, typeInfo, hi, Builtin.lenOf, Builtin.firstCells]
  · simp [Builtin.append_, run_underlying ht, sizeOf, typeInfo, hi, Builtin.lenOf, Builtin.firstCells, hnc, storeCells]

/-- append of whatever source to a row of the call's own, as one run -/
theorem run_app (base : Nat) (t ty e : TypeId) (i : TypeInfo) (z : Value) (bytes : Nat) (ht : P.underlying t = some (.slice e)) (hi : P.info? e = some i) (hz : i.zero = some z)
    (hsize : i.size = 1) (hby : i.bytes = bytes) (hzs : z.cells.size = 1)
    (v : Value) (n : Nat) (xs : List Value) (hown : w.ownsRow base e 1 v n xs)
    (B : Nat) (A : Option Addr) (m c : Nat) (news : List Value) (hr : Sl w B A m news) (h1 : ∀ u ∈ news, u.oneCell' = true)
    (h63 : n + m ≤ maxLen) (hbytes : (n + m) * bytes ≤ 140737488355328) (hbase : base ≤ w.heap.size) :
    ∃ v' w', (Builtin.append_ #[t, t] ty #[v, .slice A m c]).run P w = .ok v' w' ∧ w'.ownsRow base e 1 v' (n + m) (xs ++ news) ∧ w.grownBy w' v.ownBlock := by
  rcases A with _ | ad
  · have hm : m = 0 := by
      rcases Nat.eq_zero_or_pos m with h0 | h0
      · exact h0
      · obtain ⟨ad, h, _⟩ := hr.2 h0
        cases h
    subst hm
    have hn : news = [] := List.eq_nil_of_length_eq_zero hr.1
    subst hn
    exact ⟨v, w, run_app_nil w base t ty e i ht hi v n xs hown c, by simpa using hown, ⟨rfl, rfl, rfl, Nat.le_refl _, fun _ _ _ => rfl⟩⟩
  · have hcells : ∀ j u, news[j]? = some u → w.cell? (ad.add j) = some u := by
      intro j u hu
      rcases Nat.eq_zero_or_pos m with h0 | h0
      · subst h0
        have hn : news = [] := List.eq_nil_of_length_eq_zero hr.1
        subst hn
        simp at hu
      · obtain ⟨ad', h, _, hc⟩ := hr.2 h0
        injection h with h
        subst h
        exact hc j u hu
    obtain ⟨v', w', hrun, h2, h3, _⟩ := run_append_own (P := P) w base t ty e i z 1 bytes ht hi hz hsize hby hzs (by omega) v n xs hown ad m c news (by simpa using hr.1) hcells h1 h63 hbytes hbase
    exact ⟨v', w', hrun, h2, h3⟩

theorem wpList_app {ops : Array Oper} {rest : List Oper} {o : Oper} {a : Act} {Q : Exit → Act → World → Prop} (hgd : o.guard = none) (s x : Operand) (t : TypeId)
    (ho : o.op = .call { callee := .builtin .append, args := #[s, x], argTypes := #[t, t] })
    (base : Nat) (e : TypeId) (i : TypeInfo) (z : Value) (bytes : Nat) (ht : P.underlying t = some (.slice e)) (hi : P.info? e = some i) (hz : i.zero = some z)
    (hsize : i.size = 1) (hby : i.bytes = bytes) (hzs : z.cells.size = 1)
    (v : Value) (n : Nat) (xs : List Value) (hs : a.eval s = v) (hown : w.ownsRow base e 1 v n xs)
    (B : Nat) (A : Option Addr) (m c : Nat) (news : List Value) (hx : a.eval x = .slice A m c) (hr : Sl w B A m news) (h1 : ∀ u ∈ news, u.oneCell' = true)
    (h63 : n + m ≤ maxLen) (hbytes : (n + m) * bytes ≤ 140737488355328) (hbase : base ≤ w.heap.size)
    (h : ∀ v' w', w'.ownsRow base e 1 v' (n + m) (xs ++ news) → w.grownBy w' v.ownBlock → wpList P ops Q rest (a.put o.dst v') w') : wpList P ops Q (o :: rest) a w := by
  obtain ⟨v', w', hrun, h2, h3⟩ := run_app (P := P) w base t o.type e i z bytes ht hi hz hsize hby hzs v n xs hown B A m c news hr h1 h63 hbytes hbase
  exact Lib.wpList_append_run w hgd s x t t ho v (.slice A m c) hs hx v' w' hrun (h v' w' h2 h3)

theorem step_app {ops : Array Oper} {o : Oper} {a : Act} {K : Act → World → Prop} {Q : Exit → Act → World → Prop} {E : Prop} (hgd : o.guard = none) (s x : Operand) (t : TypeId)
    (ho : o.op = .call { callee := .builtin .append, args := #[s, x], argTypes := #[t, t] })
    (base : Nat) (e : TypeId) (i : TypeInfo) (z : Value) (bytes : Nat) (ht : P.underlying t = some (.slice e)) (hi : P.info? e = some i) (hz : i.zero = some z)
    (hsize : i.size = 1) (hby : i.bytes = bytes) (hzs : z.cells.size = 1)
    (v : Value) (n : Nat) (xs : List Value) (hs : a.eval s = v) (hown : w.ownsRow base e 1 v n xs)
    (B : Nat) (A : Option Addr) (m c : Nat) (news : List Value) (hx : a.eval x = .slice A m c) (hr : Sl w B A m news) (h1 : ∀ u ∈ news, u.oneCell' = true)
    (h63 : n + m ≤ maxLen) (hbytes : (n + m) * bytes ≤ 140737488355328) (hbase : base ≤ w.heap.size)
    (h : ∀ v' w', w'.ownsRow base e 1 v' (n + m) (xs ++ news) → w.grownBy w' v.ownBlock → K (a.put o.dst v') w') :
    if Region.wanted o (yielded ops a.tmps) = true then Oper.wp P o a w K Q else E := by
  have hw : Region.wanted o (yielded ops a.tmps) = true := by simp [Region.wanted, hgd]
  rw [if_pos hw]
  obtain ⟨v', w', hrun, h2, h3⟩ := run_app (P := P) w base t o.type e i z bytes ht hi hz hsize hby hzs v n xs hown B A m c news hr h1 h63 hbytes hbase
  exact Lib.wp_append_run w s x t t ho v (.slice A m c) hs hx v' w' hrun (h v' w' h2 h3)

/-- append of k zeros ('make' as the source) to a row of the call's own -/
theorem run_app_zeros (base : Nat) (t tn ty e : TypeId) (i : TypeInfo) (z : Value) (bytes : Nat) (kn kq : IntKind) (ht : P.underlying t = some (.slice e)) (htn : P.underlying tn = some (.int kn)) (hi : P.info? e = some i) (hz : i.zero = some z)
    (hsize : i.size = 1) (hby : i.bytes = bytes) (hzs : z.cells = #[z]) (hz1 : z.oneCell' = true)
    (v : Value) (n : Nat) (xs : List Value) (hown : w.ownsRow base e 1 v n xs) (k : Nat) (h63 : n + k ≤ maxLen) (hbytes : (n + k) * bytes ≤ 140737488355328) (hbase : base ≤ w.heap.size) :
    ∃ v' w', (Builtin.append_ #[t, tn] ty #[v, .int kq (k : Int)]).run P w = .ok v' w' ∧ w'.ownsRow base e 1 v' (n + k) (xs ++ List.replicate k z) ∧ w.grownBy w' v.ownBlock := by
  have hsmall : n + k ≤ 9223372036854775807 := by simp only [maxLen] at h63; omega
  have hzc : ∀ m, Builtin.zeroCells z.cells m = (List.replicate m z).toArray := by
    intro m
    rw [hzs]
    apply Array.ext
    · simp [Builtin.zeroCells]
    · intro j h1 h2
      simp [Builtin.zeroCells, Nat.mod_one]
  have hlen : (xs ++ List.replicate k z).length = (n + k) * 1 := by rw [List.length_append, hown.1, List.length_replicate, Nat.add_mul, Nat.mul_one, Nat.mul_one]
  have hw : IntKind.i64.wrap (k : Int) = k := by rw [IntKind.wrap_i64]; omega
  have hneg : ¬ ((k : Int) < 0) := by omega
  have h48 : ¬ (281474976710656 < (k : Int) * (i.bytes : Int)) := by
    have h : k * i.bytes ≤ (n + k) * i.bytes := Nat.mul_le_mul_right _ (by omega)
    rw [← Int.natCast_mul, hby] at *
    omega
  obtain ⟨A, c, hv, hnc, hcm⟩ := own_form hown
  by_cases hroom : n + k ≤ c
  · subst hv
    rcases hown.2 with ⟨hv, h0⟩ | ⟨g, cap, cur, hv, hbg, hg, _, _, hcs, htake⟩
    · injection hv with hA hn hc
      subst hA hc h0
      obtain rfl : k = 0 := by omega
      refine ⟨.slice none 0 0, w, ?_, by simpa using hown, ⟨rfl, rfl, rfl, Nat.le_refl _, fun _ _ _ => rfl⟩⟩
      have hw0 : IntKind.i64.wrap 0 = 0 := by decide
      simp [Builtin.append_, run_underlying ht, run_underlying htn, sizeOf, typeInfo, hi, asInt, asIntOf, hw0]
    · injection hv with hA hn hc
      subst hA hc
      have hst := run_storeCells_at P g n e (List.replicate k z) 0 cur w hg (by simp; omega) (fun u hu => by obtain ⟨_, rfl⟩ := List.mem_replicate.1 hu; exact hz1)
      simp only [Nat.add_zero, List.length_replicate] at hst
      refine ⟨.slice (some ⟨g, 0, none⟩) (n + k) c, w.setRow g (cur.toList.take n ++ List.replicate k z ++ cur.toList.drop (n + k)).toArray, ?_, ⟨hlen, .inr ⟨g, c, _, rfl, hbg, setRow_heap w g cur _ e _ hg, hroom, hcm, ?_, ?_⟩⟩, ⟨rfl, rfl, rfl, by simp, fun b _ hb => setRow_other w g b _ (fun e => hb (by simp [Value.ownBlock, e]))⟩⟩
      · by_cases hk : k = 0
        · subst hk
          simp only [List.replicate_zero, storeCells] at hst
          have hst' : w.setRow g (List.take n cur.toList ++ [] ++ List.drop (n + 0) cur.toList).toArray = w := by
            have := hst
            simp only [Sem.run_pure] at this
            injection this with _ h2
            exact h2.symm
          simp only [List.replicate_zero]
          rw [hst']
          have hw0 : IntKind.i64.wrap 0 = 0 := by decide
          simp [Builtin.append_, run_underlying ht, run_underlying htn, sizeOf, typeInfo, hi, asInt, asIntOf, hw0, hnc, storeCells]
        · simp [Builtin.append_, run_underlying ht, run_underlying htn, sizeOf, typeInfo, zeroValue, hi, hz, asInt, asIntOf, hw, hneg, h48, hroom, hsize, hk, hzc, add_at, hst]
      · simp; omega
      · rw [Nat.mul_one] at htake ⊢
        rw [htake, ← Nat.mul_one (n + k), ← hlen]
        exact List.take_left
  · have hk0 : 0 < k := by omega
    subst hv
    have holds : (Builtin.firstCells i.size n (.slice A n c)).run P w.drew = .ok xs.toArray w.drew := by
      rcases A with _ | ad
      · have h0 : n = 0 := by
          rcases hown.2 with ⟨_, h0⟩ | ⟨g, cap, cur, hv, _⟩
          · exact h0
          · injection hv with hA
            cases hA
        subst h0
        have hx : xs = [] := List.eq_nil_of_length_eq_zero (by simpa using hown.1)
        subst hx
        exact run_firstCells_none _ _ _ _ _
      · rcases hown.2 with ⟨hv, _⟩ | ⟨g, cap, cur, hv, _⟩
        · injection hv with hA
          cases hA
        · injection hv with hA
          injection hA with hA
          subst hA
          refine run_firstCells_some (P := P) w.drew i.size n _ n c xs (by rw [hsize]; exact hown.1) ?_
          exact hown.cells (g := g) rfl
    have hr := Lib.run_append_grow_zeros (P := P) w t tn ty e i z kq kn ht htn hi hz A n c xs holds k hk0 (by omega) (by omega) (by omega) (by omega) (growslice_fits (by omega) (by rw [hby]; exact hbytes))
    have hge := grownCap_ge w (n + k) c e
    have hcm' : grownCap w (n + k) c e ≤ maxLen := grownCap_le_maxLen w (n + k) c e h63
    refine ⟨_, _, hr, ⟨hlen, .inr ⟨w.heap.size, _, _, rfl, hbase, heap_alloc_new w.drew _, hge, hcm', ?_, ?_⟩⟩, ⟨rfl, rfl, rfl, by simp, fun b hb _ => Below.heap_alloc w.drew _ b hb⟩⟩
    · have := hown.1
      rw [hzc, hzc]
      simp
      omega
    · rw [hzc, hzc]
      simp only [Array.toList_append, List.append_assoc]
      rw [← List.append_assoc, ← hlen]
      exact List.take_left
theorem wpList_app_zeros {ops : Array Oper} {rest : List Oper} {o : Oper} {a : Act} {Q : Exit → Act → World → Prop} (hgd : o.guard = none) (s x : Operand) (t tn : TypeId)
    (ho : o.op = .call { callee := .builtin .append, args := #[s, x], argTypes := #[t, tn] })
    (base : Nat) (e : TypeId) (i : TypeInfo) (z : Value) (bytes : Nat) (kn kq : IntKind) (ht : P.underlying t = some (.slice e)) (htn : P.underlying tn = some (.int kn)) (hi : P.info? e = some i) (hz : i.zero = some z)
    (hsize : i.size = 1) (hby : i.bytes = bytes) (hzs : z.cells = #[z]) (hz1 : z.oneCell' = true)
    (v : Value) (n : Nat) (xs : List Value) (hs : a.eval s = v) (hown : w.ownsRow base e 1 v n xs) (k : Nat) (hx : a.eval x = .int kq (k : Int))
    (h63 : n + k ≤ maxLen) (hbytes : (n + k) * bytes ≤ 140737488355328) (hbase : base ≤ w.heap.size)
    (h : ∀ v' w', w'.ownsRow base e 1 v' (n + k) (xs ++ List.replicate k z) → w.grownBy w' v.ownBlock → wpList P ops Q rest (a.put o.dst v') w') : wpList P ops Q (o :: rest) a w := by
  obtain ⟨v', w', hrun, h2, h3⟩ := run_app_zeros (P := P) w base t tn o.type e i z bytes kn kq ht htn hi hz hsize hby hzs hz1 v n xs hown k h63 hbytes hbase
  exact Lib.wpList_append_run w hgd s x t tn ho v (.int kq (k : Int)) hs hx v' w' hrun (h v' w' h2 h3)
end

section
variable {P : Program} (w : World)
/-- copy into a row from whatever source, as one run -/
theorem run_copy_sl (dT sT ty elem : TypeId) (hu : P.underlying dT = some (.slice elem)) (hs : (P.info? elem).map (·.size) = some 1)
    (g off dLen dCap : Nat) (cur : List Value) (t : TypeId) (hg : Row w g t cur.toArray) (B : Nat) (A : Option Addr) (m c : Nat) (xs : List Value) (hr : Sl w B A m xs) (h1 : ∀ v ∈ xs, v.oneCell' = true)
    (k : Nat) (hk : k = Nat.min m dLen) (hfit : off + k ≤ cur.length) :
    (Builtin.copy_ #[dT, sT] ty #[.slice (some ⟨g, off, none⟩) dLen dCap, .slice A m c]).run P w = .ok (goInt k) (w.setRow g (splice cur off (xs.take k)).toArray) := by
  by_cases h0 : k = 0
  · subst h0
    have hsp : (splice cur off (xs.take 0)).toArray = cur.toArray := by simp [splice]
    rw [hsp, setRow_self w g _ t (0, 0) hg]
    exact run_copy_none w dT sT ty elem _ _ _ _ _ _ hu hs hk.symm
  · obtain ⟨ad, rfl, _, hc⟩ := hr.2 (by have : Nat.min m dLen ≤ m := Nat.min_le_left _ _; omega)
    have hl : (xs.take k).length = Nat.min m dLen := by
      rw [List.length_take, hr.1, ← hk]
      have : Nat.min m dLen ≤ m := Nat.min_le_left _ _
      omega
    have hrun := run_copy_row (P := P) w dT sT ty elem g off dLen dCap ad m c cur.toArray t (xs.take k) hu hs hg hl (fun j v hv => hc j v (by
      rw [List.getElem?_take] at hv
      split at hv
      · exact hv
      · cases hv)) (by rw [hl, ← hk]; simpa using hfit) (fun v hv => h1 v (List.mem_of_mem_take hv))
    rw [hrun, hl, ← hk]
    congr 2
    simp [splice, List.append_assoc, hl, ← hk]

theorem step_copy {ops : Array Oper} {o : Oper} {a : Act} {K : Act → World → Prop} {Q : Exit → Act → World → Prop} {E : Prop} (hgd : o.guard = none) (d s : Operand) (dT sT : TypeId)
    (ho : o.op = .call { callee := .builtin .copy, args := #[d, s], argTypes := #[dT, sT] }) (elem : TypeId) (hu : P.underlying dT = some (.slice elem)) (hs : (P.info? elem).map (·.size) = some 1)
    (g off dLen dCap : Nat) (hd : a.eval d = .slice (some ⟨g, off, none⟩) dLen dCap) (cur : List Value) (t : TypeId) (hg : Row w g t cur.toArray) (B : Nat) (A : Option Addr) (m c : Nat) (hx : a.eval s = .slice A m c)
    (xs : List Value) (hr : Sl w B A m xs) (h1 : ∀ v ∈ xs, v.oneCell' = true) (k : Nat) (hk : k = Nat.min m dLen) (hfit : off + k ≤ cur.length)
    (h : K (a.put o.dst (goInt k)) (w.setRow g (splice cur off (xs.take k)).toArray)) :
    if Region.wanted o (yielded ops a.tmps) = true then Oper.wp P o a w K Q else E := by
  have hw : Region.wanted o (yielded ops a.tmps) = true := by simp [Region.wanted, hgd]
  rw [if_pos hw]
  have hrun := run_copy_sl (P := P) w dT sT o.type elem hu hs g off dLen dCap cur t hg B A m c xs hr h1 k hk hfit
  unfold Oper.wp
  simp [execOp, ho, resolve, invoke, builtin, hd, hx, hrun, Result.andThen]
  exact h

theorem wpList_copy {ops : Array Oper} {rest : List Oper} {o : Oper} {a : Act} {Q : Exit → Act → World → Prop} (hgd : o.guard = none) (d s : Operand) (dT sT : TypeId)
    (ho : o.op = .call { callee := .builtin .copy, args := #[d, s], argTypes := #[dT, sT] }) (elem : TypeId) (hu : P.underlying dT = some (.slice elem)) (hs : (P.info? elem).map (·.size) = some 1)
    (g off dLen dCap : Nat) (hd : a.eval d = .slice (some ⟨g, off, none⟩) dLen dCap) (cur : List Value) (t : TypeId) (hg : Row w g t cur.toArray) (B : Nat) (A : Option Addr) (m c : Nat) (hx : a.eval s = .slice A m c)
    (xs : List Value) (hr : Sl w B A m xs) (h1 : ∀ v ∈ xs, v.oneCell' = true) (k : Nat) (hk : k = Nat.min m dLen) (hfit : off + k ≤ cur.length)
    (h : wpList P ops Q rest (a.put o.dst (goInt k)) (w.setRow g (splice cur off (xs.take k)).toArray)) : wpList P ops Q (o :: rest) a w := by
  refine wpList_plain hgd fun K hK => ?_
  have hrun := run_copy_sl (P := P) w dT sT o.type elem hu hs g off dLen dCap cur t hg B A m c xs hr h1 k hk hfit
  unfold Oper.wp
  simp [execOp, ho, resolve, invoke, builtin, hd, hx, hrun, Result.andThen]
  exact hK _ _ h
end

/-- an owned row may be said to lie above a lower block -/
theorem own_base {w : World} {base base' : Nat} {e : TypeId} {v : Value} {n : Nat} {xs : List Value} (h : w.ownsRow base e 1 v n xs) (hb : base' ≤ base) : w.ownsRow base' e 1 v n xs := by
  refine ⟨h.1, ?_⟩
  rcases h.2 with h0 | ⟨g, cap, cur, h1, h2, h3⟩
  · exact .inl h0
  · exact .inr ⟨g, cap, cur, h1, Nat.le_trans hb h2, h3⟩
/-- a literal row is owned -/
theorem own_lit {w : World} {g : Nat} {e : TypeId} {cs : Array Value} (h : Row w g e cs) (base n : Nat) (hb : base ≤ g) (hn : cs.size = n) (hm : n ≤ maxLen) : w.ownsRow base e 1 (.slice (some ⟨g, 0, none⟩) n n) n cs.toList := by
  subst hn
  exact ⟨by simp, .inr ⟨g, cs.size, cs, rfl, hb, h, Nat.le_refl _, hm, by simp, by rw [Nat.mul_one]; exact List.take_of_length_le (by simp)⟩⟩
/-- what 'grownBy' leaves: only new blocks and the row's own have turned -/
theorem blw_grown {B : Nat} {a w w' : World} {v : Value} {base : Nat} {e : TypeId} {n : Nat} {xs : List Value} (h : Below B a w) (hg : w.grownBy w' v.ownBlock) (hB : B ≤ w.heap.size) (hown : w.ownsRow base e 1 v n xs) (hb : B ≤ base) : Below B a w' :=
  h.grown hg hB fun k hk => Nat.le_trans hb (hown.lt k hk).1

/-! ### bytes -/
/-- bytes as cells, in a list -/
def bl (l : List UInt8) : List Value := l.map fun b => .int .u8 (b.toNat : Int)
theorem bl_length (l : List UInt8) : (bl l).length = l.length := by simp [bl]
theorem bl_append (l m : List UInt8) : bl (l ++ m) = bl l ++ bl m := by simp [bl]
theorem bl_cons (b : UInt8) (l : List UInt8) : bl (b :: l) = .int .u8 (b.toNat : Int) :: bl l := by simp [bl]
theorem bl_nil : bl [] = [] := rfl
theorem bl_zeros (n : Nat) : bl (List.replicate n 0) = List.replicate n (.int .u8 0) := by simp [bl]
theorem bl_one (l : List UInt8) : ∀ v ∈ bl l, v.oneCell' = true := by
  intro v hv
  obtain ⟨x, _, rfl⟩ : ∃ x, x ∈ l ∧ Value.int .u8 (x.toNat : Int) = v := by simpa [bl] using hv
  rfl
attribute [irreducible] bl
theorem bl_take (l : List UInt8) (k : Nat) : (bl l).take k = bl (l.take k) := by unfold bl; rw [List.map_take]
theorem bl_drop (l : List UInt8) (k : Nat) : (bl l).drop k = bl (l.drop k) := by unfold bl; rw [List.map_drop]
theorem Sl.up {w W : World} {A : Option Addr} {n : Nat} {xs : List Value} (h : Sl w w.heap.size A n xs) (k : Below w.heap.size w W) : Sl W W.heap.size A n xs := (h.below k).wider k.size
/-- a new block of two cells, as a source -/
theorem Sl.two (w : World) (t : TypeId) (u v : Value) : Sl (w.alloc (.cells #[u, v] t)) (w.heap.size + 1) (some ⟨w.heap.size, 0, none⟩) 2 [u, v] := by
  refine ⟨rfl, fun _ => ⟨_, rfl, Nat.lt_succ_self _, fun j x hx => ?_⟩⟩
  rw [add_at, (Row.new w t #[u, v]).cell]
  simpa using hx
theorem two_one (a b : Int) : ∀ u ∈ [Value.int .u8 a, Value.int .u8 b], u.oneCell' = true := by
  intro u hu
  simp only [List.mem_cons, List.not_mem_nil, or_false] at hu
  rcases hu with rfl | rfl <;> rfl
/-- the string of an owned row of bytes -/
theorem own_string {P : Program} {w : World} {base n : Nat} {src dst e : TypeId} {v : Value} {L : List UInt8} (h : w.ownsRow base e 1 v n (bl L)) (hs : P.underlying src = some (.slice e)) (he : P.underlying e = some (.int .u8)) (hd : P.underlying dst = some .string) :
    (convert src dst v).run P w = .ok (.string ⟨L.toArray⟩) w := by
  have hl : L.length = n := by rw [← bl_length]; simpa using h.1
  subst hl
  rcases h.2 with ⟨rfl, h0⟩ | ⟨g, cap, cur, rfl, _, hg, _⟩
  · obtain rfl : L = [] := List.eq_nil_of_length_eq_zero h0
    rw [run_convert_bytes_string w src dst e none 0 0 hs he hd]
    rfl
  · refine run_convert_bytes_back w src dst e _ cap L hs he hd (fun j hj => h.cells (g := g) rfl j _ ?_)
    unfold bl
    rw [List.getElem?_map, List.getElem?_eq_getElem hj, Option.map_some]
/-- string(b) of a slice of bytes -/
theorem conv_sl {P : Program} (w : World) (src dst e : TypeId) (hs : P.underlying src = some (.slice e)) (he : P.underlying e = some (.int .u8)) (hd : P.underlying dst = some .string) {B : Nat} {A : Option Addr} {L : List UInt8} (n c : Nat)
    (h : Sl w B A n (bl L)) : (convert src dst (.slice A n c)).run P w = .ok (.string ⟨L.toArray⟩) w := by
  have hn : L.length = n := by rw [← bl_length]; exact h.1
  subst hn
  rcases A with _ | ad
  · have h0 : L = [] := by
      rcases Nat.eq_zero_or_pos L.length with h0 | h0
      · exact List.eq_nil_of_length_eq_zero h0
      · obtain ⟨ad, h1, _⟩ := h.2 h0
        cases h1
    subst h0
    exact run_convert_bytes_nil (P := P) w src e hs he _ _ dst hd
  · refine run_convert_bytes_back (P := P) w src dst e ad c L hs he hd fun j hj => ?_
    obtain ⟨ad', u, h1, _, h2, h3⟩ := h.at_ hj
    injection h1 with h1
    subst h1
    rw [h3]
    unfold bl at h2
    rw [List.getElem?_map, List.getElem?_eq_getElem hj, Option.map_some] at h2
    exact h2.symm
theorem str_eq (L M : List UInt8) : ((⟨L.toArray⟩ : ByteArray).toList == (⟨M.toArray⟩ : ByteArray).toList) = decide (L = M) := by
  rw [ByteArray.toList_eq, ByteArray.toList_eq]
  by_cases h : L = M
  · subst h
    simp
  · simp [h]
theorem sl_bytes (w : World) (t : TypeId) (cs : Array Value) (fr : Nat × Nat) (L : List UInt8) (h : cs = (bl L).toArray) : Sl (w.alloc (.cells cs t fr)) (w.alloc (.cells cs t fr)).heap.size (some ⟨w.heap.size, 0, none⟩) L.length (bl L) := by
  subst h
  refine ⟨bl_length L, fun _ => ⟨_, rfl, by simp, fun j u hu => ?_⟩⟩
  rw [add_at, Nat.zero_add, World.cell?_alloc_mark]
  simpa using hu
/-- a slice with a block of its own, behind a store into a lower block -/
theorem Sl.keepRow {w : World} {A : Option Addr} {n c g base : Nat} {xs : List Value} (h : Sl w w.heap.size A n xs) (hA : ∀ b, (Value.slice A n c).ownBlock = some b → base ≤ b) (hg : g < base) (cs : Array Value) : Sl (w.setRow g cs) (w.setRow g cs).heap.size A n xs := by
  refine ⟨h.1, fun hn => ?_⟩
  obtain ⟨ad, rfl, hb, hc⟩ := h.2 hn
  refine ⟨ad, rfl, by simpa using hb, fun j u hu => ?_⟩
  have h1 := hA ad.block rfl
  have h2 := hc j u hu
  rw [← h2]
  unfold World.cell?
  rw [show (w.setRow g cs).heap[(ad.add j).block]? = w.heap[(ad.add j).block]? from setRow_other w g _ cs (by rw [add_block]; omega)]
theorem Sl.keepAt {w : World} {B g n : Nat} {A : Option Addr} {xs : List Value} (h : Sl w B A n xs) (hg : B ≤ g) (cs : Array Value) : Sl (w.setRow g cs) B A n xs := by
  refine h.keep fun p hp => ?_
  unfold World.cell?
  rw [show (w.setRow g cs).heap[p.block]? = w.heap[p.block]? from setRow_other w g _ cs (by omega)]
theorem Sl.keepCell {w : World} {B g n o : Nat} {A : Option Addr} {xs : List Value} (h : Sl w B A n xs) (hg : B ≤ g) (v : Value) : Sl (w.setCell ⟨g, o, none⟩ v) B A n xs := by
  refine h.keep fun p hp => ?_
  exact World.cell?_setCell_other w _ p v (fun e => by rw [← e] at hp; simp at hp; omega)
end Go.Proofs.Ytcmbpniikcghfaa

namespace Go.Proofs.Ytcmbpniikcghfaa
open Go.RowKit

theorem bl_get (L : List UInt8) (i : Nat) (h : i < L.length) : (bl L)[i]? = some (.int .u8 ((L.getD i 0).toNat : Int)) := by
  unfold bl
  simp [List.getD_eq_getElem?_getD, h]
theorem Sl.byte {w : World} {B n : Nat} {A : Option Addr} {L : List UInt8} (h : Sl w B A n (bl L)) {k : Nat} (hk : k < n) : ∃ ad, A = some ad ∧ ad.block < B ∧ w.cell? (ad.add k) = some (.int .u8 ((L.getD k 0).toNat : Int)) := by
  obtain ⟨ad, u, h1, h2, h3, h4⟩ := h.at_ hk
  have hn : k < L.length := by
    have := h.1
    rw [bl_length] at this
    omega
  rw [bl_get L k hn] at h3
  injection h3 with h3
  exact ⟨ad, h1, h2, by rw [h4, ← h3]⟩
theorem bit_mod (n : Nat) (p : Nat) : n / 2 ^ p % 2 = (n.testBit p).toNat := by
  rw [Nat.testBit_eq_decide_div_mod_eq]
  by_cases h : n / 2 ^ p % 2 = 1
  · rw [decide_eq_true h, h]
    rfl
  · rw [decide_eq_false h, Bool.toNat_false]
    omega
end Go.Proofs.Ytcmbpniikcghfaa

namespace Go.Proofs.Ytcmbpniikcghfaa
open Go.RowKit

/-- a result in a slot and one in a block -/
theorem results_tmp_row {P : Program} {fn : Func} {p q : Tmp} {u : TypeId} (h : fn.results = #[.tmp p, .cell q u]) (tmps : Array Value) (w : World)
    (x : Value) (k : Nat) (b : TypeId) (ds : Array Value) (e : TypeDesc)
    (hp : tmps.getD p undef = x) (hq : tmps.getD q undef = .pointer (some ⟨k, 0, none⟩)) (hk : Row w k b ds)
    (hv : P.underlying u = some e) (he : (match e with | .struct _ | .array _ _ => true | _ => false) = true) (hj : (P.info? u).map (·.size) = some ds.size) :
    (results fn tmps).run P w = .ok (.tuple #[x, .agg ds]) w := by
  have hp' : tmps[p]?.getD undef = x := by simpa using hp
  have hq' : tmps[q]?.getD undef = .pointer (some ⟨k, 0, none⟩) := by simpa using hq
  simp [results, h, hp', hq', asAddr, run_loadVar_row w k b u ds (0, 0) e hk hv he hj]

/-- two results in slots and one in a block -/
theorem results_tmp2_row {P : Program} {fn : Func} {p p' q : Tmp} {u : TypeId} (h : fn.results = #[.tmp p, .tmp p', .cell q u]) (tmps : Array Value) (w : World)
    (x y : Value) (k : Nat) (b : TypeId) (ds : Array Value) (e : TypeDesc)
    (hp : tmps.getD p undef = x) (hp2 : tmps.getD p' undef = y) (hq : tmps.getD q undef = .pointer (some ⟨k, 0, none⟩)) (hk : Row w k b ds)
    (hv : P.underlying u = some e) (he : (match e with | .struct _ | .array _ _ => true | _ => false) = true) (hj : (P.info? u).map (·.size) = some ds.size) :
    (results fn tmps).run P w = .ok (.tuple #[x, y, .agg ds]) w := by
  have hp' : tmps[p]?.getD undef = x := by simpa using hp
  have hp2' : tmps[p']?.getD undef = y := by simpa using hp2
  have hq' : tmps[q]?.getD undef = .pointer (some ⟨k, 0, none⟩) := by simpa using hq
  simp [results, h, hp', hp2', hq', asAddr, run_loadVar_row w k b u ds (0, 0) e hk hv he hj]
end Go.Proofs.Ytcmbpniikcghfaa

namespace Go.Proofs.Ytcmbpniikcghfaa
open Go.RowKit

theorem blw_new1 (w : World) (o : Obj) (x : Array Value) : Below w.heap.size w ((w.alloc o).setRow w.heap.size x) :=
  blw_row ((Below.refl _ _).alloc (Nat.le_refl _) _) (Nat.le_refl _) _
theorem row_new1 (w : World) (t : TypeId) (x0 x : Array Value) : Row ((w.alloc (.cells x0 t)).setRow w.heap.size x) w.heap.size t x := Row.row (Row.new w t x0) _
theorem blw_new2 (w : World) (o1 o2 : Obj) (x y : Array Value) : Below w.heap.size w ((((w.alloc o1).alloc o2).setRow w.heap.size x).setRow (w.heap.size + 1) y) :=
  blw_row (blw_row (((Below.refl _ _).alloc (Nat.le_refl _) _).alloc (by simp) _) (Nat.le_refl _) _) (Nat.le_succ _) _
theorem row_new2a (w : World) (t u : TypeId) (x0 y0 x y : Array Value) : Row ((((w.alloc (.cells x0 t)).alloc (.cells y0 u)).setRow w.heap.size x).setRow (w.heap.size + 1) y) w.heap.size t x :=
  Row.rowFar (Row.row ((Row.new w t x0).alloc _) _) (by omega) _
theorem row_new2b (w : World) (t u : TypeId) (x0 y0 x y : Array Value) : Row ((((w.alloc (.cells x0 t)).alloc (.cells y0 u)).setRow w.heap.size x).setRow (w.heap.size + 1) y) (w.heap.size + 1) u y :=
  Row.row (Row.rowFar (Row.newAt (w.alloc (.cells x0 t)) u y0 _ (by simp)) (by omega) _) _
/-- a new block that keeps what it was made with -/
theorem row_far_new2 (w : World) (t u : TypeId) (x0 y0 x : Array Value) : Row (((w.alloc (.cells x0 t)).alloc (.cells y0 u)).setRow w.heap.size x) (w.heap.size + 1) u y0 :=
  Row.rowFar (Row.newAt (w.alloc (.cells x0 t)) u y0 _ (by simp)) (by omega) _
end Go.Proofs.Ytcmbpniikcghfaa

namespace Go.Proofs.Ytcmbpniikcghfaa
open Go.RowKit

/-- rows of other types stay -/
def KeepT (e : TypeId) (w w' : World) : Prop := ∀ g t cs, t ≠ e → Row w g t cs → Row w' g t cs
theorem KeepT.refl (e : TypeId) (w : World) : KeepT e w w := fun _ _ _ _ h => h
theorem KeepT.trans {e : TypeId} {a b c : World} (h : KeepT e a b) (k : KeepT e b c) : KeepT e a c := fun g t cs ht hr => k g t cs ht (h g t cs ht hr)
theorem KeepT.alloc {e : TypeId} {a b : World} (h : KeepT e a b) (o : Obj) : KeepT e a (b.alloc o) := fun g t cs ht hr => (h g t cs ht hr).alloc o
theorem KeepT.drewN {e : TypeId} {a b : World} (h : KeepT e a b) (n : Nat) : KeepT e a (b.drewN n) := fun g t cs ht hr => (h g t cs ht hr).drewN n
theorem KeepT.below {e : TypeId} {a b c : World} (h : KeepT e a b) (k : Below b.heap.size b c) : KeepT e a c := fun g t cs ht hr => (h g t cs ht hr).below k (h g t cs ht hr).lt
theorem keep_grown {base : Nat} {e : TypeId} {v : Value} {n : Nat} {xs : List Value} {w w' : World} (hown : w.ownsRow base e 1 v n xs) (hg : w.grownBy w' v.ownBlock) : KeepT e w w' := by
  intro g t cs ht hr
  refine hr.grown hg ?_
  rcases hown.2 with ⟨rfl, _⟩ | ⟨k, cap, cur, rfl, _, hk, _⟩
  · exact fun h => by cases h
  · intro h
    have hgk : g = k := by simpa [Value.ownBlock] using h
    subst hgk
    have := hr.symm.trans hk
    simp only [Option.some.injEq, Obj.cells.injEq] at this
    exact ht this.2.1
/-- a block that is new is written -/
theorem KeepT.far {e : TypeId} {a b : World} (h : KeepT e a b) {g : Nat} (hg : a.heap.size ≤ g) (cs : Array Value) : KeepT e a (b.setRow g cs) := by
  intro k t xs ht hr
  have := hr.lt
  exact (h k t xs ht hr).rowFar (by omega) _
/-- a row of another type is not the owned one -/
theorem own_other {w : World} {base : Nat} {e t : TypeId} {v : Value} {n g : Nat} {xs : List Value} {cs : Array Value} (h : w.ownsRow base e 1 v n xs) (hr : Row w g t cs) (ht : t ≠ e) : ∀ b, v.ownBlock = some b → b ≠ g := by
  rintro b hb rfl
  rcases h.2 with ⟨rfl, _⟩ | ⟨k, cap, cur, rfl, _, hk, _⟩
  · cases hb
  · have hgk : k = b := by simpa [Value.ownBlock] using hb
    subst hgk
    have := hr.symm.trans hk
    simp only [Option.some.injEq, Obj.cells.injEq] at this
    exact ht this.2.1
end Go.Proofs.Ytcmbpniikcghfaa
