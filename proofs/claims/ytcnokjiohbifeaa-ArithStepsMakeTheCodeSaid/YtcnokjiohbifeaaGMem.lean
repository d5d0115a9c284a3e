/-
  Small words for memory, of no program: a block that is known whole ('Row'), how it is kept, and how results that lie in blocks are read. Helper text: it proves nothing of the program by itself.
-/
import Derived.WalkKit
import Derived.WalkSmall
import Derived.Deep.Draws
import Derived.Laws.CopyOwn
import Derived.Lib.Hide
import Derived.Laws.CopyRow
import Derived.Laws.IdiomStrings
namespace Go.Proofs.Ytcnokjiohbifeaa
open Go.RowKit

/-- Block g is just the cells cs; none of them is frozen. -/
def Row (w : World) (g : Nat) (t : TypeId) (cs : Array Value) : Prop := w.heap[g]? = some (.cells cs t (0, 0))

section
variable {w w' : World} {g : Nat} {t : TypeId} {cs : Array Value}
theorem Row.cell (h : Row w g t cs) (i : Nat) : w.cell? ⟨g, i, none⟩ = cs[i]? := cell_of_row w g i cs t (0, 0) h
theorem Row.free (h : Row w g t cs) (i : Nat) : w.frozen? ⟨g, i, none⟩ = false := frozen_of_row w g i cs t h
theorem Row.lt (h : Row w g t cs) : g < w.heap.size := (Array.getElem?_eq_some_iff.1 h).1
theorem Row.new (w : World) (t : TypeId) (cs : Array Value) : Row (w.alloc (.cells cs t)) w.heap.size t cs := heap_alloc_new w _
theorem Row.newAt (w : World) (t : TypeId) (cs : Array Value) (n : Nat) (hn : n = w.heap.size) : Row (w.alloc (.cells cs t)) n t cs := by
  subst hn
  exact heap_alloc_new w _
theorem Row.newEq (w : World) (t : TypeId) (cs ds : Array Value) (n : Nat) (hn : n = w.heap.size) (h : cs = ds) : Row (w.alloc (.cells cs t)) n t ds := by
  subst hn h
  exact heap_alloc_new w _
theorem Row.alloc (h : Row w g t cs) (o : Obj) : Row (w.alloc o) g t cs := (Below.heap_alloc w o g h.lt).trans h
theorem Row.drew (h : Row w g t cs) : Row w.drew g t cs := h
theorem Row.drewN (h : Row w g t cs) (n : Nat) : Row (w.drewN n) g t cs := h
theorem Row.put (h : Row w g t cs) (i : Nat) (u : Value) : Row (w.setCell ⟨g, i, none⟩ u) g t (cs.setIfInBounds i u) := heap_setCell_same w g i cs t u h
theorem Row.far (h : Row w g t cs) {p : Addr} (hp : g ≠ p.block) (u : Value) : Row (w.setCell p u) g t cs := (heap_setCell_other w p g u hp).trans h
theorem Row.row (h : Row w g t cs) (cs' : Array Value) : Row (w.setRow g cs') g t cs' := setRow_heap w g cs cs' t (0, 0) h
theorem Row.rowFar (h : Row w g t cs) {k : Nat} (hk : g ≠ k) (cs' : Array Value) : Row (w.setRow k cs') g t cs := (setRow_other w k g cs' hk).trans h
theorem Row.below {B : Nat} (h : Row w g t cs) (hb : Below B w w') (hg : g < B) : Row w' g t cs := (hb.block g hg).trans h
theorem Row.grown {row : Option Nat} (h : Row w g t cs) (hb : w.grownBy w' row) (hg : some g ≠ row) : Row w' g t cs := (hb.block g h.lt hg).trans h
end

theorem blw_drewN {B : Nat} {a w : World} (h : Below B a w) (n : Nat) : Below B a (w.drewN n) := ⟨h.os, h.tape, h.output, h.size, h.block⟩
theorem blw_row {B : Nat} {a w : World} (h : Below B a w) {g : Nat} (hg : B ≤ g) (cs : Array Value) : Below B a (w.setRow g cs) := below_setRow h hg cs
/-- a callee's new blocks, seen from the caller -/
theorem blw_call {B : Nat} {a w w' : World} (h : Below B a w) (hB : B ≤ w.heap.size) (k : Below w.heap.size w w') : Below B a w' := h.trans (k.mono hB)

/-- what a callee leaves of the caller's cells, as rules for the walk -/
theorem blw_cells {W w1 : World} (hb : Below W.heap.size W w1) : (∀ b o, b < W.heap.size → w1.cell? ⟨b, o, none⟩ = W.cell? ⟨b, o, none⟩) ∧ (∀ b o, b < W.heap.size → w1.frozen? ⟨b, o, none⟩ = W.frozen? ⟨b, o, none⟩) :=
  ⟨fun b o h => hb.cell (p := ⟨b, o, none⟩) h, fun b o h => hb.frozen (p := ⟨b, o, none⟩) h⟩
/-- two results that lie in blocks -/
theorem results_rows {P : Program} {fn : Func} {p q : Tmp} {t u : TypeId} (h : fn.results = #[.cell p t, .cell q u]) (tmps : Array Value) (w : World)
    (g k : Nat) (a b : TypeId) (cs ds : Array Value) (d e : TypeDesc)
    (hp : tmps.getD p undef = .pointer (some ⟨g, 0, none⟩)) (hq : tmps.getD q undef = .pointer (some ⟨k, 0, none⟩)) (hg : Row w g a cs) (hk : Row w k b ds)
    (hu : P.underlying t = some d) (hd : (match d with | .struct _ | .array _ _ => true | _ => false) = true) (hi : (P.info? t).map (·.size) = some cs.size)
    (hv : P.underlying u = some e) (he : (match e with | .struct _ | .array _ _ => true | _ => false) = true) (hj : (P.info? u).map (·.size) = some ds.size) :
    (results fn tmps).run P w = .ok (.tuple #[.agg cs, .agg ds]) w := by
  have hp' : tmps[p]?.getD undef = .pointer (some ⟨g, 0, none⟩) := by simpa using hp
  have hq' : tmps[q]?.getD undef = .pointer (some ⟨k, 0, none⟩) := by simpa using hq
  simp [results, h, hp', hq', asAddr, run_loadVar_row w g a t cs (0, 0) d hg hu hd hi, run_loadVar_row w k b u ds (0, 0) e hk hv he hj]

/-- one result that lies in a block -/
theorem results_row {P : Program} {fn : Func} {p : Tmp} {t : TypeId} (h : fn.results = #[.cell p t]) (tmps : Array Value) (w : World) (g : Nat) (a : TypeId) (cs : Array Value) (d : TypeDesc)
    (hp : tmps.getD p undef = .pointer (some ⟨g, 0, none⟩)) (hg : Row w g a cs)
    (hu : P.underlying t = some d) (hd : (match d with | .struct _ | .array _ _ => true | _ => false) = true) (hi : (P.info? t).map (·.size) = some cs.size) :
    (results fn tmps).run P w = .ok (.agg cs) w := results_cell_row h tmps w g a cs (0, 0) d hp hg hu hd hi

/-! ### whole rows inside a region that draws its order: rules at the level of the whole operation, for 'attribute [local go_sem ↓]' -/
/-- the block of a pointer -/
def blkOf : Value → Nat
  | .pointer (some a) => a.block
  | _ => 0
/-- the cells of a block -/
def rowAt (w : World) (g : Nat) : Array Value := match w.heap[g]? with
  | some (.cells cs _ _) => cs
  | _ => #[]
/-- a block of n cells, none of them frozen -/
def IsRow (w : World) (g n : Nat) : Prop := ∃ t cs, Row w g t cs ∧ cs.size = n
theorem Row.is {w : World} {g : Nat} {t : TypeId} {cs : Array Value} (h : Row w g t cs) {n : Nat} (hn : cs.size = n) : IsRow w g n := ⟨t, cs, h, hn⟩
theorem Row.at {w : World} {g : Nat} {t : TypeId} {cs : Array Value} (h : Row w g t cs) : rowAt w g = cs := by
  unfold Row at h
  simp [rowAt, h]
/-- n cells of one cell each -/
def Flat (v : Value) (n : Nat) : Prop := ∃ cs : Array Value, v = .agg cs ∧ cs.size = n ∧ ∀ u ∈ cs, u.oneCell' = true
/-- the number of cells of a type -/
def sizeT (P : Program) (t : TypeId) : Nat := ((P.info? t).map (·.size)).getD 0
/-- a type's number of cells is known -/
def Sized (P : Program) (t : TypeId) : Prop := (P.info? t).map (·.size) = some (sizeT P t)
theorem blkOf_ptr (a : Addr) : blkOf (.pointer (some a)) = a.block := rfl
theorem cells_agg (cs : Array Value) : (Value.agg cs).cells = cs := rfl
theorem wp_store_flat {P : Program} {d : Option Tmp} {ty ty' : TypeId} {x y : Tmp} {pos : String} {af : Array Edge} {ts : Array Value} {ds : List Deferred} {w : World} {K : Act → World → Prop} {Q : Exit → Act → World → Prop}
    (hp : ts.getD x undef = .pointer (some ⟨blkOf (ts.getD x undef), 0, none⟩)) (hi : Sized P ty) (hf : Flat (ts.getD y undef) (sizeT P ty)) (hr : IsRow w (blkOf (ts.getD x undef)) (sizeT P ty)) :
    Oper.wp P { dst := d, op := .store ty (.tmp x) (.tmp y), type := ty', pos := pos, after := af, guard := none } { tmps := ts, defers := ds } w K Q = K (({ tmps := ts, defers := ds } : Act).put d undef) (w.setRow (blkOf (ts.getD x undef)) (ts.getD y undef).cells) := by
  obtain ⟨cs, hv, hn, h1⟩ := hf
  obtain ⟨t, old, hr, ho⟩ := hr
  have h2 := run_storeVar_row (P := P) w (blkOf (ts.getD x undef)) t ty old cs hr (by rw [show (P.info? ty).map (·.size) = some (sizeT P ty) from hi, hn]) (by rw [ho, hn]) (Array.all_eq_true_iff_forall_mem.2 h1)
  have hx : Act.eval ({ tmps := ts, defers := ds } : Act) (.tmp x) = .pointer (some ⟨blkOf (ts.getD x undef), 0, none⟩) := hp
  have hy : Act.eval ({ tmps := ts, defers := ds } : Act) (.tmp y) = .agg cs := hv
  rw [hv]
  unfold Oper.wp execOp
  simp only [hx, hy, Instr.storeAt, Instr.sureAddr, Sem.run_bind, Sem.run_pure, Result.andThen_ok, h2]
  rfl
theorem all_one {cs : Array Value} (h : ∀ v ∈ cs, v.oneCell' = true) : cs.all (·.oneCell') = true := Array.all_eq_true_iff_forall_mem.2 h
theorem ret_int {k : IntKind} {a b : Int} (h : a = b) : Ending.returned (.int k a) = .returned (.int k b) := by rw [h]
theorem ret_agg {a b : Array Value} (h : a = b) : Ending.returned (.agg a) = .returned (.agg b) := by rw [h]
theorem ret_bool {a b : Bool} (h : a = b) : Ending.returned (.bool a) = .returned (.bool b) := by rw [h]
theorem ret_string {a b : ByteArray} (h : a = b) : Ending.returned (.string a) = .returned (.string b) := by rw [h]
theorem ret_eq {a b : Value} (h : a = b) : Ending.returned a = .returned b := by rw [h]

/-! ### regions and parts of blocks -/
/-- a type is a struct or an array -/
def AggT (P : Program) (t : TypeId) : Prop := (∃ fs, P.underlying t = some (.struct fs)) ∨ ∃ n e, P.underlying t = some (.array n e)
theorem wp_load_flat {P : Program} {d : Option Tmp} {ty ty' : TypeId} {x : Tmp} {pos : String} {af : Array Edge} {gd : Option (Nat × Bool)} {ts : Array Value} {ds : List Deferred} {w : World} {K : Act → World → Prop} {Q : Exit → Act → World → Prop}
    (hp : ts.getD x undef = .pointer (some ⟨blkOf (ts.getD x undef), 0, none⟩)) (hi : Sized P ty) (ha : AggT P ty) (hr : IsRow w (blkOf (ts.getD x undef)) (sizeT P ty)) :
    Oper.wp P { dst := d, op := .load ty (.tmp x), type := ty', pos := pos, after := af, guard := gd } { tmps := ts, defers := ds } w K Q = K (({ tmps := ts, defers := ds } : Act).put d (.agg (rowAt w (blkOf (ts.getD x undef))))) w := by
  obtain ⟨t, cs, hr, ho⟩ := hr
  have hx : Act.eval ({ tmps := ts, defers := ds } : Act) (.tmp x) = .pointer (some ⟨blkOf (ts.getD x undef), 0, none⟩) := hp
  have hi' : (P.info? ty).map (·.size) = some cs.size := by rw [show (P.info? ty).map (·.size) = some (sizeT P ty) from hi, ho]
  have hl : (loadVar ty ⟨blkOf (ts.getD x undef), 0, none⟩).run P w = .ok (.agg cs) w := by
    rcases ha with ⟨fs, hu⟩ | ⟨n, e, hu⟩
    · exact run_loadVar_row w (blkOf (ts.getD x undef)) t ty cs (0, 0) _ hr hu rfl hi'
    · exact run_loadVar_row w (blkOf (ts.getD x undef)) t ty cs (0, 0) _ hr hu rfl hi'
  rw [hr.at]
  unfold Oper.wp execOp
  simp only [hx, Instr.loadAt, Instr.sureAddr, Sem.run_bind, Sem.run_pure, Result.andThen_ok, hl]
  rfl
/-- the same at the level of the operation's run -/
theorem run_load_flat {P : Program} {d : Option Tmp} {ty ty' : TypeId} {x : Operand} {pos : String} {af : Array Edge} {gd : Option (Nat × Bool)} {ρ : Operand → Value} {w : World}
    (hp : ρ x = .pointer (some ⟨blkOf (ρ x), 0, none⟩)) (hi : Sized P ty) (ha : AggT P ty) (hr : IsRow w (blkOf (ρ x)) (sizeT P ty)) :
    Sem.run P (execOp ρ { dst := d, op := .load ty x, type := ty', pos := pos, after := af, guard := gd }) w = .ok (.value (.agg (rowAt w (blkOf (ρ x))))) w := by
  generalize blkOf (ρ x) = g at *
  obtain ⟨t, cs, hr, ho⟩ := hr
  have hi' : (P.info? ty).map (·.size) = some cs.size := by rw [show (P.info? ty).map (·.size) = some (sizeT P ty) from hi, ho]
  have hl : (loadVar ty ⟨g, 0, none⟩).run P w = .ok (.agg cs) w := by
    rcases ha with ⟨fs, hu⟩ | ⟨n, e, hu⟩
    · exact run_loadVar_row w g t ty cs (0, 0) _ hr hu rfl hi'
    · exact run_loadVar_row w g t ty cs (0, 0) _ hr hu rfl hi'
  rw [hr.at]
  unfold execOp
  simp only [hp, Instr.loadAt, Instr.sureAddr, Sem.run_bind, Sem.run_pure, Result.andThen_ok, hl]
/-- a whole row is loaded by an operation with a guard that says yes -/
theorem wpList_load_rowG {P : Program} {ops : Array Oper} {rest : List Oper} {o : Oper} {a : Act} {w : World} {Q : Exit → Act → World → Prop} (hw : Region.wanted o (yielded ops a.tmps) = true) (ty : TypeId) (x : Operand) (ho : o.op = .load ty x)
    (g : Nat) (hx : a.eval x = .pointer (some ⟨g, 0, none⟩)) (t : TypeId) (cs : Array Value) (fr : Nat × Nat) (d : TypeDesc) (hg : w.heap[g]? = some (.cells cs t fr))
    (hu : P.underlying ty = some d) (hd : (match d with | .struct _ | .array _ _ => true | _ => false) = true) (hi : (P.info? ty).map (·.size) = some cs.size)
    (h : wpList P ops Q rest (a.put o.dst (.agg cs)) w) : wpList P ops Q (o :: rest) a w :=
  BigFrame.wpList_want hw fun _ hK => wp_load_row ty x ho g hx t cs fr d hg hu hd hi (hK _ _ h)
/-- the walk goes on in whatever world the facts hold in -/
theorem wp_world {P : Program} {C : Code} {Q : Exit → Act → World → Prop} {a : Act} {w : World} {F : World → Prop} (hF : F w) (h : ∀ w', F w' → C.wp P Q a w') : C.wp P Q a w := h w hF
/-- an owned row, where another block is written whole -/
theorem own_far {w : World} {base : Nat} {e : TypeId} {u : Value} {k : Nat} {xs : List Value} (h : w.ownsRow base e 1 u k xs) {g : Nat} (hg : ∀ b, u.ownBlock = some b → b ≠ g) (cs : Array Value) : (w.setRow g cs).ownsRow base e 1 u k xs := by
  refine ⟨h.1, ?_⟩
  rcases h.2 with h0 | ⟨b, cap, cur, rfl, h2, h3, h4⟩
  · exact .inl h0
  · exact .inr ⟨b, cap, cur, rfl, h2, (setRow_other w g b cs (hg b rfl)).trans h3, h4⟩
/-- an owned row, where another block is written whole -/
theorem own_row {w : World} {base : Nat} {e : TypeId} {u : Value} {k : Nat} {xs : List Value} (h : w.ownsRow base e 1 u k xs) {g : Nat} (hg : g < base) (cs : Array Value) : (w.setRow g cs).ownsRow base e 1 u k xs := by
  refine ⟨h.1, ?_⟩
  rcases h.2 with h0 | ⟨b, cap, cur, h1, h2, h3, h4⟩
  · exact .inl h0
  · exact .inr ⟨b, cap, cur, h1, h2, (setRow_other w g b cs (by omega)).trans h3, h4⟩
/-- 'wp_store_flat', over a frame that is not written out yet -/
theorem wp_store_act {P : Program} {d : Option Tmp} {ty ty' : TypeId} {x y : Tmp} {pos : String} {af : Array Edge} {a : Act} {w : World} {K : Act → World → Prop} {Q : Exit → Act → World → Prop}
    (hp : a.tmps.getD x undef = .pointer (some ⟨blkOf (a.tmps.getD x undef), 0, none⟩)) (hi : Sized P ty) (hf : Flat (a.tmps.getD y undef) (sizeT P ty)) (hr : IsRow w (blkOf (a.tmps.getD x undef)) (sizeT P ty)) :
    Oper.wp P { dst := d, op := .store ty (.tmp x) (.tmp y), type := ty', pos := pos, after := af, guard := none } a w K Q = K (a.put d undef) (w.setRow (blkOf (a.tmps.getD x undef)) (a.tmps.getD y undef).cells) :=
  wp_store_flat hp hi hf hr
theorem drew_size (w : World) : w.drew.heap.size = w.heap.size := rfl
theorem up_alloc {w W : World} (h : Below w.heap.size w W) (o : Obj) : Below w.heap.size w (W.alloc o) := h.alloc h.size o
theorem up_call {w W W' : World} (h : Below w.heap.size w W) (k : Below W.heap.size W W') : Below w.heap.size w W' := blw_call h h.size k
theorem up_row {w W : World} (h : Below w.heap.size w W) {g : Nat} (hg : w.heap.size ≤ g) (cs : Array Value) : Below w.heap.size w (W.setRow g cs) := blw_row h hg cs
theorem IsRow.alloc {W : World} {g n : Nat} (h : IsRow W g n) (o : Obj) : IsRow (W.alloc o) g n := by
  obtain ⟨t, cs, h1, h2⟩ := h
  exact ⟨t, cs, h1.alloc o, h2⟩
theorem IsRow.lt {W : World} {g n : Nat} (h : IsRow W g n) : g < W.heap.size := by
  obtain ⟨t, cs, h1, h2⟩ := h
  exact h1.lt
theorem IsRow.keep {W W' : World} {g n : Nat} (h : IsRow W g n) (k : Below W.heap.size W W') : IsRow W' g n := by
  obtain ⟨t, cs, h1, h2⟩ := h
  exact ⟨t, cs, h1.below k h1.lt, h2⟩
/-- the newest block, kept by a call -/
theorem keep_new {W W' : World} {cs : Array Value} {t : TypeId} (k : Below (W.alloc (.cells cs t)).heap.size (W.alloc (.cells cs t)) W') : IsRow W' W.heap.size cs.size := IsRow.keep ⟨t, cs, Row.new _ _ _, rfl⟩ k
/-- the newest but one -/
theorem keep_new2 {W W' : World} {cs : Array Value} {t : TypeId} {o : Obj} (k : Below ((W.alloc (.cells cs t)).alloc o).heap.size ((W.alloc (.cells cs t)).alloc o) W') : IsRow W' W.heap.size cs.size := IsRow.keep ⟨t, cs, (Row.new _ _ _).alloc _, rfl⟩ k
theorem keep_new_d {W W' : World} {cs : Array Value} {t : TypeId} (k : Below (W.alloc (.cells cs t)).drew.heap.size (W.alloc (.cells cs t)).drew W') : IsRow W' W.heap.size cs.size := IsRow.keep (W := (W.alloc (.cells cs t)).drew) ⟨t, cs, Row.new _ _ _, rfl⟩ k
theorem keep_new2_d {W W' : World} {cs : Array Value} {t : TypeId} {o : Obj} (k : Below ((W.alloc (.cells cs t)).alloc o).drew.heap.size ((W.alloc (.cells cs t)).alloc o).drew W') : IsRow W' W.heap.size cs.size := IsRow.keep (W := ((W.alloc (.cells cs t)).alloc o).drew) ⟨t, cs, (Row.new _ _ _).alloc _, rfl⟩ k
theorem isRow_old {W : World} {g n : Nat} {o : Obj} (h : IsRow W g n) : IsRow (W.alloc o) g n := h.alloc o
theorem isRow_new {W : World} {g n : Nat} {cs : Array Value} {t : TypeId} (hg : g = W.heap.size) (hn : cs.size = n) : IsRow (W.alloc (.cells cs t)) g n := by
  subst hg
  exact ⟨t, cs, Row.new _ _ _, hn⟩
theorem isRow_set {W : World} {g k n : Nat} {cs : Array Value} (hg : g ≠ k) (h : IsRow W g n) : IsRow (W.setRow k cs) g n := by
  obtain ⟨t, ds, h1, h2⟩ := h
  exact ⟨t, ds, h1.rowFar hg _, h2⟩
theorem isRow_alloc_eq (W : World) (g n : Nat) (cs : Array Value) (t : TypeId) : IsRow (W.alloc (.cells cs t)) g n ↔ if g = W.heap.size then cs.size = n else IsRow W g n := by
  by_cases h : g = W.heap.size
  · rw [if_pos h]
    subst h
    constructor
    · rintro ⟨t', ds, h1, h2⟩
      have h3 := (Row.new W t cs).symm.trans h1
      simp only [Option.some.injEq, Obj.cells.injEq] at h3
      rw [h3.1]
      exact h2
    · intro h
      exact ⟨t, cs, Row.new _ _ _, h⟩
  · rw [if_neg h]
    constructor
    · rintro ⟨t', ds, h1, h2⟩
      have hlt : g < W.heap.size := by
        have := h1.lt
        simp at this
        omega
      exact ⟨t', ds, (Below.heap_alloc W _ g hlt).symm.trans h1, h2⟩
    · exact fun h => h.alloc _
theorem isRow_set_eq {W : World} {g k n : Nat} {cs : Array Value} (hg : g ≠ k) : IsRow (W.setRow k cs) g n ↔ IsRow W g n := by
  constructor
  · rintro ⟨t, ds, h1, h2⟩
    exact ⟨t, ds, (setRow_other W k g cs hg).symm.trans h1, h2⟩
  · exact isRow_set hg
theorem rowAt_alloc_eq (W : World) (g : Nat) (cs : Array Value) (t : TypeId) : rowAt (W.alloc (.cells cs t)) g = if g = W.heap.size then cs else rowAt W g := by
  by_cases h : g = W.heap.size
  · rw [if_pos h]
    subst h
    exact (Row.new W t cs).at
  · rw [if_neg h]
    by_cases hlt : g < W.heap.size
    · unfold rowAt
      rw [show (W.alloc (.cells cs t)).heap[g]? = W.heap[g]? from Below.heap_alloc W _ g hlt]
    · have e1 : (W.alloc (.cells cs t)).heap[g]? = none := Array.getElem?_eq_none (by simp; omega)
      have e2 : W.heap[g]? = none := Array.getElem?_eq_none (by omega)
      unfold rowAt
      rw [e1, e2]
theorem rowAt_drew (W : World) (g : Nat) : rowAt W.drew g = rowAt W g := rfl
theorem isRow_drew (W : World) (g n : Nat) : IsRow W.drew g n ↔ IsRow W g n := Iff.rfl
/-- a block holds just these cells -/
def Holds (W : World) (g : Nat) (cs : Array Value) : Prop := ∃ t, Row W g t cs
theorem Holds.below {W W' : World} {g : Nat} {cs : Array Value} (h : Holds W g cs) (k : Below W.heap.size W W') : Holds W' g cs := by
  obtain ⟨t, h1⟩ := h
  exact ⟨t, h1.below k h1.lt⟩
theorem Holds.alloc {W : World} {g : Nat} {cs : Array Value} (h : Holds W g cs) (o : Obj) : Holds (W.alloc o) g cs := by
  obtain ⟨t, h1⟩ := h
  exact ⟨t, h1.alloc o⟩
theorem Holds.lt {W : World} {g : Nat} {cs : Array Value} (h : Holds W g cs) : g < W.heap.size := by
  obtain ⟨t, h1⟩ := h
  exact h1.lt
theorem Holds.drew {W : World} {g : Nat} {cs : Array Value} (h : Holds W g cs) : Holds W.drew g cs := h
theorem Holds.cell {W : World} {g : Nat} {cs : Array Value} (h : Holds W g cs) (i : Nat) : W.cell? ⟨g, i, none⟩ = cs[i]? := by
  obtain ⟨t, h1⟩ := h
  exact h1.cell i
theorem Holds.is {W : World} {g n : Nat} {cs : Array Value} (h : Holds W g cs) (hn : cs.size = n) : IsRow W g n := by
  obtain ⟨t, h1⟩ := h
  exact ⟨t, cs, h1, hn⟩
theorem Holds.at {W : World} {g : Nat} {cs : Array Value} (h : Holds W g cs) : rowAt W g = cs := by
  obtain ⟨t, h1⟩ := h
  exact h1.at
theorem holds_same {W : World} {g n : Nat} {cs : Array Value} (h : IsRow W g n) : Holds (W.setRow g cs) g cs := by
  obtain ⟨t, ds, h1, _⟩ := h
  exact ⟨t, h1.row _⟩
theorem holds_far {W : World} {g k : Nat} {cs ds : Array Value} (hg : g ≠ k) (h : Holds W g cs) : Holds (W.setRow k ds) g cs := by
  obtain ⟨t, h1⟩ := h
  exact ⟨t, h1.rowFar hg _⟩
/-- a store of a whole array into a part of a block -/
theorem run_storeVar_part {P : Program} (w : World) (g off : Nat) (t ty : TypeId) (old cells : Array Value) (hg : Row w g t old) (hi : (P.info? ty).map (·.size) = some cells.size) (hl : off + cells.size ≤ old.size) (h1 : ∀ v ∈ cells, v.oneCell' = true) :
    (storeVar ty ⟨g, off, none⟩ (.agg cells)).run P w = .ok () (w.setRow g (old.toList.take off ++ cells.toList ++ old.toList.drop (off + cells.size)).toArray) := by
  have := run_storeCells_at (P := P) g off t cells.toList 0 old w hg (by simpa using hl) (fun v hv => h1 v (by simpa using hv))
  simp only [Nat.add_zero, Array.length_toList] at this
  cases hq : P.info? ty with
  | none => simp [hq] at hi
  | some i =>
    have hs : cells.size = i.size := by simp [hq] at hi; omega
    simp only [storeVar, sizeOf, typeInfo, Value.cells]
    simp [hq, hs]
    rw [hs, List.append_assoc] at this
    exact this
theorem wpList_store_part {P : Program} {ops : Array Oper} {rest : List Oper} {o : Oper} {a : Act} {w : World} {Q : Exit → Act → World → Prop} (hgd : o.guard = none) (ty : TypeId) (x y : Operand) (ho : o.op = .store ty x y)
    (g off : Nat) (cells : Array Value) (hx : a.eval x = .pointer (some ⟨g, off, none⟩)) (hy : a.eval y = .agg cells) (t : TypeId) (old : Array Value) (hg : Row w g t old) (hi : (P.info? ty).map (·.size) = some cells.size)
    (hl : off + cells.size ≤ old.size) (h1 : ∀ v ∈ cells, v.oneCell' = true) (new : Array Value) (hnew : new = (old.toList.take off ++ cells.toList ++ old.toList.drop (off + cells.size)).toArray)
    (h : wpList P ops Q rest (a.put o.dst undef) (w.setRow g new)) : wpList P ops Q (o :: rest) a w := by
  refine wpList_plain hgd fun _ hK => ?_
  subst hnew
  unfold Oper.wp execOp
  simp only [ho, hx, hy, Instr.storeAt, Instr.sureAddr, Sem.run_bind, Sem.run_pure, Result.andThen_ok, run_storeVar_part w g off t ty old cells hg hi hl h1]
  exact hK _ _ h
theorem holds_cell {w : World} {g : Nat} {cs : Array Value} {a : Addr} (hg : g ≠ a.block) (h : Holds w g cs) (v : Value) : Holds (w.setCell a v) g cs := by
  obtain ⟨t, h1⟩ := h
  exact ⟨t, h1.far hg v⟩

/-! ### a call that writes one block of what was there -/
theorem gr_refl (w : World) (g : Nat) : w.grownBy w (some g) := ⟨rfl, rfl, rfl, Nat.le_refl _, fun _ _ _ => rfl⟩
theorem gr_cell {w W : World} {g : Nat} (h : w.grownBy W (some g)) (o : Nat) (v : Value) : w.grownBy (W.setCell ⟨g, o, none⟩ v) (some g) :=
  ⟨h.os, h.tape, h.output, by simpa using h.size, fun k hk hne => (heap_setCell_other W ⟨g, o, none⟩ k v (fun e => hne (by rw [e]))).trans (h.block k hk hne)⟩
theorem gr_drew {w W : World} {g : Nat} (h : w.grownBy W (some g)) : w.grownBy W.drew (some g) := ⟨h.os, h.tape, h.output, h.size, h.block⟩
theorem gr_drewN {w W : World} {g : Nat} (h : w.grownBy W (some g)) (n : Nat) : w.grownBy (W.drewN n) (some g) := ⟨h.os, h.tape, h.output, h.size, h.block⟩
theorem gr_alloc {w W : World} {g : Nat} (h : w.grownBy W (some g)) (o : Obj) : w.grownBy (W.alloc o) (some g) :=
  ⟨h.os, h.tape, h.output, by have := h.size; simp; omega, fun k hk hne => (Below.heap_alloc W o k (Nat.lt_of_lt_of_le hk h.size)).trans (h.block k hk hne)⟩
theorem gr_setRow {w W : World} {g : Nat} (h : w.grownBy W (some g)) (k : Nat) (cs : Array Value) (hk : k = g ∨ w.heap.size ≤ k) : w.grownBy (W.setRow k cs) (some g) :=
  ⟨h.os, h.tape, h.output, by simpa using h.size, fun b hb hne => (setRow_other W k b cs (fun e => by
    rcases hk with rfl | hk
    · exact hne (by rw [e])
    · omega)).trans (h.block b hb hne)⟩
theorem gr_call {w W W' : World} {g : Nat} (h : w.grownBy W (some g)) (k : Below W.heap.size W W') : w.grownBy W' (some g) :=
  ⟨k.os.trans h.os, k.tape.trans h.tape, k.output.trans h.output, Nat.le_trans h.size k.size, fun b hb hne => (k.block b (Nat.lt_of_lt_of_le hb h.size)).trans (h.block b hb hne)⟩
theorem gr_trans {w W W' : World} {g : Nat} (h : w.grownBy W (some g)) (k : W.grownBy W' (some g)) : w.grownBy W' (some g) :=
  ⟨k.os.trans h.os, k.tape.trans h.tape, k.output.trans h.output, Nat.le_trans h.size k.size, fun b hb hne => (k.block b (Nat.lt_of_lt_of_le hb h.size) hne).trans (h.block b hb hne)⟩
theorem gr_below {B g : Nat} {a w W : World} (h : Below B a w) (k : w.grownBy W (some g)) (hB : B ≤ w.heap.size) (hg : B ≤ g) : Below B a W := h.grown k hB fun b hb => by
  injection hb with hb
  omega
end Go.Proofs.Ytcnokjiohbifeaa
