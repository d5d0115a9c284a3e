/-
  A map from contexts to counts, as the model keeps it: looked up, written. Helper text: it proves nothing of the program by itself.
-/
import Derived.Test.YtgpacgmgdnongaaProg
import Derived.Test.YtgpacgmgdnongaaGSl
import Derived.Test.YtgpacgmgdnongaaMPlain
import Derived.Maps.OwnOps
import Derived.Maps.Views
import Derived.Maps.OwnSet
import Derived.DeepKeys4
import Derived.DeepKeys5
import Derived.ProofKit
namespace Go.Proofs.Ytgpacgmgdnongaa
open Go.RowKit Go.Maps

/-- a context as cells -/
def kcs (k : Ctx) : Array Value := #[.int .i64 k.o, .int .i64 k.a, .int .i64 k.b, .int .i64 k.g]
/-- two counts as cells -/
def ccs (c : Nat × Nat) : Array Value := #[.int .i64 c.1, .int .i64 c.2]
theorem kcs_size (k : Ctx) : (kcs k).size = 4 := rfl
theorem ccs_size (c : Nat × Nat) : (ccs c).size = 2 := rfl
theorem kcs_one (k : Ctx) : ∀ v ∈ kcs k, v.oneCell' = true := by
  intro v hv
  simp only [kcs, List.mem_toArray, List.mem_cons, List.not_mem_nil, or_false] at hv
  rcases hv with rfl | rfl | rfl | rfl <;> rfl
theorem ccs_one (c : Nat × Nat) : ∀ v ∈ ccs c, v.oneCell' = true := by
  intro v hv
  simp only [ccs, List.mem_toArray, List.mem_cons, List.not_mem_nil, or_false] at hv
  rcases hv with rfl | rfl <;> rfl
theorem cellsK : (Try.prog.info? 60).map (·.size) = some 4 := by kernel_rfl
theorem cellsC : (Try.prog.info? 58).map (·.size) = some 2 := by kernel_rfl

theorem rowK : (60 : TypeId) < Try.prog.types.size := of_decide_eq_true (by kernel_rfl)
theorem wideK : (match Try.prog.underlying 60 with | some (.array _ _) | some (.struct _) => true | _ => false) = true := by kernel_rfl
theorem laid_outM : laidOutB Try.prog = true := by kernel_rfl
theorem lawK : Keyed Try.prog 60 := Keyed.of_law (deep_law_laid laid_outM (m := 3) (by omega) rowK (by kernel_rfl) wideK)

/-- what a context reads as -/
def klit (k : Ctx) : Lit := .string (keyBytes [.int .i64 k.o, .int .i64 k.a, .int .i64 k.b, .int .i64 k.g])
theorem wf_small (n : Nat) (h : n < 256) : (Lit.int .i64 (n : Int)).wf = true := WalkArith.wf_i64 (by omega)
theorem keyTypeK : Try.prog.keyType 60 = true := by kernel_rfl
theorem sizesK : ∃ m, Try.prog.types.size + 1 = m + 3 := by
  have h : 2 ≤ Try.prog.types.size := of_decide_eq_true (by kernel_rfl)
  exact ⟨Try.prog.types.size - 2, by omega⟩
theorem cellsOfK : Try.prog.cellsOf 60 = 4 := by kernel_rfl
theorem cellsOfI : Try.prog.cellsOf 3 = 1 := by kernel_rfl
theorem cellsOfA : Try.prog.cellsOf 54 = 2 := by kernel_rfl
theorem key_of (k : Ctx) (h : COk k) : keyOf Try.prog 60 (.agg (kcs k)) = some (klit k) := by
  obtain ⟨h1, h2, h3, h4⟩ := h
  have w1 := wf_small k.o (by omega)
  have w2 := wf_small k.a (by omega)
  have w3 := wf_small k.b (by omega)
  have w4 := wf_small k.g (by omega)
  obtain ⟨m, hm⟩ := sizesK
  unfold keyOf
  rw [hm, Try.underlying60, keyTypeK]
  simp [Value.formed, Value.cells, Program.keyLits, Try.underlying60, Try.underlying3, Try.underlying54, cellsOfK, cellsOfI, cellsOfA, kcs, klit, w1, w2, w3, w4, List.range_succ]
theorem klit_inj {k k' : Ctx} (h : COk k) (h' : COk k') (e : klit k = klit k') : k = k' := by
  have h1 := key_of k h
  have h2 := key_of k' h'
  rw [← e] at h2
  have h3 := lawK.inj h1 h2
  obtain ⟨o, a, b, g⟩ := k
  obtain ⟨o', a', b', g'⟩ := k'
  simp only [kcs, Value.agg.injEq, Array.mk.injEq, List.cons.injEq, Value.int.injEq, true_and, and_true] at h3
  obtain ⟨e1, e2, e3, e4⟩ := h3
  simp only [Ctx.mk.injEq]
  omega

/-- how two counts read -/
def cD (c : Nat × Nat) : DataW Unit := .agg [.lit (.int .i64 c.1), .lit (.int .i64 c.2)]
def cR (v : Value) : Option (DataW Unit × List MemPlace) :=
  match v with
  | .agg ⟨[.int .i64 a, .int .i64 b]⟩ => some (.agg [.lit (.int .i64 a), .lit (.int .i64 b)], [])
  | _ => none
theorem cR_mk (c : Nat × Nat) : cR (.agg (ccs c)) = some (cD c, []) := rfl
theorem cR_inv {v : Value} {c : Nat × Nat} {ps : List MemPlace} (h : cR v = some (cD c, ps)) : v = .agg (ccs c) := by
  unfold cR at h
  split at h
  · rename_i a b
    simp only [cD, Option.some.injEq, Prod.mk.injEq, DataW.agg.injEq, List.cons.injEq, DataW.lit.injEq, Lit.int.injEq, true_and, and_true] at h
    obtain ⟨⟨rfl, rfl⟩, _⟩ := h
    rfl
  · cases h
theorem cD_inj {c d : Nat × Nat} (h : cD c = cD d) : c = d := by
  obtain ⟨a, b⟩ := c
  obtain ⟨a', b'⟩ := d
  simp only [cD, DataW.agg.injEq, List.cons.injEq, DataW.lit.injEq, Lit.int.injEq, true_and, and_true] at h
  simp only [Prod.mk.injEq]
  omega

/-- block gb holds a map of at most n entries that gives each context k the counts f k -/
def Mp (w : World) (gb n : Nat) (f : Ctx → Nat × Nat) : Prop :=
  ∃ D, w.ownsMap Try.prog 60 cR gb n D ∧ ∀ k, COk k → D.atKey (klit k) (cD (0, 0)) = cD (f k)

theorem zeroC (w : World) : (zeroValue 58).run Try.prog w = .ok (.agg (ccs (0, 0))) w := by kernel_rfl
section
variable {w w' : World} {gb n : Nat} {f : Ctx → Nat × Nat}
theorem Mp.lt (h : Mp w gb n f) : gb < w.heap.size := h.choose_spec.1.lt
theorem Mp.kept {row : Option Nat} (h : Mp w gb n f) (hg : w.grownBy w' row) (hne : some gb ≠ row) : Mp w' gb n f := by
  obtain ⟨D, h1, h2⟩ := h
  exact ⟨D, h1.kept hg hne, h2⟩
theorem Mp.same (h : Mp w gb n f) (hg : w'.heap[gb]? = w.heap[gb]?) : Mp w' gb n f := by
  obtain ⟨D, ⟨es, clock, hb, F, hs, hD⟩, h2⟩ := h
  exact ⟨D, ⟨es, clock, hg.trans hb, F, hs, hD⟩, h2⟩
theorem Mp.below (h : Mp w gb n f) (hb : Below w.heap.size w w') : Mp w' gb n f := h.same (hb.block gb h.lt)
theorem Mp.mono (h : Mp w gb n f) {m : Nat} (hm : n ≤ m) : Mp w gb m f := by
  obtain ⟨D, h1, h2⟩ := h
  exact ⟨D, h1.mono hm, h2⟩
theorem Mp.congr (h : Mp w gb n f) {f' : Ctx → Nat × Nat} (hf : ∀ k, COk k → f k = f' k) : Mp w gb n f' := by
  obtain ⟨D, h1, h2⟩ := h
  exact ⟨D, h1, fun k hk => by rw [h2 k hk, hf k hk]⟩
theorem Mp.made (w : World) : Mp (w.alloc (.map #[] 0)) w.heap.size 0 (fun _ => (0, 0)) :=
  ⟨_, World.ownsMap_made w _ _ _, fun _ _ => rfl⟩
theorem Mp.look (h : Mp w gb n f) (k : Ctx) (hk : COk k) : (Instr.lookup 53 (.map (some gb)) (.agg (kcs k)) false).run Try.prog w = .ok (.agg (ccs (f k))) w := by
  obtain ⟨D, h1, h2⟩ := h
  obtain ⟨v, ps, hrun, hv⟩ := h1.lookup lawK Try.underlying53 (zeroC w) (cR_mk (0, 0)) (key_of k hk)
  rw [h2 k hk] at hv
  rw [hrun, cR_inv hv]
theorem Mp.store (h : Mp w gb n f) (hn : n < maxLen) (k : Ctx) (hk : COk k) (c : Nat × Nat) :
    ∃ w', (Instr.mapUpdate 53 (.map (some gb)) (.agg (kcs k)) (.agg (ccs c))).run Try.prog w = .ok () w' ∧ Mp w' gb (n + 1) (fun k' => if k' = k then c else f k') ∧ w.grownBy w' (some gb) := by
  obtain ⟨D, h1, h2⟩ := h
  obtain ⟨w', hrun, h3, h4⟩ := h1.update lawK Try.underlying53 hn (key_of k hk) (cR_mk c)
  refine ⟨w', hrun, ⟨_, h3, fun k' hk' => ?_⟩, h4⟩
  by_cases he : k' = k
  · subst he
    show _ = cD (if k' = k' then c else f k')
    rw [if_pos rfl]
    exact atKey_put_same h1.isMap (by trivial) _ _
  · show _ = cD (if k' = k then c else f k')
    rw [if_neg he, atKey_put_other (fun e => he (klit_inj hk' hk e)), h2 k' hk']
end
/-- the store at its operation, in a walk -/
theorem wpList_put {w : World} {ops : Array Oper} {rest : List Oper} {o : Oper} {a : Act} {Q : Exit → Act → World → Prop}
    (hg : o.guard = none) (m x v : Operand) (hop : o.op = Op.mapUpdate 53 m x v) {gb n : Nat} {f : Ctx → Nat × Nat} (h : Mp w gb n f) (hn : n < maxLen) (k : Ctx) (hk : COk k) (c : Nat × Nat)
    (hm : a.eval m = .map (some gb)) (hx : a.eval x = .agg (kcs k)) (hv : a.eval v = .agg (ccs c))
    (hK : ∀ w', Mp w' gb (n + 1) (fun k' => if k' = k then c else f k') → w.grownBy w' (some gb) → wpList Try.prog ops Q rest (a.put o.dst undef) w') : wpList Try.prog ops Q (o :: rest) a w := by
  refine wpList_plain hg fun K' hK' => ?_
  obtain ⟨w', hrun, r1, r2⟩ := h.store hn k hk c
  unfold Oper.wp
  simp [execOp, hop, hm, hx, hv, hrun, Result.andThen]
  exact hK' _ _ (hK w' r1 r2)
end Go.Proofs.Ytgpacgmgdnongaa
