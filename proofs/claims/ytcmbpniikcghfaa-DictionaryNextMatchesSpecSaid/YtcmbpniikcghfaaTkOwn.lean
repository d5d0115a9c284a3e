/-
  Slices of tokens of the call's own: append, and tokens that are written out.
-/
import Derived.Test.YtcmbpniikcghfaaTok
import Derived.Test.YtcmbpniikcghfaaGMem
namespace Go.Proofs.Ytcmbpniikcghfaa
open Go.RowKit

/-- the cells of tokens -/
def tkc : List TokZ → List Value
  | [] => []
  | t :: r => .int .i64 t.1 :: .int .i64 t.2.1 :: .int .u8 (t.2.2.toNat : Int) :: tkc r
theorem tkc_append : ∀ a b : List TokZ, tkc (a ++ b) = tkc a ++ tkc b
  | [], _ => rfl
  | q :: a, b => by rw [List.cons_append, tkc, tkc_append a b, tkc, List.cons_append, List.cons_append, List.cons_append]
theorem tkc_length : ∀ a : List TokZ, (tkc a).length = a.length * 3
  | [] => rfl
  | q :: a => by rw [tkc, List.length_cons, List.length_cons, List.length_cons, tkc_length a, List.length_cons]; omega
theorem tkc_get : ∀ (a : List TokZ) (i : Nat) (q : TokZ), a[i]? = some q →
    (tkc a)[i * 3]? = some (.int .i64 q.1) ∧ (tkc a)[i * 3 + 1]? = some (.int .i64 q.2.1) ∧ (tkc a)[i * 3 + 2]? = some (.int .u8 (q.2.2.toNat : Int))
  | [], i, q, h => by simp at h
  | p :: a, 0, q, h => by
    simp only [List.getElem?_cons_zero, Option.some.injEq] at h
    subst h
    exact ⟨rfl, rfl, rfl⟩
  | p :: a, i + 1, q, h => by
    simp only [List.getElem?_cons_succ] at h
    have ih := tkc_get a i q h
    rw [tkc, show (i + 1) * 3 = i * 3 + 1 + 1 + 1 by omega]
    simp only [List.getElem?_cons_succ]
    exact ih
theorem add_lit0 (g j : Nat) : (⟨g, 0, none⟩ : Addr).add j = ⟨g, j, none⟩ := by unfold Addr.add; split <;> simp_all
theorem own_form3 {w : World} {base : Nat} {e : TypeId} {v : Value} {n : Nat} {xs : List Value} (h : w.ownsRow base e 3 v n xs) : ∃ A c, v = .slice A n c ∧ n ≤ c ∧ c ≤ maxLen := by
  rcases h.2 with ⟨rfl, rfl⟩ | ⟨g, cap, cur, rfl, _, _, h1, h2, _⟩
  · exact ⟨none, 0, rfl, Nat.le_refl _, by unfold maxLen; omega⟩
  · exact ⟨_, cap, rfl, h1, h2⟩
theorem own_below3 {w W : World} {base : Nat} {e : TypeId} {u : Value} {k : Nat} {xs : List Value} (h : w.ownsRow base e 3 u k xs) (hb : Below w.heap.size w W) : W.ownsRow base e 3 u k xs := by
  refine ⟨h.1, ?_⟩
  rcases h.2 with h0 | ⟨b, cap, cur, h1, h2, h3, h4⟩
  · exact .inl h0
  · exact .inr ⟨b, cap, cur, h1, h2, (hb.block b (Array.getElem?_eq_some_iff.1 h3).1).trans h3, h4⟩
theorem blw_grown3 {B : Nat} {a w w' : World} {v : Value} {base : Nat} {e : TypeId} {n : Nat} {xs : List Value} (h : Below B a w) (hg : w.grownBy w' v.ownBlock) (hB : B ≤ w.heap.size) (hown : w.ownsRow base e 3 v n xs) (hb : B ≤ base) : Below B a w' :=
  h.grown hg hB fun k hk => Nat.le_trans hb (hown.lt k hk).1
theorem keep_grown3 {base : Nat} {e : TypeId} {v : Value} {n : Nat} {xs : List Value} {w w' : World} (hown : w.ownsRow base e 3 v n xs) (hg : w.grownBy w' v.ownBlock) : KeepT e w w' := by
  intro g t cs ht hr
  refine hr.grown hg ?_
  rcases hown.2 with ⟨rfl, _⟩ | ⟨k, cap, cur, rfl, _, hk, _⟩
  · exact fun h => by cases h
  · intro h
    have hgk : g = k := by simpa [Value.ownBlock] using h
    subst hgk
    have := hr.symm.trans hk
    simp only [Option.some.injEq, Obj.cells.injEq] at this
    exact ht this.2.1
/-- an owned slice of tokens, as tokens -/
theorem Tks.of_own {w : World} {base n c : Nat} {A : Option Addr} {ts : List TokZ} (hl : ts.length = n) (h : w.ownsRow base 55 3 (.slice A n c) n (tkc ts)) : Tks w w.heap.size A n ts := by
  refine ⟨hl, fun hn => ?_⟩
  rcases h.2 with ⟨_, h0⟩ | ⟨g, cap, cur, h1, _, h2, _, _, _, _⟩
  · omega
  · simp only [Value.slice.injEq] at h1
    obtain ⟨rfl, _, rfl⟩ := h1
    have hlt : g < w.heap.size := (Array.getElem?_eq_some_iff.1 h2).1
    refine ⟨_, rfl, hlt, fun i t hi => ?_⟩
    obtain ⟨k1, k2, k3⟩ := tkc_get ts i t hi
    have hc := h.cells (g := g) rfl
    have hadd : ∀ j, (⟨g, 0, none⟩ : Addr).add j = ⟨g, j, none⟩ := add_lit0 g
    have e1 := hc _ _ k1
    have e2 := hc _ _ k2
    have e3 := hc _ _ k3
    rw [hadd] at e1 e2 e3
    rw [hadd]
    exact ⟨e1, e2, e3⟩
theorem infoT : (Try.prog.info? 55).map (fun i => (i.zero, i.size, i.bytes)) = some (some (.agg #[.int .i64 0, .int .i64 0, .int .u8 0]), 3, 24) := by kernel_rfl
theorem wpList_app_tk {ops : Array Oper} {rest : List Oper} {o : Oper} {a : Act} {w : World} {Q : Exit → Act → World → Prop} (hgd : o.guard = none) (s x : Operand)
    (ho : o.op = .call { callee := .builtin .append, args := #[s, x], argTypes := #[42, 42] })
    (base : Nat) (v : Value) (n : Nat) (ts : List TokZ) (hs : a.eval s = v) (hown : w.ownsRow base 55 3 v n (tkc ts)) (d m : Int) (z : Int) (t : TokZ) (ht : t = (d, m, t.2.2)) (hz : z = (t.2.2.toNat : Int))
    (gl c : Nat) (hx : a.eval x = .slice (some ⟨gl, 0, none⟩) 1 c) (hl : Row w gl 55 #[.int .i64 d, .int .i64 m, .int .u8 z]) (hn : n ≤ 100000) (hb : base ≤ w.heap.size)
    (h : ∀ v' w', w'.ownsRow base 55 3 v' (n + 1) (tkc (ts ++ [t])) → Below base w w' → KeepT 55 w w' → wpList Try.prog ops Q rest (a.put o.dst v') w') : wpList Try.prog ops Q (o :: rest) a w := by
  obtain ⟨i, hi, hi1, hi2, hi3⟩ : ∃ i, Try.prog.info? 55 = some i ∧ i.zero = some (.agg #[.int .i64 0, .int .i64 0, .int .u8 0]) ∧ i.size = 3 ∧ i.bytes = 24 := by
    cases hi : Try.prog.info? 55 with
    | none => have := infoT; rw [hi] at this; cases this
    | some i =>
      have := infoT
      rw [hi] at this
      simp only [Option.map_some, Option.some.injEq, Prod.mk.injEq] at this
      exact ⟨i, rfl, this.1, this.2.1, this.2.2⟩
  have hnews : ∀ j u, (tkc [t])[j]? = some u → w.cell? ((⟨gl, 0, none⟩ : Addr).add j) = some u := by
    intro j u hu
    have hadd : (⟨gl, 0, none⟩ : Addr).add j = ⟨gl, j, none⟩ := add_lit0 gl j
    have he : tkc [t] = #[Value.int .i64 d, Value.int .i64 m, Value.int .u8 z].toList := by rw [ht, hz]; rfl
    rw [hadd, hl.cell, ← hu, he, Array.getElem?_toList]
  have h1 : ∀ u ∈ tkc [t], u.oneCell' = true := by
    intro u hu
    simp only [tkc, List.mem_cons, List.not_mem_nil, or_false] at hu
    rcases hu with rfl | rfl | rfl <;> rfl
  obtain ⟨v', w', hrun, h2, h3, _⟩ := run_append_own (P := Try.prog) w base 42 o.type 55 i _ 3 24 Try.underlying42 hi hi1 hi2 hi3 rfl (by omega) v n (tkc ts) hown ⟨gl, 0, none⟩ 1 c (tkc [t]) rfl hnews h1 (by unfold maxLen; omega) (by omega) hb
  rw [← tkc_append] at h2
  exact Lib.wpList_append_run w hgd s x _ _ ho v _ hs hx v' w' hrun (h v' w' h2 (blw_grown3 (Below.refl _ _) h3 hb hown (Nat.le_refl _)) (keep_grown3 hown h3))
theorem build_tk (d m z : Int) (w : World) :
    (Instr.buildSlice 42 1 #[(0, .agg #[.int .i64 d, .int .i64 m, .int .u8 z])]).run Try.prog w = .ok (.slice (some ⟨w.heap.size, 0, none⟩) 1 1) (w.alloc (.cells #[.int .i64 d, .int .i64 m, .int .u8 z] 55)) := by
  kernel_rfl
theorem wpList_tk {ops : Array Oper} {rest : List Oper} {o : Oper} {a : Act} {w : World} {Q : Exit → Act → World → Prop} (hgd : o.guard = none) (p : Operand) (ho : o.op = .buildSlice 42 1 #[(0, p)])
    (d m z : Int) (hx : a.eval p = .agg #[.int .i64 d, .int .i64 m, .int .u8 z])
    (h : wpList Try.prog ops Q rest (a.put o.dst (.slice (some ⟨w.heap.size, 0, none⟩) 1 1)) (w.alloc (.cells #[.int .i64 d, .int .i64 m, .int .u8 z] 55))) : wpList Try.prog ops Q (o :: rest) a w := by
  refine wpList_plain hgd fun K hK => ?_
  have hrun := build_tk d m z w
  unfold Oper.wp
  simp [execOp, ho, hx, hrun, Result.andThen]
  exact hK _ _ h
end Go.Proofs.Ytcmbpniikcghfaa
