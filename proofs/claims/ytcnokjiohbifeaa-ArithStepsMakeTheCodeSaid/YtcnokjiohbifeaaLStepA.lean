/-
  A slice of bit strings that a call builds by append: what it holds, and that the bytes of its bit strings stay.
-/
import Derived.Test.YtcnokjiohbifeaaBJoin
import Derived.Test.YtcnokjiohbifeaaAEnc
namespace Go.Proofs.Ytcnokjiohbifeaa.lawSteps
open Go.RowKit

/-- the cells of bit strings: bits, and the slice that holds them -/
def pcs : List (List Bool × Option Addr × Nat) → List Value
  | [] => []
  | q :: r => .slice q.2.1 (pack q.1).length q.2.2 :: .int .i64 (q.1.length : Int) :: pcs r
def zcs : Nat → List Value
  | 0 => []
  | k + 1 => .slice none 0 0 :: .int .i64 0 :: zcs k
theorem pcs_append : ∀ a b : List (List Bool × Option Addr × Nat), pcs (a ++ b) = pcs a ++ pcs b
  | [], _ => rfl
  | q :: a, b => by rw [List.cons_append, pcs, pcs_append a b, pcs, List.cons_append, List.cons_append]
theorem pcs_length : ∀ a : List (List Bool × Option Addr × Nat), (pcs a).length = a.length * 2
  | [] => rfl
  | q :: a => by rw [pcs, List.length_cons, List.length_cons, pcs_length a, List.length_cons]; omega
theorem zcs_length : ∀ k : Nat, (zcs k).length = k * 2
  | 0 => rfl
  | k + 1 => by rw [zcs, List.length_cons, List.length_cons, zcs_length k]; omega
theorem pcs_get : ∀ (a : List (List Bool × Option Addr × Nat)) (i : Nat) (q : List Bool × Option Addr × Nat), a[i]? = some q →
    (pcs a)[i * 2]? = some (.slice q.2.1 (pack q.1).length q.2.2) ∧ (pcs a)[i * 2 + 1]? = some (.int .i64 (q.1.length : Int))
  | [], i, q, h => by simp at h
  | p :: a, 0, q, h => by
    simp only [List.getElem?_cons_zero, Option.some.injEq] at h
    subst h
    exact ⟨rfl, rfl⟩
  | p :: a, i + 1, q, h => by
    simp only [List.getElem?_cons_succ] at h
    have ih := pcs_get a i q h
    rw [pcs, show (i + 1) * 2 = i * 2 + 1 + 1 by omega]
    simp only [List.getElem?_cons_succ]
    exact ih
theorem zcs_zero (k : Nat) : (Builtin.zeroCells #[.slice none 0 0, .int .i64 0] k).toList = zcs k := by
  induction k with
  | zero => simp [Builtin.zeroCells, zcs]
  | succ k ih =>
    rw [zcs, ← ih]
    simp only [Builtin.zeroCells]
    rw [show (k + 1) * (#[Value.slice none 0 0, Value.int .i64 0] : Array Value).size = k * (#[Value.slice none 0 0, Value.int .i64 0] : Array Value).size + 1 + 1 by simp; omega]
    simp [List.range_succ_eq_map, List.map_map, Function.comp_def]
    intro a _
    rw [show (a + 1 + 1) % 2 = a % 2 by omega]
theorem no_pcs : ∀ (a : List (List Bool × Option Addr × Nat)) (z : Int), Value.int .u8 z ∉ pcs a
  | [], z => by simp [pcs]
  | q :: a, z => by
    have := no_pcs a z
    simp [pcs, this]
theorem no_zcs : ∀ (k : Nat) (z : Int), Value.int .u8 z ∉ zcs k
  | 0, z => by simp [zcs]
  | k + 1, z => by
    have := no_zcs k z
    simp [zcs, this]
theorem no_row (a : List (List Bool × Option Addr × Nat)) (k : Nat) : NoU8 (pcs a ++ zcs k).toArray := fun z h => by
  rw [List.mem_toArray, List.mem_append] at h
  rcases h with h | h
  · exact no_pcs a z h
  · exact no_zcs k z h

theorem row_ty {w : World} {g : Nat} {t u : TypeId} {cs ds : Array Value} (h : Row w g t cs) (k : Row w g u ds) : t = u := by
  have := h.symm.trans k
  simp only [Option.some.injEq, Obj.cells.injEq] at this
  exact this.2.1
/-- v holds these bit strings: it is nil, or its block, of the call's own, is known whole -/
def PtS (w : World) (base : Nat) (v : Value) (n : Nat) (qs : List (List Bool × Option Addr × Nat)) : Prop :=
  qs.length = n ∧ (∀ q ∈ qs, q.1.length ≤ 131072 ∧ Sl w w.heap.size q.2.1 (pack q.1).length (bl (pack q.1))) ∧
  ((v = .slice none 0 0 ∧ n = 0) ∨ ∃ g cap, v = .slice (some ⟨g, 0, none⟩) n cap ∧ base ≤ g ∧ n ≤ cap ∧ cap ≤ maxLen ∧ Row w g 26 (pcs qs ++ zcs (cap - n)).toArray)
theorem PtS.nil (w : World) (base : Nat) : PtS w base (.slice none 0 0) 0 [] := ⟨rfl, fun q h => (by cases h), .inl ⟨rfl, rfl⟩⟩
section
variable {w W : World} {base n : Nat} {v : Value} {qs : List (List Bool × Option Addr × Nat)}
theorem PtS.up (h : PtS w base v n qs) (k : Below w.heap.size w W) : PtS W base v n qs := by
  refine ⟨h.1, fun q hq => ⟨(h.2.1 q hq).1, (h.2.1 q hq).2.up k⟩, ?_⟩
  rcases h.2.2 with h0 | ⟨g, cap, h1, h2, h3, h4, h5⟩
  · exact .inl h0
  · exact .inr ⟨g, cap, h1, h2, h3, h4, h5.below k h5.lt⟩
/-- a block of another type is written -/
theorem PtS.far (h : PtS w base v n qs) {g : Nat} {t : TypeId} {cs : Array Value} (r : Row w g t cs) (ht : t ≠ 26) (hx : NoU8 cs) (ds : Array Value) : PtS (w.setRow g ds) base v n qs := by
  refine ⟨h.1, fun q hq => ⟨(h.2.1 q hq).1, ?_⟩, ?_⟩
  · rw [show (w.setRow g ds).heap.size = w.heap.size by simp]
    exact (h.2.1 q hq).2.rowFar r hx ds
  · rcases h.2.2 with h0 | ⟨k, cap, h1, h2, h3, h4, h5⟩
    · exact .inl h0
    · refine .inr ⟨k, cap, h1, h2, h3, h4, h5.rowFar (fun e => ?_) ds⟩
      subst e
      exact ht (row_ty r h5)
theorem PtS.form (h : PtS w base v n qs) : ∃ A c, v = .slice A n c := by
  rcases h.2.2 with ⟨h0, h1⟩ | ⟨g, cap, h1, _⟩
  · subst h1
    exact ⟨none, 0, h0⟩
  · exact ⟨_, _, h1⟩
theorem PtS.bsv {A : Option Addr} {c : Nat} (h : PtS w base (.slice A n c) n qs) : BsV w w.heap.size A n (qs.map (·.1)) := by
  refine ⟨by rw [List.length_map]; exact h.1, fun hn => ?_⟩
  rcases h.2.2 with ⟨_, h0⟩ | ⟨g, cap, h1, h2, h3, h4, h5⟩
  · omega
  · simp only [Value.slice.injEq] at h1
    refine ⟨⟨g, 0, none⟩, h1.1, h5.lt, fun i l hi => ?_⟩
    rw [List.getElem?_map] at hi
    cases hq : qs[i]? with
    | none => rw [hq] at hi; cases hi
    | some q =>
      rw [hq] at hi
      simp only [Option.map_some, Option.some.injEq] at hi
      subst hi
      obtain ⟨k1, k2⟩ := pcs_get qs i q hq
      have hlt : i < qs.length := (List.getElem?_eq_some_iff.1 hq).1
      have hpl := pcs_length qs
      have e1 : i * 2 < (pcs qs).length := by omega
      have e2 : i * 2 + 1 < (pcs qs).length := by omega
      have hadd : (⟨g, 0, none⟩ : Addr).add (i * 2) = ⟨g, i * 2, none⟩ := by unfold Addr.add; split <;> simp_all
      obtain ⟨m1, m2⟩ := h.2.1 q (List.mem_of_getElem? hq)
      refine ⟨q.2.1, q.2.2, ?_, ?_, m2, m1⟩
      · rw [hadd, h5.cell, List.getElem?_toArray, List.getElem?_append_left e1, k1]
      · rw [hadd, h5.cell, List.getElem?_toArray, List.getElem?_append_left e2, k2]
end
theorem infoB : (Try.prog.info? 26).map (fun i => (i.zero, i.size, i.bytes)) = some (some (.agg #[.slice none 0 0, .int .i64 0]), 2, 32) := by kernel_rfl

set_option maxRecDepth 100000 in
/-- append of one bit string that lies in a block of its own -/
theorem run_app_pts (w : World) (ty : TypeId) (base : Nat) (v : Value) (n : Nat) (qs : List (List Bool × Option Addr × Nat)) (h : PtS w base v n qs) (q : List Bool × Option Addr × Nat) (hq1 : q.1.length ≤ 131072) (hq2 : Sl w w.heap.size q.2.1 (pack q.1).length (bl (pack q.1)))
    (gl c : Nat) (hl : Row w gl 26 (bcs q.2.1 (pack q.1).length q.2.2 q.1.length)) (hn : n ≤ 1000) (hb : base ≤ w.heap.size) :
    ∃ v' w', (Builtin.append_ #[70, 70] ty #[v, .slice (some ⟨gl, 0, none⟩) 1 c]).run Try.prog w = .ok v' w' ∧ PtS w' base v' (n + 1) (qs ++ [q]) ∧ Below base w w' ∧ KeepT 26 w w' := by
  obtain ⟨i, hi, hz, hsz, hby⟩ : ∃ i, Try.prog.info? 26 = some i ∧ i.zero = some (.agg #[.slice none 0 0, .int .i64 0]) ∧ i.size = 2 ∧ i.bytes = 32 := by
    cases hi : Try.prog.info? 26 with
    | none => have := infoB; rw [hi] at this; cases this
    | some i =>
      have := infoB
      rw [hi] at this
      simp only [Option.map_some, Option.some.injEq, Prod.mk.injEq] at this
      exact ⟨i, rfl, this.1, this.2.1, this.2.2⟩
  obtain ⟨news, hnw⟩ : ∃ news, news = pcs [q] := ⟨_, rfl⟩
  have hnl : news.length = 1 * i.size := by rw [hnw, hsz]; rfl
  have hnews : ∀ j u, news[j]? = some u → w.cell? ((⟨gl, 0, none⟩ : Addr).add j) = some u := by
    intro j u hu
    have hadd : (⟨gl, 0, none⟩ : Addr).add j = ⟨gl, j, none⟩ := by unfold Addr.add; split <;> simp_all
    rw [hadd, hl.cell, ← hu, hnw, ← Array.getElem?_toList]
    rfl
  have h1 : ∀ u ∈ news, u.oneCell' = true := by
    intro u hu
    rw [hnw] at hu
    simp only [pcs, List.mem_cons, List.not_mem_nil, or_false] at hu
    rcases hu with rfl | rfl <;> rfl
  have hpl := pcs_length qs
  have hone : ∀ W, Sl W W.heap.size q.2.1 (pack q.1).length (bl (pack q.1)) → (∀ p ∈ qs, p.1.length ≤ 131072 ∧ Sl W W.heap.size p.2.1 (pack p.1).length (bl (pack p.1))) → ∀ p ∈ qs ++ [q], p.1.length ≤ 131072 ∧ Sl W W.heap.size p.2.1 (pack p.1).length (bl (pack p.1)) := by
    intro W k1 k2 p hp
    rcases List.mem_append.1 hp with hp | hp
    · exact k2 p hp
    · obtain rfl := List.mem_singleton.1 hp
      exact ⟨hq1, k1⟩
  have hnew : ∀ cap, n + 1 ≤ cap → cap ≤ maxLen → PtS (w.drew.alloc (.cells ((pcs qs).toArray ++ news.toArray ++ Builtin.zeroCells #[.slice none 0 0, .int .i64 0] (cap - (n + 1))) 26)) base (.slice (some ⟨w.heap.size, 0, none⟩) (n + 1) cap) (n + 1) (qs ++ [q]) ∧
      Below base w (w.drew.alloc (.cells ((pcs qs).toArray ++ news.toArray ++ Builtin.zeroCells #[.slice none 0 0, .int .i64 0] (cap - (n + 1))) 26)) ∧
      KeepT 26 w (w.drew.alloc (.cells ((pcs qs).toArray ++ news.toArray ++ Builtin.zeroCells #[.slice none 0 0, .int .i64 0] (cap - (n + 1))) 26)) := by
    intro cap hc hm
    have hk : ∀ o, Below w.heap.size w (w.drew.alloc o) := fun o => (Below.refl w.heap.size w).drew.alloc (Nat.le_refl _) o
    refine ⟨⟨by rw [List.length_append, h.1]; rfl, hone _ (hq2.up (hk _)) (fun p hp => ⟨(h.2.1 p hp).1, (h.2.1 p hp).2.up (hk _)⟩), .inr ⟨w.heap.size, cap, rfl, hb, hc, hm, ?_⟩⟩, (hk _).mono hb, fun g t cs _ hr => hr.below (hk _) hr.lt⟩
    refine Row.newEq _ _ _ _ _ rfl ?_
    apply Array.ext'
    rw [Array.toList_append, Array.toList_append, zcs_zero, hnw, pcs_append]
  rcases h.2.2 with ⟨h0, hn0⟩ | ⟨g, cap, h0, h2, h3, h4, h5⟩
  · subst hn0 h0
    obtain rfl : qs = [] := List.eq_nil_of_length_eq_zero h.1
    have hr := run_append_nil (P := Try.prog) w 70 ty 26 i _ Try.underlying70 hi hz ⟨gl, 0, none⟩ 1 c news hnl hnews (by omega) (by omega) (by rw [hby]; omega)
    obtain ⟨k1, k2, k3⟩ := hnew (grownCap w 1 0 26) (grownCap_ge w 1 0 _) (grownCap_le_maxLen w 1 0 _ (by unfold maxLen; omega))
    simp only [pcs, List.nil_append, Nat.zero_add, Array.empty_append] at k1 k2 k3
    exact ⟨_, _, hr, k1, k2, k3⟩
  · subst h0
    by_cases hroom : n + 1 ≤ cap
    · have hcs : (pcs qs ++ zcs (cap - n)).length = cap * 2 := by rw [List.length_append, hpl, zcs_length, h.1]; omega
      have hr := run_append_room (P := Try.prog) w 70 ty 26 i Try.underlying70 hi g n cap _ h5 ⟨gl, 0, none⟩ 1 c news hnl hnews h1 hroom (by rw [List.size_toArray, hcs, hnl, hsz]; omega)
      have hrow : (pcs qs ++ zcs (cap - n)).take (n * i.size) ++ news ++ (pcs qs ++ zcs (cap - n)).drop (n * i.size + news.length) = pcs (qs ++ [q]) ++ zcs (cap - (n + 1)) := by
        obtain ⟨k, hk⟩ : ∃ k, cap - n = k + 1 := ⟨cap - n - 1, by omega⟩
        rw [hk, show cap - (n + 1) = k by omega, hsz, show n * 2 = (pcs qs).length by rw [hpl, h.1], List.take_left, show news.length = 2 by rw [hnl, hsz], List.drop_append, pcs_append, hnw]
        simp [zcs]
      have hrow2 : ((pcs qs ++ zcs (cap - n)).toArray.toList.take (n * i.size) ++ news ++ (pcs qs ++ zcs (cap - n)).toArray.toList.drop (n * i.size + news.length)).toArray = (pcs (qs ++ [q]) ++ zcs (cap - (n + 1))).toArray := by rw [← hrow]
      rw [hrow2] at hr
      have hsl : ∀ (p : List Bool × Option Addr × Nat), Sl w w.heap.size p.2.1 (pack p.1).length (bl (pack p.1)) → Sl (w.setRow g (pcs (qs ++ [q]) ++ zcs (cap - (n + 1))).toArray) (w.setRow g (pcs (qs ++ [q]) ++ zcs (cap - (n + 1))).toArray).heap.size p.2.1 (pack p.1).length (bl (pack p.1)) := by
        intro p hp
        rw [show (w.setRow g (pcs (qs ++ [q]) ++ zcs (cap - (n + 1))).toArray).heap.size = w.heap.size by simp]
        exact hp.rowFar h5 (no_row _ _) _
      refine ⟨_, _, hr, ⟨by rw [List.length_append, h.1]; rfl, hone _ (hsl q hq2) (fun p hp => ⟨(h.2.1 p hp).1, hsl p (h.2.1 p hp).2⟩), .inr ⟨g, cap, rfl, h2, hroom, h4, Row.row h5 _⟩⟩, blw_row (Below.refl _ _) h2 _, fun k t cs ht hr3 => hr3.rowFar (fun e => ?_) _⟩
      subst e
      exact ht (row_ty hr3 h5)
    · have holds : ∀ j u, (pcs qs)[j]? = some u → w.cell? ((⟨g, 0, none⟩ : Addr).add j) = some u := by
        intro j u hu
        have hadd : (⟨g, 0, none⟩ : Addr).add j = ⟨g, j, none⟩ := by unfold Addr.add; split <;> simp_all
        have hj : j < (pcs qs).length := (List.getElem?_eq_some_iff.1 hu).1
        rw [hadd, h5.cell, List.getElem?_toArray, List.getElem?_append_left hj, hu]
      have hr := run_append_grow (P := Try.prog) w 70 ty 26 i _ Try.underlying70 hi hz ⟨g, 0, none⟩ n cap (pcs qs) (by rw [hpl, h.1, hsz]) holds ⟨gl, 0, none⟩ 1 c news hnl hnews (by omega) (by omega) (growslice_fits (by omega) (by rw [hby]; omega))
      obtain ⟨k1, k2, k3⟩ := hnew (grownCap w (n + 1) cap 26) (grownCap_ge w (n + 1) cap _) (grownCap_le_maxLen w (n + 1) cap _ (by unfold maxLen; omega))
      exact ⟨_, _, hr, k1, k2, k3⟩
theorem wpList_app_pts {ops : Array Oper} {rest : List Oper} {o : Oper} {a : Act} {w : World} {Q : Exit → Act → World → Prop} (hgd : o.guard = none) (s x : Operand)
    (ho : o.op = .call { callee := .builtin .append, args := #[s, x], argTypes := #[70, 70] })
    (base : Nat) (v : Value) (n : Nat) (qs : List (List Bool × Option Addr × Nat)) (hs : a.eval s = v) (hp : PtS w base v n qs) (q : List Bool × Option Addr × Nat) (hq1 : q.1.length ≤ 131072) (hq2 : Sl w w.heap.size q.2.1 (pack q.1).length (bl (pack q.1)))
    (gl c : Nat) (hx : a.eval x = .slice (some ⟨gl, 0, none⟩) 1 c) (hl : Row w gl 26 (bcs q.2.1 (pack q.1).length q.2.2 q.1.length)) (hn : n ≤ 1000) (hb : base ≤ w.heap.size)
    (h : ∀ v' w', PtS w' base v' (n + 1) (qs ++ [q]) → Below base w w' → KeepT 26 w w' → wpList Try.prog ops Q rest (a.put o.dst v') w') : wpList Try.prog ops Q (o :: rest) a w := by
  obtain ⟨v', w', hrun, h2, h3, h4⟩ := run_app_pts w o.type base v n qs hp q hq1 hq2 gl c hl hn hb
  exact Lib.wpList_append_run w hgd s x _ _ ho v _ hs hx v' w' hrun (h v' w' h2 h3 h4)
set_option maxRecDepth 100000 in
/-- a bit string that is written out, as a slice -/
theorem build_bs (A : Option Addr) (n c : Nat) (k : Int) (w : World) :
    (Instr.buildSlice 70 1 #[(0, .agg #[.slice A n c, .int .i64 k])]).run Try.prog w = .ok (.slice (some ⟨w.heap.size, 0, none⟩) 1 1) (w.alloc (.cells #[.slice A n c, .int .i64 k] 26)) := by
  kernel_rfl
theorem wpList_bs {ops : Array Oper} {rest : List Oper} {o : Oper} {a : Act} {w : World} {Q : Exit → Act → World → Prop} (hgd : o.guard = none) (p : Operand) (ho : o.op = .buildSlice 70 1 #[(0, p)])
    (A : Option Addr) (n c : Nat) (k : Int) (hx : a.eval p = .agg (bcs A n c k))
    (h : wpList Try.prog ops Q rest (a.put o.dst (.slice (some ⟨w.heap.size, 0, none⟩) 1 1)) (w.alloc (.cells (bcs A n c k) 26))) : wpList Try.prog ops Q (o :: rest) a w := by
  refine wpList_plain hgd fun K hK => ?_
  have hrun := build_bs A n c k w
  unfold bcs at hx h
  unfold Oper.wp
  simp [execOp, ho, hx, hrun, Result.andThen]
  exact hK _ _ h
end Go.Proofs.Ytcnokjiohbifeaa.lawSteps
