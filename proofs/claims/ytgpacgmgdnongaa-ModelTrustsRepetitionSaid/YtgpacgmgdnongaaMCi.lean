/-
  Numbers as cells; what a function that collects predictions keeps while Walk calls it.
-/
import Derived.Test.YtgpacgmgdnongaaMWalk
import Derived.Test.YtgpacgmgdnongaaIL
import Derived.Maps.AppendAt
import Derived.Deep.OwnRows
namespace Go.Proofs.Ytgpacgmgdnongaa
open Go.RowKit

/-- numbers as cells -/
def nl (ns : List Nat) : List Value := ns.map fun (n : Nat) => .int .i64 (n : Int)
theorem nl_length (ns : List Nat) : (nl ns).length = ns.length := by simp [nl]
theorem nl_append (a b : List Nat) : nl (a ++ b) = nl a ++ nl b := by simp [nl]
theorem nl_one' (n : Nat) : nl [n] = [.int .i64 (n : Int)] := rfl
theorem nl_nil : nl [] = [] := rfl
theorem nl_one (ns : List Nat) : ∀ v ∈ nl ns, v.oneCell' = true := by
  intro v hv
  obtain ⟨x, _, rfl⟩ : ∃ x, x ∈ ns ∧ Value.int .i64 (x : Int) = v := by simpa [nl] using hv
  rfl
theorem nl_get (ns : List Nat) (i : Nat) (h : i < ns.length) : (nl ns)[i]? = some (.int .i64 ((ns.getD i 0 : Nat) : Int)) := by
  unfold nl
  simp [List.getD_eq_getElem?_getD, h]
attribute [irreducible] nl

/-- block P holds a slice v that owns the numbers ns, in blocks from base on; what lies below base, P aside, is as in W0 -/
structure CI (w W0 W : World) (P base : Nat) (v : Value) (ns : List Nat) : Prop where
  bl : Below w.heap.size w W
  fix : ∀ k, k < base → k ≠ P → W.heap[k]? = W0.heap[k]?
  rp : Row W P 22 #[v]
  ow : W.ownsRow base 3 1 v ns.length (nl ns)
  sz : base ≤ W.heap.size
  lo : w.heap.size ≤ base
  lp : w.heap.size ≤ P
  hv : v.ownBlock ≠ some P

theorem own_same {w w' : World} {base : Nat} {e : TypeId} {v : Value} {n : Nat} {xs : List Value} (h : w.ownsRow base e 1 v n xs) (hs : ∀ k, v.ownBlock = some k → w'.heap[k]? = w.heap[k]?) : w'.ownsRow base e 1 v n xs := by
  refine ⟨h.1, ?_⟩
  rcases h.2 with h0 | ⟨g, cap, cur, rfl, h2, h3, h4⟩
  · exact .inl h0
  · exact .inr ⟨g, cap, cur, rfl, h2, (hs g rfl).trans h3, h4⟩

theorem CI.out {w W0 W W' : World} {P base a b : Nat} {v : Value} {ns : List Nat} (h : CI w W0 W P base v ns) (ho : Out a b W W') (hP : P < a) (hb : base ≤ a) (hv : ∀ k, v.ownBlock = some k → k < a ∨ b ≤ k) : CI w W0 W' P base v ns where
  bl := ⟨ho.os.trans h.bl.os, ho.tape.trans h.bl.tape, ho.output.trans h.bl.output, Nat.le_trans h.bl.size ho.size, fun k hk => (ho.block k (by have := h.bl.size; omega) (.inl (by have := h.lo; omega))).trans (h.bl.block k hk)⟩
  fix k hk hkP := (ho.block k (by have := h.sz; omega) (.inl (by omega))).trans (h.fix k hk hkP)
  rp := (ho.block P h.rp.lt (.inl hP)).trans h.rp
  ow := own_same h.ow fun k hk => ho.block k (h.ow.lt k hk).2 (hv k hk)
  sz := Nat.le_trans h.sz ho.size
  lo := h.lo
  lp := h.lp
  hv := h.hv

theorem CI.step {w W0 W w1 : World} {P base : Nat} {v v' : Value} {ns : List Nat} {p : Nat} {o : Obj} (h : CI w W0 W P base v ns) (hown : w1.ownsRow base 3 1 v' (ns.length + 1) (nl ns ++ [.int .i64 p])) (hg : (W.alloc o).grownBy w1 v.ownBlock)
    (hloc : v'.ownBlock = v.ownBlock ∨ v'.ownBlock = some (W.alloc o).heap.size) :
    CI w W0 (w1.setCell ⟨P, 0, none⟩ v') P base v' (ns ++ [p]) ∧ (v'.ownBlock = v.ownBlock ∨ ∃ g, v'.ownBlock = some g ∧ W.heap.size ≤ g) ∧ W.heap.size ≤ (w1.setCell ⟨P, 0, none⟩ v').heap.size ∧ ∀ k, k < W.heap.size → k ≠ P → v.ownBlock ≠ some k → (w1.setCell ⟨P, 0, none⟩ v').heap[k]? = W.heap[k]? := by
  have hP := h.rp.lt
  have hsz : W.heap.size + 1 ≤ w1.heap.size := by have := hg.size; simpa using this
  have hsz2 : (w1.setCell ⟨P, 0, none⟩ v').heap.size = w1.heap.size := by simp [World.setCell]
  have hkey : ∀ k, k < W.heap.size → k ≠ P → v.ownBlock ≠ some k → (w1.setCell ⟨P, 0, none⟩ v').heap[k]? = W.heap[k]? := fun k hk hkP hkv =>
    (Below.heap_setCell _ _ _ _ hkP).trans ((hg.block k (by simp; omega) (fun e => hkv e.symm)).trans (Below.heap_alloc _ _ _ hk))
  have hvb : ∀ k, v.ownBlock = some k → base ≤ k := fun k hk => (h.ow.lt k hk).1
  have hv' : v'.ownBlock ≠ some P := by
    rcases hloc with e | e
    · rw [e]; exact h.hv
    · rw [e]
      intro e2
      have := Option.some.inj e2
      simp at this
      omega
  have hr1 : Row w1 P 22 #[v] := (hg.block P (by simp; omega) (fun e => h.hv e.symm)).trans (h.rp.alloc _)
  refine ⟨⟨?_, fun k hk hkP => ?_, hr1.put 0 v', ?_, by have := h.sz; omega, h.lo, h.lp, hv'⟩, ?_, by omega, hkey⟩
  · refine ⟨hg.os.trans h.bl.os, hg.tape.trans h.bl.tape, hg.output.trans h.bl.output, by have := h.bl.size; omega, fun k hk => ?_⟩
    have h1 := h.lo
    have h2 := h.lp
    have h3 := h.sz
    exact (hkey k (by omega) (by omega) (fun e => by have := hvb k e; omega)).trans (h.bl.block k hk)
  · have h3 := h.sz
    exact (hkey k (by omega) hkP (fun e => by have := hvb k e; omega)).trans (h.fix k hk hkP)
  · rw [List.length_append, List.length_singleton, nl_append, nl_one']
    exact own_same hown fun k hk => Below.heap_setCell _ _ _ _ (fun e => hv' (by rw [hk, e]))
  · rcases hloc with e | e
    · exact .inl e
    · exact .inr ⟨_, e, by simp⟩

set_option maxRecDepth 100000 in
set_option maxHeartbeats 4000000 in
theorem pstep_any (w W0 W : World) (P H base : Nat) (v : Value) (ns : List Nat) (p : Nat) (h : CI w W0 W P base v ns) (l : List Bool) (hl : l.length ≤ 8192) (hn : ns.length ≤ l.length) (A : Option Addr) (c : Nat) (_hc : l.length ≤ c)
    (hH : Row W0 H 22 #[.slice A l.length c]) (hHb : H < base) (hHP : H ≠ P) (hS : Sl w w.heap.size A l.length (il l)) :
    Calls Try.prog 19 #[.int .i64 p, .pointer (some ⟨P, 0, none⟩), .pointer (some ⟨H, 0, none⟩)] W fun e w' => e = .returned (.int .i64 (if ns.length < l.length then (((l.getD ns.length false).toNat : Nat) : Int) else 0)) ∧
      ∃ v', CI w W0 w' P base v' (ns ++ [p]) ∧ (v'.ownBlock = v.ownBlock ∨ ∃ g, v'.ownBlock = some g ∧ W.heap.size ≤ g) ∧ W.heap.size ≤ w'.heap.size ∧ ∀ k, k < W.heap.size → k ≠ P → v.ownBlock ≠ some k → w'.heap[k]? = W.heap[k]? := by
  obtain ⟨i0, hi, hz0, hz1, hz2⟩ := info_parts infoI
  obtain ⟨Av, cv, hvv, hcv1, hcv2⟩ := own_form h.ow
  have c0 : W.cell? ⟨P, 0, none⟩ = some v := (h.rp.cell 0).trans rfl
  have HH := Lib.hid h
  have hsz := h.sz
  have hret : ∃ r : Int, r = (if ns.length < l.length then (((l.getD ns.length false).toNat : Nat) : Int) else 0) := ⟨_, rfl⟩
  obtain ⟨r, hr⟩ := hret
  rw [← hr]
  have HR := Lib.hid hr
  have HV := Lib.hid hvv
  clear h hvv hr
  go_enter Try.func19, Try.ntmps19
  go_upto_region 2 with (first
    | (at_builtin; refine wpList_append_own_at _ rfl _ _ 22 rfl base 3 i0 (.int .i64 0) 1 8 Try.underlying22 hi hz0 hz1 hz2 rfl (by decide) v ns.length (nl ns) rfl ((own_same HH.out.ow (fun k hk => Below.heap_alloc _ _ _ (HH.out.ow.lt k hk).2))) ⟨W.heap.size, 0, none⟩ 1 1 [.int .i64 p] rfl rfl (cell_one_new _ _ _) (by intro u hu; simp at hu; subst hu; rfl) (by unfold maxLen; omega) (by omega) (by simp; omega) ?_; intro v' w1 hown1 hgr1 hnil1 hloc1; obtain ⟨Av', cv', hvv', hcv1', hcv2'⟩ := own_form hown1; subst hvv'; have rp1 : Row w1 P 22 #[v] := (hgr1.block P (by simp; have := HH.out.rp.lt; omega) (fun e => HH.out.hv e.symm)).trans (HH.out.rp.alloc _); have f1 : w1.frozen? ⟨P, 0, none⟩ = false := rp1.free 0; have d1 : w1.cell? ⟨P, 0, none⟩ = some v := (rp1.cell 0).trans rfl))
  obtain ⟨hCI, hrest⟩ := CI.step HH.out hown1 hgr1 hloc1
  refine wp_world (F := fun W2 => CI w W0 W2 P base (.slice Av' (ns.length + 1) cv') (ns ++ [p]) ∧ ((Value.slice Av' (ns.length + 1) cv').ownBlock = v.ownBlock ∨ ∃ g, (Value.slice Av' (ns.length + 1) cv').ownBlock = some g ∧ W.heap.size ≤ g) ∧ W.heap.size ≤ W2.heap.size ∧ ∀ k, k < W.heap.size → k ≠ P → v.ownBlock ≠ some k → W2.heap[k]? = W.heap[k]?) ⟨hCI, hrest⟩ ?_
  clear hCI hrest rp1 f1 d1 hown1 hgr1 hloc1 hnil1 w1 HH c0 HV
  rintro W2 ⟨hCI, hrest⟩
  have d0 : W2.cell? ⟨P, 0, none⟩ = some (.slice Av' (ns.length + 1) cv') := (hCI.rp.cell 0).trans rfl
  have rH : Row W2 H 22 #[.slice A l.length c] := (hCI.fix H hHb hHP).trans hH
  have d1 : W2.cell? ⟨H, 0, none⟩ = some (.slice A l.length c) := (rH.cell 0).trans rfl
  have hS2 := hS.below hCI.bl
  have HC := Lib.hid (And.intro hCI hrest)
  clear hCI hrest hH hS rH
  by_cases hlt : ns.length < l.length
  · obtain ⟨ad, rfl, hbk, hcell⟩ := hS2.bit hlt
    obtain ⟨x, hx⟩ : ∃ x, x = (((l.getD ns.length false).toNat : Nat) : Int) := ⟨_, rfl⟩
    rw [← hx] at hcell
    have HX := Lib.hid hx
    clear hx hS2
    have t1 : decide ((l.length : Int) < (ns.length : Int) + 1) = false := decide_eq_false (by omega)
    go_wp2
    go_ret
    exact ⟨ret_int (by rw [HR.out, if_pos hlt, HX.out]), _, HC.out⟩
  · have t1 : decide ((l.length : Int) < (ns.length : Int) + 1) = true := decide_eq_true (by omega)
    go_wp2
    go_ret
    exact ⟨ret_int (by rw [HR.out, if_neg hlt]), _, HC.out⟩
end Go.Proofs.Ytgpacgmgdnongaa
