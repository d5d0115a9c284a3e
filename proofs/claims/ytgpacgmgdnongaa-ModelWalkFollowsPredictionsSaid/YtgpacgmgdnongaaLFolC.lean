/-
  ModelWalkFollowsPredictions: its function literal, and Walk with it.
-/
import Derived.Test.YtgpacgmgdnongaaMLaw
namespace Go.Proofs.Ytgpacgmgdnongaa.lawFol
open Go.RowKit

set_option maxRecDepth 100000 in
set_option maxHeartbeats 4000000 in
theorem wstep_any (w W0 W : World) (P H L base : Nat) (v : Value) (ns : List Nat) (p : Nat) (h : CI w W0 W P base v ns) (zs : List Int) (last : Int) (hl : zs.length ≤ 8192) (hn : ns.length ≤ zs.length) (A : Option Addr) (c : Nat) (_hc : zs.length ≤ c)
    (hH : Row W0 H 22 #[.slice A zs.length c]) (hHb : H < base) (hHP : H ≠ P) (hL : Row W0 L 3 #[.int .i64 last]) (hLb : L < base) (hLP : L ≠ P) (hS : Sl w w.heap.size A zs.length (zl zs)) :
    Calls Try.prog 15 #[.int .i64 p, .pointer (some ⟨P, 0, none⟩),   .pointer (some ⟨H, 0, none⟩), .pointer (some ⟨L, 0, none⟩)] W fun e w' => e = .returned (.int .i64 (if ns.length < zs.length then zs.getD ns.length 0 else last)) ∧
      ∃ v', CI w W0 w' P base v' (ns ++ [p]) ∧ (v'.ownBlock = v.ownBlock ∨ ∃ g, v'.ownBlock = some g ∧ W.heap.size ≤ g) ∧ W.heap.size ≤ w'.heap.size ∧ ∀ k, k < W.heap.size → k ≠ P → v.ownBlock ≠ some k → w'.heap[k]? = W.heap[k]? := by
  obtain ⟨i0, hi, hz0, hz1, hz2⟩ := info_parts infoI
  obtain ⟨Av, cv, hvv, hcv1, hcv2⟩ := own_form h.ow
  have c0 : W.cell? ⟨P, 0, none⟩ = some v := (h.rp.cell 0).trans rfl
  have HH := Lib.hid h
  have hsz := h.sz
  have hret : ∃ r : Int, r = (if ns.length < zs.length then zs.getD ns.length 0 else last) := ⟨_, rfl⟩
  obtain ⟨r, hr⟩ := hret
  rw [← hr]
  have HR := Lib.hid hr
  have HV := Lib.hid hvv
  clear h hvv hr
  go_enter Try.func15, Try.ntmps15
  go_upto_region 2 with (first
    | (at_builtin; refine wpList_append_own_at _ rfl _ _ 22 rfl base 3 i0 (.int .i64 0) 1 8 Try.underlying22 hi hz0 hz1 hz2 rfl (by decide) v ns.length (nl ns) rfl ((own_same HH.out.ow (fun k hk => Below.heap_alloc _ _ _ (HH.out.ow.lt k hk).2))) ⟨W.heap.size, 0, none⟩ 1 1 [.int .i64 p] rfl rfl (cell_one_new _ _ _) (by intro u hu; simp at hu; subst hu; rfl) (by unfold maxLen; omega) (by omega) (by simp; omega) ?_; intro v' w1 hown1 hgr1 hnil1 hloc1; obtain ⟨Av', cv', hvv', hcv1', hcv2'⟩ := own_form hown1; subst hvv'; have rp1 : Row w1 P 22 #[v] := (hgr1.block P (by simp; have := HH.out.rp.lt; omega) (fun e => HH.out.hv e.symm)).trans (HH.out.rp.alloc _); have f1 : w1.frozen? ⟨P, 0, none⟩ = false := rp1.free 0; have d1 : w1.cell? ⟨P, 0, none⟩ = some v := (rp1.cell 0).trans rfl))
  obtain ⟨hCI, hrest⟩ := CI.step HH.out hown1 hgr1 hloc1
  refine wp_world (F := fun W2 => CI w W0 W2 P base (.slice Av' (ns.length + 1) cv') (ns ++ [p]) ∧ ((Value.slice Av' (ns.length + 1) cv').ownBlock = v.ownBlock ∨ ∃ g, (Value.slice Av' (ns.length + 1) cv').ownBlock = some g ∧ W.heap.size ≤ g) ∧ W.heap.size ≤ W2.heap.size ∧ ∀ k, k < W.heap.size → k ≠ P → v.ownBlock ≠ some k → W2.heap[k]? = W.heap[k]?) ⟨hCI, hrest⟩ ?_
  clear hCI hrest rp1 f1 d1 hown1 hgr1 hloc1 hnil1 w1 HH c0 HV
  rintro W2 ⟨hCI, hrest⟩
  have d0 : W2.cell? ⟨P, 0, none⟩ = some (.slice Av' (ns.length + 1) cv') := (hCI.rp.cell 0).trans rfl
  have rH : Row W2 H 22 #[.slice A zs.length c] := (hCI.fix H hHb hHP).trans hH
  have d1 : W2.cell? ⟨H, 0, none⟩ = some (.slice A zs.length c) := (rH.cell 0).trans rfl
  have hS2 := hS.below hCI.bl
  have rL : Row W2 L 3 #[.int .i64 last] := (hCI.fix L hLb hLP).trans hL
  have d2 : W2.cell? ⟨L, 0, none⟩ = some (.int .i64 last) := (rL.cell 0).trans rfl
  have HC := Lib.hid (And.intro hCI hrest)
  clear hCI hrest hH hS rH hL rL
  by_cases hlt : ns.length < zs.length
  · obtain ⟨ad, rfl, hbk, hcell⟩ := hS2.int hlt
    obtain ⟨x, hx⟩ : ∃ x, x = zs.getD ns.length 0 := ⟨_, rfl⟩
    rw [← hx] at hcell
    have HX := Lib.hid hx
    clear hx hS2
    have t1 : decide ((zs.length : Int) < (ns.length : Int) + 1) = false := decide_eq_false (by omega)
    go_wp2
    go_ret
    exact ⟨ret_int (by rw [HR.out, if_pos hlt, HX.out]), _, HC.out⟩
  · have t1 : decide ((zs.length : Int) < (ns.length : Int) + 1) = true := decide_eq_true (by omega)
    go_wp2
    go_ret
    exact ⟨ret_int (by rw [HR.out, if_neg hlt]), _, HC.out⟩

theorem enters_fol : ∀ args w, (callFunc 15 args).run Try.prog w = .ok (.enter 15 args) w := enters_go Try.func15 (by kernel_rfl) rfl

/-- what the literal answers at its i-th call -/
def ansF (zs : List Int) (last : Int) (i : Nat) : Int := if i < zs.length then zs.getD i 0 else last

theorem walk_follow (d : Nat) (hd : d ≤ 2) (zs : List Int) (last : Int) (hz : zs.length < 8192) (l : List Bool) (hl : l.length ≤ zs.length + 1) (v : Int) (hv : v ≠ 0 ∧ v ≠ 1)
    (hbits : ∀ i, i < l.length → ansF zs last i = (((l.getD i false).toNat : Nat) : Int)) (hend : l.length < zs.length + 1 → ansF zs last l.length = v)
    (w W1 : World) (P H L base : Nat) (v0 : Value) (h : CI w W1 W1 P base v0 []) (hb : base ≤ W1.heap.size) (A : Option Addr) (c : Nat) (hc : zs.length ≤ c)
    (hH : Row W1 H 22 #[.slice A zs.length c]) (hHb : H < base) (hHP : H ≠ P) (hL : Row W1 L 3 #[.int .i64 last]) (hLb : L < base) (hLP : L ≠ P) (hS : Sl w w.heap.size A zs.length (zl zs)) :
    Calls Try.prog 14 #[.int .i64 d, .int .i64 ((zs.length : Int) + 1), .func (.func 15) #[] #[.pointer (some ⟨P, 0, none⟩), .pointer (some ⟨H, 0, none⟩), .pointer (some ⟨L, 0, none⟩)]] W1 fun e w' =>
      e = .returned (.agg (if l.length < zs.length + 1 then flt 6 l.length else flt 0 0)) ∧ ∃ v, CI w W1 w' P base v (preds d l (if l.length < zs.length + 1 then l.length + 1 else zs.length + 1)) := by
  have hP := h.rp.lt
  have hw := walk_any d (zs.length + 1) hd (by omega) l hl v hv 15 enters_fol #[.pointer (some ⟨P, 0, none⟩), .pointer (some ⟨H, 0, none⟩), .pointer (some ⟨L, 0, none⟩)] W1 (PInv w W1 P base d l)
    (fun s W hbl hs => ⟨v0, h.out (Out.of_below (a := W1.heap.size) (b := W1.heap.size) hbl) hP hb (fun k hk => .inl (h.ow.lt k hk).2), fun k hk => .inl (h.ow.lt k hk).2⟩)
    (fun s i W W' hs ⟨v, h1, h2⟩ ho => ⟨v, h1.out ho hP hb h2, h2⟩)
    (fun s i W hs hsW ⟨v1, h1, h2⟩ hi hil => by
      have hst := wstep_any w W1 W P H L base v1 (preds d l i) (predB d (l.take i)) h1 zs last (by omega) (by rw [preds_length]; omega) A c hc hH hHb hHP hL hLb hLP hS
      rw [preds_length] at hst
      refine hst.mono fun e w' ⟨he, v', h3, h4, h5, h6⟩ => ⟨?_, ⟨v', ?_, ?_⟩, h5, fun b hb1 hb2 => h6 b (by omega) (by omega) (fun e2 => by rcases h2 b e2 with h7 | h7 <;> omega)⟩
      · rw [he]
        refine ret_int ?_
        by_cases hil2 : i < l.length
        · rw [if_pos hil2]
          exact hbits i hil2
        · rw [if_neg hil2]
          have : i = l.length := by omega
          rw [this]
          exact hend (by omega)
      · rw [preds_succ]
        exact h3
      · intro k hk
        rcases h4 with h4 | ⟨g, h4, hg⟩
        · exact h2 k (by rw [← h4]; exact hk)
        · rw [h4] at hk
          have := Option.some.inj hk
          exact .inr (by omega))
  exact hw.mono fun e w' ⟨he, s, hs, v, h1, h2⟩ => ⟨he, v, h1⟩

set_option maxRecDepth 100000 in
set_option maxHeartbeats 4000000 in
theorem walk_order (d N : Int) (h : d < 0 ∨ 2 < d) (sv : Value) (w : World) :
    Calls Try.prog 14 #[.int .i64 d, .int .i64 N, sv] w fun e w' => e = .returned (.agg (flt 4 (-1))) ∧ Below w.heap.size w w' := by
  by_cases h0 : d < 0
  · have t2 : decide (d < 0) = true := decide_eq_true h0
    clear h
    go_enter Try.func14, Try.ntmps14
    go_wp2
    refine bodyPost_ret (results_row Try.results14 _ _ w.heap.size 24 (flt 4 (-1)) _ rfl (Row.newEq _ _ _ _ _ rfl rfl) Try.underlying24 rfl (by rw [flt_size]; exact cellsF)) rfl ⟨rfl, (Below.refl _ _).alloc (Nat.le_refl _) _⟩
  · have t2 : decide (d < 0) = false := decide_eq_false h0
    have t3 : decide (2 < d) = true := decide_eq_true (by omega)
    clear h h0
    go_enter Try.func14, Try.ntmps14
    go_wp2
    refine bodyPost_ret (results_row Try.results14 _ _ w.heap.size 24 (flt 4 (-1)) _ rfl (Row.newEq _ _ _ _ _ rfl rfl) Try.underlying24 rfl (by rw [flt_size]; exact cellsF)) rfl ⟨rfl, (Below.refl _ _).alloc (Nat.le_refl _) _⟩

set_option maxRecDepth 100000 in
set_option maxHeartbeats 4000000 in
theorem walk_long (d N : Int) (h : 0 ≤ d ∧ d ≤ 2) (hN : N < 0 ∨ 8192 < N) (sv : Value) (w : World) :
    Calls Try.prog 14 #[.int .i64 d, .int .i64 N, sv] w fun e w' => e = .returned (.agg (flt 4 (-2))) ∧ Below w.heap.size w w' := by
  have t1 : decide (d < 0) = false := decide_eq_false (by omega)
  have t2 : decide (2 < d) = false := decide_eq_false (by omega)
  by_cases hn0 : N < 0
  · have t3 : decide (N < 0) = true := decide_eq_true hn0
    clear h hN hn0
    go_enter Try.func14, Try.ntmps14
    go_wp2
    refine bodyPost_ret (results_row Try.results14 _ _ w.heap.size 24 (flt 4 (-2)) _ rfl (Row.newEq _ _ _ _ _ rfl rfl) Try.underlying24 rfl (by rw [flt_size]; exact cellsF)) rfl ⟨rfl, (Below.refl _ _).alloc (Nat.le_refl _) _⟩
  · have t3 : decide (N < 0) = false := decide_eq_false hn0
    have t4 : decide (8192 < N) = true := decide_eq_true (by omega)
    clear h hN hn0
    go_enter Try.func14, Try.ntmps14
    go_wp2
    refine bodyPost_ret (results_row Try.results14 _ _ w.heap.size 24 (flt 4 (-2)) _ rfl (Row.newEq _ _ _ _ _ rfl rfl) Try.underlying24 rfl (by rw [flt_size]; exact cellsF)) rfl ⟨rfl, (Below.refl _ _).alloc (Nat.le_refl _) _⟩
end Go.Proofs.Ytgpacgmgdnongaa.lawFol
