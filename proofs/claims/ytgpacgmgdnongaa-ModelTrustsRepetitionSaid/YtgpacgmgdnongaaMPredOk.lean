/-
  The contract of model.Predict where nothing is at fault.
-/
import Derived.Test.YtgpacgmgdnongaaMPred
namespace Go.Proofs.Ytgpacgmgdnongaa
open Go.RowKit

theorem enters_go {P : Program} {f : FuncId} {fn : Func} {c : Code} (hf : P.funcs[f]? = some fn) (hn : (fn.name == "runtime.NumGoroutine") = false) (hb : fn.body = some c) (args : Array Value) (w : World) : (callFunc f args).run P w = .ok (.enter f args) w := by
  simp only [callFunc, go_sem]
  have hn' : ¬ fn.name = "runtime.NumGoroutine" := by simpa using hn
  simp [hf, hn', hb]
theorem enters_step : ∀ args w, (callFunc 19 args).run Try.prog w = .ok (.enter 19 args) w := enters_go Try.func19 (by kernel_rfl) rfl

theorem preds_false (d : Nat) (l : List Bool) (i : Nat) (h : i ≤ l.length + 1) : preds d (l ++ [false]) i = preds d l i :=
  preds_congr d _ _ i (by simp; omega) h (by rw [List.take_append_of_le_length (by omega)])

/-- what the function of Predict keeps -/
def PInv (w W1 : World) (P base d : Nat) (l : List Bool) (s i : Nat) (W : World) : Prop :=
  ∃ v, CI w W1 W P base v (preds d l i) ∧ ∀ k, v.ownBlock = some k → k < W1.heap.size ∨ s ≤ k

theorem walk_predict (d : Nat) (hd : d ≤ 2) (l : List Bool) (hl : l.length < 8192) (w W1 : World) (P H base : Nat) (v0 : Value) (h : CI w W1 W1 P base v0 []) (hb : base ≤ W1.heap.size) (A : Option Addr) (c : Nat) (hc : l.length ≤ c)
    (hH : Row W1 H 22 #[.slice A l.length c]) (hHb : H < base) (hHP : H ≠ P) (hS : Sl w w.heap.size A l.length (il l)) :
    Calls Try.prog 14 #[.int .i64 d, .int .i64 ((l.length : Int) + 1), .func (.func 19) #[] #[.pointer (some ⟨P, 0, none⟩), .pointer (some ⟨H, 0, none⟩)]] W1 fun e w' =>
      e = .returned (.agg (flt 0 0)) ∧ ∃ v, CI w W1 w' P base v (preds d l (l.length + 1)) := by
  have hP := h.rp.lt
  have hw := walk_any d (l.length + 1) hd (by omega) (l ++ [false]) (by simp) 2 (by decide) 19 enters_step #[.pointer (some ⟨P, 0, none⟩), .pointer (some ⟨H, 0, none⟩)] W1 (PInv w W1 P base d l)
    (fun s W hbl hs => ⟨v0, h.out (Out.of_below (a := W1.heap.size) (b := W1.heap.size) hbl) hP hb (fun k hk => .inl (h.ow.lt k hk).2), fun k hk => .inl (h.ow.lt k hk).2⟩)
    (fun s i W W' hs ⟨v, h1, h2⟩ ho => ⟨v, h1.out ho hP hb h2, h2⟩)
    (fun s i W hs hsW ⟨v, h1, h2⟩ hi hil => by
      have hst := pstep_any w W1 W P H base v (preds d l i) (predB d ((l ++ [false]).take i)) h1 l (by omega) (by rw [preds_length]; omega) A c hc hH hHb hHP hS
      rw [preds_length] at hst
      refine hst.mono fun e w' ⟨he, v', h3, h4, h5, h6⟩ => ⟨?_, ⟨v', ?_, ?_⟩, h5, fun b hb1 hb2 => h6 b (by omega) (by omega) (fun e2 => by rcases h2 b e2 with h7 | h7 <;> omega)⟩
      · rw [he]
        refine ret_int ?_
        rw [if_pos (show i < (l ++ [false]).length by simp; omega)]
        by_cases hil : i < l.length
        · rw [if_pos hil, getD_snoc l false i hil]
        · rw [if_neg hil]
          have : i = l.length := by omega
          rw [this, getD_last]
          rfl
      · rw [preds_succ, List.take_append_of_le_length (by omega)] at *
        exact h3
      · intro k hk
        rcases h4 with h4 | ⟨g, h4, hg⟩
        · exact h2 k (by rw [← h4]; exact hk)
        · rw [h4] at hk
          have := Option.some.inj hk
          exact .inr (by omega))
  refine hw.mono fun e w' ⟨he, s, hs, v, h1, h2⟩ => ?_
  have hlen : ¬ (l ++ [false]).length < l.length + 1 := by simp
  rw [if_neg hlen] at he h1
  exact ⟨he, v, h1⟩

set_option maxRecDepth 100000 in
set_option maxHeartbeats 8000000 in
theorem predict_ok (d : Nat) (hd : d ≤ 2) (l : List Bool) (hl : l.length < 8192) (A : Option Addr) (cp : Nat) (hcp : l.length ≤ cp) (w : World) (hS : Sl w w.heap.size A l.length (il l)) :
    Calls Try.prog 8 #[.int .i64 d, .slice A l.length cp] w fun e w' => ∃ v, e = .returned (.tuple #[v, .agg (flt 0 0)]) ∧ w'.ownsRow (w.heap.size + 2) 3 1 v (l.length + 1) (nl (preds d l (l.length + 1))) ∧ Below w.heap.size w w' := by
  have t2 : decide ((d : Int) < 0) = false := decide_eq_false (by omega)
  have t3 : decide ((2 : Int) < d) = false := decide_eq_false (by omega)
  have t4 : decide ((8192 : Int) ≤ (l.length : Int)) = false := decide_eq_false (by omega)
  have hmf : ∀ (fn : Fn) (first cap : Array Value) (w : World), (Instr.makeFunc fn first cap).run Try.prog w = .ok (.func fn first cap) w := fun _ _ _ _ => rfl
  obtain ⟨i0, hi, hz0, hz1, hz2⟩ := info_parts infoI
  have HS := Lib.hid hS
  go_enter Try.func8, Try.ntmps8
  go_upto_region 6 with fail
  refine wp_world (F := fun W => Row W w.heap.size 22 #[.slice A l.length cp] ∧ Row W (w.heap.size + 1) 24 (flt 0 0) ∧ W.heap.size = w.heap.size + 2 ∧ Below w.heap.size w W) ⟨(Row.newEq _ _ _ _ _ rfl rfl).alloc _, Row.newEq _ _ _ _ _ (by simp) rfl, by simp, ((Below.refl _ _).alloc (Nat.le_refl _) _).alloc (by simp) _⟩ ?_
  clear hS
  rintro W0 ⟨rH, r0, hsz, hb⟩
  have hS := HS.out.up hb
  go_loop [25] (fun i => ∃ j : Nat, j ≤ l.length ∧ i = .int .i64 j) (fun i => l.length - (intOf i).toNat)
  case atStart => exact ⟨0, Nat.zero_le _, rfl⟩
  case round =>
    obtain ⟨j, hj, rfl⟩ := hrel
    by_cases hlt : j < l.length
    · obtain ⟨ad, rfl, hbk, hcell⟩ := hS.bit hlt
      have hb1 := isbit_any (((l.getD j false).toNat : Nat) : Int) true (by cases l.getD j false <;> rfl)
      obtain ⟨z, hz⟩ : ∃ z, z = (((l.getD j false).toNat : Nat) : Int) := ⟨_, rfl⟩
      rw [← hz] at hcell hb1
      clear hz
      go_wp2_with (first
        | (go_at_call 18; refine (hb1 _).mono ?_; rintro e w31 ⟨rfl, h31⟩; subst w31))
      go_round
      case rel => exact ⟨j + 1, by omega, by go_num⟩
      case measure => simp [intOf]; omega
    · obtain rfl : j = l.length := by omega
      have c0 : W0.cell? ⟨w.heap.size, 0, none⟩ = some (.slice A l.length cp) := (rH.cell 0).trans rfl
      have HSZ := Lib.hid hsz
      clear hsz
      go_upto_region 12 with (first
        | (at_make; refine wpList_make_own _ rfl _ _ 22 rfl (w.heap.size + 2) 3 i0 (.int .i64 0) 1 Try.underlying22 hi hz0 hz1 .i64 .i64 _ (l.length + 1) rfl rfl (by simp) (by rw [hz2]; omega) (by unfold maxLen; omega) (by have := HSZ.out; omega) ?_; intro w1 hown1 hg1))
      have hb1 : Below w.heap.size w w1 := hb.grown hg1 hb.size (fun k hk => by cases hk)
      have hv1 := hown1.lt
      have hlt1 : W0.heap.size < w1.heap.size := (hv1 W0.heap.size rfl).2
      have hsz := HSZ.out
      refine wp_world (F := fun W => CI w W W w1.heap.size (w.heap.size + 2) (.slice (some ⟨W0.heap.size, 0, none⟩) 0 (l.length + 1)) [] ∧ w.heap.size + 2 ≤ W.heap.size ∧ w.heap.size + 2 ≤ w1.heap.size ∧ Row W w.heap.size 22 #[.slice A l.length cp] ∧ Row W (w.heap.size + 1) 24 (flt 0 0))
        ⟨⟨hb1.alloc hb1.size _, fun _ _ _ => rfl, Row.newEq _ _ _ _ _ rfl rfl, by rw [nl_nil]; exact own_same hown1 (fun k hk => Below.heap_alloc _ _ _ (hv1 k hk).2), by simp; omega, by omega, by omega, by intro e; have := Option.some.inj e; simp at this; omega⟩, by simp; omega, by omega,
          (rH.grown hg1 (by simp)).alloc _, (r0.grown hg1 (by simp)).alloc _⟩ ?_
      generalize (Value.slice (some ⟨W0.heap.size, 0, none⟩) 0 (l.length + 1)) = v0
      generalize w1.heap.size = P
      clear hb1 hv1 hlt1 hsz hown1 hg1 rH r0 c0 HSZ hS hb w1
      rintro W1 ⟨hCI, hs1, hP2, rH, r0⟩
      have c0 : W1.cell? ⟨w.heap.size, 0, none⟩ = some (.slice A l.length cp) := (rH.cell 0).trans rfl
      have hwk := walk_predict d hd l hl w W1 P w.heap.size (w.heap.size + 2) v0 hCI hs1 A cp hcp rH (by omega) (by omega) HS.out
      have hPlt := hCI.rp.lt
      have HW := Lib.hid hwk
      clear hwk hCI
      go_upto_region 13 with (first
        | (go_at_call 14; refine HW.out.mono ?_; rintro e w45 ⟨rfl, v, hCI⟩)
        | (refine wpList_store_row rfl 24 _ _ rfl w45.heap.size (flt 0 0) rfl rfl 24 (flt 0 0) (Row.newEq _ _ _ _ _ rfl rfl) (by rw [flt_size]; exact cellsF) rfl (all_one (flt_one _ _)) ?_))
      have hbl := up_call hCI.bl (blw_new1 w45 (.cells #[.int .i64 0, .int .i64 0] 24) (flt 0 0))
      have hk1 := blw_new1 w45 (.cells #[.int .i64 0, .int .i64 0] 24) (flt 0 0)
      have r45 : Row w45 (w.heap.size + 1) 24 (flt 0 0) := (hCI.fix _ (by omega) (by omega)).trans r0
      refine wp_world (F := fun W => Row W P 22 #[v] ∧ Row W w45.heap.size 24 (flt 0 0) ∧ Row W (w.heap.size + 1) 24 (flt 0 0) ∧ W.ownsRow (w.heap.size + 2) 3 1 v (l.length + 1) (nl (preds d l (l.length + 1))) ∧ Below w.heap.size w W)
        ⟨hCI.rp.below hk1 hCI.rp.lt, row_new1 _ _ _ _, r45.below hk1 r45.lt, own_same (by have := hCI.ow; rw [preds_length] at this; exact this) (fun k hk => hk1.block k (hCI.ow.lt k hk).2), hbl⟩ ?_
      have hg9 : w.heap.size + 2 ≤ w45.heap.size := hCI.sz
      generalize w45.heap.size = g9 at *
      clear hbl hk1 hCI r0 r45 rH c0 HW hs1 hPlt w45 W1
      rintro W9 ⟨rP, r9, r0, ho, hb⟩
      have k0 : W9.cell? ⟨P, 0, none⟩ = some v := (rP.cell 0).trans rfl
      have k1 : W9.cell? ⟨g9, 0, none⟩ = some (.int .i64 0) := (r9.cell 0).trans rfl
      have k2 : W9.cell? ⟨g9, 1, none⟩ = some (.int .i64 0) := (r9.cell 1).trans rfl
      have k3 : W9.cell? ⟨w.heap.size + 1, 0, none⟩ = some (.int .i64 0) := (r0.cell 0).trans rfl
      have k4 : W9.cell? ⟨w.heap.size + 1, 1, none⟩ = some (.int .i64 0) := (r0.cell 1).trans rfl
      have f0 := r0.free 0
      have f1 := r0.free 1
      have hown : ∀ k, v.ownBlock = some k → k ≠ w.heap.size + 1 := fun k hk => by have := (ho.lt k hk).1; omega
      have HF := Lib.hid (And.intro r0 (And.intro ho (And.intro hb hown)))
      clear r0 ho hb hown rP r9
      go_region
      all_goals
        go_wp2
        obtain ⟨r0, ho, hb, hown⟩ := HF.out
        refine bodyPost_ret (results_tmp_row Try.results8 _ _ v (w.heap.size + 1) 24 (flt 0 0) _ rfl rfl (show Row (((W9.setCell ⟨w.heap.size + 1, 0, none⟩ (.int .i64 0)).setCell ⟨w.heap.size + 1, 1, none⟩ (.int .i64 0)).drew) (w.heap.size + 1) 24 (flt 0 0) from (r0.put 0 (.int .i64 0)).put 1 (.int .i64 0)) Try.underlying24 rfl (by rw [flt_size]; exact cellsF)) rfl ⟨v, rfl, ?_, ?_⟩
        · exact own_same ho fun k hk => (Below.heap_setCell _ _ _ _ (hown k hk)).trans (Below.heap_setCell _ _ _ _ (hown k hk))
        · exact ((hb.setCell (by simp) _).setCell (by simp) _).drew
end Go.Proofs.Ytgpacgmgdnongaa
