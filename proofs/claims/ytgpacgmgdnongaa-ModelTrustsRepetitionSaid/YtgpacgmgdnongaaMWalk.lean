/-
  The contracts of model.start, isBit and Walk: Walk with whatever function that keeps its word.
-/
import Derived.Test.YtgpacgmgdnongaaMUpd
namespace Go.Proofs.Ytgpacgmgdnongaa
open Go.RowKit

set_option maxHeartbeats 2000000 in
theorem isbit_any (v : Int) (t : Bool) (ht : t = decide (v = 0 ∨ v = 1)) (w : World) :
    Calls Try.prog 18 #[.int .i64 v] w fun e w' => e = .returned (.bool t) ∧ w = w' := by
  by_cases h0 : v = 0
  · subst h0
    have HT := Lib.hid ht
    clear ht
    go_enter Try.func18, Try.ntmps18
    go_wp2
    go_ret
    exact ⟨ret_bool HT.out.symm, rfl⟩
  · have h1 : (v == 0) = false := beq_eq_false_iff_ne.2 h0
    have h2 : (v == 1) = t := by
      rw [ht]
      by_cases h : v = 1
      · subst h; rfl
      · rw [beq_eq_false_iff_ne.2 h, decide_eq_false]
        rintro (h3 | h3)
        · exact h0 h3
        · exact h h3
    clear ht
    go_enter Try.func18, Try.ntmps18
    go_wp2
    go_ret
    exact ⟨rfl, rfl⟩

set_option maxHeartbeats 2000000 in
theorem start_any (d : Nat) (w : World) :
    Calls Try.prog 22 #[.int .i64 d] w fun e w' => e = .returned (.pointer (some ⟨w.heap.size + 1, 0, none⟩)) ∧ Md w' (w.heap.size + 1) w.heap.size d 0 [] ∧ w'.heap.size = w.heap.size + 2 ∧ Below w.heap.size w w' := by
  have hmm := @run_makeMap Try.prog
  go_enter Try.func22, Try.ntmps22
  go_wp2
  go_ret
  refine ⟨rfl, ⟨Row.newEq _ _ _ _ _ (by simp) rfl, _, (Mp.made w).same (Below.heap_alloc _ _ _ (by simp)), fun k _ _ => (cnt_nil k).symm⟩, by simp, ((Below.refl _ _).alloc (Nat.le_refl _) _).alloc (by simp) _⟩

/-- outside the blocks a .. b - 1 nothing old has turned -/
structure Out (a b : Nat) (w w' : World) : Prop where
  os : w'.os = w.os
  tape : w'.tape = w.tape
  output : w'.output = w.output
  size : w.heap.size ≤ w'.heap.size
  block : ∀ k, k < w.heap.size → (k < a ∨ b ≤ k) → w'.heap[k]? = w.heap[k]?
theorem Out.of_below {a b : Nat} {w w' : World} (h : Below w.heap.size w w') : Out a b w w' := ⟨h.os, h.tape, h.output, h.size, fun k hk _ => h.block k hk⟩
theorem Out.of_tw {a b gm gb : Nat} {w w' : World} (h : Tw gm gb w w') (h1 : a ≤ gm ∧ gm < b) (h2 : a ≤ gb ∧ gb < b) : Out a b w w' :=
  ⟨h.os, h.tape, h.output, h.size, fun k hk h3 => h.block k hk (by omega) (by omega)⟩
theorem Out.of_gr {a b g : Nat} {w w' : World} (h : w.grownBy w' (some g)) (h1 : a ≤ g ∧ g < b) : Out a b w w' :=
  ⟨h.os, h.tape, h.output, h.size, fun k hk h3 => h.block k hk (fun e => by have := Option.some.inj e; omega)⟩

theorem func_nil (k : FuncId) (cap : Array Value) (w : World) : (binOp .eql 35 (.func (.func k) #[] cap) .nilFunc).run Try.prog w = .ok (.bool false) w := by
  have h : (Op.equalIn 10000 35 (.func (.func k) #[] cap) .nilFunc).run Try.prog w = .ok false w := by
    show (Op.equalIn (9999 + 1) 35 (.func (.func k) #[] cap) .nilFunc).run Try.prog w = .ok false w
    unfold Op.equalIn
    simp [run_underlying Try.underlying35]
  simp only [binOp]
  simp [Op.equal, Op.maxDepth, h]

set_option maxRecDepth 100000 in
set_option maxHeartbeats 8000000 in
theorem walk_any (d N : Nat) (hd : d ≤ 2) (hN : N ≤ 8192) (l : List Bool) (hl : l.length ≤ N) (v : Int) (hv : v ≠ 0 ∧ v ≠ 1) (k : FuncId) (hcf : ∀ args w, (callFunc k args).run Try.prog w = .ok (.enter k args) w) (cap : Array Value) (w : World) (Inv : Nat → Nat → World → Prop)
    (h0 : ∀ s W, Below w.heap.size w W → s = W.heap.size → Inv s 0 W)
    (hkeep : ∀ s i W W', w.heap.size ≤ s → Inv s i W → Out w.heap.size s W W' → Inv s i W')
    (hstep : ∀ s i W, w.heap.size ≤ s → s ≤ W.heap.size → Inv s i W → i < N → i ≤ l.length →
      Calls Try.prog k (#[.int .i64 (predB d (l.take i))] ++ cap) W fun e w' => e = .returned (.int .i64 (if i < l.length then (((l.getD i false).toNat : Nat) : Int) else v)) ∧ Inv s (i + 1) w' ∧ W.heap.size ≤ w'.heap.size ∧ ∀ b, w.heap.size ≤ b → b < s → w'.heap[b]? = W.heap[b]?) :
    Calls Try.prog 14 #[.int .i64 d, .int .i64 N, .func (.func k) #[] cap] w fun e w' =>
      e = .returned (.agg (if l.length < N then flt 6 l.length else flt 0 0)) ∧ ∃ s, w.heap.size ≤ s ∧ Inv s (if l.length < N then l.length + 1 else N) w' := by
  have HH := Lib.hid (And.intro h0 (And.intro hkeep hstep))
  clear h0 hkeep hstep
  have hfn := func_nil k cap
  have t1 : decide ((d : Int) < 0) = false := decide_eq_false (by omega)
  have t2 : decide ((2 : Int) < d) = false := decide_eq_false (by omega)
  have t3 : decide ((N : Int) < 0) = false := decide_eq_false (by omega)
  have t4 : decide ((8192 : Int) < N) = false := decide_eq_false (by omega)
  go_enter Try.func14, Try.ntmps14
  go_upto_region 9 with (first
    | (go_at_call 22; refine (start_any d _).mono ?_; rintro e w31 ⟨rfl, hM, hsz, hb31⟩))
  have hm31 : Md w31 (w.heap.size + 2) (w.heap.size + 1) d 0 [] := by simpa using hM
  have hs31 : w31.heap.size = w.heap.size + 3 := by simpa using hsz
  have hbw : Below w.heap.size w w31 := up_call ((Below.refl _ _).alloc (Nat.le_refl _) _) hb31
  have hr31 : Row w31 w.heap.size 24 (flt 0 0) := (Row.newEq w 24 _ (flt 0 0) _ rfl rfl).below hb31 (by simp)
  refine wp_world (F := fun W => Md W (w.heap.size + 2) (w.heap.size + 1) d 0 [] ∧ Row W w.heap.size 24 (flt 0 0) ∧ Inv (w.heap.size + 3) 0 W ∧ w.heap.size + 3 ≤ W.heap.size) ⟨hm31, hr31, HH.out.1 _ _ hbw hs31.symm, by omega⟩ ?_
  clear hm31 hs31 hbw hr31 hM hsz hb31
  rintro W0 ⟨hM, hr, hI, hs⟩
  go_loopw [33] (fun i wr => ∃ j : Nat, j ≤ l.length ∧ i = .int .i64 j ∧ Md wr (w.heap.size + 2) (w.heap.size + 1) d (3 * j) (l.take j) ∧ Row wr w.heap.size 24 (flt 0 0) ∧ Inv (w.heap.size + 3) j wr ∧ w.heap.size + 3 ≤ wr.heap.size) (fun i _ => N - (intOf i).toNat)
  case atStart => exact ⟨0, Nat.zero_le _, rfl, by simpa using hM, hr, hI, hs⟩
  case round =>
    clear hM hr hI hs
    obtain ⟨j, hj, rfl, hM, hr, hI, hs⟩ := hrel
    by_cases hlt : j < N
    · have hpr := predict_any _ _ d _ (l.take j) hd _ hM
      have hst := fun W (hW : Below wr.heap.size wr W) => HH.out.2.2 (w.heap.size + 3) j W (by omega) (by have := hW.size; omega) (HH.out.2.1 _ _ _ _ (by omega) hI (Out.of_below hW)) hlt hj
      by_cases hjl : j < l.length
      · obtain ⟨x, hx⟩ : ∃ x, x = (((l.getD j false).toNat : Nat) : Int) := ⟨_, rfl⟩
        rw [if_pos hjl, ← hx] at hst
        have hbit := isbit_any x true (by rw [hx]; cases l.getD j false <;> rfl)
        have HX := Lib.hid hx
        have HPR := Lib.hid hpr
        have HST := Lib.hid hst
        clear hpr hst hx
        go_upto_region 12 with (first
          | (go_at_call 23; refine HPR.out.mono ?_; rintro e w38 ⟨rfl, hb38⟩)
          | (refine (HST.out _ hb38).mono ?_; rintro e w39 ⟨rfl, hI39, hs39, hk39⟩))
        have hM38 := hM.up hb38
        have hM39 : Md w39 (w.heap.size + 2) (w.heap.size + 1) d (3 * j) (l.take j) := hM38.same (hk39 _ (by omega) (by omega)) (hk39 _ (by omega) (by omega))
        have hr39 : Row w39 w.heap.size 24 (flt 0 0) := (hk39 _ (Nat.le_refl _) (by omega)).trans (hr.below hb38 hr.lt)
        have hs9 : w.heap.size + 3 ≤ w39.heap.size := by have := hb38.size; omega
        have hup := update_any _ _ d _ (l.take j) (l.getD j false) hd (by omega) _ hM39
        rw [← HX.out, show l.take j ++ [l.getD j false] = l.take (j + 1) by rw [List.take_succ_eq_append_getElem hjl, List.getD_eq_getElem?_getD, List.getElem?_eq_getElem hjl]; rfl] at hup
        have HUP := Lib.hid hup
        clear hup hM38 hM39 hk39 hs39 hM hI HPR HST hb38 hr
        go_wp2_with (first
          | (go_at_call 18; refine (hbit _).mono ?_; rintro e w41 ⟨rfl, h41⟩; subst w41)
          | (go_at_call 24; refine HUP.out.mono ?_; rintro e w47 ⟨rfl, hM47, ht47⟩))
        go_roundw
        case rel =>
          refine ⟨j + 1, hjl, by go_num, ?_, ?_, ?_, ?_⟩
          · rw [show 3 * (j + 1) = 3 * j + 3 by omega]; exact hM47
          · exact (ht47.block _ hr39.lt (by omega) (by omega)).trans hr39
          · exact HH.out.2.1 _ _ _ _ (by omega) hI39 (Out.of_tw ht47 (by omega) (by omega))
          · have := ht47.size; omega
        case measure => simp [intOf]; omega
      · have hjl2 : j = l.length := by omega
        rw [if_neg hjl] at hst
        have HJ := Lib.hid hjl2
        clear hjl2
        have hbit := isbit_any v false (by rw [decide_eq_false (by omega)])
        have HPR := Lib.hid hpr
        have HST := Lib.hid hst
        clear hpr hst
        go_upto_region 12 with (first
          | (go_at_call 23; refine HPR.out.mono ?_; rintro e w38 ⟨rfl, hb38⟩)
          | (refine (HST.out _ hb38).mono ?_; rintro e w39 ⟨rfl, hI39, hs39, hk39⟩))
        have hr39 : Row w39 w.heap.size 24 (flt 0 0) := (hk39 _ (Nat.le_refl _) (by omega)).trans (hr.below hb38 hr.lt)
        clear hk39 hs39 hM hI HPR HST hb38 hr
        go_wp2_with (first
          | (go_at_call 18; refine (hbit _).mono ?_; rintro e w41 ⟨rfl, h41⟩; subst w41)
          | (refine wpList_store_row rfl 24 _ _ rfl w.heap.size (flt 6 j) rfl rfl 24 (flt 0 0) hr39 (by rw [flt_size]; exact cellsF) rfl (all_one (flt_one _ _)) ?_))
        have hjl2 := HJ.out
        refine bodyPost_ret (results_row Try.results14 _ _ w.heap.size 24 (flt 6 j) _ rfl (Row.row hr39 _) Try.underlying24 rfl (by rw [flt_size]; exact cellsF)) rfl ⟨by rw [hjl2], w.heap.size + 3, by omega, ?_⟩
        rw [← hjl2]
        exact HH.out.2.1 _ _ _ _ (by omega) hI39 (Out.of_gr (gr_setRow (gr_refl _ _) _ _ (.inl rfl)) (by omega))
    · have hjN : j = N := by omega
      have hjl2 : l.length = N := by omega
      go_wp2_with (first
        | (refine wpList_store_row rfl 24 _ _ rfl w.heap.size (flt 0 0) rfl rfl 24 (flt 0 0) hr (by rw [flt_size]; exact cellsF) rfl (all_one (flt_one _ _)) ?_))
      refine bodyPost_ret (results_row Try.results14 _ _ w.heap.size 24 (flt 0 0) _ rfl (Row.row hr _) Try.underlying24 rfl (by rw [flt_size]; exact cellsF)) rfl ⟨rfl, w.heap.size + 3, by omega, ?_⟩
      rw [← hjN]
      exact HH.out.2.1 _ _ _ _ (by omega) hI (Out.of_gr (gr_setRow (gr_refl _ _) _ _ (.inl rfl)) (by omega))
end Go.Proofs.Ytgpacgmgdnongaa
