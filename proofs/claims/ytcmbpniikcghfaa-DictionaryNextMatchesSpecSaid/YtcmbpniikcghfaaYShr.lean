/-
  The contract of sharedSegments: the segments that several samples have, in their order.
-/
import Derived.Test.YtcmbpniikcghfaaYSrt
namespace Go.Proofs.Ytcmbpniikcghfaa
open Go.RowKit Go.Maps Go.Sort
open Go.Proofs (encStr)

theorem infoS : (Try.prog.info? 9).map (fun i => (i.zero, i.size, i.bytes)) = some (some (.string ⟨#[]⟩), 1, 16) := by kernel_rfl
/-- ss are the byte strings that have been met and count twice or more -/
def Coll (f : List UInt8 → Nat) (D : DataW Unit) (left : Lit → Bool) (ss : List (List UInt8)) : Prop := ss.Nodup ∧ ∀ P, P ∈ ss ↔ (2 ≤ f P ∧ Maps.has D (.string P) = true ∧ left (.string P) = false)
theorem coll_start (f : List UInt8 → Nat) (D : DataW Unit) : Coll f D (Maps.has D) [] := ⟨.nil, fun P => by
  constructor
  · intro h; cases h
  · rintro ⟨_, h1, h2⟩
    rw [h1] at h2
    cases h2⟩
theorem coll_step {f : List UInt8 → Nat} {D : DataW Unit} {left : Lit → Bool} {ss : List (List UInt8)} (h : Coll f D left ss) {x : List UInt8} (hl : left (.string x) = true) (hx : Maps.has D (.string x) = true) (h2 : 2 ≤ f x) : Coll f D (fun z => left z && !z.sameKey (.string x)) (ss ++ [x]) := by
  have hnew : x ∉ ss := fun hx => by have := ((h.2 x).1 hx).2.2; rw [hl] at this; cases this
  refine ⟨List.nodup_append.2 ⟨h.1, by simp, fun a ha b hb => by simp at hb; subst hb; exact fun e => hnew (e ▸ ha)⟩, fun P => ?_⟩
  show P ∈ ss ++ [x] ↔ (2 ≤ f P ∧ Maps.has D (.string P) = true ∧ (left (.string P) && !(Lit.string P).sameKey (.string x)) = false)
  rw [List.mem_append, List.mem_singleton, sameKey_str]
  by_cases hp : P = x
  · subst hp
    rw [decide_eq_true rfl]
    simp [h2, hx]
  · rw [decide_eq_false hp, h.2 P]
    simp [hp]
theorem coll_skip {f : List UInt8 → Nat} {D : DataW Unit} {left : Lit → Bool} {ss : List (List UInt8)} (h : Coll f D left ss) {x : List UInt8} (h2 : ¬ 2 ≤ f x) : Coll f D (fun z => left z && !z.sameKey (.string x)) ss := by
  refine ⟨h.1, fun P => ?_⟩
  show P ∈ ss ↔ (2 ≤ f P ∧ Maps.has D (.string P) = true ∧ (left (.string P) && !(Lit.string P).sameKey (.string x)) = false)
  rw [sameKey_str]
  by_cases hp : P = x
  · subst hp
    rw [h.2 P]
    simp [h2]
  · rw [decide_eq_false hp, h.2 P]
    simp
theorem coll_end {Ss : List (List UInt8)} {D : DataW Unit} {left : Lit → Bool} {ss : List (List UInt8)} (h : Coll (fqW Ss) D left ss) (hat : ∀ P, D.atKey (.string P) (.lit (.int .i64 0)) = .lit (.int .i64 (fqW Ss P))) (hl : ∀ kl, left kl = false) (P : List UInt8) : P ∈ ss ↔ isSeg Ss P := by
  rw [h.2 P, ← fqW_seg]
  constructor
  · exact fun h => h.1
  · refine fun h2 => ⟨h2, ?_, hl _⟩
    cases hh : Maps.has D (.string P) with
    | true => rfl
    | false =>
      have h3 := atKey_of_not_has hh (.lit (.int .i64 0))
      rw [hat P] at h3
      simp only [DataW.lit.injEq, Lit.int.injEq, true_and] at h3
      omega
theorem ord_of {Ss ts ss : List (List UInt8)} (hp : ts.Perm ss) (hn : ss.Nodup) (hm : ∀ P, P ∈ ss ↔ isSeg Ss P) (hpw : ts.Pairwise (fun P Q => ¬ aftP (fqW Ss) Q P)) : IsOrd Ss ts := by
  have hm2 : ∀ P, P ∈ ts ↔ isSeg Ss P := fun P => hp.mem_iff.trans (hm P)
  refine ⟨?_, hm2⟩
  have hnd : ts.Nodup := hp.nodup_iff.2 hn
  refine List.Pairwise.imp_of_mem (fun {P Q} hP hQ h => ?_) (hnd.and hpw)
  have e1 := fqW_8 Ss ((hm2 P).1 hP).1
  have e2 := fqW_8 Ss ((hm2 Q).1 hQ).1
  rcases aftP_total (fqW Ss) P Q with h3 | h3 | h3
  · unfold aftP at h3
    rw [e1, e2] at h3
    exact h3
  · exact absurd h3 h.1
  · exact absurd h3 h.2

set_option maxRecDepth 100000 in
set_option maxHeartbeats 8000000 in
theorem shared_any (Ss : List (List UInt8)) (N : Nat) (hN : N ≤ 64) (h8 : ∀ X ∈ Ss, X.length ≤ 1024) (A : Option Addr) (c : Nat) (w : World) (hS : Sls w w.heap.size A N Ss) :
    Calls Try.prog 33 #[.slice A N c] w fun e w' => (∃ (l : List (List UInt8)) (G : Option Addr) (g : Nat), IsOrd Ss l ∧ l.length ≤ 65536 ∧ e = .returned (.slice G l.length g) ∧ l.length ≤ g ∧ Sl w' w'.heap.size G l.length (l.map encStr)) ∧ Below w.heap.size w w' := by
  obtain ⟨i0, hi, hz0, hz1, hz2⟩ := info_parts infoS
  have HFR := Lib.hid (frequencies_any Ss N hN h8 A c w hS)
  obtain ⟨f, hf⟩ : ∃ f, f = fqW Ss := ⟨_, rfl⟩
  rw [← hf] at HFR
  have HF := Lib.hid hf
  clear hS h8 hf
  go_enter Try.func33, Try.ntmps33
  go_upto_region 3 with (first | (go_at_call 43; refine HFR.out.mono ?_; rintro e w5 ⟨⟨rfl, hF5⟩, hb5⟩))
  refine wp_world (F := fun W => Row W w5.heap.size 69 #[.map (some w.heap.size)] ∧ Fm W w.heap.size 65536 f ∧ w.heap.size < w5.heap.size ∧ W.heap.size = w5.heap.size + 1 ∧ Below w.heap.size w W) ⟨Row.new _ _ _, hF5.kept (World.grownBy_alloc _ _ none) (by simp), hF5.lt, by simp, hb5.alloc hb5.size _⟩ ?_
  generalize w5.heap.size = g3
  clear hb5 hF5 HFR
  rintro W1 ⟨r3, hF1, hlt, hsz1, hb1⟩
  have k3 : W1.cell? ⟨g3, 0, none⟩ = some (.map (some w.heap.size)) := (r3.cell 0).trans rfl
  obtain ⟨D, hown, hat0⟩ := hF1
  have hsD := map_size hown
  obtain ⟨gB, hgB⟩ : ∃ g, g = w.heap.size := ⟨_, rfl⟩
  rw [← hgB] at hown hlt k3 r3 ⊢
  obtain ⟨r, hr⟩ : ∃ r, r = W1.heap.size := ⟨_, rfl⟩
  have HGB := Lib.hid hgB
  have HAT := Lib.hid hat0
  have hr3 : g3 < r := by omega
  have HRR := Lib.hid hr
  clear hgB hat0 hsz1 hr
  go_upto_region 4 with (first
    | (at_range; refine wpList_range_own _ rfl _ 69 rfl 9 3 lawS Try.underlying69 _ gB 65536 D rfl hown ?_; intro w6 hrg6 hg6 hs6))
  go_frame
  rw [← HRR.out] at hrg6 hs6 ⊢
  have r36 := r3.grown hg6 (by simp)
  have hb6 := hb1.grown hg6 hb1.size (fun j hj => by cases hj)
  rw [← HGB.out] at hb6
  have hs6' : r + 1 ≤ w6.heap.size := by omega
  clear r3 k3 hg6 hs6 hown hb1
  go_loopw [4] (fun v wr => ∃ (left : Lit → Bool) (cnt : Nat) (ss : List (List UInt8)), wr.ranges Try.prog 9 (plainElem Try.prog 3) gB r 65536 D left cnt ∧ ss.length + cnt ≤ 65536 ∧ wr.ownsRow (r + 1) 9 1 v ss.length (ss.map encStr) ∧ Hid (Coll f D left ss) ∧ Row wr g3 69 #[.map (some gB)] ∧ r + 1 ≤ wr.heap.size ∧ Below gB w wr) (fun _ wr => wr.rangeLeft gB r)
  case atStart => exact ⟨_, _, [], hrg6, by simpa using hsD, World.ownsRow_nil _ _ _ _, Lib.hid (coll_start f D), r36, hs6', hb6⟩
  case round =>
    clear hrg6 r36 hb6 hs6'
    obtain ⟨left, cnt, ss, hrg, hsc, hrow, HC, r3, hsz, hb⟩ := hrel
    go_wp2_with (first
      | (at_next; refine wpList_next_ranges _ rfl _ rfl 9 lawS (plainElem Try.prog 3) encStr (Value.int .i64) (fun key kl hk => by obtain ⟨x, hx, _⟩ := Maps.keyOf_str Try.underlying9 hk; exact ⟨x, hx⟩) (fun v y hv => by obtain ⟨c, rfl, _⟩ := plainElem_int_inv Try.underlying3 hv; exact ⟨c, rfl⟩) gB r 65536 _ _ _ rfl hrg ?_ ?_))
    · intro hc0 hl0
      have hmem : ∀ P, P ∈ ss ↔ isSeg Ss P := fun P => coll_end (by rw [← HF.out]; exact HC.out) (by rw [← HF.out]; exact HAT.out) hl0 P
      have hss : ∀ P ∈ ss, P.length ≤ 64 := fun P hP => by have := ((hmem P).1 hP).1; omega
      obtain ⟨G, g, hv, hcg, _⟩ := own_form hrow
      subst hv
      have hso := sort_any f 65536 gB g3 wr (r + 1) _ ss hrow hss (by omega) r3 ⟨D, hrg.owns, HAT.out⟩ (by omega) (by omega)
      have HSO := Lib.hid hso
      have HMM := Lib.hid hmem
      have HND := Lib.hid HC.out.1
      have hgr : ∀ W, wr.grownBy W (Value.slice G ss.length g).ownBlock → Below gB w W := fun W hW => hb.grown hW (by rw [HGB.out]; exact hb.size) (fun j hj => by have := (hrow.lt j hj).1; omega)
      have HGR := Lib.hid hgr
      clear hso hmem hss hrg hrow HC r3 hgr hb
      go_wp2_with (first | (go_at_call 44; refine HSO.out.mono ?_; rintro e w7 ⟨rfl, ts, hp, hpw, hown7, hg7⟩))
      go_ret
      have hlen := hp.length_eq
      refine ⟨⟨ts, G, g, ord_of hp HND.out HMM.out (by rw [← HF.out]; exact hpw), by omega, by rw [hlen]; rfl, by omega, ?_⟩, by rw [← HGB.out]; exact HGR.out _ hg7⟩
      rw [hlen] at hown7 ⊢
      exact Sl.of_own hown7
    · intro x cv kl yd yp w2 cnt2 hkey hlk hv hat hrg2 hlt2 hg2 hs2 hen
      obtain ⟨x', ex, rfl, hxl⟩ := Maps.keyOf_str Try.underlying9 hkey
      obtain rfl : x = x' := encStr_inj ex
      have hhas : Maps.has D (.string x) = true := has_true_of_atKey hat
      have hcv : cv = (f x : Int) := by
        obtain ⟨c', hc', hy, _⟩ := plainElem_int_inv Try.underlying3 hv
        have h1 := hat (.lit (.int .i64 0))
        rw [HAT.out x] at h1
        simp only [Value.int.injEq, true_and] at hc'
        simp only [Prod.mk.injEq] at hy
        rw [hy.1] at h1
        simp only [DataW.lit.injEq, Lit.int.injEq, true_and] at h1
        omega
      subst hcv
      have hrow2 := hrow.kept hg2 (Or.inr (row_ne_iter hrow hrg).symm)
      have r32 := r3.grown hg2 (fun e => by have := Option.some.inj e; omega)
      have hb2 := hb.grown hg2 (by rw [HGB.out]; exact hb.size) (fun j hj => by cases hj; omega)
      have hsz2 : r + 1 ≤ w2.heap.size := by rw [hs2]; exact hsz
      by_cases hge : 2 ≤ f x
      · have HC2 := Lib.hid (coll_step HC.out hlk hhas hge)
        obtain ⟨v0, hv0⟩ : ∃ v, v = f x := ⟨_, rfl⟩
        rw [← hv0] at hge hen ⊢
        have t1 : decide ((2 : Int) ≤ (v0 : Int)) = true := decide_eq_true (by omega)
        have t2 : decide (2 ≤ v0) = true := decide_eq_true hge
        clear hs2 hkey hlk hv hat ex hhas hv0 hb hrow r3 HC hxl
        go_wp2_with (first
          | (at_builtin; refine wpList_append_own _ rfl _ _ 57 rfl (r + 1) 9 i0 (.string ⟨#[]⟩) 1 16 Try.underlying57 hi hz0 hz1 hz2 rfl (by decide) _ _ _ rfl (hrow2.alloc _) ⟨w2.heap.size, 0, none⟩ 1 1 [encStr x] rfl rfl (cell_one_new _ _ _) (by simp [Value.oneCell', encStr]) (by unfold maxLen at *; omega) (by omega) (by simp; omega) ?_; intro v' w3 hown' hg3 hnil3; go_frame))
        have hrg3 := (hrg2.alloc _).kept hg3 (row_ne_low hrow2 (by omega)) (row_ne_low hrow2 (by omega))
        have r33 := (r32.alloc _).grown hg3 (row_ne_low hrow2 (by omega))
        go_roundw
        case rel =>
          refine ⟨_, cnt2, ss ++ [x], hrg3, by simp; omega, by simpa using hown', HC2, r33, Nat.le_trans (by simp; omega) hg3.size, ?_⟩
          exact (hb2.alloc (by rw [HGB.out]; exact hb2.size) _).grown hg3 (by have := hb2.size; rw [HGB.out]; simp; omega) (fun j hj => by have := (hrow2.lt j hj).1; omega)
        case measure => rw [hrg3.left_eq, hrg.left_eq]; exact hlt2
      · have HC2 := Lib.hid (coll_skip (x := x) HC.out hge)
        obtain ⟨v0, hv0⟩ : ∃ v, v = f x := ⟨_, rfl⟩
        rw [← hv0] at hge hen ⊢
        have t1 : decide ((2 : Int) ≤ (v0 : Int)) = false := decide_eq_false (by omega)
        have t2 : decide (2 ≤ v0) = false := decide_eq_false hge
        clear hs2 hkey hlk hv hat ex hhas hv0 hb hrow r3 HC hxl
        go_wp2
        go_roundw
        case rel => exact ⟨_, cnt2, ss, hrg2, by omega, hrow2, HC2, r32, hsz2, hb2⟩
        case measure => rw [hrg2.left_eq, hrg.left_eq]; exact hlt2
end Go.Proofs.Ytcmbpniikcghfaa
