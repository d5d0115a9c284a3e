/-
  The walks of DictionaryIgnoresOrder, where package dictionary keeps its contracts. (Written by cards/gen_DiOr.py.)
-/
import Derived.Test.YtcmbpniikcghfaaYP
import Derived.Test.YtcmbpniikcghfaaYV
import Derived.Test.YtcmbpniikcghfaaRKit
import Derived.Test.YtcmbpniikcghfaaRSub
import Derived.BigQuiet
namespace Go.Proofs.Ytcmbpniikcghfaa.lawDiOr
open Go.RowKit Go.Proofs.Ytcmbpniikcghfaa

theorem long_no {Ls : List (List UInt8)} (h : ∀ X ∈ Ls, X.length ≤ 1024) : ∀ i, ¬ (longF Ls i).1 = 3 := by
  induction Ls with
  | nil => exact fun i => (show ¬ ((0 : Int) = 3) by decide)
  | cons L ls ih =>
    intro i
    rw [longF, if_neg (by have := h L (List.mem_cons_self ..); omega)]
    exact ih (fun X hX => h X (List.mem_cons_of_mem _ hX)) (i + 1)

set_option maxRecDepth 100000 in
set_option maxHeartbeats 16000000 in
theorem walk_bad (hp : PTrains) (h : PTrainBad) (Ss : List (List UInt8)) (N : Nat) (at_ size : Int) (hN : N = Ss.length) (hi : i64R size) (hz : (trF Ss size (-1) (-2)).1 ≠ 0) (A : Option Addr) (c : Nat) (w : World) (hml : ML w) (hA : Sls w w.heap.size A N Ss) :
    Calls Try.prog 5 #[.slice A N c, .int .i64 at_, .int .i64 size] w fun e w' => e = .returned (.bool true) ∧ Below w.heap.size w w' := by
  have hb0 := h Ss N size hN hi hz A c w hA
  obtain ⟨k, i, hk⟩ : ∃ k i, trF Ss size (-1) (-2) = (k, i) := ⟨_, _, rfl⟩
  rw [hk] at hb0 hz
  simp only at hb0 hz
  have e1 : (k == 0) = false := beq_eq_false_iff_ne.2 hz
  have e2 : (k != 0) = true := by rw [bne, e1]; rfl
  clear hk
  have HB := Lib.hid hb0
  have HP := Lib.hid hp
  have HML := Lib.hid hml
  clear hml hz hb0 hp h hA hN hi
  go_enter Try.func5, Try.ntmps5
  go_upto_region 2 with (first
    | (go_at_call 8; refine HB.out.mono ?_; rintro e w1 ⟨⟨G, g, rfl⟩, hb1⟩)
    | (refine wpList_store_row rfl 25 _ _ rfl w1.heap.size (flt k i) rfl rfl 25 (flt 0 0) (Row.newEq _ _ _ _ _ rfl rfl) (by rw [flt_size]; exact cellsF) rfl (all_one (flt_one _ _)) ?_))
  have hk2 := up_call hb1 (blw_new1 w1 (.cells #[.int .i64 0, .int .i64 0] 25) (flt k i))
  refine wp_world (F := fun W => Row W w1.heap.size 25 (flt k i) ∧ Below w.heap.size w W) ⟨row_new1 _ _ _ _, hk2⟩ ?_
  generalize w1.heap.size = g8
  clear hb1 hk2 HB
  rintro W1 ⟨r8, hb⟩
  go_wp2_with (first
    | (go_at_call 12; refine (HP.out W1 (HML.out.below (by first | assumption | exact up_call hb hb4 | exact up_call hbb hb6 | exact up_call hbb hb5 | exact up_call (up_call hb hb4) hb5 | exact up_call (up_call hb hb4) hb6))).mono ?_; rintro e w4 ⟨rfl, hb4⟩; have q8 := r8.below hb4 r8.lt; have z8 : w4.cell? ⟨g8, 0, none⟩ = some (.int .i64 k) := (q8.cell 0).trans rfl)
    | (go_at_call 12; refine (HP.out w4 (HML.out.below (by first | assumption | exact up_call hb hb4 | exact up_call hbb hb6 | exact up_call hbb hb5 | exact up_call (up_call hb hb4) hb5 | exact up_call (up_call hb hb4) hb6))).mono ?_; rintro e w5 ⟨rfl, hb5⟩; have y8 := q8.below hb5 q8.lt; have x8 : w5.cell? ⟨g8, 0, none⟩ = some (.int .i64 k) := (y8.cell 0).trans rfl))
  go_ret
  exact ⟨rfl, up_call (up_call hb hb4) hb5⟩

set_option maxRecDepth 100000 in
set_option maxHeartbeats 16000000 in
theorem walk_out (hp : PTrains) (h : PTrain) (Ss : List (List UInt8)) (N size : Nat) (at_ : Int) (hN : N = Ss.length) (hz : ¬ (trF Ss size (-1) (-2)).1 ≠ 0) (ha : ¬ (0 ≤ at_ ∧ at_ ≤ (N : Int))) (A : Option Addr) (c : Nat) (hc : N ≤ c) (w : World) (hml : ML w) (hA : Sls w w.heap.size A N Ss) :
    Calls Try.prog 5 #[.slice A N c, .int .i64 at_, .int .i64 (size : Nat)] w fun e w' => e = .returned (.bool true) ∧ Below w.heap.size w w' := by
  obtain ⟨hal, hN64, hle, hs0, hs5⟩ := trF_ok hz
  have hN6 : N ≤ 64 := by omega
  have hb0 := h Ss N size hN hal A c hc w hml hA
  have hin := fun w => in_no at_ 0 (N : Int) (by omega) w
  have HI := Lib.hid hin
  have HB0 := Lib.hid hb0
  have HP := Lib.hid hp
  have HML := Lib.hid hml
  clear hml hz hb0 hp h hA hN hle hal hin ha hs0
  go_enter Try.func5, Try.ntmps5
  go_upto_region 2 with (first
    | (go_at_call 8; refine HB0.out.mono ?_; rintro e w1 ⟨⟨R, G, g, hR, rfl, _, sR⟩, hb1⟩)
    | (refine wpList_store_row rfl 25 _ _ rfl w1.heap.size (flt 0 0) rfl rfl 25 (flt 0 0) (Row.newEq _ _ _ _ _ rfl rfl) (by rw [flt_size]; exact cellsF) rfl (all_one (flt_one _ _)) ?_))
  have hk1 := blw_new1 w1 (.cells #[.int .i64 0, .int .i64 0] 25) (flt 0 0)
  have hk2 := up_call hb1 hk1
  refine wp_world (F := fun W => Row W w1.heap.size 25 (flt 0 0) ∧ Below w.heap.size w W) ⟨row_new1 _ _ _ _, hk2⟩ ?_
  generalize w1.heap.size = g8
  clear hb1 hk1 hk2 HB0 sR hR
  rintro W1 ⟨r8, hb⟩
  go_wp2_with (first
    | (go_at_call 12; refine (HP.out W1 (HML.out.below (by first | assumption | exact up_call hb hb4 | exact up_call hbb hb6 | exact up_call hbb hb5 | exact up_call (up_call hb hb4) hb5 | exact up_call (up_call hb hb4) hb6))).mono ?_; rintro e w4 ⟨rfl, hb4⟩; have q8 := r8.below hb4 r8.lt; have z8 : w4.cell? ⟨g8, 0, none⟩ = some (.int .i64 0) := (q8.cell 0).trans rfl)
    | (go_at_call 10; refine (HI.out _).mono ?_; rintro e w9 ⟨rfl, h9⟩; subst w9)
    | (go_at_call 12; refine (HP.out w4 (HML.out.below (by first | assumption | exact up_call hb hb4 | exact up_call hbb hb6 | exact up_call hbb hb5 | exact up_call (up_call hb hb4) hb5 | exact up_call (up_call hb hb4) hb6))).mono ?_; rintro e w5 ⟨rfl, hb5⟩; have y8 := q8.below hb5 q8.lt; have x8 : w5.cell? ⟨g8, 0, none⟩ = some (.int .i64 0) := (y8.cell 0).trans rfl))
  go_ret
  exact ⟨rfl, up_call (up_call hb hb4) hb5⟩

set_option maxRecDepth 100000 in
set_option maxHeartbeats 16000000 in
theorem walk_ok (hp : PTrains) (h : PTrain) (Ss : List (List UInt8)) (N size t : Nat) (hN : N = Ss.length) (hz : ¬ (trF Ss size (-1) (-2)).1 ≠ 0) (ha : t ≤ N) (A : Option Addr) (c : Nat) (hc : N ≤ c) (w : World) (hml : ML w) (hA : Sls w w.heap.size A N Ss) :
    Calls Try.prog 5 #[.slice A N c, .int .i64 (t : Nat), .int .i64 (size : Nat)] w fun e w' => e = .returned (.bool true) ∧ Below w.heap.size w w' := by
  obtain ⟨i0, hi0, hz0, hz1, hz2⟩ := info_parts infoSl
  obtain ⟨hal, hN64, hle, hs0, hs5⟩ := trF_ok hz
  have hN6 : N ≤ 64 := by omega
  have hb0 := h Ss N size hN hal A c hc w hml hA
  have hin := fun w => in_yes (t : Int) 0 (N : Int) (by omega) (by omega) w
  obtain ⟨ps, hps, hpl, hpA, hpo⟩ := hA.pairs
  have hpm : Ss.Perm ((turnP ps t 0).map (·.2)) := by
    rw [hps]
    exact ((turn_perm ps t).map _).symm
  have hal2 : trF ((turnP ps t 0).map (·.2)) size (-1) (-2) = (0, 0) := by
    have hl : ((turnP ps t 0).map (·.2)).length = N := by rw [← hpm.length_eq, ← hN]
    have hall : ∀ X ∈ (turnP ps t 0).map (·.2), X.length ≤ 1024 := fun X hX => hle X (hpm.mem_iff.2 hX)
    have hsm : smF ((turnP ps t 0).map (·.2)) (-1) = (0, 0) := by
      unfold smF
      rw [if_neg (by omega)]
      rcases longF_kind ((turnP ps t 0).map (·.2)) 0 with ⟨h2, _⟩ | h2
      · exact h2
      · exact absurd h2 (long_no hall 0)
    unfold trF
    rw [hsm]
    exact (if_pos rfl).trans (if_pos ⟨hs0, hs5⟩)
  have htr := fun (w : World) (B : Option Addr) (d : Nat) (hd : N ≤ d) hM hS => h ((turnP ps t 0).map (·.2)) N size (by rw [← hpm.length_eq, ← hN]) hal2 B d hd w hM hS
  have HI := Lib.hid hin
  have HB0 := Lib.hid hb0
  have HP := Lib.hid hp
  have HML := Lib.hid hml
  have HPA := Lib.hid hpA
  have HPO := Lib.hid hpo
  have HPL := Lib.hid hpl
  have HPM := Lib.hid hpm
  have HTR := Lib.hid htr
  clear hml hz hb0 hp h hA hN hle hal hin hs0 hps hpl hpA hpo hpm hal2 htr
  go_enter Try.func5, Try.ntmps5
  go_upto_region 2 with (first
    | (go_at_call 8; refine HB0.out.mono ?_; rintro e w1 ⟨⟨R, G, g, hR, rfl, _, sR⟩, hb1⟩)
    | (refine wpList_store_row rfl 25 _ _ rfl w1.heap.size (flt 0 0) rfl rfl 25 (flt 0 0) (Row.newEq _ _ _ _ _ rfl rfl) (by rw [flt_size]; exact cellsF) rfl (all_one (flt_one _ _)) ?_))
  have HR := Lib.hid hR
  obtain ⟨m, hm⟩ : ∃ m, m = R.length := ⟨_, rfl⟩
  rw [← hm] at sR ⊢
  have HM := Lib.hid hm
  have hk1 := blw_new1 w1 (.cells #[.int .i64 0, .int .i64 0] 25) (flt 0 0)
  have hk2 := up_call hb1 hk1
  refine wp_world (F := fun W => Row W w1.heap.size 25 (flt 0 0) ∧ Sl W W.heap.size G m (bl R) ∧ Below w.heap.size w W) ⟨row_new1 _ _ _ _, sR.up hk1, hk2⟩ ?_
  generalize w1.heap.size = g8
  clear hb1 hk1 hk2 HB0 sR hR hm
  rintro W1 ⟨r8, sR, hb⟩
  go_upto_region 4 with (first
    | (go_at_call 12; refine (HP.out W1 (HML.out.below (by first | assumption | exact up_call hb hb4 | exact up_call hbb hb6 | exact up_call hbb hb5 | exact up_call (up_call hb hb4) hb5 | exact up_call (up_call hb hb4) hb6))).mono ?_; rintro e w4 ⟨rfl, hb4⟩; have q8 := r8.below hb4 r8.lt; have z8 : w4.cell? ⟨g8, 0, none⟩ = some (.int .i64 0) := (q8.cell 0).trans rfl)
    | (go_at_call 10; refine (HI.out _).mono ?_; rintro e w9 ⟨rfl, h9⟩; subst w9))
  have hbb := up_call hb hb4
  have uR := sR.up hb4
  have uA := HPA.out.up hbb
  clear r8 q8 z8 sR hb hb4 HPA HI HP
  have sK := uA.cut (k := t) (cap := c) ha hc
  rw [← List.map_drop] at sK
  have k0 : (0 : Int) ≤ (t : Int) := by omega
  have k1 : (t : Int) ≤ (N : Int) := by omega
  have k2 : (N : Int) ≤ (c : Int) := by omega
  have hcase : (c = t ∧ N - t = 0) ∨ ¬ c = t := by omega
  rcases hcase with ⟨hct, hnt⟩ | hct
  · rw [if_pos hct, hnt] at sK
    have h2 : t = c := hct.symm
    clear hct
    subst h2
    go_upto_region 6 with (first
      | (at_builtin; refine wpList_app _ rfl _ _ _ rfl w4.heap.size 23 i0 (.slice none 0 0) 24 Try.underlying22 hi0 hz0 hz1 hz2 rfl (.slice none 0 0) 0 [] rfl (World.ownsRow_nil _ _ _ _) w4.heap.size _ 0 _ _ rfl sK (fun u hu => by obtain ⟨p, hp, rfl⟩ := List.mem_map.1 hu; exact (HPO.out p (List.mem_of_mem_drop hp)).one) (by unfold maxLen; omega) (by omega) (Nat.le_refl _) ?_; intro v7 w7 hown7 hg7; have hb7 := blw_grown (Below.refl w4.heap.size w4) hg7 (Nat.le_refl _) (World.ownsRow_nil w4 w4.heap.size 23 1) (Nat.le_refl _)))
    rw [List.nil_append, Nat.zero_add] at hown7
    have hrow : w7.ownsRow w4.heap.size 23 1 v7 (N - t) ((turnP ps t t).map (·.1)) := by
      rw [turn_start, hnt]
      exact hown7
    have HO7 := Lib.hid hrow
    have hx7 := hb7
    clear hown7 hg7 sK hrow hnt
    go_upto_region 7 with (fail)
    go_loopw [9, 10] (fun v i wr => ∃ j n : Nat, j ≤ t ∧ i = .int .i64 ((j : Int) - 1) ∧ n + j = N ∧ Hid (wr.ownsRow w4.heap.size 23 1 v n ((turnP ps t j).map (·.1))) ∧ Below w4.heap.size w4 wr) (fun _ i _ => (intOf i + 1).toNat)
    case atStart => exact ⟨t, N - t, Nat.le_refl _, by go_num, by omega, HO7, hx7⟩
    case round =>
      clear HO7 hx7
      obtain ⟨j, n, hj, rfl, hnj, HO, hbr⟩ := hrel
      obtain ⟨A9, c9, hv9, hc9, hm9⟩ := own_form HO.out
      subst hv9
      by_cases hj0 : j = 0
      · subst hj0
        have t1 : decide ((0 : Int) ≤ ((0 : Nat) : Int) - 1) = false := by decide
        have hnN : n = N := by omega
        subst hnN
        have sT : Sls wr wr.heap.size A9 n ((turnP ps t 0).map (·.2)) := Sls.of_pairs (Sl.of_own HO.out) fun p hp => (HPO.out p (turn_mem ps t 0 p hp)).up (hbb.trans (hbr.mono hbb.size))
        have uR9 := uR.up hbr
        have hbb9 := hbb.trans (hbr.mono hbb.size)
        clear HO hbr uR uA hbb
        go_upto_region 11 with (first
          | (go_at_call 8; refine (HTR.out _ _ _ hc9 (HML.out.below hbb9) sT).mono ?_; rintro e w5 ⟨⟨R2, G2, g2, hR2, rfl, _, s2⟩, hb5⟩; obtain rfl := train_one (train_perm HPM.out HR.out) hR2; rw [← HM.out] at s2; rw [← HM.out])
          | (refine wpList_store_row rfl 25 _ _ rfl w5.heap.size (flt 0 0) rfl rfl 25 (flt 0 0) (Row.newEq _ _ _ _ _ rfl rfl) (by rw [flt_size]; exact cellsF) rfl (all_one (flt_one _ _)) ?_))
        have hk1 := blw_new1 w5 (.cells #[.int .i64 0, .int .i64 0] 25) (flt 0 0)
        have hk2 := up_call hb5 hk1
        refine wp_world (F := fun W => Row W w5.heap.size 25 (flt 0 0) ∧ Sl W W.heap.size G2 m (bl R) ∧ Sl W W.heap.size G m (bl R) ∧ Below w.heap.size w W) ⟨row_new1 _ _ _ _, s2.up hk1, uR9.up hk2, up_call hbb9 hk2⟩ ?_
        generalize w5.heap.size = g12
        clear hb5 hk1 hk2 s2 uR9 hbb9 hR2 sT
        rintro W6 ⟨r12, s2, sR, hb⟩
        have k12 : W6.cell? ⟨g12, 0, none⟩ = some (.int .i64 0) := (r12.cell 0).trans rfl
        go_wp2_with (first
          | (go_at_call 14; refine (same_any _ _ R R m m _ _ _ sR s2).mono ?_; rintro e w7 ⟨rfl, h7⟩; subst w7; rw [decide_eq_true rfl]))
        go_ret
        exact ⟨rfl, hb⟩
      · obtain ⟨q, rfl⟩ : ∃ q, j = q + 1 := ⟨j - 1, by omega⟩
        have hqi : ((q + 1 : Nat) : Int) - 1 = (q : Int) := by omega
        rw [hqi]
        have t1 : decide ((0 : Int) ≤ (q : Int)) = true := decide_eq_true (by omega)
        have hql : q < ps.length := by rw [HPL.out]; omega
        have hg := List.getElem?_eq_getElem hql
        have hstep := turn_step ps t q ps[q] (by omega) hg
        obtain ⟨ad, rfl, hadb, hcells⟩ := uA.2 (by omega)
        have k9 : wr.cell? (ad.add q) = some ps[q].1 := (hbr.cell (by rw [add_block]; exact hadb)).trans (hcells q _ (by rw [List.getElem?_map, hg]; rfl))
        have hone := (HPO.out ps[q] (List.getElem_mem hql)).one
        obtain ⟨Ai, ci, hpv, _⟩ := HPO.out ps[q] (List.getElem_mem hql)
        obtain ⟨li, hli⟩ : ∃ l, l = ps[q].2.length := ⟨_, rfl⟩
        rw [hpv, ← hli] at k9
        have HST : Hid ((turnP ps t (q + 1)).map (·.1) ++ [.slice Ai li ci] = (turnP ps t q).map (·.1)) := Lib.hid (by rw [hstep, List.map_append, List.map_singleton, hpv, ← hli])
        have i1 : (0 : Int) ≤ (q : Int) := by omega
        have i2 : (q : Int) < (N : Int) := by omega
        clear hstep hpv hli hone hg hcells hqi hj0
        go_upto_region 8 with (first
          | (at_builtin; refine wpList_app _ rfl _ _ _ rfl w4.heap.size 23 i0 (.slice none 0 0) 24 Try.underlying22 hi0 hz0 hz1 hz2 rfl _ n _ rfl (own_below HO.out ((Below.refl _ _).alloc (Nat.le_refl _) _)) (wr.heap.size + 1) _ 1 _ [_] rfl (Sl.one _ _ _) (fun u hu => by obtain rfl := List.mem_singleton.1 hu; rfl) (by unfold maxLen; omega) (by omega) (Nat.le_trans hbr.size (by simp)) ?_; intro v2 w2 hown2 hg2))
        have hba := up_call hbr ((Below.refl wr.heap.size wr).alloc (Nat.le_refl _) (.cells #[.slice Ai li ci] 23))
        have hb2 := blw_grown hba hg2 hba.size (own_below HO.out ((Below.refl _ _).alloc (Nat.le_refl _) _)) (Nat.le_refl _)
        rw [HST.out] at hown2
        have HO2 := Lib.hid hown2
        clear hown2 hg2 hba k9 hbr HO HST
        obtain ⟨A2, d2, hv2, _, _⟩ := own_form HO2.out
        subst hv2
        go_wp2
        go_roundw
        case rel => exact ⟨q, n + 1, by omega, by go_num, by omega, HO2, hb2⟩
        case measure => (first | (simp [intOf]; done) | (simp [intOf]; omega))
  · rw [if_neg hct] at sK
    obtain ⟨K9, hK⟩ : ∃ K, A.map (·.add t) = K := ⟨_, rfl⟩
    rw [hK] at sK
    go_upto_region 6 with (first
      | (at_builtin; refine wpList_app _ rfl _ _ _ rfl w4.heap.size 23 i0 (.slice none 0 0) 24 Try.underlying22 hi0 hz0 hz1 hz2 rfl (.slice none 0 0) 0 [] rfl (World.ownsRow_nil _ _ _ _) w4.heap.size _ (N - t) _ _ rfl sK (fun u hu => by obtain ⟨p, hp, rfl⟩ := List.mem_map.1 hu; exact (HPO.out p (List.mem_of_mem_drop hp)).one) (by unfold maxLen; omega) (by omega) (Nat.le_refl _) ?_; intro v7 w7 hown7 hg7; have hb7 := blw_grown (Below.refl w4.heap.size w4) hg7 (Nat.le_refl _) (World.ownsRow_nil w4 w4.heap.size 23 1) (Nat.le_refl _)))
    clear hK
    rw [List.nil_append, Nat.zero_add] at hown7
    have hrow : w7.ownsRow w4.heap.size 23 1 v7 (N - t) ((turnP ps t t).map (·.1)) := by
      rw [turn_start]
      exact hown7
    have HO7 := Lib.hid hrow
    have hx7 := hb7
    clear hown7 hg7 sK hrow
    go_upto_region 7 with (fail)
    go_loopw [9, 10] (fun v i wr => ∃ j n : Nat, j ≤ t ∧ i = .int .i64 ((j : Int) - 1) ∧ n + j = N ∧ Hid (wr.ownsRow w4.heap.size 23 1 v n ((turnP ps t j).map (·.1))) ∧ Below w4.heap.size w4 wr) (fun _ i _ => (intOf i + 1).toNat)
    case atStart => exact ⟨t, N - t, Nat.le_refl _, by go_num, by omega, HO7, hx7⟩
    case round =>
      clear HO7 hx7
      obtain ⟨j, n, hj, rfl, hnj, HO, hbr⟩ := hrel
      obtain ⟨A9, c9, hv9, hc9, hm9⟩ := own_form HO.out
      subst hv9
      by_cases hj0 : j = 0
      · subst hj0
        have t1 : decide ((0 : Int) ≤ ((0 : Nat) : Int) - 1) = false := by decide
        have hnN : n = N := by omega
        subst hnN
        have sT : Sls wr wr.heap.size A9 n ((turnP ps t 0).map (·.2)) := Sls.of_pairs (Sl.of_own HO.out) fun p hp => (HPO.out p (turn_mem ps t 0 p hp)).up (hbb.trans (hbr.mono hbb.size))
        have uR9 := uR.up hbr
        have hbb9 := hbb.trans (hbr.mono hbb.size)
        clear HO hbr uR uA hbb
        go_upto_region 11 with (first
          | (go_at_call 8; refine (HTR.out _ _ _ hc9 (HML.out.below hbb9) sT).mono ?_; rintro e w5 ⟨⟨R2, G2, g2, hR2, rfl, _, s2⟩, hb5⟩; obtain rfl := train_one (train_perm HPM.out HR.out) hR2; rw [← HM.out] at s2; rw [← HM.out])
          | (refine wpList_store_row rfl 25 _ _ rfl w5.heap.size (flt 0 0) rfl rfl 25 (flt 0 0) (Row.newEq _ _ _ _ _ rfl rfl) (by rw [flt_size]; exact cellsF) rfl (all_one (flt_one _ _)) ?_))
        have hk1 := blw_new1 w5 (.cells #[.int .i64 0, .int .i64 0] 25) (flt 0 0)
        have hk2 := up_call hb5 hk1
        refine wp_world (F := fun W => Row W w5.heap.size 25 (flt 0 0) ∧ Sl W W.heap.size G2 m (bl R) ∧ Sl W W.heap.size G m (bl R) ∧ Below w.heap.size w W) ⟨row_new1 _ _ _ _, s2.up hk1, uR9.up hk2, up_call hbb9 hk2⟩ ?_
        generalize w5.heap.size = g12
        clear hb5 hk1 hk2 s2 uR9 hbb9 hR2 sT
        rintro W6 ⟨r12, s2, sR, hb⟩
        have k12 : W6.cell? ⟨g12, 0, none⟩ = some (.int .i64 0) := (r12.cell 0).trans rfl
        go_wp2_with (first
          | (go_at_call 14; refine (same_any _ _ R R m m _ _ _ sR s2).mono ?_; rintro e w7 ⟨rfl, h7⟩; subst w7; rw [decide_eq_true rfl]))
        go_ret
        exact ⟨rfl, hb⟩
      · obtain ⟨q, rfl⟩ : ∃ q, j = q + 1 := ⟨j - 1, by omega⟩
        have hqi : ((q + 1 : Nat) : Int) - 1 = (q : Int) := by omega
        rw [hqi]
        have t1 : decide ((0 : Int) ≤ (q : Int)) = true := decide_eq_true (by omega)
        have hql : q < ps.length := by rw [HPL.out]; omega
        have hg := List.getElem?_eq_getElem hql
        have hstep := turn_step ps t q ps[q] (by omega) hg
        obtain ⟨ad, rfl, hadb, hcells⟩ := uA.2 (by omega)
        have k9 : wr.cell? (ad.add q) = some ps[q].1 := (hbr.cell (by rw [add_block]; exact hadb)).trans (hcells q _ (by rw [List.getElem?_map, hg]; rfl))
        have hone := (HPO.out ps[q] (List.getElem_mem hql)).one
        obtain ⟨Ai, ci, hpv, _⟩ := HPO.out ps[q] (List.getElem_mem hql)
        obtain ⟨li, hli⟩ : ∃ l, l = ps[q].2.length := ⟨_, rfl⟩
        rw [hpv, ← hli] at k9
        have HST : Hid ((turnP ps t (q + 1)).map (·.1) ++ [.slice Ai li ci] = (turnP ps t q).map (·.1)) := Lib.hid (by rw [hstep, List.map_append, List.map_singleton, hpv, ← hli])
        have i1 : (0 : Int) ≤ (q : Int) := by omega
        have i2 : (q : Int) < (N : Int) := by omega
        clear hstep hpv hli hone hg hcells hqi hj0
        go_upto_region 8 with (first
          | (at_builtin; refine wpList_app _ rfl _ _ _ rfl w4.heap.size 23 i0 (.slice none 0 0) 24 Try.underlying22 hi0 hz0 hz1 hz2 rfl _ n _ rfl (own_below HO.out ((Below.refl _ _).alloc (Nat.le_refl _) _)) (wr.heap.size + 1) _ 1 _ [_] rfl (Sl.one _ _ _) (fun u hu => by obtain rfl := List.mem_singleton.1 hu; rfl) (by unfold maxLen; omega) (by omega) (Nat.le_trans hbr.size (by simp)) ?_; intro v2 w2 hown2 hg2))
        have hba := up_call hbr ((Below.refl wr.heap.size wr).alloc (Nat.le_refl _) (.cells #[.slice Ai li ci] 23))
        have hb2 := blw_grown hba hg2 hba.size (own_below HO.out ((Below.refl _ _).alloc (Nat.le_refl _) _)) (Nat.le_refl _)
        rw [HST.out] at hown2
        have HO2 := Lib.hid hown2
        clear hown2 hg2 hba k9 hbr HO HST
        obtain ⟨A2, d2, hv2, _, _⟩ := own_form HO2.out
        subst hv2
        go_wp2
        go_roundw
        case rel => exact ⟨q, n + 1, by omega, by go_num, by omega, HO2, hb2⟩
        case measure => (first | (simp [intOf]; done) | (simp [intOf]; omega))
end Go.Proofs.Ytcmbpniikcghfaa.lawDiOr
