/-
  The walks of ModelTrustsRepetition.
-/
import Derived.Test.YtgpacgmgdnongaaLRepP
import Derived.Test.YtgpacgmgdnongaaMLaw
namespace Go.Proofs.Ytgpacgmgdnongaa.lawRep
open Go.RowKit

set_option maxRecDepth 100000 in
set_option maxHeartbeats 4000000 in
theorem walk_out (x : UInt8) (n : Int) (h : n < 0 ∨ 100 < n) (w : World) :
    Calls Try.prog 7 #[.int .u8 (x.toNat : Int), .int .i64 n] w fun e w' => e = .returned (.bool true) ∧ Below w.heap.size w w' := by
  have H := Lib.hid h
  clear h
  go_enter Try.func7, Try.ntmps7
  go_wp2_with (first
    | (go_at_call 10; refine (predicts_any _).mono ?_; rintro e w10 ⟨rfl, hb10⟩)
    | (go_at_call 12; refine (in_no n 0 100 H.out _).mono ?_; rintro e w13 ⟨rfl, h13⟩; subst w13))
  go_ret
  exact ⟨rfl, hb10⟩

set_option maxRecDepth 100000 in
set_option maxHeartbeats 8000000 in
theorem walk_in (x : UInt8) (T : Nat) (hT : T ≤ 100) (w : World) :
    Calls Try.prog 7 #[.int .u8 (x.toNat : Int), .int .i64 T] w fun e w' => e = .returned (.bool true) ∧ Below w.heap.size w w' := by
  obtain ⟨i0, hi, hz0, hz1, hz2⟩ := info_parts infoI
  have hx2 := x.toNat_lt
  go_enter Try.func7, Try.ntmps7
  go_upto_region 7 with (first
    | (go_at_call 10; refine (predicts_any _).mono ?_; rintro e w10 ⟨rfl, hb10⟩)
    | (go_at_call 12; refine (in_yes T 0 100 (by omega) (by omega) _).mono ?_; rintro e w13 ⟨rfl, h13⟩; subst w13))
  go_loopw [5, 6] (fun v i wr => ∃ j : Nat, j ≤ T ∧ i = .int .i64 j ∧ wr.ownsRow w.heap.size 3 1 v (8 * j) (il (rep x j)) ∧ Below w.heap.size w wr) (fun _ i _ => T - (intOf i).toNat)
  case atStart => exact ⟨0, Nat.zero_le _, rfl, by rw [show rep x 0 = [] from rfl, il_nil]; exact World.ownsRow_nil _ _ _ _, hb10⟩
  case round =>
    clear hb10
    obtain ⟨j, hj, rfl, ho, hb⟩ := hrel
    by_cases hlt : j < T
    · have hall : Calls Try.prog 17 #[.slice (some ⟨wr.heap.size, 0, none⟩) 1 1] (wr.alloc (.cells #[.int .u8 (x.toNat : Int)] 5)) fun e w' => ∃ A c, e = .returned (.slice A 8 c) ∧ Sl w' w'.heap.size A 8 (il (allB [x])) ∧ Below wr.heap.size wr w' := by
        have h := allbits_any [x] (by simp) (some ⟨wr.heap.size, 0, none⟩) 1 (wr.alloc (.cells #[.int .u8 (x.toNat : Int)] 5)) (by
          have h := Sl.one wr 5 (.int .u8 (x.toNat : Int))
          have e1 : bl [x] = [.int .u8 (x.toNat : Int)] := by unfold bl; rfl
          rw [e1]
          exact h.wider (by simp))
        refine h.mono fun e w' ⟨v, h1, h2, h3⟩ => ?_
        obtain ⟨A, c, rfl, _, _⟩ := own_form h2
        exact ⟨A, c, h1, Sl.of_own h2, up_call ((Below.refl _ _).alloc (Nat.le_refl _) _) h3⟩
      have HALL := Lib.hid hall
      have HO := Lib.hid ho
      clear hall ho
      go_wp2_with (first
        | (go_at_call 17; refine HALL.out.mono ?_; rintro e w23 ⟨A23, c23, rfl, hS23, hb23⟩)
        | (at_builtin; refine wpList_app _ rfl _ _ _ rfl w.heap.size 3 i0 (.int .i64 0) 8 Try.underlying22 hi hz0 hz1 hz2 rfl _ (8 * j) _ rfl (own_same HO.out (fun k hk => hb23.block k (HO.out.lt k hk).2)) w23.heap.size A23 8 c23 (il (allB [x])) rfl hS23 (il_one _) (by unfold maxLen; omega) (by omega) (Nat.le_trans hb.size hb23.size) ?_; intro v2 w24 hown24 hgr24))
      go_roundw
      case rel => exact ⟨j + 1, by omega, by go_num, by rw [show rep x (j + 1) = rep x j ++ allB [x] from rfl, il_append]; exact hown24, blw_grown (up_call hb hb23) hgr24 (Nat.le_trans hb.size hb23.size) (own_same HO.out (fun k hk => hb23.block k (HO.out.lt k hk).2)) (Nat.le_refl _)⟩
      case measure => simp [intOf]; omega
    · obtain rfl : j = T := by omega
      obtain ⟨A1, c1, rfl, hc1, hcm1⟩ := own_form ho
      have hpd := predict_ok 0 (by omega) (rep x j) (by rw [rep_length]; omega) A1 c1 (by rw [rep_length]; exact hc1) wr (by rw [rep_length]; exact Sl.of_own ho)
      rw [rep_length] at hpd
      obtain ⟨m, hm⟩ : ∃ m, m = 8 * j + 1 := ⟨_, rfl⟩
      have hpd2 : Calls Try.prog 8 #[.int .i64 0, .slice A1 (8 * j) c1] wr fun e w' => ∃ A2 c2, e = .returned (.tuple #[.slice A2 m c2, .agg (flt 0 0)]) ∧ Sl w' w'.heap.size A2 m (nl (preds 0 (rep x j) m)) ∧ Below wr.heap.size wr w' := by
        refine hpd.mono fun e w' ⟨v, h1, h2, h3⟩ => ?_
        rw [← hm] at h2
        obtain ⟨A, c, rfl, _, _⟩ := own_form h2
        exact ⟨A, c, h1, Sl.of_own h2, h3⟩
      have hcell : ∀ t, t ≤ j → (preds 0 (rep x j) m).getD (8 * t) 0 = pT (bt [x] 0) t := fun t ht => by
        rw [preds_getD 0 _ m _ (by omega), rep_take x t j ht, pred_rep x t (by omega)]
      obtain ⟨ns, hns⟩ : ∃ ns, ns = preds 0 (rep x j) m := ⟨_, rfl⟩
      rw [← hns] at hpd2 hcell
      have HP := Lib.hid hpd2
      have HC := Lib.hid hcell
      have hm2 : (m : Int) = 8 * (j : Int) + 1 := by omega
      have b1 : ((m : Int) != 8 * (j : Int) + 1) = false := by rw [hm2, bne, beq_self_eq_true]; rfl
      have HM := Lib.hid hm
      clear hpd hpd2 hcell hns ho hm hm2
      go_upto_region 11 with (first
        | (go_at_call 8; refine HP.out.mono ?_; rintro e w27 ⟨A2, c2, rfl, hS27, hb27⟩)
        | (refine wpList_store_row rfl 24 _ _ rfl w27.heap.size (flt 0 0) rfl rfl 24 (flt 0 0) (Row.newEq _ _ _ _ _ rfl rfl) (by rw [flt_size]; exact cellsF) rfl (all_one (flt_one _ _)) ?_))
      have hk1 := up_call hb27 (blw_new1 w27 (.cells #[.int .i64 0, .int .i64 0] 24) (flt 0 0))
      refine wp_world (F := fun W => Row W w27.heap.size 24 (flt 0 0) ∧ Sl W W.heap.size A2 m (nl ns) ∧ Below w.heap.size w W) ⟨row_new1 _ _ _ _, hS27.up (blw_new1 _ _ _), up_call hb hk1⟩ ?_
      generalize w27.heap.size = g8
      clear hk1 hS27 hb27 HP hb wr
      rintro W3 ⟨r8, hS, hb⟩
      have k0 : W3.cell? ⟨g8, 0, none⟩ = some (.int .i64 0) := (r8.cell 0).trans rfl
      go_upto_region 14 with fail
      clear k0 r8 b1
      go_loopw [9] (fun i wr => ∃ t : Nat, 1 ≤ t ∧ t ≤ j + 1 ∧ i = .int .i64 ((8 * t : Nat) : Int) ∧ Sl wr wr.heap.size A2 m (nl ns) ∧ Below w.heap.size w wr) (fun i _ => m + 16 - (intOf i).toNat)
      case atStart => exact ⟨1, Nat.le_refl _, by omega, rfl, hS, hb⟩
      case round =>
        clear hS hb
        obtain ⟨t, ht1, ht2, rfl, hS, hb⟩ := hrel
        have hm := HM.out
        by_cases hlt : t ≤ j
        · have h1 := HC.out t hlt
          have h2 := HC.out (t - 1) (by omega)
          obtain ⟨q, hq⟩ : ∃ q, q = 8 * t := ⟨_, rfl⟩
          obtain ⟨r, hr⟩ : ∃ r, r = 8 * (t - 1) := ⟨_, rfl⟩
          rw [← hq] at h1 ⊢
          rw [← hr] at h2
          have hqm : q < m := by omega
          have hrm : r < m := by omega
          obtain ⟨ad, hA, _, hc1⟩ := hS.nat hqm
          obtain ⟨ad2, hA2, _, hc2⟩ := hS.nat hrm
          subst hA
          injection hA2 with hA2
          subst hA2
          rw [h1] at hc1
          rw [h2] at hc2
          have hmono : if bt [x] 0 = true then pT (bt [x] 0) (t - 1) ≤ pT (bt [x] 0) t else pT (bt [x] 0) t ≤ pT (bt [x] 0) (t - 1) := by
            have e1 : t - 1 + 1 = t := by omega
            cases bt [x] 0 with
            | true => have h := up_all (t - 1) (by omega); rw [e1] at h; simpa using h
            | false => have h := down_all (t - 1) (by omega); rw [e1] at h; simpa using h
          have hb1 := bt_first x
          obtain ⟨y1, hy1⟩ : ∃ y, y = pT (bt [x] 0) t := ⟨_, rfl⟩
          obtain ⟨y2, hy2⟩ : ∃ y, y = pT (bt [x] 0) (t - 1) := ⟨_, rfl⟩
          rw [← hy1] at hc1 hmono
          rw [← hy2] at hc2 hmono
          have e2 : (q : Int) - 8 = (r : Int) := by omega
          have e3 : IntKind.i64.wrap (r : Int) = (r : Int) := by rw [IntKind.wrap_i64]; omega
          have z1 : (0 : Int) ≤ (q : Int) := by omega
          have z5 : (q : Int) ≤ 1000 := by omega
          have z2 : (q : Int) < (m : Int) := by omega
          have z3 : (0 : Int) ≤ (r : Int) := by omega
          have z4 : (r : Int) < (m : Int) := by omega
          have HS := Lib.hid hS
          have HQ := Lib.hid hq
          clear h1 h2 hy1 hy2 hS hq hr hm
          go_upto_region 16 with fail
          by_cases h128 : 128 ≤ x.toNat
          · rw [decide_eq_true h128] at hb1
            rw [hb1, if_pos rfl] at hmono
            have g1 : decide ((128 : Int) ≤ (x.toNat : Int)) = true := decide_eq_true (by omega)
            have g2 : decide ((x.toNat : Int) < 128) = false := decide_eq_false (by omega)
            have g3 : decide ((y1 : Int) < (y2 : Int)) = false := decide_eq_false (by omega)
            have g4 : decide (y1 < y2) = false := decide_eq_false (by omega)
            clear hb1 hmono
            go_quiet (fail)
            go_wp2
            go_roundw
            case rel => exact ⟨t + 1, by omega, by omega, by rw [show 8 * (t + 1) = q + 8 by have := HQ.out; omega]; go_num, HS.out.drewN _, blw_drewN hb _⟩
            case measure => simp [intOf]; omega
          · rw [decide_eq_false h128] at hb1
            rw [hb1, if_neg (by decide)] at hmono
            have g1 : decide ((128 : Int) ≤ (x.toNat : Int)) = false := decide_eq_false (by omega)
            have g2 : decide ((x.toNat : Int) < 128) = true := decide_eq_true (by omega)
            have g3 : decide ((y2 : Int) < (y1 : Int)) = false := decide_eq_false (by omega)
            have g4 : decide (y2 < y1) = false := decide_eq_false (by omega)
            clear hb1 hmono
            go_quiet (fail)
            go_wp2
            go_roundw
            case rel => exact ⟨t + 1, by omega, by omega, by rw [show 8 * (t + 1) = q + 8 by have := HQ.out; omega]; go_num, HS.out.drewN _, blw_drewN hb _⟩
            case measure => simp [intOf]; omega
        · obtain ⟨q, hq⟩ : ∃ q, q = 8 * t := ⟨_, rfl⟩
          rw [← hq]
          have hcond : decide ((q : Int) < (m : Int)) = false := decide_eq_false (by omega)
          have hcond2 : decide (q < m) = false := decide_eq_false (by omega)
          clear hm hq
          go_wp2
          go_ret
          exact ⟨rfl, hb⟩
end Go.Proofs.Ytgpacgmgdnongaa.lawRep
