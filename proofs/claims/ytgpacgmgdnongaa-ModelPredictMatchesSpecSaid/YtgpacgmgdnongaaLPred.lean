/-
  The walks of ModelPredictMatchesSpec.
-/
import Derived.Test.YtgpacgmgdnongaaMLaw
import Derived.Test.YtgpacgmgdnongaaRPrd
namespace Go.Proofs.Ytgpacgmgdnongaa.lawPred
open Go.RowKit

set_option maxRecDepth 100000 in
set_option maxHeartbeats 8000000 in
theorem walk_bad (d : Int) (zs : List Int) (k i : Int) (h : PF d zs k i) (A : Option Addr) (cp : Nat) (w : World) (hS : Sl w w.heap.size A zs.length (zl zs)) :
    Calls Try.prog 3 #[.int .i64 d, .slice A zs.length cp] w fun e w' => e = .returned (.bool true) ∧ Below w.heap.size w w' := by
  have hne : (k != 0) = true := bne_iff_ne.2 h.ne
  have hne2 : (k == 0) = false := beq_eq_false_iff_ne.2 h.ne
  have HP := Lib.hid (predict_bad d zs k i h A cp w hS)
  have HF := Lib.hid (fun W (hW : Below w.heap.size w W) => pfl_bad d zs k i h A cp W (hS.up hW))
  have hnq := neq_flt k i k i
  clear hS h
  go_enter Try.func3, Try.ntmps3
  go_upto_region 2 with (first
    | (go_at_call 8; refine HP.out.mono ?_; rintro e w11 ⟨rfl, hb11⟩)
    | (refine wpList_store_row rfl 24 _ _ rfl w11.heap.size (flt k i) rfl rfl 24 (flt 0 0) (Row.newEq _ _ _ _ _ rfl rfl) (by rw [flt_size]; exact cellsF) rfl (all_one (flt_one _ _)) ?_))
  have hk1 := blw_new1 w11 (.cells #[.int .i64 0, .int .i64 0] 24) (flt k i)
  refine wp_world (F := fun W => Row W w11.heap.size 24 (flt k i) ∧ Below w.heap.size w W) ⟨row_new1 _ _ _ _, up_call hb11 hk1⟩ ?_
  generalize w11.heap.size = g6
  clear hk1 hb11 HP w11
  rintro W1 ⟨r6, hb⟩
  go_upto_region 3 with (first
    | (go_at_call 9; refine (HF.out _ hb).mono ?_; rintro e w17 ⟨rfl, hb17⟩)
    | (refine wpList_store_row rfl 24 _ _ rfl w17.heap.size (flt k i) rfl rfl 24 (flt 0 0) (Row.newEq _ _ _ _ _ rfl rfl) (by rw [flt_size]; exact cellsF) rfl (all_one (flt_one _ _)) ?_))
  have hk1 := up_call hb17 (blw_new1 w17 (.cells #[.int .i64 0, .int .i64 0] 24) (flt k i))
  refine wp_world (F := fun W => Row W g6 24 (flt k i) ∧ Row W w17.heap.size 24 (flt k i) ∧ Below w.heap.size w W) ⟨r6.below hk1 r6.lt, row_new1 _ _ _ _, up_call hb hk1⟩ ?_
  generalize w17.heap.size = g7
  clear hk1 hb17 HF r6 hb w17 W1
  rintro W2 ⟨r6, r7, hb⟩
  go_wp2_with (first
    | (go_at_call 10; refine (predicts_any _).mono ?_; rintro e w18 ⟨rfl, hb18⟩; have q6 := r6.below hb18 r6.lt; have q7 := r7.below hb18 r7.lt; have k0 : w18.cell? ⟨g7, 0, none⟩ = some (.int .i64 k) := (q7.cell 0).trans rfl)
    | (refine wpList_load_rowG (by simp [Region.wanted, yielded, Act.put]) 24 _ rfl g6 rfl 24 (flt k i) (0, 0) _ q6 Try.underlying24 rfl (by rw [flt_size]; exact cellsF) ?_)
    | (refine wpList_load_rowG (by simp [Region.wanted, yielded, Act.put]) 24 _ rfl g7 rfl 24 (flt k i) (0, 0) _ q7 Try.underlying24 rfl (by rw [flt_size]; exact cellsF) ?_))
  have hb2 := up_call hb hb18
  clear k0 q6 q7 r6 r7 hb hb18 W2
  go_loop [8] (fun k => k = .int .i64 0) (fun _ => 0)
  case atStart => rfl
  case round =>
    subst hrel
    go_wp2
    go_ret
    exact ⟨rfl, hb2⟩

set_option maxRecDepth 100000 in
set_option maxHeartbeats 8000000 in
theorem walk_good (d : Nat) (hd : d ≤ 2) (l : List Bool) (hl : l.length < 8192) (A : Option Addr) (cp : Nat) (hcp : l.length ≤ cp) (hcm : cp ≤ maxLen) (w : World) (hS : Sl w w.heap.size A l.length (il l)) :
    Calls Try.prog 3 #[.int .i64 d, .slice A l.length cp] w fun e w' => e = .returned (.bool true) ∧ Below w.heap.size w w' := by
  have HP := Lib.hid (predict_ok d hd l hl A cp hcp w hS)
  have HF := Lib.hid (fun W (hW : Below w.heap.size w W) => pfl_ok d hd l hl A cp W (hS.up hW))
  have HRP := Lib.hid (fun j (hj : j ≤ l.length) W (hW : Below w.heap.size w W) => rpredicted_any l j d hj (by omega) hd A cp hcp hcm W (hS.up hW))
  have hnq := neq_flt 0 0 0 0
  obtain ⟨m, hm⟩ : ∃ m, m = l.length + 1 := ⟨_, rfl⟩
  rw [← hm] at HP
  have hm2 : m ≤ 8192 := by omega
  have hm3 : (m : Int) = (l.length : Int) + 1 := by omega
  have hne : ((m : Int) != (l.length : Int) + 1) = false := by rw [hm3, bne, beq_self_eq_true]; rfl
  obtain ⟨ns, hns⟩ : ∃ ns, ns = preds d l m := ⟨_, rfl⟩
  have hlo : ∀ j, j < m → ns.getD j 0 = predB d (l.take j) := fun j hj => by
    rw [hns, preds_getD d l m j hj]
  rw [← hns] at HP
  have HLO := Lib.hid hlo
  have HM := Lib.hid hm
  clear hS hm hm3 hns hlo
  go_enter Try.func3, Try.ntmps3
  go_upto_region 2 with (first
    | (go_at_call 8; refine HP.out.mono ?_; rintro e w11 ⟨v, rfl, ho, hb11⟩)
    | (refine wpList_store_row rfl 24 _ _ rfl w11.heap.size (flt 0 0) rfl rfl 24 (flt 0 0) (Row.newEq _ _ _ _ _ rfl rfl) (by rw [flt_size]; exact cellsF) rfl (all_one (flt_one _ _)) ?_))
  have hk1 := blw_new1 w11 (.cells #[.int .i64 0, .int .i64 0] 24) (flt 0 0)
  obtain ⟨A1, c1, rfl, _, _⟩ := own_form ho
  refine wp_world (F := fun W => Row W w11.heap.size 24 (flt 0 0) ∧ Sl W W.heap.size A1 m (nl ns) ∧ Below w.heap.size w W) ⟨row_new1 _ _ _ _, (Sl.of_own ho).up hk1, up_call hb11 hk1⟩ ?_
  generalize w11.heap.size = g6
  clear hk1 hb11 HP ho w11
  rintro W1 ⟨r6, hS, hb⟩
  go_upto_region 3 with (first
    | (go_at_call 9; refine (HF.out _ hb).mono ?_; rintro e w17 ⟨rfl, hb17⟩)
    | (refine wpList_store_row rfl 24 _ _ rfl w17.heap.size (flt 0 0) rfl rfl 24 (flt 0 0) (Row.newEq _ _ _ _ _ rfl rfl) (by rw [flt_size]; exact cellsF) rfl (all_one (flt_one _ _)) ?_))
  have hk1 := up_call hb17 (blw_new1 w17 (.cells #[.int .i64 0, .int .i64 0] 24) (flt 0 0))
  refine wp_world (F := fun W => Row W g6 24 (flt 0 0) ∧ Row W w17.heap.size 24 (flt 0 0) ∧ Sl W W.heap.size A1 m (nl ns) ∧ Below w.heap.size w W) ⟨r6.below hk1 r6.lt, row_new1 _ _ _ _, hS.up hk1, up_call hb hk1⟩ ?_
  generalize w17.heap.size = g7
  clear hk1 hb17 HF r6 hS hb w17 W1
  rintro W2 ⟨r6, r7, hS, hb⟩
  go_upto_region 6 with (first
    | (go_at_call 10; refine (predicts_any _).mono ?_; rintro e w18 ⟨rfl, hb18⟩; have q6 := r6.below hb18 r6.lt; have q7 := r7.below hb18 r7.lt; have k0 : w18.cell? ⟨g7, 0, none⟩ = some (.int .i64 0) := (q7.cell 0).trans rfl)
    | (refine wpList_load_rowG (by simp [Region.wanted, yielded, Act.put]) 24 _ rfl g6 rfl 24 (flt 0 0) (0, 0) _ q6 Try.underlying24 rfl (by rw [flt_size]; exact cellsF) ?_)
    | (refine wpList_load_rowG (by simp [Region.wanted, yielded, Act.put]) 24 _ rfl g7 rfl 24 (flt 0 0) (0, 0) _ q7 Try.underlying24 rfl (by rw [flt_size]; exact cellsF) ?_))
  have hS2 := hS.up hb18
  have hb2 := up_call hb hb18
  clear k0 q6 q7 r6 r7 hS hb hb18 W2
  go_loopw [8] (fun k wr => ∃ j : Nat, j ≤ m ∧ k = .int .i64 j ∧ Sl wr wr.heap.size A1 m (nl ns) ∧ Below w.heap.size w wr) (fun k _ => m - (intOf k).toNat)
  case atStart => exact ⟨0, Nat.zero_le _, rfl, hS2, hb2⟩
  case round =>
    clear hS2 hb2
    obtain ⟨j, hj, rfl, hS, hb⟩ := hrel
    by_cases hlt : j < m ∧ m ≤ 201
    · obtain ⟨hlt1, hlt2⟩ := hlt
      have hx := HLO.out j hlt1
      have hrp := HRP.out j (by have := HM.out; omega)
      obtain ⟨a1, rfl, _, hc1⟩ := hS.nat hlt1
      obtain ⟨x, hx2⟩ : ∃ x, x = ns.getD j 0 := ⟨_, rfl⟩
      rw [← hx, ← hx2] at hrp
      rw [← hx2] at hc1
      have HR := Lib.hid hrp
      have HK := Lib.hid (fun W (hW : Below wr.heap.size wr W) => (hS.up hW).nat hlt1)
      have hkeep : ∀ W, Below wr.heap.size wr W → W.cell? (a1.add j) = some (.int .i64 x) := fun W hW => by
        obtain ⟨a2, h1, _, h2⟩ := (hS.up hW).nat hlt1
        injection h1 with h1
        subst h1
        rw [h2, hx2]
      have HKP := Lib.hid hkeep
      have HS := Lib.hid hS
      clear hx hx2 hrp hkeep hc1 HK hS
      go_upto_region 8 with fail
      go_region_held3 (fun W => W.cell? (a1.add j) = some (.int .i64 x))
        (first
          | exact HKP.out _ (Below.refl _ _).drew
          | exact HKP.out _ (up_call (Below.refl _ _).drew hb66))
        (first
          | (go_at_call 11; refine (HR.out _ hb.drew).mono ?_; rintro e w66 ⟨rfl, hb66⟩))
      all_goals
        go_wp2
        go_roundw
        case rel => exact ⟨j + 1, by omega, by go_num, HS.out.up (up_call (Below.refl _ _).drew hb66), up_call hb.drew hb66⟩
        case measure => simp [intOf]; omega
    · have hcond : (decide ((j : Int) < (m : Int)) && decide ((m : Int) ≤ 201)) = false := by
        by_cases q1 : j < m
        · rw [decide_eq_false (show ¬ (m : Int) ≤ 201 by omega), Bool.and_false]
        · rw [decide_eq_false (show ¬ (j : Int) < (m : Int) by omega), Bool.false_and]
      by_cases q1 : j < m
      · have q2 : decide ((m : Int) ≤ 201) = false := decide_eq_false (by omega)
        clear hlt hcond
        go_wp2
        go_ret
        exact ⟨rfl, hb⟩
      · have q2 : decide ((j : Int) < (m : Int)) = false := decide_eq_false (by omega)
        clear hlt hcond
        go_wp2
        go_ret
        exact ⟨rfl, hb⟩
end Go.Proofs.Ytgpacgmgdnongaa.lawPred
