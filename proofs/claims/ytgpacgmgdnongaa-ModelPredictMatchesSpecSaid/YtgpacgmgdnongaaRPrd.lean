/-
  The contract of the reference's Predicted.
-/
import Derived.Test.YtgpacgmgdnongaaRCnt
namespace Go.Proofs.Ytgpacgmgdnongaa
open Go.RowKit

set_option maxRecDepth 100000 in
set_option maxHeartbeats 8000000 in
theorem rpredicted_any (l : List Bool) (i d : Nat) (hi : i ≤ l.length) (hl : l.length ≤ 8192) (hd : d ≤ 2) (A : Option Addr) (c : Nat) (hc : l.length ≤ c) (hcm : c ≤ maxLen) (w : World) (hS : Sl w w.heap.size A l.length (il l)) :
    Calls Try.prog 11 #[.slice A l.length c, .int .i64 i, .int .i64 d] w fun e w' => e = .returned (.int .i64 (predB d (l.take i))) ∧ Below w.heap.size w w' := by
  have hp : predB d (l.take i) = sumS (l.take i) (d + 1) / sumW (l.take i) (d + 1) := rfl
  obtain ⟨p, hp2⟩ : ∃ p, p = predB d (l.take i) := ⟨_, rfl⟩
  rw [← hp2] at hp ⊢
  have HPL := Lib.hid (show p ≤ 4087 by rw [hp2]; exact pred_high d (l.take i))
  have HP := Lib.hid hp
  clear hp hp2
  go_enter Try.func11, Try.ntmps11
  go_wp2
  go_loopw [7, 8, 9, 10] (fun s t q k wr => ∃ j : Nat, j ≤ d + 1 ∧ k = .int .i64 j ∧ s = .int .i64 (sumS (l.take i) j) ∧ t = .int .i64 (sumW (l.take i) j) ∧ q = .int .i64 ((4 ^ j : Nat) : Int) ∧ Below w.heap.size w wr) (fun _ _ _ k _ => d + 1 - (intOf k).toNat)
  case atStart => exact ⟨0, Nat.zero_le _, rfl, rfl, rfl, rfl, Below.refl _ _⟩
  case round =>
    obtain ⟨j, hj, rfl, rfl, rfl, rfl, hb⟩ := hrel
    have hbnd := sum_bounds (l.take i) j
    have hwl := sumW_le (l.take i) j (by omega)
    obtain ⟨s, hs⟩ : ∃ s, s = sumS (l.take i) j := ⟨_, rfl⟩
    obtain ⟨t, ht⟩ : ∃ t, t = sumW (l.take i) j := ⟨_, rfl⟩
    rw [← hs, ← ht] at hbnd ⊢
    rw [← ht] at hwl
    obtain ⟨hbnd1, hbnd2, hbnd3⟩ := hbnd
    have hs2 : s ≤ 2946727 := by omega
    by_cases hlt : j < d + 1
    · have hj2 : j ≤ 2 := by omega
      have hcn := rcounts_any l i j hi hl hj2 A c hc hcm _ (hS.up hb)
      rw [cntTo_cnt l _ i hi] at hcn
      have hss : sumS (l.take i) (j + 1) = s + weightC (cnt (l.take i) (ctxOf (l.take i) j)) j * shareC (cnt (l.take i) (ctxOf (l.take i) j)) := by rw [hs]; rfl
      have hww : sumW (l.take i) (j + 1) = t + weightC (cnt (l.take i) (ctxOf (l.take i) j)) j := by rw [ht]; rfl
      have hcl := cnt_le (l.take i) (ctxOf (l.take i) j)
      have hsh := share_high _ hcl
      have hwe := weight_le (cnt (l.take i) (ctxOf (l.take i) j)) j hj2
      obtain ⟨z, n, hzn⟩ : ∃ z n, cnt (l.take i) (ctxOf (l.take i) j) = (z, n) := ⟨_, _, rfl⟩
      rw [hzn] at hss hww hcl hsh hwe hcn
      have hsv : ((2 * (n : Int) + 1) * 2048) / ((z : Int) + n + 1) = ((shareC (z, n) : Nat) : Int) := by
        unfold shareC
        push_cast
        rfl
      have hq4 : 4 ^ j ≤ 16 := by
        have : 4 ^ j ≤ 4 ^ 2 := Nat.pow_le_pow_right (by omega) hj2
        omega
      have hq5 : 4 ^ (j + 1) = 4 * 4 ^ j := by rw [Nat.pow_succ, Nat.mul_comm]
      have hwv : weightC (z, n) j = min (z + n) 15 * 4 ^ j := rfl
      obtain ⟨q, hq⟩ : ∃ q, q = 4 ^ j := ⟨_, rfl⟩
      rw [← hq] at hq4 hq5 hwv ⊢
      obtain ⟨sh, hsh2⟩ : ∃ sh, sh = shareC (z, n) := ⟨_, rfl⟩
      obtain ⟨we, hwe2⟩ : ∃ we, we = weightC (z, n) j := ⟨_, rfl⟩
      rw [← hsh2] at hsh hss hsv
      rw [← hwe2] at hwe hss hww hwv
      obtain ⟨m, hm⟩ : ∃ m, m = min (z + n) 15 := ⟨_, rfl⟩
      rw [← hm] at hwv
      have hm15 : m ≤ 15 := by omega
      have hmq : (m : Int) * (q : Int) = (we : Int) := by rw [hwv]; rfl
      have hprod : (we : Int) * (sh : Int) = ((we * sh : Nat) : Int) := rfl
      have hmul := Nat.mul_le_mul hwe hsh
      obtain ⟨pr, hpr⟩ : ∃ pr, pr = we * sh := ⟨_, rfl⟩
      rw [← hpr] at hmul hprod hss
      have HS := Lib.hid hss
      have HW := Lib.hid hww
      have HQ := Lib.hid hq5
      have HC := Lib.hid hcn
      simp only at hcl
      clear hs ht hss hww hq hq5 hcn hsh2 hwe2 hwv hzn hpr
      by_cases h15 : 15 < z + n
      · have e15 : m = 15 := by omega
        have t15 : decide ((15 : Int) < (z : Int) + (n : Int)) = true := decide_eq_true (by omega)
        have hmq2 : (15 : Int) * (q : Int) = (we : Int) := by rw [← hmq, e15]; rfl
        clear hmq hm e15
        go_wp2_with (first
          | (go_at_call 21; refine HC.out.mono ?_; rintro e w24 ⟨rfl, hb24⟩))
        go_roundw
        case rel => exact ⟨j + 1, by omega, by go_num, by rw [HS.out]; go_num, by rw [HW.out]; go_num, by rw [HQ.out]; go_num, up_call hb hb24⟩
        case measure => simp [intOf]; omega
      · have e15 : m = z + n := by omega
        have t15 : decide ((15 : Int) < (z : Int) + (n : Int)) = false := decide_eq_false (by omega)
        have hmq2 : ((z : Int) + (n : Int)) * (q : Int) = (we : Int) := by rw [← hmq, e15]; rfl
        clear hmq hm e15
        go_wp2_with (first
          | (go_at_call 21; refine HC.out.mono ?_; rintro e w24 ⟨rfl, hb24⟩))
        go_roundw
        case rel => exact ⟨j + 1, by omega, by go_num, by rw [HS.out]; go_num, by rw [HW.out]; go_num, by rw [HQ.out]; go_num, up_call hb hb24⟩
        case measure => simp [intOf]; omega
    · obtain rfl : j = d + 1 := by omega
      have hdiv : ((s : Int) / (t : Int)) = ((p : Nat) : Int) := by
        rw [HP.out, ← hs, ← ht]
        rfl
      have HD := Lib.hid hdiv
      have ht0 : (0 : Int) < t := by omega
      clear hdiv hs ht hbnd1 hbnd2
      go_wp2
      go_ret
      exact ⟨ret_int (by rw [HD.out]; exact IntWalk.wrap64_in _ (by have := HPL.out; omega)), hb⟩
end Go.Proofs.Ytgpacgmgdnongaa
