/-
  The contract of the reference's window.
-/
import Derived.Test.YtcnokjiohbifeaaAPlain
import Derived.Test.YtcnokjiohbifeaaIL
import Derived.Test.YtcnokjiohbifeaaRIn
namespace Go.Proofs.Ytcnokjiohbifeaa
open Go.RowKit

/-- the bit at a place of a code, counted from 24 bits before the end -/
def winF (l : List Bool) (e t : Nat) : Bool := if e + t < 24 then false else l.getD (e + t - 24) false
theorem win_num (l : List Bool) (e : Nat) : numF (winF l e) 24 = numF (fun i => l.getD i false) e % 16777216 := by
  by_cases h : 24 ≤ e
  · obtain ⟨d, rfl⟩ : ∃ d, e = d + 24 := ⟨e - 24, by omega⟩
    rw [show (16777216 : Nat) = 2 ^ 24 from rfl, numF_mod]
    refine numF_congr fun i _ => ?_
    unfold winF
    rw [if_neg (by omega), show d + 24 + i - 24 = d + i by omega]
  · rw [show (16777216 : Nat) = 2 ^ 24 from rfl, numF_few _ e 24 (by omega)]
    obtain ⟨d, hd⟩ : ∃ d, 24 = d + e := ⟨24 - e, by omega⟩
    rw [show numF (winF l e) 24 = numF (winF l e) (d + e) from congrArg _ hd, numF_add]
    rw [numF_congr (f := winF l e) (g := fun _ => false) fun i hi => by unfold winF; rw [if_pos (by omega)]]
    rw [numF_false, Nat.zero_mul, Nat.zero_add]
    refine numF_congr fun i _ => ?_
    unfold winF
    rw [if_neg (by omega), show e + (d + i) - 24 = i by omega]

set_option maxRecDepth 100000 in
set_option maxHeartbeats 2000000 in
theorem window_any (l : List Bool) (hl : l.length ≤ 1000000) (A : Option Addr) (c e : Nat) (he : e ≤ 1000000) (n : Nat) (hn : n = l.length) (w : World) (hS : Sl w w.heap.size A n (il l)) :
    Calls Try.prog 52 #[.slice A n c, .int .i64 e] w fun r w' => r = .returned (.int .i64 ((numF (fun i => l.getD i false) e % 16777216 : Nat) : Int)) ∧ w = w' := by
  have HW := Lib.hid (win_num l e)
  have hnl : n ≤ 1000000 := by omega
  have HN := Lib.hid hn
  clear hn hl
  go_enter Try.func52, Try.ntmps52
  go_wp2
  go_loop [5, 6] (fun q i => ∃ j : Nat, j ≤ 24 ∧ i = .int .i64 ((e : Int) - 24 + (j : Int)) ∧ q = .int .i64 (numF (winF l e) j)) (fun _ i => (e - intOf i).toNat)
  case atStart => exact ⟨0, Nat.zero_le _, by go_num, rfl⟩
  case round =>
    obtain ⟨j, hj, rfl, rfl⟩ := hrel
    by_cases hlt : j < 24
    · have hq2 := numF_lt (winF l e) j
      have h24 : 2 ^ j ≤ 2 ^ 24 := Nat.pow_le_pow_right (by omega) (by omega)
      have hs := numF_succ (winF l e) j
      obtain ⟨q, hq⟩ : ∃ q, q = numF (winF l e) j := ⟨_, rfl⟩
      rw [← hq] at hq2 hs ⊢
      have hq3 : q < 16777216 := Nat.lt_of_lt_of_le hq2 h24
      have t0 : decide ((e : Int) - 24 + (j : Int) < (e : Int)) = true := decide_eq_true (by omega)
      by_cases hneg : e + j < 24
      · have hz : winF l e j = false := by unfold winF; rw [if_pos hneg]
        rw [hz] at hs
        have t1 : decide ((0 : Int) ≤ (e : Int) - 24 + (j : Int)) = false := decide_eq_false (by omega)
        have HSS := Lib.hid hs
        clear hq hs hq2 h24 hz
        go_wp2
        go_round
        case rel => exact ⟨j + 1, by omega, by go_num, by rw [HSS.out]; go_num⟩
        case measure => simp [intOf]; omega
      · obtain ⟨k, hk⟩ : ∃ k, e + j = k + 24 := ⟨e + j - 24, by omega⟩
        have hz : (e : Int) - 24 + (j : Int) = (k : Int) := by omega
        have hwf : winF l e j = l.getD k false := by unfold winF; rw [if_neg hneg, show e + j - 24 = k by omega]
        rw [hwf] at hs
        rw [hz] at t0 ⊢
        by_cases hin : k < n
        · obtain ⟨ad, rfl, hb, hcell⟩ := hS.bit hin
          obtain ⟨b, hbv⟩ : ∃ b, b = (l.getD k false).toNat := ⟨_, rfl⟩
          have hb2 : b < 2 := by rw [hbv]; exact bool_lt _
          rw [← hbv] at hs hcell
          have HSS := Lib.hid hs
          clear hq hs hbv hq2 h24 hwf
          go_wp2
          go_round
          case rel => exact ⟨j + 1, by omega, by go_num, by rw [HSS.out]; go_num⟩
          case measure => simp [intOf]; omega
        · have hgd : l.getD k false = false := by
            rw [List.getD_eq_getElem?_getD, List.getElem?_eq_none (by rw [← HN.out]; omega)]
            rfl
          rw [hgd] at hs
          have HSS := Lib.hid hs
          clear hq hs hq2 h24 hwf hgd
          go_wp2
          go_round
          case rel => exact ⟨j + 1, by omega, by go_num, by rw [HSS.out]; go_num⟩
          case measure => simp [intOf]; omega
    · obtain rfl : j = 24 := by omega
      rw [HW.out]
      have t0 : decide ((e : Int) - 24 + ((24 : Nat) : Int) < (e : Int)) = false := decide_eq_false (by omega)
      go_wp2
      go_ret
      exact ⟨rfl, rfl⟩
end Go.Proofs.Ytcnokjiohbifeaa
