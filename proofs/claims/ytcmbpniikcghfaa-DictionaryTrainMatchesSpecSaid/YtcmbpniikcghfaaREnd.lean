/-
  The contract of the reference's ends.
-/
import Derived.Test.YtcmbpniikcghfaaRKit
import Derived.Test.YtcmbpniikcghfaaGFlatF
import Derived.Test.YtcmbpniikcghfaaRSub
import Derived.Test.YtcmbpniikcghfaaYPlain
namespace Go.Proofs.Ytcmbpniikcghfaa
open Go.RowKit

set_option maxRecDepth 100000 in
set_option maxHeartbeats 4000000 in
theorem ends_any (X Y : List UInt8) (n m : Nat) (hn : n = X.length) (hm : m = Y.length) (hn2 : n ≤ 100000) (hm2 : m ≤ 100000) (A B : Option Addr) (c d : Nat) (hc : n ≤ c) (hd : m ≤ d) (w : World) (hX : Sl w w.heap.size A n (bl X)) (hY : Sl w w.heap.size B m (bl Y)) :
    Calls Try.prog 26 #[.slice A n c, .slice B m d] w fun e w' => e = .returned (.int .i64 (endsL X Y : Nat)) ∧ Below w.heap.size w w' := by
  obtain ⟨r, hr⟩ : ∃ r, r = endsL X Y := ⟨_, rfl⟩
  rw [← hr]
  have HX := Lib.hid hX
  have HY := Lib.hid hY
  have HR : Hid (r = endsF X Y (min n m)) := Lib.hid (by rw [hr, hn, hm]; rfl)
  have HL := Lib.hid (And.intro hn hm)
  clear hX hY hr hn hm
  go_enter Try.func26, Try.ntmps26
  go_upto_region 3 with (fail)
  go_loopw [5, 6] (fun v i wr => ∃ j q : Nat, 1 ≤ j ∧ j ≤ min n m + 1 ∧ q < j ∧ i = .int .i64 j ∧ v = .int .i64 q ∧ Hid (q = endsF X Y (j - 1)) ∧ Below w.heap.size w wr) (fun _ i _ => min n m + 1 - (intOf i).toNat)
  case atStart => exact ⟨1, 0, Nat.le_refl _, by omega, by omega, rfl, rfl, Lib.hid rfl, Below.refl _ _⟩
  case round =>
    obtain ⟨j, q, hj1, hj, hq, rfl, rfl, HQ, hb⟩ := hrel
    by_cases hlt : j ≤ min n m
    · have t1 : decide ((j : Int) ≤ (n : Int)) = true := decide_eq_true (by omega)
      have t2 : decide ((j : Int) ≤ (m : Int)) = true := decide_eq_true (by omega)
      obtain ⟨ad, rfl, hbl, _⟩ := HX.out.2 (by omega)
      obtain ⟨bd, rfl, hbl2, _⟩ := HY.out.2 (by omega)
      obtain ⟨k, hk⟩ : ∃ k, k = n - j := ⟨_, rfl⟩
      have sX := (HX.out.up hb).cut (k := k) (cap := c) (by omega) hc
      have sY := (HY.out.up hb).first (k := j) (by omega)
      rw [if_neg (by omega), bl_drop, show n - k = j by omega] at sX
      rw [bl_take] at sY
      have hne : ¬ c = k := by omega
      have ww : IntKind.i64.wrap ((n : Int) - (j : Int)) = (k : Int) := by rw [IntKind.wrap_i64]; omega
      have k0 : (0 : Int) ≤ (k : Int) := by omega
      have k1 : (k : Int) ≤ (n : Int) := by omega
      have k2 : (n : Int) ≤ (c : Int) := by omega
      have k3 : (j : Int) ≤ (d : Int) := by omega
      have k4 : (0 : Int) ≤ (j : Int) := by omega
      have hkj : n - k = j := by omega
      have hsm := fun q1 q2 => same_any (some (ad.add k)) (some bd) (X.drop k) (Y.take j) j j q1 q2 wr.drew sX sY
      have hstep : endsF X Y (j - 1 + 1) = if X.drop (X.length - (j - 1 + 1)) = Y.take (j - 1 + 1) then j - 1 + 1 else endsF X Y (j - 1) := by rw [endsF]
      rw [show j - 1 + 1 = j by omega, ← HL.out.1, ← HQ.out, ← hk] at hstep
      by_cases hqq : X.drop k = Y.take j
      · rw [decide_eq_true hqq] at hsm
        rw [if_pos hqq] at hstep
        have HN : Hid (j = endsF X Y (j + 1 - 1)) := Lib.hid hstep.symm
        have HS := Lib.hid hsm
        clear hstep hqq HQ sX sY hsm hbl hbl2 hk
        go_upto_region 5 with (fail)
        go_region_held3 (fun _ => True)
          (exact trivial)
          (first
            | (go_at_call 14; refine (HS.out _ _).mono ?_; rintro e w5 ⟨rfl, rfl⟩))
        go_wp2
        go_roundw
        case rel => exact ⟨j + 1, j, by omega, by omega, by omega, by go_num, rfl, HN, hb.drew⟩
        case measure => simp [intOf]; omega
      · rw [decide_eq_false hqq] at hsm
        rw [if_neg hqq] at hstep
        have HN : Hid (q = endsF X Y (j + 1 - 1)) := Lib.hid hstep.symm
        have HS := Lib.hid hsm
        clear hstep hqq HQ sX sY hsm hbl hbl2 hk
        go_upto_region 5 with (fail)
        go_region_held3 (fun _ => True)
          (exact trivial)
          (first
            | (go_at_call 14; refine (HS.out _ _).mono ?_; rintro e w5 ⟨rfl, rfl⟩))
        go_wp2
        go_roundw
        case rel => exact ⟨j + 1, q, by omega, by omega, by omega, by go_num, rfl, HN, hb.drew⟩
        case measure => simp [intOf]; omega
    · have hjm : j = min n m + 1 := by omega
      have hqr : q = r := by rw [HR.out, HQ.out, hjm, Nat.add_sub_cancel]
      have HRR := Lib.hid hqr
      clear hqr HQ HR
      by_cases hjn : j ≤ n
      · have t1 : decide ((j : Int) ≤ (n : Int)) = true := decide_eq_true (by omega)
        have t2 : decide ((j : Int) ≤ (m : Int)) = false := decide_eq_false (by omega)
        go_wp2
        go_ret
        exact ⟨ret_int (by rw [HRR.out]), hb⟩
      · have t1 : decide ((j : Int) ≤ (n : Int)) = false := decide_eq_false (by omega)
        go_wp2
        go_ret
        exact ⟨ret_int (by rw [HRR.out]), hb⟩
end Go.Proofs.Ytcmbpniikcghfaa
