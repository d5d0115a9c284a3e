/-
  Parted out of others.
-/
import Derived.Test.YtcmbpniikcghfaaGLen
import Derived.Test.YtcmbpniikcghfaaBPlain
import Derived.Test.YtcmbpniikcghfaaGMem
namespace Go.Proofs.Ytcmbpniikcghfaa
open Go.RowKit
/-- the number of binary digits -/
theorem bitLen_log (x : Nat) (h1 : 1 ≤ x) (hx : x < 18446744073709551616) : Lib.bitLen x = Nat.log2 x + 1 := by
  have h2 := Nat.log2_self_le (n := x) (by omega)
  have h3 := Nat.lt_log2_self (n := x)
  have h4 : x / 2 ^ Nat.log2 x = 1 := by
    have hp : 0 < 2 ^ Nat.log2 x := Nat.two_pow_pos _
    have a : 1 ≤ x / 2 ^ Nat.log2 x := (Nat.le_div_iff_mul_le hp).2 (by omega)
    have b : x / 2 ^ Nat.log2 x < 2 := (Nat.div_lt_iff_lt_mul hp).2 (by rw [Nat.pow_succ] at h3; omega)
    omega
  rw [Lib.bitLen_shift (Nat.log2 x) x h2 hx, h4]
  rfl
/-- the size of the gamma code of a number -/
def gsz (n : Int) : Nat := if n < 1 then 0 else 2 * Nat.log2 n.toNat + 1
theorem gsz_low (n : Int) (h : n < 1) : gsz n = 0 := if_pos h
theorem gsz_nat (n : Nat) (h : 1 ≤ n) : gsz (n : Int) = 2 * Nat.log2 n + 1 := by
  unfold gsz
  rw [if_neg (by omega), Int.toNat_natCast]
theorem gammaSize_any (n : Int) (hn : -9223372036854775808 ≤ n ∧ n ≤ 9223372036854775807) (w : World) :
    Calls Try.prog 42 #[.int .i64 n] w fun e w' => e = .returned (.int .i64 (gsz n)) ∧ w = w' := by
  by_cases h : n < 1
  · have hg := Lib.hid (gsz_low n h)
    have hd : decide (n < 1) = true := decide_eq_true h
    go_enter Try.func42, Try.ntmps42
    go_wp2
    go_ret
    exact ⟨by rw [hg.out]; rfl, rfl⟩
  · obtain ⟨m, rfl⟩ : ∃ m : Nat, n = m := ⟨n.toNat, by omega⟩
    have hm : 1 ≤ m := by omega
    have hlt := log2_lt m 63 hm (by omega)
    have hg := Lib.hid (gsz_nat m hm)
    have hl := bitLen_log m hm (by omega)
    have hd : decide ((m : Int) < 1) = false := decide_eq_false h
    obtain ⟨q, hq⟩ : ∃ q, q = Nat.log2 m := ⟨_, rfl⟩
    rw [← hq] at hl hlt
    have HQ := Lib.hid hq
    have HL := Lib.hid hl
    have h0 : (0 : Int) ≤ m := by omega
    have h1 : (m : Int) ≤ 18446744073709551615 := by omega
    clear hq hl
    go_enter Try.func42, Try.ntmps42
    go_wp2_with (go_at_call 51; refine (len_any m h0 h1 _).mono ?_; rintro e w' ⟨rfl, rfl⟩; rw [Int.toNat_natCast, HL.out])
    go_ret
    exact ⟨ret_int (by rw [hg.out, ← HQ.out]; omega), rfl⟩
theorem gammaSize_is (n : Int) (hn : -9223372036854775808 ≤ n ∧ n ≤ 9223372036854775807) (m : Nat) (hm : m = gsz n) (w : World) :
    Calls Try.prog 42 #[.int .i64 n] w fun e w' => e = .returned (.int .i64 m) ∧ w = w' := by
  subst hm
  exact gammaSize_any n hn w
end Go.Proofs.Ytcmbpniikcghfaa
