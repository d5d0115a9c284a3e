/-
  The contracts of the reference's Power and Bit.
-/
import Derived.Test.YtahihgmlkcbfiaaGMem
import Derived.Test.YtahihgmlkcbfiaaBPlain
import Derived.Test.YtahihgmlkcbfiaaRIn
import Derived.Deep.DeepMust
import Derived.Deep.QuietTactic
import Derived.BigQuiet
namespace Go.Proofs.Ytahihgmlkcbfiaa
open Go.RowKit

set_option maxHeartbeats 1000000 in
theorem power_any (n : Nat) (hn : n ≤ 62) (p : Nat) (hp : p = 2 ^ n) (w : World) :
    Calls Try.prog 68 #[.int .i64 n] w fun e w' => e = .returned (.int .i64 p) ∧ w = w' := by
  have HP := Lib.hid hp
  clear hp
  go_enter Try.func68, Try.ntmps68
  go_wp2
  go_loop [3, 4] (fun q i => ∃ j : Nat, j ≤ n ∧ i = .int .i64 j ∧ q = .int .i64 ((2 ^ j : Nat) : Int)) (fun _ i => n - (intOf i).toNat)
  case atStart => exact ⟨0, Nat.zero_le _, rfl, rfl⟩
  case round =>
    obtain ⟨j, hj, rfl, rfl⟩ := hrel
    by_cases hlt : j < n
    · have h2 : 2 ^ j ≤ 2 ^ 61 := Nat.pow_le_pow_right (by omega) (by omega)
      obtain ⟨q, hq⟩ : ∃ q, q = 2 ^ j := ⟨_, rfl⟩
      rw [← hq] at h2 ⊢
      have HQ := Lib.hid hq
      clear hq
      go_wp2
      go_round
      case rel => exact ⟨j + 1, by omega, by go_num, by rw [Nat.pow_succ, ← HQ.out]; go_num⟩
      case measure => simp [intOf]; omega
    · obtain rfl : j = n := by omega
      go_wp2
      go_ret
      exact ⟨ret_int (by rw [HP.out, Int.natCast_pow]; rfl), rfl⟩

theorem iw (z : Int) (h : -9223372036854775808 ≤ z ∧ z ≤ 9223372036854775807) : IntKind.i64.wrap z = z := by
  rw [IntKind.wrap_i64]
  omega
theorem bit_div (x q : Nat) : (x : Int) / ((2 ^ q : Nat) : Int) % 2 = ((x.testBit q).toNat : Int) := by
  rw [← bit_mod]
  generalize 2 ^ q = z
  omega

set_option maxRecDepth 100000 in
set_option maxHeartbeats 400000 in
theorem rbit_any (L : List UInt8) (A : Option Addr) (c i : Nat) (hi : i < 8 * L.length) (hl : L.length ≤ 1000000) (w : World) (hS : Sl w w.heap.size A L.length (bl L)) :
    Calls Try.prog 48 #[.slice A L.length c, .int .i64 i] w fun e w' => e = .returned (.int .i64 ((bt L i).toNat : Int)) ∧ ∃ n, w' = w.drewN n := by
  obtain ⟨ad, rfl, hb, hcell⟩ := hS.byte (k := i / 8) (by omega)
  have hidx : i / 8 < L.length := by omega
  have hx := bt_eq L i
  obtain ⟨x, hx0⟩ : ∃ x, x = L.getD (i / 8) 0 := ⟨_, rfl⟩
  rw [← hx0] at hcell hx
  have HX := Lib.hid hx
  obtain ⟨p, hp⟩ : ∃ p, p = 2 ^ (7 - i % 8) := ⟨_, rfl⟩
  have hp1 : 1 ≤ p := by rw [hp]; exact Nat.two_pow_pos _
  have HP := Lib.hid hp
  clear hx0 hx hp hS
  have hx2 := x.toNat_lt
  obtain ⟨y, hy⟩ : ∃ y : Int, y = (x.toNat : Int) / (p : Int) := ⟨_, rfl⟩
  have hy1 : 0 ≤ y ∧ y ≤ 256 := by
    rw [hy, ← Int.natCast_ediv]
    have := Nat.div_le_self x.toNat p
    generalize x.toNat / p = z at this ⊢
    omega
  have HY := Lib.hid hy
  have q1 : (0 : Int) ≤ (i : Int) / 8 := by omega
  have q2 : (i : Int) / 8 < (L.length : Int) := by omega
  have q3 : ((i : Int) / 8).toNat = i / 8 := by omega
  have hq7 : 7 - i % 8 ≤ 62 := by omega
  have b1 : -9223372036854775808 ≤ (i : Int) / 8 ∧ (i : Int) / 8 ≤ 9223372036854775807 := by omega
  have b2 : -9223372036854775808 ≤ (i : Int) % 8 ∧ (i : Int) % 8 ≤ 9223372036854775807 := by omega
  have b3 : -9223372036854775808 ≤ 7 - (i : Int) % 8 ∧ 7 - (i : Int) % 8 ≤ 9223372036854775807 := by omega
  have b4 : -9223372036854775808 ≤ (x.toNat : Int) ∧ (x.toNat : Int) ≤ 9223372036854775807 := by omega
  have b6 : -9223372036854775808 ≤ y ∧ y ≤ 9223372036854775807 := by omega
  have b7 : -9223372036854775808 ≤ y % 2 ∧ y % 2 ≤ 9223372036854775807 := by omega
  have w9 : (p : Int) ≠ 0 := by omega
  have e3 : 7 - (i : Int) % 8 = ((7 - i % 8 : Nat) : Int) := by omega
  have w3 := (iw _ b3).trans e3
  have w1 := iw _ b1
  have w2 := iw _ b2
  have w4 := iw _ b4
  have w5 : (x.toNat : Int) / (p : Int) = y := hy.symm
  have w6 := iw _ b6
  have w7 := iw _ b7
  have w8 : (0 : Int) ≤ y := hy1.1
  have t1 : (i : Int).tmod 8 = (i : Int) % 8 := Int.tmod_eq_emod_of_nonneg (Int.natCast_nonneg i)
  have t2 : ((x.toNat : Nat) : Int).tdiv (p : Int) = y := (Int.tdiv_eq_ediv_of_nonneg (Int.natCast_nonneg _)).trans w5
  have t3 : y.tmod 2 = y % 2 := Int.tmod_eq_emod_of_nonneg w8
  clear b1 b2 b3 b4 b6 b7 e3
  clear hy hy1 hx2
  go_enter Try.func48, Try.ntmps48
  go_wp2
  go_quiet ((go_at_call 68; exact Calls.quiet_of_same ((power_any (7 - i % 8) (by omega) p HP.out _).mono fun _ _ ⟨a, b⟩ => ⟨a, b.symm⟩)))
  clear w1 w2 w3 w4 w5 w6 w7 t1 t2 t3
  go_wp2
  go_ret
  refine ⟨ret_int ?_, nq, rfl⟩
  rw [HY.out, HP.out, bit_div, HX.out]
end Go.Proofs.Ytahihgmlkcbfiaa
