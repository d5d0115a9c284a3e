/-
  The contract of bits.number: the number of some bits; it changes nothing that was there.
-/
import Derived.Test.YtahihgmlkcbfiaaProg
import Derived.Test.YtahihgmlkcbfiaaGMem
import Derived.Test.YtahihgmlkcbfiaaBPlain
import Derived.WalkKit
import Derived.WalkSpells
import Derived.WalkLawsBesides
import Derived.Deep.DeepMust
import Derived.Laws.BitsAllLaws
import Derived.IntWalk
namespace Go.Proofs.Ytahihgmlkcbfiaa
open Go.RowKit

/-- a bit string, as cells -/
def bcs (A : Option Addr) (n c : Nat) (k : Int) : Array Value := #[.slice A n c, .int .i64 k]
theorem bcs_size (A : Option Addr) (n c : Nat) (k : Int) : (bcs A n c k).size = 2 := rfl
theorem bcs_one (A : Option Addr) (n c : Nat) (k : Int) : ∀ v ∈ bcs A n c k, v.oneCell' = true := by
  intro v hv
  simp only [bcs, List.mem_toArray, List.mem_cons, List.not_mem_nil, or_false] at hv
  rcases hv with rfl | rfl <;> rfl

theorem i64_or_nat (a b : Nat) (ha : a < 9223372036854775808) (hb : b < 9223372036854775808) : bits .or .i64 (a : Int) (b : Int) = ((a ||| b : Nat) : Int) := by
  have e : bits .or .i64 (a : Int) (b : Int) = IntKind.i64.wrap ((BitVec.ofInt 64 (a : Int) ||| BitVec.ofInt 64 (b : Int)).toNat : Int) := rfl
  have h : a ||| b < 2 ^ 63 := Nat.or_lt_two_pow (n := 63) ha hb
  rw [e, BitVec.toNat_or, ofInt_u64 a (by omega), ofInt_u64 b (by omega), IntKind.wrap_i64]
  omega
theorem i64_and_nat (a b : Nat) (ha : a < 9223372036854775808) (hb : b < 9223372036854775808) : bits .and .i64 (a : Int) (b : Int) = ((a &&& b : Nat) : Int) := by
  have e : bits .and .i64 (a : Int) (b : Int) = IntKind.i64.wrap ((BitVec.ofInt 64 (a : Int) &&& BitVec.ofInt 64 (b : Int)).toNat : Int) := rfl
  have h : a &&& b < 2 ^ 63 := Nat.lt_of_le_of_lt Nat.and_le_left ha
  rw [e, BitVec.toNat_and, ofInt_u64 a (by omega), ofInt_u64 b (by omega), IntKind.wrap_i64]
  omega
/-- a bit as the walk computes it -/
theorem bit_of (x : UInt8) (p : Nat) : bits .and .u8 ((x.toNat : Int) / 2 ^ p) 1 = ((x.toNat.testBit p).toNat : Int) := by
  have h1 : (x.toNat : Int) / 2 ^ p = ((x.toNat / 2 ^ p : Nat) : Int) := by
    rw [Int.natCast_ediv, Int.natCast_pow]
    rfl
  have h2 := x.toNat_lt
  have h3 : x.toNat / 2 ^ p ≤ x.toNat := Nat.div_le_self _ _
  rw [h1, show (1 : Int) = ((1 : Nat) : Int) from rfl, u8_and_nat _ _ (by omega) (by omega), nat_mask1, bit_mod]
theorem wrap_small (n : Nat) (h : n < 9223372036854775808) : wrap64 (n : Int) = n := IntWalk.wrap64_in _ (by omega)
/-- 'n << 1 | bit' -/
theorem shl_or (n : Nat) (b : Bool) (hn : n < 1152921504606846976) : bits .or .i64 ((n : Int) * 2) (wrap64 (b.toNat : Int)) = ((2 * n + b.toNat : Nat) : Int) := by
  have hb := bool_lt b
  rw [wrap_small _ (by omega), show (n : Int) * 2 = ((n * 2 : Nat) : Int) by omega, i64_or_nat _ _ (by omega) (by omega), nat_join 1 (n * 2) b.toNat (by omega) hb, Nat.mul_comm]

set_option maxRecDepth 100000 in
set_option maxHeartbeats 4000000 in
theorem number_any (L : List UInt8) (A : Option Addr) (c : Nat) (k : Int) (f m : Nat) (hm : m ≤ 60) (hf : f + m ≤ 8 * L.length) (hl : L.length ≤ 16384) (w : World) (hS : Sl w w.heap.size A L.length (bl L)) :
    Calls Try.prog 71 #[.agg (bcs A L.length c k), .int .i64 f, .int .i64 m] w fun e w' => e = .returned (.int .i64 (numF (fun i => bt L (f + i)) m)) ∧ Below w.heap.size w w' := by
  unfold bcs
  go_enter Try.func71, Try.ntmps71
  go_wp2
  refine wp_world (F := fun W => Row W w.heap.size 43 (bcs A L.length c k) ∧ Sl W w.heap.size A L.length (bl L) ∧ Below w.heap.size w W) ⟨Row.new _ _ _, hS.below ((Below.refl _ _).alloc (Nat.le_refl _) _), (Below.refl _ _).alloc (Nat.le_refl _) _⟩ ?_
  clear hS
  rintro W0 ⟨r0, hS, hb0⟩
  have c0 : W0.cell? ⟨w.heap.size, 0, none⟩ = some (.slice A L.length c) := (r0.cell 0).trans rfl
  go_loop [7, 11] (fun n i => ∃ j : Nat, j ≤ m ∧ i = .int .i64 j ∧ n = .int .i64 (numF (fun i => bt L (f + i)) j)) (fun _ i => m - (intOf i).toNat)
  case atStart => exact ⟨0, Nat.zero_le _, rfl, rfl⟩
  case round =>
    obtain ⟨j, hj, rfl, rfl⟩ := hrel
    by_cases hlt : j < m
    · obtain ⟨ad, rfl, hb, hcell⟩ := hS.byte (k := (f + j) / 8) (by omega)
      have hidx : (f + j) / 8 < L.length := by omega
      obtain ⟨x, hx⟩ : ∃ x, x = L.getD ((f + j) / 8) 0 := ⟨_, rfl⟩
      rw [← hx] at hcell
      obtain ⟨n, hn⟩ : ∃ n, n = numF (fun i => bt L (f + i)) j := ⟨_, rfl⟩
      rw [← hn]
      have hn2 : n < 1152921504606846976 := by
        have := numF_lt (fun i => bt L (f + i)) j
        have h2 : 2 ^ j ≤ 2 ^ 60 := Nat.pow_le_pow_right (by omega) (by omega)
        omega
      have HX := Lib.hid hx
      have HN := Lib.hid hn
      clear hx hn
      go_wp2
      go_round
      case rel =>
        refine ⟨j + 1, by omega, by go_num, ?_⟩
        rw [bit_of, shl_or _ _ hn2, numF_succ, ← HN.out, bt_eq, ← HX.out]
      case measure => simp [intOf]; omega
    · have : j = m := by omega
      subst this
      go_wp2
      go_ret
      exact ⟨rfl, hb0⟩
end Go.Proofs.Ytahihgmlkcbfiaa
