/-
  The contract of bits.put: a number is written over the bits of a row of bytes that is known whole; nothing else that was there changes.
-/
import Derived.Test.YtahihgmlkcbfiaaBNum
import Derived.RegionTactic
import Derived.BigRegion
namespace Go.Proofs.Ytahihgmlkcbfiaa
open Go.RowKit

/-- the bits behind k rounds of put -/
def PutTo (L : List UInt8) (p v m k : Nat) (M : List UInt8) : Prop := M.length = L.length ∧ ∀ i, bt M i = (bt L i || (decide (p ≤ i ∧ i < p + k) && v.testBit (m - 1 - (i - p))))
theorem PutTo.zero (L : List UInt8) (p v m : Nat) : PutTo L p v m 0 L := ⟨rfl, fun i => by rw [decide_eq_false (by omega)]; simp⟩
theorem PutTo.next {L M : List UInt8} {p v m k : Nat} (h : PutTo L p v m k M) (hk : (p + k) / 8 < L.length) :
    PutTo L p v m (k + 1) (M.set ((p + k) / 8) (orBit (M.getD ((p + k) / 8) 0) ((p + k) % 8) (v.testBit (m - 1 - k)))) := by
  refine ⟨by rw [List.length_set, h.1], fun i => ?_⟩
  rw [bt_orBit _ _ _ (by rw [h.1]; exact hk), h.2]
  by_cases hi : i = p + k
  · subst hi
    rw [decide_eq_false (by omega), decide_eq_true rfl, decide_eq_true (by omega), show p + k - p = k by omega]
    simp
  · rw [decide_eq_false hi]
    by_cases h2 : p ≤ i ∧ i < p + k
    · rw [decide_eq_true h2, decide_eq_true (by omega)]
      simp
    · rw [decide_eq_false h2, decide_eq_false (by omega)]
      simp

theorem and_bit (v n : Nat) (hv : v < 9223372036854775808) : bits .and .i64 ((v : Int) / 2 ^ n) 1 = ((v.testBit n).toNat : Int) := by
  have h1 : (v : Int) / 2 ^ n = ((v / 2 ^ n : Nat) : Int) := by
    rw [Int.natCast_ediv, Int.natCast_pow]
    rfl
  have h3 : v / 2 ^ n ≤ v := Nat.div_le_self _ _
  rw [h1, show (1 : Int) = ((1 : Nat) : Int) from rfl, i64_and_nat _ _ (by omega) (by omega), nat_mask1, bit_mod]
theorem put_byte (x : UInt8) (v n q : Nat) (hv : v < 9223372036854775808) : bits .or .u8 (x.toNat : Int) (bits .and .i64 ((v : Int) / 2 ^ n) 1 % 256 * 2 ^ (7 - q) % 256) = ((orBit x q (v.testBit n)).toNat : Int) := by
  rw [and_bit v n hv, orBit_nat]
  have hx := x.toNat_lt
  have hp : 2 ^ (7 - q) ≤ 2 ^ 7 := Nat.pow_le_pow_right (by omega) (by omega)
  cases v.testBit n
  · simp only [Bool.toNat_false, Nat.zero_shiftLeft, Nat.or_zero]
    rw [show ((0 : Nat) : Int) % 256 * 2 ^ (7 - q) % 256 = ((0 : Nat) : Int) by simp, u8_or_nat _ _ hx (by omega), Nat.or_zero]
  · have e : ((1 : Nat) : Int) % (256 : Int) * (2 : Int) ^ (7 - q) % (256 : Int) = ((1 <<< (7 - q) : Nat) : Int) := by
      have h2 : (2 : Int) ^ (7 - q) = ((2 ^ (7 - q) : Nat) : Int) := by rw [Int.natCast_pow]; rfl
      rw [Nat.one_shiftLeft, h2]
      clear h2
      generalize 2 ^ (7 - q) = z at hp ⊢
      omega
    rw [Bool.toNat_true]
    rw [e, u8_or_nat _ _ hx (by rw [Nat.one_shiftLeft]; omega)]

set_option maxRecDepth 100000 in
set_option maxHeartbeats 4000000 in
theorem put_any (L : List UInt8) (g : Nat) (c : Nat) (k : Int) (p v m : Nat) (hm : m ≤ 60) (hf : p + m ≤ 8 * L.length) (hl : L.length ≤ 16384) (hv : v < 9223372036854775808) (w : World) (hR : Row w g 5 (bl L).toArray) :
    Calls Try.prog 63 #[.agg (bcs (some ⟨g, 0, none⟩) L.length c k), .int .i64 p, .int .i64 v, .int .i64 m] w fun e w' => e = .returned (.tuple #[]) ∧ (∃ M, PutTo L p v m m M ∧ Row w' g 5 (bl M).toArray) ∧ w.grownBy w' (some g) := by
  unfold bcs
  go_enter Try.func63, Try.ntmps63
  go_wp2
  refine wp_world (F := fun W => Row W w.heap.size 43 (bcs (some ⟨g, 0, none⟩) L.length c k) ∧ Row W g 5 (bl L).toArray ∧ g < w.heap.size ∧ w.grownBy W (some g)) ⟨Row.new _ _ _, hR.alloc _, hR.lt, gr_alloc (gr_refl _ _) _⟩ ?_
  rintro W0 ⟨r0, hR0, hg, hb0⟩
  clear hR
  go_loopw [11] (fun i wr => ∃ j : Nat, ∃ M, j ≤ m ∧ i = .int .i64 j ∧ PutTo L p v m j M ∧ Row wr w.heap.size 43 (bcs (some ⟨g, 0, none⟩) L.length c k) ∧ Row wr g 5 (bl M).toArray ∧ w.grownBy wr (some g)) (fun i _ => m - (intOf i).toNat)
  case atStart => exact ⟨0, L, Nat.zero_le _, rfl, PutTo.zero _ _ _ _, r0, hR0, hb0⟩
  case round =>
    clear r0 hR0 hb0
    obtain ⟨j, M, hj, rfl, hP, r0, hR, hb⟩ := hrel
    have c0 : wr.cell? ⟨w.heap.size, 0, none⟩ = some (.slice (some ⟨g, 0, none⟩) L.length c) := (r0.cell 0).trans rfl
    by_cases hlt : j < m
    · have hidx : (p + j) / 8 < L.length := by omega
      have hc1 : wr.cell? ⟨g, (p + j) / 8, none⟩ = some (.int .u8 ((M.getD ((p + j) / 8) 0).toNat : Int)) := (hR.cell _).trans (by simpa using bl_get M _ (by rw [hP.1]; exact hidx))
      have hf1 := hR.free ((p + j) / 8)
      have hN := hP.next hidx
      have HP := Lib.hid hN
      have HQ := Lib.hid hP
      obtain ⟨x, hx⟩ : ∃ x, x = M.getD ((p + j) / 8) 0 := ⟨_, rfl⟩
      rw [← hx] at hc1
      have HX := Lib.hid hx
      clear hx hN hP
      go_wp2
      go_region
      rw [put_byte x v _ _ hv]
      go_wp2
      go_roundw
      case rel =>
        refine ⟨j + 1, M.set ((p + j) / 8) (orBit (M.getD ((p + j) / 8) 0) ((p + j) % 8) (v.testBit (m - 1 - j))), by omega, by go_num, HP.out, r0.far (by simp; omega) _, ?_, gr_drew (gr_cell hb _ _)⟩
        rw [← HX.out]
        have := hR.put ((p + j) / 8) (.int .u8 ((orBit x ((p + j) % 8) (v.testBit (m - 1 - j))).toNat : Int))
        rw [List.setIfInBounds_toArray] at this
        unfold bl at this ⊢
        rw [← List.map_set] at this
        exact this
      case measure => simp [intOf]; omega
    · obtain rfl : j = m := by omega
      go_wp2
      go_end0
      exact ⟨rfl, ⟨M, hP, hR⟩, hb⟩
end Go.Proofs.Ytahihgmlkcbfiaa
