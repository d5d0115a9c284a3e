/-
  The contracts of the reference's Gamma and GammaAt. The reference's GammaAt as a function.
-/
import Derived.Test.YtahihgmlkcbfiaaRPack
import Derived.Test.YtahihgmlkcbfiaaRSub
import Derived.Test.YtahihgmlkcbfiaaRBits4
import Derived.Test.YtahihgmlkcbfiaaTPlain
namespace Go.Proofs.Ytahihgmlkcbfiaa
open Go.RowKit

theorem digB_zeros (v z m : Nat) (h : v < 2 ^ m) : digB v (z + m) = List.replicate z false ++ digB v m := by
  apply List.ext_getElem
  · simp [digB]
  · intro i h1 h2
    have hi : i < z + m := by simpa [digB] using h1
    rw [List.getElem_append]
    by_cases hz : i < z
    · rw [dif_pos (by simpa using hz)]
      simp only [digB, List.getElem_map, List.getElem_range, List.getElem_replicate]
      exact Nat.testBit_lt_two_pow (Nat.lt_of_lt_of_le h (Nat.pow_le_pow_right (by omega) (by omega)))
    · rw [dif_neg (by simpa using hz)]
      simp only [digB, List.getElem_map, List.getElem_range, List.length_replicate]
      congr 1
      omega
theorem digits_is (v m : Nat) (vi mi : Int) (hvi : vi = v) (hmi : mi = m) (hv : v < 9223372036854775808) (hm : m ≤ 64) (w : World) :
    Calls Try.prog 58 #[.int .i64 vi, .int .i64 mi] w fun e w' => ∃ g, e = .returned (.slice (some ⟨g, 0, none⟩) m m) ∧ w.heap.size ≤ g ∧ Row w' g 3 (il (digB v m)).toArray ∧ Below w.heap.size w w' := by
  subst hvi hmi
  exact digits_any v m hv hm w
theorem half_pos (v z j : Nat) (h : 2 ^ z ≤ v) (hj : j ≤ z) : 1 ≤ v / 2 ^ j :=
  (Nat.le_div_iff_mul_le (Nat.two_pow_pos _)).2 (by rw [Nat.one_mul]; exact Nat.le_trans (Nat.pow_le_pow_right (by omega) hj) h)
theorem half_zero (v z : Nat) (h : v < 2 ^ (z + 1)) : v / 2 ^ (z + 1) = 0 := Nat.div_eq_of_lt h

set_option maxRecDepth 100000 in
set_option maxHeartbeats 2000000 in
theorem rgamma_any (v z : Nat) (h1 : 1 ≤ v) (hv : v ≤ 9223372036854775807) (hz : z = Nat.log2 v) (w : World) :
    Calls Try.prog 37 #[.int .i64 v] w fun e w' => ∃ u, e = .returned u ∧ w'.ownsRow w.heap.size 3 1 u (z + (z + 1)) (il (digB v (z + (z + 1)))) ∧ Below w.heap.size w w' := by
  obtain ⟨i0, hi, hz0, hz1, hz2⟩ := info_parts infoI
  have hlo : 2 ^ z ≤ v := by rw [hz]; exact Nat.log2_self_le (by omega)
  have hup : v < 2 ^ (z + 1) := by rw [hz]; exact Nat.lt_log2_self
  have hz63 : z < 63 := by rw [hz]; exact log2_lt v 63 h1 (by omega)
  have HLO := Lib.hid hlo
  have HUP := Lib.hid hup
  have HD := Lib.hid (digB_zeros v z (z + 1) hup)
  have hmk : ∀ w, (Instr.makeSlice 48 (.int .i64 (z : Int)) (.int .i64 (z : Int))).run Try.prog w = .ok (.slice (some ⟨w.heap.size, 0, none⟩) z z) (w.alloc (.cells (il (List.replicate z false)).toArray 3)) := by
    intro w
    rw [run_make_row' 48 3 (.int .i64 0) 8 Try.underlying48 infoI rfl .i64 .i64 z (by omega) (by omega) w, made_int]
  have HV := Lib.hid hv
  clear hlo hup hz
  go_enter Try.func37, Try.ntmps37
  go_wp2
  go_loop [3, 4] (fun q m => ∃ j : Nat, j ≤ z + 1 ∧ q = .int .i64 j ∧ m = .int .i64 ((v / 2 ^ j : Nat) : Int)) (fun q _ => z + 1 - (intOf q).toNat)
  case atStart => exact ⟨0, Nat.zero_le _, rfl, by rw [Nat.pow_zero, Nat.div_one]⟩
  case round =>
    obtain ⟨j, hj, rfl, rfl⟩ := hrel
    have hqv := Nat.div_le_self v (2 ^ j)
    by_cases hlt : j ≤ z
    · have hp := half_pos v z j HLO.out hlt
      have hh : v / 2 ^ (j + 1) = v / 2 ^ j / 2 := by rw [Nat.pow_succ, Nat.div_div_eq_div_mul]
      obtain ⟨q, hq⟩ : ∃ q, q = v / 2 ^ j := ⟨_, rfl⟩
      rw [← hq] at hp hh hqv ⊢
      have HH := Lib.hid hh
      clear hh hq
      go_wp2
      go_round
      case rel => exact ⟨j + 1, by omega, by go_num, by rw [HH.out]; go_num⟩
      case measure => simp [intOf]; omega
    · obtain rfl : j = z + 1 := by omega
      rw [half_zero v z HUP.out]
      clear hqv
      go_upto_region 7 with (fail)
      refine wp_world (F := fun W => W.ownsRow w.heap.size 3 1 (.slice (some ⟨w.heap.size, 0, none⟩) z z) z (il (List.replicate z false)) ∧ Below w.heap.size w W) ⟨own_lit (Row.new _ _ _) _ _ (Nat.le_refl _) (by simp [il_length]) (by unfold maxLen; omega), (Below.refl _ _).alloc (Nat.le_refl _) _⟩ ?_
      rintro W1 ⟨ho, hb⟩
      go_wp2_with (first
        | (go_at_call 58; refine (digits_is v (z + 1) _ _ rfl (by omega) (by omega) (by omega) _).mono ?_; rintro e w2 ⟨g, rfl, hg, rg, hb2⟩; have ho2 := own_below ho hb2; have hbb := up_call hb hb2; have hsl := Sl.of_head rg (z + 1) (by rw [il_length, digB_length]; exact Nat.le_refl _); clear hb2)
        | (at_builtin; refine wpList_app _ rfl _ _ _ rfl w.heap.size 3 i0 (.int .i64 0) 8 Try.underlying48 hi hz0 hz1 hz2 rfl _ z _ rfl ho2 _ _ (z + 1) _ _ rfl hsl (fun u hu => il_one _ u (List.mem_of_mem_take hu)) (by unfold maxLen; omega) (by omega) hbb.size ?_; intro v3 w3 hown3 hg3))
      go_ret
      refine ⟨v3, rfl, ?_, blw_grown hbb hg3 hbb.size ho2 (Nat.le_refl _)⟩
      rw [HD.out, il_append]
      rw [List.take_of_length_le (by rw [il_length, digB_length]; exact Nat.le_refl _)] at hown3
      exact hown3

/-- GammaAt: the number, the place behind it, no code -/
def GamOut (l : List Bool) (f k : Nat) (x y z : Int) : Prop :=
  (k = 31 → x = 0 ∧ y = 0 ∧ z = 16) ∧ (k < 31 → l.length < f + 2 * k + 1 → x = 0 ∧ y = 0 ∧ z = 15) ∧
  (k < 31 → f + 2 * k + 1 ≤ l.length → x = (numF (fun i => l.getD (f + k + i) false) (k + 1) : Nat) ∧ y = ((f + 2 * k + 1 : Nat) : Int) ∧ z = 0)

set_option maxRecDepth 100000 in
set_option maxHeartbeats 2000000 in
theorem rgat_any (l : List Bool) (hl : l.length ≤ 131072) (f k : Nat) (_hf : f ≤ l.length) (hk : Zr l f 31 k) (A : Option Addr) (c n : Nat) (hn : n = l.length) (hc : n ≤ c) (w : World) (hS : Sl w w.heap.size A n (il l)) :
    Calls Try.prog 50 #[.slice A n c, .int .i64 f] w fun e w' => ∃ x y z, e = .returned (.tuple #[.int .i64 x, .int .i64 y, .int .i64 z]) ∧ GamOut l f k x y z ∧ w = w' := by
  obtain ⟨k1, k2, k3, k4⟩ := hk
  have HZ := Lib.hid k3
  have HE := Lib.hid k4
  have HN := Lib.hid hn
  have hn1 : n ≤ 131072 := by omega
  have hf1 : f + k ≤ n := by omega
  clear k2 k3 k4 hn hl _hf
  go_enter Try.func50, Try.ntmps50
  go_wp2
  go_loop [7] (fun i => ∃ j : Nat, j ≤ k ∧ j < 31 ∧ i = .int .i64 j) (fun i => 31 - (intOf i).toNat)
  case atStart => exact ⟨0, Nat.zero_le _, by omega, rfl⟩
  case round =>
    obtain ⟨j, hj, hj31, rfl⟩ := hrel
    by_cases hlt : j < k
    · obtain ⟨ad, rfl, hbl, hcell⟩ := hS.bit (k := f + j) (by omega)
      rw [HZ.out j hlt] at hcell
      by_cases h31 : j + 1 = 31
      · have h31b : ((j : Int) + 1 == 31) = true := beq_iff_eq.2 (by omega)
        obtain rfl : k = 31 := by omega
        clear h31
        go_wp2
        go_ret3
        exact ⟨_, _, _, rfl, ⟨fun _ => ⟨rfl, rfl, rfl⟩, fun h => absurd h (by omega), fun h => absurd h (by omega)⟩, rfl⟩
      · have h31b : ((j : Int) + 1 == 31) = false := beq_eq_false_iff_ne.2 (by omega)
        go_wp2
        go_round
        case rel => exact ⟨j + 1, by omega, by omega, by go_num⟩
        case measure => simp [intOf]; omega
    · obtain rfl : j = k := by omega
      have hstop : (f + j = n ∧ True) ∨ (f + j < n ∧ l.getD (f + j) false = true) := by
        by_cases h : f + j = n
        · exact .inl ⟨h, trivial⟩
        · rcases HE.out with h1 | h1 | h1
          · omega
          · exact absurd (h1.trans HN.out.symm) h
          · exact .inr ⟨by omega, h1⟩
      have HS0 := Lib.hid hS
      rcases hstop with ⟨h1, _⟩ | ⟨h1, h2⟩
      · have h3 : decide ((f : Int) + (j : Int) < (n : Int)) = false := decide_eq_false (by omega)
        have h4 : decide ((n : Int) < (f : Int) + 2 * (j : Int) + 1) = true := decide_eq_true (by omega)
        have h5 : l.length < f + 2 * j + 1 := by rw [← HN.out]; omega
        clear h1
        go_wp2
        go_ret3
        exact ⟨_, _, _, rfl, ⟨fun h => absurd h (by omega), fun _ _ => ⟨rfl, rfl, rfl⟩, fun _ h => absurd h (by omega)⟩, rfl⟩
      · obtain ⟨ad, rfl, hbl, hcell⟩ := hS.bit (k := f + j) h1
        rw [h2] at hcell
        by_cases h6 : n < f + 2 * j + 1
        · have h4 : decide ((n : Int) < (f : Int) + 2 * (j : Int) + 1) = true := decide_eq_true (by omega)
          have h5 : l.length < f + 2 * j + 1 := by rw [← HN.out]; omega
          go_wp2
          go_ret3
          exact ⟨_, _, _, rfl, ⟨fun h => absurd h (by omega), fun _ _ => ⟨rfl, rfl, rfl⟩, fun _ h => absurd h (by omega)⟩, rfl⟩
        · have h4 : decide ((n : Int) < (f : Int) + 2 * (j : Int) + 1) = false := decide_eq_false (by omega)
          have h5 : ¬ l.length < f + 2 * j + 1 := by rw [← HN.out]; omega
          have hsl := hS.part (f + j) (f + 2 * j + 1) (by omega) (by omega) hc
          have hm : f + 2 * j + 1 - (f + j) = j + 1 := by omega
          have hpl : (f + 2 * j + 1 - (f + j)) = ((l.drop (f + j)).take (f + 2 * j + 1 - (f + j))).length := by
            rw [List.length_take, List.length_drop, ← HN.out]
            omega
          have HPL := Lib.hid hpl
          have hp60 : ((l.drop (f + j)).take (f + 2 * j + 1 - (f + j))).length ≤ 60 := by rw [← hpl]; omega
          have hvb := valB_part l (f + j) (j + 1) (by rw [← HN.out]; omega)
          rw [← hm] at hvb
          have HVB := Lib.hid hvb
          have HM := Lib.hid hm
          clear hvb hpl hm
          go_wp2_with (go_at_call 49; refine (rnumber_any _ hp60 _ _ _ HPL.out _ hsl).mono ?_; rintro e w1 ⟨rfl, rfl⟩)
          go_ret3
          refine ⟨_, _, _, rfl, ⟨fun h => absurd h (by omega), fun _ h => absurd h h5, fun _ _ => ⟨?_, ?_, rfl⟩⟩, rfl⟩
          · rw [HVB.out, HM.out]
          · omega
end Go.Proofs.Ytahihgmlkcbfiaa

namespace Go.Proofs.Ytahihgmlkcbfiaa
open Go.RowKit

theorem rgat_is (l : List Bool) (hl : l.length ≤ 131072) (f : Nat) (hf : f ≤ l.length) (A : Option Addr) (c n : Nat) (hn : n = l.length) (hc : n ≤ c) (w : World) (hS : Sl w w.heap.size A n (il l)) :
    Calls Try.prog 50 #[.slice A n c, .int .i64 f] w fun e w' => e = .returned (.tuple #[.int .i64 ((gamF l f).1 : Nat), .int .i64 ((gamF l f).2.1 : Nat), .int .i64 ((gamF l f).2.2 : Nat)]) ∧ w' = w := by
  refine (rgat_any l hl f _ hf (zrF_is l 31 f hf) A c n hn hc w hS).mono ?_
  rintro e w' ⟨x, y, z, rfl, ⟨h1, h2, h3⟩, rfl⟩
  refine ⟨?_, rfl⟩
  have hle : zrF l f 31 ≤ 31 := (zrF_is l 31 f hf).1
  unfold gamF
  by_cases h31 : zrF l f 31 = 31
  · obtain ⟨rfl, rfl, rfl⟩ := h1 h31
    rw [if_pos h31]
    rfl
  · rw [if_neg h31]
    by_cases hs : l.length < f + 2 * zrF l f 31 + 1
    · obtain ⟨rfl, rfl, rfl⟩ := h2 (by omega) hs
      rw [if_pos hs]
      rfl
    · obtain ⟨rfl, rfl, rfl⟩ := h3 (by omega) (by omega)
      rw [if_neg hs]
      rfl
end Go.Proofs.Ytahihgmlkcbfiaa
