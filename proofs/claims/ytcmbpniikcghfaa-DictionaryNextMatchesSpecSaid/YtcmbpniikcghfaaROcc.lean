/-
  The contracts of the reference's Occurs and Frequency.
-/
import Derived.Test.YtcmbpniikcghfaaRKit
import Derived.Test.YtcmbpniikcghfaaGFlatF
import Derived.Test.YtcmbpniikcghfaaSls
import Derived.Test.YtcmbpniikcghfaaRSub
import Derived.Test.YtcmbpniikcghfaaYPlain
namespace Go.Proofs.Ytcmbpniikcghfaa
open Go.RowKit

/-- a part of a slice of bytes -/
theorem Sl.bytes {w : World} {B n : Nat} {ad : Addr} {X : List UInt8} (h : Sl w B (some ad) n (bl X)) {c : Nat} (f m : Nat) (hm : 1 ≤ m) (he : f + m ≤ n) (hc : n ≤ c) : Sl w B (some (ad.add f)) m (bl ((X.drop f).take m)) := by
  have h1 := h.cut (k := f) (cap := c) (by omega) hc
  rw [if_neg (by omega)] at h1
  have h2 := h1.first (k := m) (by omega)
  rw [bl_drop, bl_take] at h2
  exact h2
set_option maxRecDepth 100000 in
set_option maxHeartbeats 4000000 in
theorem occurs_any (X P : List UInt8) (n m : Nat) (hn : n = X.length) (hm : m = P.length) (h1 : 1 ≤ m) (hn2 : n ≤ 100000) (hm2 : m ≤ 100000) (A B : Option Addr) (c d : Nat) (hc : n ≤ c) (w : World) (hX : Sl w w.heap.size A n (bl X)) (hP : Sl w w.heap.size B m (bl P)) :
    Calls Try.prog 18 #[.slice A n c, .slice B m d] w fun e w' => e = .returned (.bool (occB X P)) ∧ w' = w := by
  obtain ⟨r, hr⟩ : ∃ r, r = occB X P := ⟨_, rfl⟩
  rw [← hr]
  have HX := Lib.hid hX
  have HP := Lib.hid hP
  have HR := Lib.hid hr
  have HL := Lib.hid (And.intro hn hm)
  clear hX hP hr hn hm
  go_enter Try.func18, Try.ntmps18
  go_upto_region 2 with (fail)
  go_loopw [5] (fun i wr => ∃ j : Nat, wr = w ∧ j ≤ n + 1 ∧ i = .int .i64 j ∧ Hid (∀ k, k < j → (X.drop k).take m ≠ P)) (fun i _ => n + 1 - (intOf i).toNat)
  case atStart => exact ⟨0, rfl, Nat.zero_le _, rfl, Lib.hid fun k hk => absurd hk (Nat.not_lt_zero k)⟩
  case round =>
    obtain ⟨j, rfl, hj, rfl, HJ⟩ := hrel
    by_cases hlt : j + m ≤ n
    · have t1 : decide ((j : Int) + (m : Int) ≤ (n : Int)) = true := decide_eq_true (by omega)
      obtain ⟨ad, rfl, hbl, _⟩ := HX.out.2 (by omega)
      have hSl := HX.out.bytes j m h1 hlt hc
      have hne : ¬ c = j := by omega
      have hsm := fun q => same_any (some (ad.add j)) B ((X.drop j).take m) P m m q d wr hSl HP.out
      by_cases hq : (X.drop j).take m = P
      · rw [decide_eq_true hq] at hsm
        have hrr : r = true := by
          rw [HR.out, occB_iff]
          exact ⟨j, by rw [← HL.out.1, ← HL.out.2]; exact hlt, by rw [← HL.out.2]; exact hq⟩
        have HRR := Lib.hid hrr
        clear hrr hq hSl HJ
        go_wp2_with (first
          | (go_at_call 14; refine (hsm _).mono ?_; rintro e w5 ⟨rfl, rfl⟩))
        go_ret
        exact ⟨ret_bool (by rw [HRR.out]), rfl⟩
      · rw [decide_eq_false hq] at hsm
        have HN : Hid (∀ k, k < j + 1 → (X.drop k).take m ≠ P) := Lib.hid fun k hk => by
          by_cases e : k = j
          · subst e; exact hq
          · exact HJ.out k (by omega)
        clear hq hSl HJ
        go_wp2_with (first
          | (go_at_call 14; refine (hsm _).mono ?_; rintro e w5 ⟨rfl, rfl⟩))
        go_roundw
        case rel => exact ⟨j + 1, trivial, by omega, by go_num, HN⟩
        case measure => simp [intOf]; omega
    · have t1 : decide ((j : Int) + (m : Int) ≤ (n : Int)) = false := decide_eq_false (by omega)
      have hrr : r = false := by
        rw [HR.out]
        cases ho : occB X P with
        | false => rfl
        | true =>
          obtain ⟨i, hi, hq⟩ := (occB_iff X P).1 ho
          rw [← HL.out.1, ← HL.out.2] at hi
          rw [← HL.out.2] at hq
          exact absurd hq (HJ.out i (by omega))
      have HRR := Lib.hid hrr
      clear hrr
      go_wp2
      go_ret
      exact ⟨ret_bool (by rw [HRR.out]), rfl⟩

set_option maxRecDepth 100000 in
set_option maxHeartbeats 4000000 in
theorem frequency_any (Ss : List (List UInt8)) (P : List UInt8) (N m : Nat) (hN : N ≤ 64) (hS8 : ∀ X ∈ Ss, X.length ≤ 1024) (hm : m = P.length) (h1 : 1 ≤ m) (hm2 : m ≤ 100000) (A B : Option Addr) (c d : Nat) (w : World) (hS : Sls w w.heap.size A N Ss) (hP : Sl w w.heap.size B m (bl P)) :
    Calls Try.prog 17 #[.slice A N c, .slice B m d] w fun e w' => e = .returned (.int .i64 (freqB Ss P : Nat)) ∧ w' = w := by
  obtain ⟨r, hr⟩ : ∃ r, r = freqB Ss P := ⟨_, rfl⟩
  rw [← hr]
  have HS := Lib.hid hS
  have HP := Lib.hid hP
  have HR := Lib.hid hr
  have H8 := Lib.hid hS8
  have HM := Lib.hid hm
  clear hS hP hr hS8 hm
  go_enter Try.func17, Try.ntmps17
  go_upto_region 3 with (fail)
  go_loopw [5, 6] (fun v i wr => ∃ j q : Nat, wr = w ∧ j ≤ N ∧ q ≤ j ∧ i = .int .i64 j ∧ v = .int .i64 q ∧ Hid (q = freqB (Ss.take j) P)) (fun _ i _ => N - (intOf i).toNat)
  case atStart => exact ⟨0, 0, rfl, Nat.zero_le _, Nat.le_refl _, rfl, rfl, Lib.hid rfl⟩
  case round =>
    obtain ⟨j, q, rfl, hj, hq, rfl, rfl, HQ⟩ := hrel
    by_cases hlt : j < N
    · obtain ⟨ad, X, Ai, ci, rfl, hbl, hg, hci, _, k1, hSi⟩ := HS.out.at_ hlt
      have hX8 := H8.out X (List.mem_of_getElem? hg)
      obtain ⟨n, hn⟩ : ∃ n, n = X.length := ⟨_, rfl⟩
      rw [← hn] at k1 hSi hci hX8
      have hft := freq_take Ss P X j hg
      have hoc := occurs_any X P n m hn HM.out h1 (by omega) hm2 Ai B ci d hci wr hSi HP.out
      have t1 : decide ((j : Int) < (N : Int)) = true := decide_eq_true (by omega)
      cases ho : occB X P with
      | true =>
        rw [ho] at hoc
        rw [ho, ← HQ.out] at hft
        have HN : Hid (q + 1 = freqB (Ss.take (j + 1)) P) := Lib.hid hft.symm
        have HO := Lib.hid hoc
        clear hft hoc hSi hn hg HQ ho
        go_wp2_with (first
          | (go_at_call 18; refine HO.out.mono ?_; rintro e w5 ⟨rfl, rfl⟩))
        go_roundw
        case rel => exact ⟨j + 1, q + 1, trivial, by omega, by omega, by go_num, by go_num, HN⟩
        case measure => simp [intOf]; omega
      | false =>
        rw [ho] at hoc
        rw [ho, ← HQ.out] at hft
        have HN : Hid (q = freqB (Ss.take (j + 1)) P) := Lib.hid hft.symm
        have HO := Lib.hid hoc
        clear hft hoc hSi hn hg HQ ho
        go_wp2_with (first
          | (go_at_call 18; refine HO.out.mono ?_; rintro e w5 ⟨rfl, rfl⟩))
        go_roundw
        case rel => exact ⟨j + 1, q, trivial, by omega, by omega, by go_num, rfl, HN⟩
        case measure => simp [intOf]; omega
    · obtain rfl : N = j := by omega
      have hqr : q = r := by
        rw [HR.out, HQ.out, List.take_of_length_le (by rw [HS.out.1]; exact Nat.le_refl _)]
      have HRR := Lib.hid hqr
      clear hqr
      have t1 : decide ((N : Int) < (N : Int)) = false := decide_eq_false (by omega)
      go_wp2
      go_ret
      exact ⟨ret_int (by rw [HRR.out]), rfl⟩
end Go.Proofs.Ytcmbpniikcghfaa
