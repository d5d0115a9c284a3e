/-
  The contract of the reference's Total.
-/
import Derived.Test.YtcmbpniikcghfaaGFlatF
import Derived.Test.YtcmbpniikcghfaaSls
namespace Go.Proofs.Ytcmbpniikcghfaa
open Go.RowKit

/-- the number of bytes of byte strings -/
def totL (Ss : List (List UInt8)) : Nat := (Ss.map List.length).sum
theorem tot_take (Ss : List (List UInt8)) (i : Nat) (X : List UInt8) (h : Ss[i]? = some X) : totL (Ss.take (i + 1)) = totL (Ss.take i) + X.length := by
  obtain ⟨hi, h⟩ := List.getElem?_eq_some_iff.1 h
  unfold totL
  rw [List.take_succ_eq_append_getElem hi, List.map_append, List.sum_append, h]
  simp
theorem tot_le (Ss : List (List UInt8)) (i : Nat) : totL (Ss.take i) ≤ totL Ss := by
  unfold totL
  conv => rhs; rw [← List.take_append_drop i Ss, List.map_append, List.sum_append]
  exact Nat.le_add_right _ _

set_option maxRecDepth 100000 in
set_option maxHeartbeats 4000000 in
theorem total_any (Ss : List (List UInt8)) (N : Nat) (hN : N ≤ 64) (hS8 : ∀ X ∈ Ss, X.length ≤ 1024) (most : Nat) (hm : most ≤ 1000) (A : Option Addr) (c : Nat) (w : World) (hS : Sls w w.heap.size A N Ss) :
    Calls Try.prog 13 #[.slice A N c, .int .i64 most] w fun e w' => (∃ t : Nat, (t ≤ most ↔ totL Ss ≤ most) ∧ e = .returned (.int .i64 t)) ∧ w' = w := by
  have HS := Lib.hid hS
  have H8 := Lib.hid hS8
  clear hS hS8
  go_enter Try.func13, Try.ntmps13
  go_upto_region 3 with (fail)
  go_loopw [5, 6] (fun v i wr => ∃ j t : Nat, wr = w ∧ j ≤ N ∧ t ≤ most + 1024 ∧ i = .int .i64 j ∧ v = .int .i64 t ∧ Hid (t = totL (Ss.take j))) (fun _ i _ => N - (intOf i).toNat)
  case atStart => exact ⟨0, 0, rfl, Nat.zero_le _, by omega, rfl, rfl, Lib.hid rfl⟩
  case round =>
    obtain ⟨j, t, rfl, hj, ht, rfl, rfl, HT⟩ := hrel
    by_cases htm : t ≤ most
    · have t2 : decide ((t : Int) ≤ (most : Int)) = true := decide_eq_true (by omega)
      have t6 : decide ((most : Int) < (t : Int)) = false := decide_eq_false (by omega)
      by_cases hlt : j < N
      · have t1 : decide ((j : Int) < (N : Int)) = true := decide_eq_true (by omega)
        obtain ⟨ad, X, Ai, ci, rfl, hbl, hg, hci, _, k1, hSi⟩ := HS.out.at_ hlt
        have hX8 := H8.out X (List.mem_of_getElem? hg)
        have htt := tot_take Ss j X hg
        have hle := tot_le Ss (j + 1)
        obtain ⟨n, hn⟩ : ∃ n, n = X.length := ⟨_, rfl⟩
        rw [← hn] at k1 hSi hci hX8 htt
        rw [htt, ← HT.out] at hle
        by_cases hnm : most < n
        · have t3 : decide ((most : Int) < (n : Int)) = true := decide_eq_true (by omega)
          have HR : Hid (most + 1 ≤ most ↔ totL Ss ≤ most) := Lib.hid (by omega)
          clear htt hle hn hg hSi
          go_wp2
          go_ret
          exact ⟨⟨most + 1, HR.out, rfl⟩, rfl⟩
        · have t3 : decide ((most : Int) < (n : Int)) = false := decide_eq_false (by omega)
          have HN : Hid (t + n = totL (Ss.take (j + 1))) := Lib.hid (by rw [htt, ← HT.out])
          clear htt hle hn hg hSi
          go_wp2
          go_roundw
          case rel => exact ⟨j + 1, t + n, trivial, by omega, by omega, by go_num, by go_num, HN⟩
          case measure => simp [intOf]; omega
      · obtain rfl : N = j := by omega
        have t1 : decide ((N : Int) < (N : Int)) = false := decide_eq_false (by omega)
        have HR : Hid (t ≤ most ↔ totL Ss ≤ most) := Lib.hid (by
          have h := HT.out
          rw [List.take_of_length_le (by rw [HS.out.1]; exact Nat.le_refl _)] at h
          rw [h])
        go_wp2
        go_ret
        exact ⟨⟨t, HR.out, rfl⟩, rfl⟩
    · have t2 : decide ((t : Int) ≤ (most : Int)) = false := decide_eq_false (by omega)
      have t6 : decide ((most : Int) < (t : Int)) = true := decide_eq_true (by omega)
      have hle := tot_le Ss j
      rw [← HT.out] at hle
      have HR : Hid (most + 1 ≤ most ↔ totL Ss ≤ most) := Lib.hid (by omega)
      clear hle
      by_cases hlt : j < N
      · have t1 : decide ((j : Int) < (N : Int)) = true := decide_eq_true (by omega)
        go_wp2
        go_ret
        exact ⟨⟨most + 1, HR.out, rfl⟩, rfl⟩
      · have t1 : decide ((j : Int) < (N : Int)) = false := decide_eq_false (by omega)
        go_wp2
        go_ret
        exact ⟨⟨most + 1, HR.out, rfl⟩, rfl⟩
end Go.Proofs.Ytcmbpniikcghfaa
