/-
  The contract of the reference's Number.
-/
import Derived.Test.YtahihgmlkcbfiaaIL
import Derived.Test.YtahihgmlkcbfiaaBPlain
import Derived.Test.YtahihgmlkcbfiaaRIn
namespace Go.Proofs.Ytahihgmlkcbfiaa
open Go.RowKit

set_option maxRecDepth 100000 in
set_option maxHeartbeats 2000000 in
theorem rnumber_any (l : List Bool) (hl : l.length ≤ 60) (A : Option Addr) (c : Nat) (n : Nat) (hn : n = l.length) (w : World) (hS : Sl w w.heap.size A n (il l)) :
    Calls Try.prog 49 #[.slice A n c] w fun e w' => e = .returned (.int .i64 (valB l)) ∧ w = w' := by
  have hn60 : n ≤ 60 := by omega
  have HN := Lib.hid hn
  clear hn hl
  go_enter Try.func49, Try.ntmps49
  go_wp2
  go_loop [3, 4] (fun q i => ∃ j : Nat, j ≤ n ∧ i = .int .i64 j ∧ q = .int .i64 (numF (fun i => l.getD i false) j)) (fun _ i => n - (intOf i).toNat)
  case atStart => exact ⟨0, Nat.zero_le _, rfl, rfl⟩
  case round =>
    obtain ⟨j, hj, rfl, rfl⟩ := hrel
    by_cases hlt : j < n
    · obtain ⟨ad, rfl, hb, hcell⟩ := hS.bit hlt
      have hq2 := numF_lt (fun i => l.getD i false) j
      have h60 : 2 ^ j ≤ 2 ^ 60 := Nat.pow_le_pow_right (by omega) (by omega)
      have hs := numF_succ (fun i => l.getD i false) j
      obtain ⟨q, hq⟩ : ∃ q, q = numF (fun i => l.getD i false) j := ⟨_, rfl⟩
      rw [← hq] at hq2 hs ⊢
      have hq3 : q < 1152921504606846976 := Nat.lt_of_lt_of_le hq2 h60
      obtain ⟨b, hbv⟩ : ∃ b, b = (l.getD j false).toNat := ⟨_, rfl⟩
      have hb2 : b < 2 := by rw [hbv]; exact bool_lt _
      rw [← hbv] at hs hcell
      have HSS := Lib.hid hs
      clear hq hs hbv hq2 h60
      go_wp2
      go_round
      case rel => exact ⟨j + 1, by omega, by go_num, by rw [HSS.out]; go_num⟩
      case measure => simp [intOf]; omega
    · obtain rfl : j = n := by omega
      go_wp2
      go_ret
      exact ⟨ret_int (by rw [valB, ← HN.out]; simp), rfl⟩
end Go.Proofs.Ytahihgmlkcbfiaa
