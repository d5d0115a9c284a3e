/-
  The contracts of the reference's after and next.
-/
import Derived.Test.YtcmbpniikcghfaaROcc
namespace Go.Proofs.Ytcmbpniikcghfaa
open Go.RowKit

set_option maxRecDepth 100000 in
set_option maxHeartbeats 4000000 in
theorem after_any (n m : Nat) (P Q : List UInt8) (_hn : n ≤ 100000) (_hm : m ≤ 100000) (w : World) :
    Calls Try.prog 36 #[.int .i64 n, .string ⟨P.toArray⟩, .int .i64 m, .string ⟨Q.toArray⟩] w fun e w' => e = .returned (.bool (decide (aftF n P m Q))) ∧ w' = w := by
  obtain ⟨x, hx⟩ : ∃ x, x = ltS Q P := ⟨_, rfl⟩
  by_cases h1 : n < m
  · have t1 : decide ((n : Int) < (m : Int)) = true := decide_eq_true (by omega)
    have hr : decide (aftF n P m Q) = true := decide_eq_true (.inl h1)
    have HR := Lib.hid hr
    clear hr hx
    go_enter Try.func36, Try.ntmps36
    go_wp2
    go_ret
    exact ⟨ret_bool (by rw [HR.out]), rfl⟩
  · have t1 : decide ((n : Int) < (m : Int)) = false := decide_eq_false (by omega)
    by_cases h2 : n = m
    · have t2 : ((n : Int) == (m : Int)) = true := beq_iff_eq.2 (by omega)
      have hr : decide (aftF n P m Q) = x := by
        rw [hx]
        cases h3 : ltS Q P with
        | true => exact decide_eq_true (.inr ⟨h2, h3⟩)
        | false =>
          refine decide_eq_false ?_
          rintro (h | ⟨_, h⟩)
          · exact h1 h
          · rw [h3] at h; cases h
      have HR := Lib.hid hr
      have HX : Hid ((!Op.bytesLess P Q && !P == Q) = x) := Lib.hid (by rw [hx, ← gtS P Q, Bool.not_or])
      clear hr hx h2
      go_enter Try.func36, Try.ntmps36
      go_wp2
      go_ret
      exact ⟨ret_bool (by rw [HR.out]; exact HX.out), rfl⟩
    · have t2 : ((n : Int) == (m : Int)) = false := beq_eq_false_iff_ne.2 (by omega)
      have hr : decide (aftF n P m Q) = false := by
        refine decide_eq_false ?_
        rintro (h | ⟨h, _⟩)
        · exact h1 h
        · exact h2 h
      have HR := Lib.hid hr
      clear hr hx
      go_enter Try.func36, Try.ntmps36
      go_wp2
      go_ret
      exact ⟨ret_bool (by rw [HR.out]), rfl⟩
/-! ### the search -/
set_option maxRecDepth 100000 in
set_option maxHeartbeats 8000000 in
theorem next_any (Ss : List (List UInt8)) (N m : Nat) (Q : List UInt8) (hN : N ≤ 64) (hS8 : ∀ X ∈ Ss, X.length ≤ 1024) (hm : m ≤ 100000) (A : Option Addr) (c : Nat) (w : World) (hS : Sls w w.heap.size A N Ss) :
    Calls Try.prog 25 #[.slice A N c, .int .i64 m, .string ⟨Q.toArray⟩] w fun e w' => (∃ b q, NextIs Ss m Q b q ∧ q ≤ N ∧ e = .returned (.tuple #[.string ⟨b.toArray⟩, .int .i64 (q : Nat)])) ∧ w' = w := by
  have HS := Lib.hid hS
  have H8 := Lib.hid hS8
  clear hS hS8
  go_enter Try.func25, Try.ntmps25
  go_upto_region 3 with (fail)
  go_loopw [8, 9, 10] (fun u v i wr => ∃ (j q : Nat) (b : List UInt8), wr = w ∧ j ≤ N ∧ q ≤ N ∧ i = .int .i64 j ∧ u = .string ⟨b.toArray⟩ ∧ v = .int .i64 q ∧ Hid (BestL Ss m Q ((Ss.take j).flatMap win8) b q)) (fun _ _ i _ => N - (intOf i).toNat)
  case atStart => exact ⟨0, 0, [], rfl, Nat.zero_le _, Nat.zero_le _, rfl, rfl, rfl, Lib.hid (best_start Ss m Q)⟩
  case round =>
    obtain ⟨j, q0, b0, rfl, hj, hq0, rfl, rfl, rfl, HB0⟩ := hrel
    by_cases hlt : j < N
    · obtain ⟨ad, X, Ai, ci, rfl, hbl, hg, hci, _, k1, hSi⟩ := HS.out.at_ hlt
      have hX8 := H8.out X (List.mem_of_getElem? hg)
      have hfl := flat_take Ss j X hg
      obtain ⟨n, hn⟩ : ∃ n, n = X.length := ⟨_, rfl⟩
      rw [← hn] at k1 hSi hci hX8
      have t1 : decide ((j : Int) < (N : Int)) = true := decide_eq_true (by omega)
      have HFL := Lib.hid hfl
      have HSi := Lib.hid hSi
      have HNX := Lib.hid hn
      have HB : Hid (BestL Ss m Q ((Ss.take j).flatMap win8 ++ (win8 X).take 0) b0 q0) := Lib.hid (by rw [List.take_zero, List.append_nil]; exact HB0.out)
      clear hfl hSi hn HB0 hg
      go_upto_region 6 with (fail)
      go_loopw [8, 9, 11] (fun u v i wr' => ∃ (k q : Nat) (b : List UInt8), wr' = wr ∧ k ≤ n ∧ q ≤ N ∧ i = .int .i64 k ∧ u = .string ⟨b.toArray⟩ ∧ v = .int .i64 q ∧ Hid (BestL Ss m Q ((Ss.take j).flatMap win8 ++ (win8 X).take k) b q)) (fun _ _ i _ => n + 1 - (intOf i).toNat)
      case atStart => exact ⟨0, q0, b0, rfl, Nat.zero_le _, hq0, rfl, rfl, rfl, HB⟩
      case round =>
        clear HB
        obtain ⟨k, q, b, rfl, hk, hq, rfl, rfl, rfl, HB⟩ := hrel
        by_cases hk8 : k + 8 ≤ n
        · have t2 : decide ((k : Int) + 8 ≤ (n : Int)) = true := decide_eq_true (by omega)
          obtain ⟨P, hP⟩ : ∃ P, P = (X.drop k).take 8 := ⟨_, rfl⟩
          have h8 : P.length = 8 := by rw [hP, List.length_take, List.length_drop, ← HNX.out]; omega
          have hwt := win_take X k (by rw [← HNX.out]; exact hk8)
          rw [← hP] at hwt
          obtain ⟨ai, rfl, hbi, _⟩ := HSi.out.2 (by omega)
          have sW := HSi.out.bytes k 8 (by omega) hk8 hci
          rw [← hP] at sW
          have hne : ¬ ci = k := by omega
          have hcv := fun z => conv_sl (P := Try.prog) wr 23 9 5 Try.underlying23 Try.underlying5 Try.underlying9 8 z sW
          have hfr := fun z => frequency_any Ss P N 8 hN H8.out h8.symm (by omega) (by omega) (some ad) (some (ai.add k)) c z wr HS.out sW
          have hfN : freqB Ss P ≤ N := by rw [← HS.out.1]; exact freq_le Ss P
          obtain ⟨f, hf⟩ : ∃ f, f = freqB Ss P := ⟨_, rfl⟩
          rw [← hf] at hfr hfN
          have ha1 := after_any f m P Q (by omega) hm wr
          have ha2 := after_any q f b P (by omega) (by omega) wr
          have HFR := Lib.hid hfr
          have HCV : ∀ z, (convert 23 9 (.slice (some (ai.add k)) 8 z)).run Try.prog wr = .ok (.string ⟨P.toArray⟩) wr := hcv
          have HF := Lib.hid hf
          have HW := Lib.hid hwt
          have HP8 := Lib.hid h8
          clear hfr hcv hf hwt hP h8 sW hbi hbl
          by_cases h2 : 2 ≤ f
          · have t3 : decide ((2 : Int) ≤ (f : Int)) = true := decide_eq_true (by omega)
            by_cases hx : aftF f P m Q
            · rw [decide_eq_true hx] at ha1
              by_cases hz : q = 0
              · have t4 : ((q : Int) == 0) = true := beq_iff_eq.2 (by omega)
                have HB2 : Hid (BestL Ss m Q ((Ss.take j).flatMap win8 ++ (win8 X).take (k + 1)) P f) := Lib.hid (by rw [HW.out, ← List.append_assoc]; exact best_take HB.out HP8.out HF.out h2 hx (.inl hz))
                clear ha2 hx hz HB
                go_wp2_with (first
                  | (go_at_call 17; refine (HFR.out _).mono ?_; rintro e w5 ⟨rfl, rfl⟩)
                  | (go_at_call 36; (with_reducible refine ha1.mono ?_); rintro e w6 ⟨rfl, rfl⟩))
                go_roundw
                case rel => exact ⟨k + 1, f, P, trivial, by omega, hfN, by go_num, rfl, rfl, HB2⟩
                case measure => simp [intOf]; omega
              · have t4 : ((q : Int) == 0) = false := beq_eq_false_iff_ne.2 (by omega)
                by_cases hy : aftF q b f P
                · rw [decide_eq_true hy] at ha2
                  have HB2 : Hid (BestL Ss m Q ((Ss.take j).flatMap win8 ++ (win8 X).take (k + 1)) P f) := Lib.hid (by rw [HW.out, ← List.append_assoc]; exact best_take HB.out HP8.out HF.out h2 hx (.inr hy))
                  have HA1 := Lib.hid ha1
                  have HA2 := Lib.hid ha2
                  clear hx hy HB ha1 ha2
                  go_wp2_with (first
                    | (go_at_call 17; refine (HFR.out _).mono ?_; rintro e w5 ⟨rfl, rfl⟩)
                    | (go_at_call 36; (with_reducible refine HA1.out.mono ?_); rintro e w6 ⟨rfl, rfl⟩)
                    | (go_at_call 36; (with_reducible refine HA2.out.mono ?_); rintro e w7 ⟨rfl, rfl⟩))
                  go_roundw
                  case rel => exact ⟨k + 1, f, P, trivial, by omega, hfN, by go_num, rfl, rfl, HB2⟩
                  case measure => simp [intOf]; omega
                · rw [decide_eq_false hy] at ha2
                  have HB2 : Hid (BestL Ss m Q ((Ss.take j).flatMap win8 ++ (win8 X).take (k + 1)) b q) := Lib.hid (by rw [HW.out, ← List.append_assoc]; exact best_keep HB.out hz (by rw [← HF.out]; exact hy))
                  have HA1 := Lib.hid ha1
                  have HA2 := Lib.hid ha2
                  clear hx hy HB ha1 ha2
                  go_wp2_with (first
                    | (go_at_call 17; refine (HFR.out _).mono ?_; rintro e w5 ⟨rfl, rfl⟩)
                    | (go_at_call 36; (with_reducible refine HA1.out.mono ?_); rintro e w6 ⟨rfl, rfl⟩)
                    | (go_at_call 36; (with_reducible refine HA2.out.mono ?_); rintro e w7 ⟨rfl, rfl⟩))
                  go_roundw
                  case rel => exact ⟨k + 1, q, b, trivial, by omega, hq, by go_num, rfl, rfl, HB2⟩
                  case measure => simp [intOf]; omega
            · rw [decide_eq_false hx] at ha1
              have HB2 : Hid (BestL Ss m Q ((Ss.take j).flatMap win8 ++ (win8 X).take (k + 1)) b q) := Lib.hid (by rw [HW.out, ← List.append_assoc]; exact best_skip HB.out (.inr (by rw [← HF.out]; exact hx)))
              clear hx HB ha2
              go_wp2_with (first
                | (go_at_call 17; refine (HFR.out _).mono ?_; rintro e w5 ⟨rfl, rfl⟩)
                | (go_at_call 36; (with_reducible refine ha1.mono ?_); rintro e w6 ⟨rfl, rfl⟩))
              go_roundw
              case rel => exact ⟨k + 1, q, b, trivial, by omega, hq, by go_num, rfl, rfl, HB2⟩
              case measure => simp [intOf]; omega
          · have t3 : decide ((2 : Int) ≤ (f : Int)) = false := decide_eq_false (by omega)
            have HB2 : Hid (BestL Ss m Q ((Ss.take j).flatMap win8 ++ (win8 X).take (k + 1)) b q) := Lib.hid (by rw [HW.out, ← List.append_assoc]; exact best_skip HB.out (.inl (by rw [← HF.out]; omega)))
            clear HB ha1 ha2
            go_wp2_with (first
              | (go_at_call 17; refine (HFR.out _).mono ?_; rintro e w5 ⟨rfl, rfl⟩))
            go_roundw
            case rel => exact ⟨k + 1, q, b, trivial, by omega, hq, by go_num, rfl, rfl, HB2⟩
            case measure => simp [intOf]; omega
        · have t2 : decide ((k : Int) + 8 ≤ (n : Int)) = false := decide_eq_false (by omega)
          have HB2 : Hid (BestL Ss m Q ((Ss.take (j + 1)).flatMap win8) b q) := Lib.hid (by rw [HFL.out, ← List.take_of_length_le (l := win8 X) (i := k) (by rw [win8_length, ← HNX.out]; omega)]; exact HB.out)
          clear HB
          go_wp2
          go_roundw
          case rel => exact ⟨j + 1, q, b, trivial, by omega, hq, by go_num, rfl, rfl, HB2⟩
          case measure => simp [intOf]; omega
    · obtain rfl : N = j := by omega
      have t1 : decide ((N : Int) < (N : Int)) = false := decide_eq_false (by omega)
      have HE : Hid (NextIs Ss m Q b0 q0) := Lib.hid (best_end (by
        have h := HB0.out
        rw [List.take_of_length_le (by rw [HS.out.1]; exact Nat.le_refl _)] at h
        exact h))
      clear HB0
      go_wp2
      go_ret2
      exact ⟨⟨b0, q0, HE.out, hq0, rfl⟩, rfl⟩
end Go.Proofs.Ytcmbpniikcghfaa
