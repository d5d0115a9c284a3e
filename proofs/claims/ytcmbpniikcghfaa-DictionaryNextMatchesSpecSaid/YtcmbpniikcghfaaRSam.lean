/-
  The contract of the reference's SamplesFault.
-/
import Derived.Test.YtcmbpniikcghfaaGFlatF
import Derived.Test.YtcmbpniikcghfaaGFlt
import Derived.Test.YtcmbpniikcghfaaSls
namespace Go.Proofs.Ytcmbpniikcghfaa
open Go.RowKit

set_option maxRecDepth 100000 in
set_option maxHeartbeats 4000000 in
theorem samplesfault_any (Ls : List (List UInt8)) (n : Nat) (hn : n = Ls.length) (k : Int) (A : Option Addr) (cp : Nat) (w : World) (hS : Sls w w.heap.size A n Ls) :
    Calls Try.prog 9 #[.slice A n cp, .int .i64 k] w fun e w' => e = .returned (.agg (flt (smF Ls k).1 (smF Ls k).2)) ∧ Below w.heap.size w w' := by
  by_cases h : 64 < n
  · have t0 : decide ((64 : Int) < (n : Int)) = true := decide_eq_true (by omega)
    have t1 : decide (64 < n) = true := decide_eq_true h
    rw [show smF Ls k = (2, k) by unfold smF; rw [if_pos (by omega)]]
    clear hS hn h
    go_enter Try.func9, Try.ntmps9
    go_upto_region 1 with (fail)
    refine wp_world (F := fun W => Row W w.heap.size 25 (flt 0 0) ∧ Below w.heap.size w W) ⟨Row.newEq _ _ _ _ _ rfl rfl, (Below.refl _ _).alloc (Nat.le_refl _) _⟩ ?_
    rintro W0 ⟨r0, hb⟩
    go_wp2_with (first
      | (go_at_call 11; refine (at_any 2 k _).mono ?_; rintro e w10 ⟨rfl, hb10⟩)
      | (refine wpList_store_row rfl 25 _ _ rfl w.heap.size (flt 2 k) rfl rfl 25 (flt 0 0) (r0.below hb10 r0.lt) (by rw [flt_size]; exact cellsF) rfl (all_one (flt_one _ _)) ?_))
    refine bodyPost_ret (results_row Try.results9 _ _ w.heap.size 25 (flt 2 k) _ rfl (Row.row (r0.below hb10 r0.lt) _) Try.underlying25 rfl (by rw [flt_size]; exact cellsF)) rfl ⟨rfl, ?_⟩
    exact blw_row (up_call hb hb10) (Nat.le_refl _) _
  · have t0 : decide ((64 : Int) < (n : Int)) = false := decide_eq_false (by omega)
    have t1 : decide (64 < n) = false := decide_eq_false h
    rw [show smF Ls k = longF Ls 0 by unfold smF; rw [if_neg (by omega)]]
    obtain ⟨r, hr⟩ : ∃ r, r = longF Ls 0 := ⟨_, rfl⟩
    rw [← hr]
    have HL := Lib.hid hn
    have HS := Lib.hid hS
    have HR := Lib.hid (show r = longF (Ls.drop 0) 0 from hr)
    clear hS hn hr
    go_enter Try.func9, Try.ntmps9
    go_upto_region 1 with (fail)
    refine wp_world (F := fun W => Row W w.heap.size 25 (flt 0 0) ∧ Below w.heap.size w W) ⟨Row.newEq _ _ _ _ _ rfl rfl, (Below.refl _ _).alloc (Nat.le_refl _) _⟩ ?_
    rintro W0 ⟨r0, hb⟩
    go_upto_region 4 with fail
    go_loopw [5] (fun i wr => ∃ j : Nat, j ≤ n ∧ i = .int .i64 j ∧ Hid (r = longF (Ls.drop j) j) ∧ Row wr w.heap.size 25 (flt 0 0) ∧ Below w.heap.size w wr) (fun i _ => n - (intOf i).toNat)
    case atStart => exact ⟨0, Nat.zero_le _, rfl, HR, r0, hb⟩
    case round =>
      clear r0 hb HR
      obtain ⟨j, hj, rfl, HR, r0, hb⟩ := hrel
      by_cases hlt : j < n
      · obtain ⟨ad, L, Ai, ci, rfl, hbl, hg, _, _, k1, _⟩ := (HS.out.below hb).at_ hlt
        have hrr := HR.out
        rw [longF_at Ls j L hg] at hrr
        obtain ⟨m, hm⟩ : ∃ m, m = L.length := ⟨_, rfl⟩
        rw [← hm] at k1 hrr
        have HRR := Lib.hid hrr
        clear hg hm hrr HR
        by_cases hm2 : 1024 < m
        · have t3 : decide ((1024 : Int) < (m : Int)) = true := decide_eq_true (by omega)
          have t4 : decide (1024 < m) = true := decide_eq_true hm2
          have hrr := HRR.out
          rw [if_pos hm2] at hrr
          have HR := Lib.hid hrr
          clear hrr HRR hm2
          go_wp2_with (first
            | (go_at_call 11; refine (at_any 3 j _).mono ?_; rintro e w10 ⟨rfl, hb10⟩)
            | (refine wpList_store_row rfl 25 _ _ rfl w.heap.size (flt 3 j) rfl rfl 25 (flt 0 0) (r0.below hb10 r0.lt) (by rw [flt_size]; exact cellsF) rfl (all_one (flt_one _ _)) ?_))
          refine bodyPost_ret (results_row Try.results9 _ _ w.heap.size 25 (flt 3 j) _ rfl (Row.row (r0.below hb10 r0.lt) _) Try.underlying25 rfl (by rw [flt_size]; exact cellsF)) rfl ⟨?_, ?_⟩
          · rw [HR.out]
          · exact blw_row (up_call hb hb10) (Nat.le_refl _) _
        · have t3 : decide ((1024 : Int) < (m : Int)) = false := decide_eq_false (by omega)
          have t4 : decide (1024 < m) = false := decide_eq_false hm2
          have hrr := HRR.out
          rw [if_neg hm2] at hrr
          have HR := Lib.hid hrr
          clear hrr HRR hm2
          go_wp2
          go_roundw
          case rel => exact ⟨j + 1, by omega, by go_num, HR, r0, hb⟩
          case measure => simp [intOf]; omega
      · obtain rfl : n = j := by omega
        have hre : r = (0, 0) := by
          have h := HR.out
          rw [HL.out, List.drop_of_length_le (Nat.le_refl _)] at h
          exact h
        have HRE := Lib.hid hre
        clear hre HR
        go_wp2_with (first
          | (refine wpList_store_row rfl 25 _ _ rfl w.heap.size (flt 0 0) rfl rfl 25 (flt 0 0) r0 (by rw [flt_size]; exact cellsF) rfl (all_one (flt_one _ _)) ?_))
        refine bodyPost_ret (results_row Try.results9 _ _ w.heap.size 25 (flt 0 0) _ rfl (Row.row r0 _) Try.underlying25 rfl (by rw [flt_size]; exact cellsF)) rfl ⟨?_, ?_⟩
        · rw [HRE.out]
        · exact blw_row hb (Nat.le_refl _) _
end Go.Proofs.Ytcmbpniikcghfaa
