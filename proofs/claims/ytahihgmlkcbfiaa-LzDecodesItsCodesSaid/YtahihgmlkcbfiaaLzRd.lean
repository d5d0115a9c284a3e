/-
  The walks of LzRoundTrips.
-/
import Derived.Test.YtahihgmlkcbfiaaLzM
namespace Go.Proofs.Ytahihgmlkcbfiaa.lawLzRound
open Go.RowKit

theorem sz_good {N D : Nat} (h : ¬ (szF N 1024 D).1 ≠ 0) : N ≤ 1024 ∧ D ≤ 512 := by
  unfold szF at h
  by_cases h1 : 1024 < N
  · rw [if_pos h1] at h
    simp at h
  · rw [if_neg h1] at h
    by_cases h2 : 512 < D
    · rw [if_pos h2] at h
      simp at h
    · omega
set_option maxRecDepth 100000 in
set_option maxHeartbeats 8000000 in
theorem walk_bad (H : LZ) (N D : Nat) (h : (szF N 1024 D).1 ≠ 0) (A B : Option Addr) (cd ce : Nat) (w : World) :
    Calls Try.prog 5 #[.slice A N cd, .slice B D ce] w fun e w' => e = .returned (.bool true) ∧ Below w.heap.size w w' := by
  have hp := H.parseBad N D A B cd ce w h
  obtain ⟨k, i, hk⟩ : ∃ k i, szF N 1024 D = (k, i) := ⟨_, _, rfl⟩
  rw [hk] at hp h
  simp only at hp h
  have t1 : (k != 0) = true := bne_iff_ne.2 h
  clear h hk
  go_enter Try.func5, Try.ntmps5
  go_upto_region 2 with (first
    | (go_at_call 11; refine hp.mono ?_; rintro e w1 ⟨⟨G1, c1, rfl⟩, hb1⟩)
    | (refine wpList_store_row rfl 25 _ _ rfl w1.heap.size (flt k i) rfl rfl 25 (flt 0 0) ((Row.newEq _ _ _ _ _ rfl rfl)) (by rw [flt_size]; exact cellsF) rfl (all_one (flt_one _ _)) ?_))
  have hk1 := blw_new1 w1 (.cells #[.int .i64 0, .int .i64 0] 25) (flt k i)
  refine wp_world (F := fun W => Row W w1.heap.size 25 (flt k i) ∧ Below w.heap.size w W) ⟨row_new1 _ _ _ _, up_call hb1 hk1⟩ ?_
  generalize w1.heap.size = g6
  clear hk1 hb1 hp w1
  rintro W1 ⟨r6, hb⟩
  go_wp2_with (first
    | (go_at_call 13; refine (matches_any H W1).mono ?_; rintro e w2 ⟨rfl, hb2⟩; have k6 : w2.cell? ⟨g6, 0, none⟩ = some (.int .i64 k) := ((r6.below hb2 r6.lt).cell 0).trans rfl)
    | (go_at_call 13; refine (matches_any H w2).mono ?_; rintro e w3 ⟨rfl, hb3⟩))
  go_ret
  exact ⟨rfl, up_call (up_call hb hb2) hb3⟩

set_option maxRecDepth 100000 in
set_option maxHeartbeats 8000000 in
theorem walk_good (H : LZ) (L E : List UInt8) (N D : Nat) (hN : N = L.length) (hD : D = E.length) (hN2 : N ≤ 1024) (hD2 : D ≤ 512) (A B : Option Addr) (cd ce : Nat) (w : World) (hA : Sl w w.heap.size A N (bl L)) (hB : Sl w w.heap.size B D (bl E)) :
    Calls Try.prog 5 #[.slice A N cd, .slice B D ce] w fun e w' => e = .returned (.bool true) ∧ Below w.heap.size w w' := by
  have hp := H.parse L E N D hN hD hN2 hD2 A B cd ce w hA hB
  have HAB := Lib.hid (And.intro hA hB)
  have HL := Lib.hid (And.intro hN hD)
  clear hA hB hN hD
  go_enter Try.func5, Try.ntmps5
  go_upto_region 2 with (first
    | (go_at_call 11; refine hp.mono ?_; rintro e w1 ⟨⟨G1, c1, K, t, hT, rfl, s1⟩, hb1⟩)
    | (refine wpList_store_row rfl 25 _ _ rfl w1.heap.size (flt 0 0) rfl rfl 25 (flt 0 0) ((Row.newEq _ _ _ _ _ rfl rfl)) (by rw [flt_size]; exact cellsF) rfl (all_one (flt_one _ _)) ?_))
  have hXl : (E ++ L).length = D + N := by rw [List.length_append, ← HL.out.1, ← HL.out.2]
  have hrun := run_path hXl hN2 hT N 0 0 (by omega) (Nat.zero_le _)
  rw [show (E ++ L).take (D + 0) = E by rw [Nat.add_zero, HL.out.2]; exact List.take_left] at hrun
  have hgood := good_path hXl hN2 hD2 hT N 0
  have hplen := path_len hT N 0
  obtain ⟨o, ho⟩ : ∃ o, o = pathT t N N 0 := ⟨_, rfl⟩
  rw [← ho] at hrun hgood hplen s1 ⊢
  obtain ⟨n, hn⟩ : ∃ n, n = o.length := ⟨_, rfl⟩
  rw [← hn] at s1 hplen ⊢
  have hex := fun w hS hB => H.expand o hgood n hn (by omega) E D HL.out.2 hD2 G1 B c1 ce w hS hB
  rw [hrun] at hex
  have hdr : (E ++ L).drop D = L := by rw [HL.out.2]; exact List.drop_left
  have hdl : (E ++ L).length - D = N := by rw [hXl]; omega
  have hex2 : ∀ w, Tks w w.heap.size G1 n (tz o) → Sl w w.heap.size B D (bl E) → Calls Try.prog 16 #[.slice G1 n c1, .slice B D ce] w fun e w' => ∃ G3 c3, e = .returned (.tuple #[.slice G3 N c3, .agg (flt 0 0)]) ∧ Sl w' w'.heap.size G3 N (bl L) ∧ Below w.heap.size w w' := by
    intro w hS hB
    refine (hex w hS hB).mono ?_
    rintro e w' ⟨⟨G3, c3, he, h3⟩, hb⟩
    rw [hdl] at he h3
    rw [hdr] at h3
    exact ⟨G3, c3, he, h3, hb⟩
  have HEX := Lib.hid hex2
  have hk1 := blw_new1 w1 (.cells #[.int .i64 0, .int .i64 0] 25) (flt 0 0)
  have hk2 := up_call hb1 hk1
  refine wp_world (F := fun W => Row W w1.heap.size 25 (flt 0 0) ∧ Tks W W.heap.size G1 n (tz o) ∧ Sl W W.heap.size A N (bl L) ∧ Sl W W.heap.size B D (bl E) ∧ Below w.heap.size w W) ⟨row_new1 _ _ _ _, s1.up hk1, HAB.out.1.up hk2, HAB.out.2.up hk2, hk2⟩ ?_
  generalize w1.heap.size = g6
  clear hk1 hk2 hb1 hp w1 s1 HAB hex hex2 hdr hdl hrun hgood hplen ho hn hT hXl
  rintro W1 ⟨r6, s1, sA, sB, hb⟩
  go_upto_region 5 with (first
    | (go_at_call 13; refine (matches_any H W1).mono ?_; rintro e w2 ⟨rfl, hb2⟩; have k6 : w2.cell? ⟨g6, 0, none⟩ = some (.int .i64 0) := ((r6.below hb2 r6.lt).cell 0).trans rfl; have p1 := s1.up hb2; have pA := sA.up hb2; have pB := sB.up hb2)
    | (go_at_call 16; refine (HEX.out _ p1 pB).mono ?_; rintro e w3 ⟨G3, c3, rfl, s3, hb3⟩)
    | (refine wpList_store_row rfl 25 _ _ rfl w3.heap.size (flt 0 0) rfl rfl 25 (flt 0 0) ((Row.newEq _ _ _ _ _ rfl rfl)) (by rw [flt_size]; exact cellsF) rfl (all_one (flt_one _ _)) ?_))
  have hk1 := blw_new1 w3 (.cells #[.int .i64 0, .int .i64 0] 25) (flt 0 0)
  refine wp_world (F := fun W => Row W w3.heap.size 25 (flt 0 0) ∧ Sl W W.heap.size G3 N (bl L) ∧ Sl W W.heap.size A N (bl L) ∧ Below w.heap.size w W) ⟨row_new1 _ _ _ _, s3.up hk1, (pA.up hb3).up hk1, up_call (up_call hb hb2) (up_call hb3 hk1)⟩ ?_
  generalize w3.heap.size = g8
  clear hk1 hb3 hb2 s3 k6 p1 pA pB r6 s1 sA sB hb HEX w3 w2
  rintro W4 ⟨r8, s3, sA, hb⟩
  have k8 : W4.cell? ⟨g8, 0, none⟩ = some (.int .i64 0) := (r8.cell 0).trans rfl
  have hsame := same_any G3 A L L N N c3 cd W4 s3 sA
  rw [show decide (L = L) = true by simp] at hsame
  go_wp2_with (first
    | (go_at_call 20; refine hsame.mono ?_; rintro e w5 ⟨rfl, h5⟩; subst w5))
  go_ret
  exact ⟨rfl, hb⟩
end Go.Proofs.Ytahihgmlkcbfiaa.lawLzRound
