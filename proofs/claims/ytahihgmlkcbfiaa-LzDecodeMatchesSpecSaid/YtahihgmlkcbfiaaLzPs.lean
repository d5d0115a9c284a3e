/-
  The walks of LzParseMatchesSpec.
-/
import Derived.Test.YtahihgmlkcbfiaaLzM
namespace Go.Proofs.Ytahihgmlkcbfiaa.lawLzParse
open Go.RowKit

theorem eqin_f (a b : Int) (w : World) : (binOp .neq 25 (.agg (flt a b)) (.agg (flt a b))).run Try.prog w = .ok (.bool false) w := by
  have h := neq_flt a b a b w
  simp only [beq_self_eq_true, Bool.and_self, Bool.not_true] at h
  exact h
set_option maxRecDepth 100000 in
set_option maxHeartbeats 8000000 in
theorem walk_bad (H : LZ) (N D : Nat) (h : (szF N 1024 D).1 ≠ 0) (A B : Option Addr) (cd ce : Nat) (w : World) :
    Calls Try.prog 3 #[.slice A N cd, .slice B D ce] w fun e w' => e = .returned (.bool true) ∧ Below w.heap.size w w' := by
  have hp := H.parseBad N D A B cd ce w h
  have hs := sizefault_any N 1024 D A B cd ce
  obtain ⟨k, i, hk⟩ : ∃ k i, szF N 1024 D = (k, i) := ⟨_, _, rfl⟩
  rw [hk] at hp hs h
  simp only at hp hs h
  have t1 : (k != 0) = true := bne_iff_ne.2 h
  have hne := eqin_f k i
  clear h hk
  go_enter Try.func3, Try.ntmps3
  go_upto_region 2 with (first
    | (go_at_call 11; refine hp.mono ?_; rintro e w1 ⟨⟨G1, c1, rfl⟩, hb1⟩)
    | (refine wpList_store_row rfl 25 _ _ rfl w1.heap.size (flt k i) rfl rfl 25 (flt 0 0) ((Row.newEq _ _ _ _ _ rfl rfl)) (by rw [flt_size]; exact cellsF) rfl (all_one (flt_one _ _)) ?_))
  have hk1 := blw_new1 w1 (.cells #[.int .i64 0, .int .i64 0] 25) (flt k i)
  refine wp_world (F := fun W => Row W w1.heap.size 25 (flt k i) ∧ Below w.heap.size w W) ⟨row_new1 _ _ _ _, up_call hb1 hk1⟩ ?_
  generalize w1.heap.size = g6
  clear hk1 hb1 hp w1
  rintro W1 ⟨r6, hb⟩
  go_upto_region 3 with (first
    | (go_at_call 12; refine (hs W1).mono ?_; rintro e w2 ⟨rfl, hb2⟩)
    | (refine wpList_store_row rfl 25 _ _ rfl w2.heap.size (flt k i) rfl rfl 25 (flt 0 0) ((Row.newEq _ _ _ _ _ rfl rfl)) (by rw [flt_size]; exact cellsF) rfl (all_one (flt_one _ _)) ?_))
  have hk1 := blw_new1 w2 (.cells #[.int .i64 0, .int .i64 0] 25) (flt k i)
  have hk2 := up_call hb2 hk1
  refine wp_world (F := fun W => Row W w2.heap.size 25 (flt k i) ∧ Row W g6 25 (flt k i) ∧ Below w.heap.size w W) ⟨row_new1 _ _ _ _, r6.below hk2 r6.lt, up_call hb hk2⟩ ?_
  generalize w2.heap.size = g7
  clear hk1 hk2 hb2 w2 r6 hb
  rintro W2 ⟨r7, r6, hb⟩
  go_wp2_with (first
    | (go_at_call 13; refine (matches_any H W2).mono ?_; rintro e w3 ⟨rfl, hb3⟩; have q6 := r6.below hb3 r6.lt; have q7 := r7.below hb3 r7.lt; have k7 : w3.cell? ⟨g7, 0, none⟩ = some (.int .i64 k) := (q7.cell 0).trans rfl)
    | (refine wpList_load_rowG (by simp [Region.wanted, yielded, Act.put]) 25 _ rfl g6 rfl 25 (flt k i) (0, 0) _ (q6) Try.underlying25 rfl (by rw [flt_size]; exact cellsF) ?_)
    | (refine wpList_load_rowG (by simp [Region.wanted, yielded, Act.put]) 25 _ rfl g7 rfl 25 (flt k i) (0, 0) _ (q7) Try.underlying25 rfl (by rw [flt_size]; exact cellsF) ?_))
  go_ret
  exact ⟨rfl, up_call hb hb3⟩

set_option maxRecDepth 100000 in
set_option maxHeartbeats 8000000 in
theorem walk_good (H : LZ) (L E : List UInt8) (N D : Nat) (hN : N = L.length) (hD : D = E.length) (hN2 : N ≤ 1024) (hD2 : D ≤ 512) (A B : Option Addr) (cd ce : Nat) (w : World) (hA : Sl w w.heap.size A N (bl L)) (hB : Sl w w.heap.size B D (bl E)) :
    Calls Try.prog 3 #[.slice A N cd, .slice B D ce] w fun e w' => e = .returned (.bool true) ∧ Below w.heap.size w w' := by
  have hp := H.parse L E N D hN hD hN2 hD2 A B cd ce w hA hB
  have hs := sizefault_any N 1024 D A B cd ce
  rw [show szF N 1024 D = (0, 0) by unfold szF; rw [if_neg (by omega), if_neg (by omega)]] at hs
  simp only at hs
  have hne := eqin_f 0 0
  have HAB := Lib.hid (And.intro hA hB)
  have HL := Lib.hid (And.intro hN hD)
  clear hA hB hN hD
  go_enter Try.func3, Try.ntmps3
  go_upto_region 2 with (first
    | (go_at_call 11; refine hp.mono ?_; rintro e w1 ⟨⟨G1, c1, K, t, hT, rfl, s1⟩, hb1⟩)
    | (refine wpList_store_row rfl 25 _ _ rfl w1.heap.size (flt 0 0) rfl rfl 25 (flt 0 0) ((Row.newEq _ _ _ _ _ rfl rfl)) (by rw [flt_size]; exact cellsF) rfl (all_one (flt_one _ _)) ?_))
  have hplen := path_len hT N 0
  have HT := Lib.hid hT
  obtain ⟨o, ho⟩ : ∃ o, o = pathT t N N 0 := ⟨_, rfl⟩
  have HO := Lib.hid ho
  rw [← ho] at hplen s1 ⊢
  obtain ⟨n, hn⟩ : ∃ n, n = o.length := ⟨_, rfl⟩
  have HN := Lib.hid hn
  rw [← hn] at s1 hplen ⊢
  have hk1 := blw_new1 w1 (.cells #[.int .i64 0, .int .i64 0] 25) (flt 0 0)
  have hk2 := up_call hb1 hk1
  refine wp_world (F := fun W => Row W w1.heap.size 25 (flt 0 0) ∧ Tks W W.heap.size G1 n (tz o) ∧ Sl W W.heap.size A N (bl L) ∧ Sl W W.heap.size B D (bl E) ∧ Below w.heap.size w W) ⟨row_new1 _ _ _ _, s1.up hk1, HAB.out.1.up hk2, HAB.out.2.up hk2, hk2⟩ ?_
  generalize w1.heap.size = g6
  clear hk1 hk2 hb1 hp w1 s1 HAB ho hn hT
  rintro W1 ⟨r6, s1, sA, sB, hb⟩
  go_upto_region 3 with (first
    | (go_at_call 12; refine (hs W1).mono ?_; rintro e w2 ⟨rfl, hb2⟩)
    | (refine wpList_store_row rfl 25 _ _ rfl w2.heap.size (flt 0 0) rfl rfl 25 (flt 0 0) ((Row.newEq _ _ _ _ _ rfl rfl)) (by rw [flt_size]; exact cellsF) rfl (all_one (flt_one _ _)) ?_))
  have hk1 := blw_new1 w2 (.cells #[.int .i64 0, .int .i64 0] 25) (flt 0 0)
  have hk2 := up_call hb2 hk1
  refine wp_world (F := fun W => Row W w2.heap.size 25 (flt 0 0) ∧ Row W g6 25 (flt 0 0) ∧ Tks W W.heap.size G1 n (tz o) ∧ Sl W W.heap.size A N (bl L) ∧ Sl W W.heap.size B D (bl E) ∧ Below w.heap.size w W) ⟨row_new1 _ _ _ _, r6.below hk2 r6.lt, s1.up hk2, sA.up hk2, sB.up hk2, up_call hb hk2⟩ ?_
  generalize w2.heap.size = g7
  clear hk1 hk2 hb2 w2 r6 s1 sA sB hb
  rintro W2 ⟨r7, r6, s1, sA, sB, hb⟩
  go_upto_region 7 with (first
    | (go_at_call 13; refine (matches_any H W2).mono ?_; rintro e w3 ⟨rfl, hb3⟩; have q6 := r6.below hb3 r6.lt; have q7 := r7.below hb3 r7.lt; have k7 : w3.cell? ⟨g7, 0, none⟩ = some (.int .i64 0) := (q7.cell 0).trans rfl; have p1 := s1.up hb3; have pA := sA.up hb3; have pB := sB.up hb3)
    | (refine wpList_load_rowG (by simp [Region.wanted, yielded, Act.put]) 25 _ rfl g6 rfl 25 (flt 0 0) (0, 0) _ (q6) Try.underlying25 rfl (by rw [flt_size]; exact cellsF) ?_)
    | (refine wpList_load_rowG (by simp [Region.wanted, yielded, Act.put]) 25 _ rfl g7 rfl 25 (flt 0 0) (0, 0) _ (q7) Try.underlying25 rfl (by rw [flt_size]; exact cellsF) ?_))
  have hbw := up_call hb hb3
  clear q6 q7 k7 r6 r7 s1 sA sB hb hb3
  by_cases h1 : 120 < N
  · have a1 : decide ((120 : Int) < (N : Int)) = true := decide_eq_true (by omega)
    have a2 : decide (120 < N) = true := decide_eq_true h1
    go_wp2
    go_ret
    exact ⟨rfl, hbw⟩
  · have a1 : decide ((120 : Int) < (N : Int)) = false := decide_eq_false (by omega)
    have a2 : decide (120 < N) = false := decide_eq_false h1
    by_cases h2 : 120 < D
    · have a3 : decide ((120 : Int) < (D : Int)) = true := decide_eq_true (by omega)
      have a4 : decide (120 < D) = true := decide_eq_true h2
      go_wp2
      go_ret
      exact ⟨rfl, hbw⟩
    · have a3 : decide ((120 : Int) < (D : Int)) = false := decide_eq_false (by omega)
      have a4 : decide (120 < D) = false := decide_eq_false h2
      have hch := cheapest_any L E N D HL.out.1 HL.out.2 hN2 hD2 A B cd ce w3 pA pB
      have huniq : ∀ (K' : Nat → Nat) (t' : Nat → Tk), Tab (E ++ L) D N K' t' 0 → pathT t' N N 0 = o := by
        intro K' t' h'
        rw [HO.out]
        exact path_one (fun i hi => ((tab_one (by rw [List.length_append, ← HL.out.1, ← HL.out.2]) h' HT.out (N - i) i (by omega)).2 hi)) N 0
      have HU := Lib.hid huniq
      clear huniq
      go_wp2_with (first
        | (go_at_call 15; refine hch.mono ?_; rintro e w4 ⟨⟨G4, c4, K4, t4, hT4, rfl, s4⟩, hb4⟩; rw [HU.out K4 t4 hT4, ← HN.out] at s4; rw [HU.out K4 t4 hT4, ← HN.out])
        | (go_at_call 14; refine (tokens_yes (tz o) n (by omega) _ _ _ _ w4 (p1.up hb4) s4).mono ?_; rintro e w5 ⟨rfl, hb5⟩))
      go_ret
      exact ⟨rfl, up_call (up_call hbw hb4) hb5⟩
end Go.Proofs.Ytahihgmlkcbfiaa.lawLzParse
