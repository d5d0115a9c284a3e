/-
  The walks of LzNoTokensCostLess.
-/
import Derived.Test.YtahihgmlkcbfiaaLzM
namespace Go.Proofs.Ytahihgmlkcbfiaa.lawLzLess
open Go.RowKit

theorem runT_max (D : Nat) : ∀ (l : List Tk) (W Y : List UInt8) (i : Nat), W.length ≤ D + 1024 → runT D l W i = .inl Y → Y.length ≤ D + 1024
  | [], W, Y, i, hW, h => by
    rw [runT] at h
    injection h with h
    rw [← h]
    exact hW
  | t :: l, W, Y, i, hW, h => by
    rw [runT] at h
    split at h
    · cases h
    · split at h
      · cases h
      · exact runT_max D l _ Y _ (by rw [put_length]; omega) h
theorem runT_code (D : Nat) : ∀ (l : List Tk) (W : List UInt8) (i : Nat) (k j : Int), runT D l W i = .inr (k, j) → k ≠ 0
  | [], W, i, k, j, h => by rw [runT] at h; cases h
  | t :: l, W, i, k, j, h => by
    rw [runT] at h
    split at h
    · injection h with h
      injection h with h1 h2
      omega
    · split at h
      · injection h with h
        injection h with h1 h2
        omega
      · exact runT_code D l _ _ k j h
set_option maxRecDepth 100000 in
set_option maxHeartbeats 8000000 in
theorem walk_err (H : LZ) (k i : Int) (hk : k ≠ 0) (A B : Option Addr) (n c D ce : Nat) (w : World)
    (hex : Calls Try.prog 16 #[.slice A n c, .slice B D ce] w fun e w' => (∃ G c, e = .returned (.tuple #[.slice G 0 c, .agg (flt k i)])) ∧ Below w.heap.size w w') :
    Calls Try.prog 6 #[.slice A n c, .slice B D ce] w fun e w' => e = .returned (.bool true) ∧ Below w.heap.size w w' := by
  have t1 : (k != 0) = true := bne_iff_ne.2 hk
  clear hk
  go_enter Try.func6, Try.ntmps6
  go_upto_region 2 with (first
    | (go_at_call 16; refine hex.mono ?_; rintro e w1 ⟨⟨G1, c1, rfl⟩, hb1⟩)
    | (refine wpList_store_row rfl 25 _ _ rfl w1.heap.size (flt k i) rfl rfl 25 (flt 0 0) ((Row.newEq _ _ _ _ _ rfl rfl)) (by rw [flt_size]; exact cellsF) rfl (all_one (flt_one _ _)) ?_))
  have hk1 := blw_new1 w1 (.cells #[.int .i64 0, .int .i64 0] 25) (flt k i)
  refine wp_world (F := fun W => Row W w1.heap.size 25 (flt k i) ∧ Below w.heap.size w W) ⟨row_new1 _ _ _ _, up_call hb1 hk1⟩ ?_
  generalize w1.heap.size = g6
  clear hk1 hb1 hex w1
  rintro W1 ⟨r6, hb⟩
  go_wp2_with (first
    | (go_at_call 13; refine (matches_any H W1).mono ?_; rintro e w2 ⟨rfl, hb2⟩; have k6 : w2.cell? ⟨g6, 0, none⟩ = some (.int .i64 k) := ((r6.below hb2 r6.lt).cell 0).trans rfl)
    | (go_at_call 13; refine (matches_any H w2).mono ?_; rintro e w3 ⟨rfl, hb3⟩))
  go_ret
  exact ⟨rfl, up_call (up_call hb hb2) hb3⟩

set_option maxRecDepth 100000 in
set_option maxHeartbeats 8000000 in
theorem walk_good (H : LZ) (l : List Tk) (hg : GoodT l) (n : Nat) (hn : n = l.length) (hl : n ≤ 1024) (E W : List UInt8) (D : Nat) (hD : D = E.length) (hD2 : D ≤ 512) (hr : runT D l E 0 = .inl W) (A B : Option Addr) (c ce : Nat) (w : World) (hA : Tks w w.heap.size A n (tz l)) (hB : Sl w w.heap.size B D (bl E)) :
    Calls Try.prog 6 #[.slice A n c, .slice B D ce] w fun e w' => e = .returned (.bool true) ∧ Below w.heap.size w w' := by
  have hex := H.expand l hg n hn hl E D hD hD2 A B c ce w hA hB
  rw [hr] at hex
  have hpre := runT_pre D l E W 0 hr
  have hmax := runT_max D l E W 0 (by omega) hr
  have hWl := hpre.length_le
  obtain ⟨L, hL⟩ : ∃ L, L = W.drop D := ⟨_, rfl⟩
  have hW : E ++ L = W := by
    have h1 : E = W.take D := by rw [hD]; exact List.prefix_iff_eq_take.1 hpre
    rw [hL]
    conv => lhs; rw [h1]
    exact List.take_append_drop D W
  obtain ⟨N, hN⟩ : ∃ N, N = W.length - D := ⟨_, rfl⟩
  have hNL : N = L.length := by rw [hN, hL, List.length_drop]
  have hN2 : N ≤ 1024 := by omega
  have hex2 : Calls Try.prog 16 #[.slice A n c, .slice B D ce] w fun e w' => ∃ G d, e = .returned (.tuple #[.slice G N d, .agg (flt 0 0)]) ∧ Sl w' w'.heap.size G N (bl L) ∧ Below w.heap.size w w' := by
    refine hex.mono ?_
    rintro e w' ⟨⟨G, d, he, h3⟩, hb⟩
    rw [← hN] at he h3
    rw [← hL] at h3
    exact ⟨G, d, he, h3, hb⟩
  have hXl : (E ++ L).length = D + N := by rw [List.length_append, ← hNL, ← hD]
  have hleast : ∀ (K : Nat → Nat) (t : Nat → Tk), Tab (E ++ L) D N K t 0 → costT (pathT t N N 0) ≤ costT l := by
    intro K t hT
    rw [cost_path hXl hT N 0 (by omega) (Nat.zero_le _)]
    refine cost_least hXl hT l 0 0 hg (Nat.zero_le _) ?_
    rw [show (E ++ L).take (D + 0) = E by rw [Nat.add_zero, hD]; exact List.take_left, hr, hW]
  have HP := Lib.hid (fun G d w hS hB => H.parse L E N D hNL hD hN2 hD2 G B d ce w hS hB)
  have HC := Lib.hid (fun w hS => H.cost l hg n hn hl A c w hS)
  have HLE := Lib.hid hleast
  have HX := Lib.hid hXl
  have HAB := Lib.hid (And.intro hA hB)
  have hcl := costT_le l hg
  obtain ⟨cl, hcl2⟩ : ∃ cl, cl = costT l := ⟨_, rfl⟩
  rw [← hcl2] at HLE HC hcl
  have hcl3 : cl ≤ 41984 := by omega
  clear hex hpre hmax hWl hL hW hN hNL hXl hleast hA hB hr hg hn hcl hcl2 hD
  go_enter Try.func6, Try.ntmps6
  go_upto_region 2 with (first
    | (go_at_call 16; refine hex2.mono ?_; rintro e w1 ⟨G1, c1, rfl, s1, hb1⟩)
    | (refine wpList_store_row rfl 25 _ _ rfl w1.heap.size (flt 0 0) rfl rfl 25 (flt 0 0) ((Row.newEq _ _ _ _ _ rfl rfl)) (by rw [flt_size]; exact cellsF) rfl (all_one (flt_one _ _)) ?_))
  have hk1 := blw_new1 w1 (.cells #[.int .i64 0, .int .i64 0] 25) (flt 0 0)
  have hk2 := up_call hb1 hk1
  refine wp_world (F := fun W => Row W w1.heap.size 25 (flt 0 0) ∧ Sl W W.heap.size G1 N (bl L) ∧ Tks W W.heap.size A n (tz l) ∧ Sl W W.heap.size B D (bl E) ∧ Below w.heap.size w W) ⟨row_new1 _ _ _ _, s1.up hk1, HAB.out.1.up hk2, HAB.out.2.up hk2, hk2⟩ ?_
  generalize w1.heap.size = g6
  clear hk1 hk2 hb1 hex2 w1 s1 HAB
  rintro W1 ⟨r6, s1, sA, sB, hb⟩
  go_upto_region 5 with (first
    | (go_at_call 13; refine (matches_any H W1).mono ?_; rintro e w2 ⟨rfl, hb2⟩; have k6 : w2.cell? ⟨g6, 0, none⟩ = some (.int .i64 0) := ((r6.below hb2 r6.lt).cell 0).trans rfl; have p1 := s1.up hb2; have pA := sA.up hb2; have pB := sB.up hb2)
    | (go_at_call 11; refine (HP.out _ _ _ p1 pB).mono ?_; rintro e w3 ⟨⟨G3, c3, K, t, hT, rfl, s3⟩, hb3⟩)
    | (refine wpList_store_row rfl 25 _ _ rfl w3.heap.size (flt 0 0) rfl rfl 25 (flt 0 0) ((Row.newEq _ _ _ _ _ rfl rfl)) (by rw [flt_size]; exact cellsF) rfl (all_one (flt_one _ _)) ?_))
  have hgood := good_path HX.out hN2 hD2 hT N 0
  have hplen := path_len hT N 0
  have hle := HLE.out K t hT
  obtain ⟨o, ho⟩ : ∃ o, o = pathT t N N 0 := ⟨_, rfl⟩
  rw [← ho] at hgood hplen hle s3 ⊢
  obtain ⟨m, hm⟩ : ∃ m, m = o.length := ⟨_, rfl⟩
  rw [← hm] at s3 hplen ⊢
  have HO := Lib.hid (fun w hS => H.cost o hgood m hm (by omega) G3 c3 w hS)
  obtain ⟨co, hco⟩ : ∃ co, co = costT o := ⟨_, rfl⟩
  rw [← hco] at HO hle
  have hk1 := blw_new1 w3 (.cells #[.int .i64 0, .int .i64 0] 25) (flt 0 0)
  have hk2 := up_call hb3 hk1
  refine wp_world (F := fun W => Row W w3.heap.size 25 (flt 0 0) ∧ Tks W W.heap.size G3 m (tz o) ∧ Tks W W.heap.size A n (tz l) ∧ Below w.heap.size w W) ⟨row_new1 _ _ _ _, s3.up hk1, pA.up hk2, up_call (up_call hb hb2) hk2⟩ ?_
  generalize w3.heap.size = g8
  clear hk1 hk2 hb3 hb2 s3 k6 p1 pA pB r6 s1 sA sB hb hgood ho hm hco hT HLE HP w3 w2
  rintro W4 ⟨r8, s3, sA, hb⟩
  go_upto_region 6 with (first
    | (go_at_call 21; refine (HC.out _ sA).mono ?_; rintro e w5 ⟨rfl, hb5⟩)
    | (refine wpList_store_row rfl 25 _ _ rfl w5.heap.size (flt 0 0) rfl rfl 25 (flt 0 0) ((Row.newEq _ _ _ _ _ rfl rfl)) (by rw [flt_size]; exact cellsF) rfl (all_one (flt_one _ _)) ?_))
  have hk1 := blw_new1 w5 (.cells #[.int .i64 0, .int .i64 0] 25) (flt 0 0)
  have hk2 := up_call hb5 hk1
  refine wp_world (F := fun W => Row W w5.heap.size 25 (flt 0 0) ∧ Row W g8 25 (flt 0 0) ∧ Tks W W.heap.size G3 m (tz o) ∧ Below w.heap.size w W) ⟨row_new1 _ _ _ _, r8.below hk2 r8.lt, s3.up hk2, up_call hb hk2⟩ ?_
  generalize w5.heap.size = g10
  clear hk1 hk2 hb5 s3 sA r8 hb w5 HC
  rintro W5 ⟨r10, r8, s3, hb⟩
  go_upto_region 7 with (first
    | (go_at_call 21; refine (HO.out _ s3).mono ?_; rintro e w7 ⟨rfl, hb7⟩)
    | (refine wpList_store_row rfl 25 _ _ rfl w7.heap.size (flt 0 0) rfl rfl 25 (flt 0 0) ((Row.newEq _ _ _ _ _ rfl rfl)) (by rw [flt_size]; exact cellsF) rfl (all_one (flt_one _ _)) ?_))
  have hk1 := blw_new1 w7 (.cells #[.int .i64 0, .int .i64 0] 25) (flt 0 0)
  have hk2 := up_call hb7 hk1
  refine wp_world (F := fun W => Row W w7.heap.size 25 (flt 0 0) ∧ Row W g10 25 (flt 0 0) ∧ Row W g8 25 (flt 0 0) ∧ Below w.heap.size w W) ⟨row_new1 _ _ _ _, r10.below hk2 r10.lt, r8.below hk2 r8.lt, up_call hb hk2⟩ ?_
  generalize w7.heap.size = g12
  clear hk1 hk2 hb7 s3 r8 r10 hb w7 HO
  rintro W7 ⟨r12, r10, r8, hb⟩
  have q8 : W7.cell? ⟨g8, 0, none⟩ = some (.int .i64 0) := (r8.cell 0).trans rfl
  have q10 : W7.cell? ⟨g10, 0, none⟩ = some (.int .i64 0) := (r10.cell 0).trans rfl
  have q12 : W7.cell? ⟨g12, 0, none⟩ = some (.int .i64 0) := (r12.cell 0).trans rfl
  have a1 : decide ((co : Int) ≤ (cl : Int)) = true := decide_eq_true (by omega)
  have a2 : decide (co ≤ cl) = true := decide_eq_true hle
  go_wp2
  go_ret
  exact ⟨rfl, hb⟩
end Go.Proofs.Ytahihgmlkcbfiaa.lawLzLess
