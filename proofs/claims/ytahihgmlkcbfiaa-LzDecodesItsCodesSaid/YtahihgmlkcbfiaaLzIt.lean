/-
  The walks of LzDecodesItsCodes.
-/
import Derived.Test.YtahihgmlkcbfiaaLzRd
import Derived.Test.YtahihgmlkcbfiaaBTwoJ
namespace Go.Proofs.Ytahihgmlkcbfiaa.lawLzIt
open Go.RowKit

set_option maxRecDepth 100000 in
set_option maxHeartbeats 8000000 in
theorem walk_f (H : LZ) (L E : List UInt8) (N D : Nat) (hN : N = L.length) (hD : D = E.length) (h1 : (szF N 1024 D).1 ≠ 0) (A B : Option Addr) (ca ce : Nat) (C : Option Addr) (n3 c3 : Nat) (k3 : Int) (w : World) (hA : Sl w w.heap.size A N (bl L)) (hB : Sl w w.heap.size B D (bl E)) :
    Calls Try.prog 10 #[.slice A N ca, .slice B D ce, .agg (bcs C n3 c3 k3)] w fun e w' => e = .returned (.bool true) ∧ Below w.heap.size w w' := by
  have hp := fun w => H.parseBad N D A B ca ce w h1
  obtain ⟨k, i, hk⟩ : ∃ k i, szF N 1024 D = (k, i) := ⟨_, _, rfl⟩
  rw [hk] at hp h1
  simp only at hp h1
  have s1 : (k == 0) = false := beq_eq_false_iff_ne.2 h1
  have s1' : (k != 0) = true := bne_iff_ne.2 h1
  have HP := Lib.hid hp
  clear hp hk h1
  have HAB := Lib.hid (And.intro hA hB)
  have HL := Lib.hid (And.intro hN hD)
  clear hA hB hN hD
  go_enter Try.func10, Try.ntmps10
  go_upto_region 1 with (fail)
  have ha : Below w.heap.size w (w.alloc (.cells (bcs C n3 c3 k3) 43)) := (Below.refl _ _).alloc (Nat.le_refl _) _
  refine wp_world (F := fun W => Row W w.heap.size 43 (bcs C n3 c3 k3) ∧ Sl W W.heap.size A N (bl L) ∧ Sl W W.heap.size B D (bl E) ∧ Below w.heap.size w W) ⟨Row.newEq _ _ _ _ _ rfl rfl, HAB.out.1.up ha, HAB.out.2.up ha, ha⟩ ?_
  clear ha HAB
  rintro W0 ⟨r5, sA, sB, hb⟩
  go_upto_region 2 with (first
    | (go_at_call 11; refine (HP.out _).mono ?_; rintro e w1 ⟨⟨G1, d1, rfl⟩, hb1⟩)
    | (refine wpList_store_row rfl 25 _ _ rfl w1.heap.size (flt k i) rfl rfl 25 (flt 0 0) ((Row.newEq _ _ _ _ _ rfl rfl)) (by rw [flt_size]; exact cellsF) rfl (all_one (flt_one _ _)) ?_))
  have hkw := blw_new1 w1 (.cells #[.int .i64 0, .int .i64 0] 25) (flt k i)
  have hk2 := up_call hb1 hkw
  refine wp_world (F := fun W => Row W w1.heap.size 25 (flt k i) ∧ Row W w.heap.size 43 (bcs C n3 c3 k3) ∧ Below w.heap.size w W) ⟨row_new1 _ _ _ _, r5.below hk2 r5.lt, up_call hb hk2⟩ ?_
  generalize w1.heap.size = g8
  clear hkw hk2 hb1 r5 sA sB hb HP
  rintro W1 ⟨r8, r5, hb⟩
  go_wp2_with (first
    | (go_at_call 13; refine (matches_any H W1).mono ?_; rintro e w2 ⟨rfl, hb2⟩; have hc2 := hb2; have k82 : w2.cell? ⟨g8, 0, none⟩ = some (.int .i64 k) := ((r8.below hc2 r8.lt).cell 0).trans rfl; have q52 := r5.below hc2 r5.lt)
    | (go_at_call 13; refine (matches_any H w2).mono ?_; rintro e w4 ⟨rfl, hb4⟩; have hc4 := up_call hb2 hb4; have k84 : w4.cell? ⟨g8, 0, none⟩ = some (.int .i64 k) := ((r8.below hc4 r8.lt).cell 0).trans rfl; have q54 := r5.below hc4 r5.lt))
  go_ret
  exact ⟨rfl, up_call hb hc4⟩

set_option maxRecDepth 100000 in
set_option maxHeartbeats 8000000 in
theorem walk_n (H : LZ) (L E : List UInt8) (N D : Nat) (hN : N = L.length) (hD : D = E.length) (h1 : ¬ (szF N 1024 D).1 ≠ 0) (A B : Option Addr) (ca ce : Nat) (C : Option Addr) (c3 : Nat) (L3 : List UInt8) (k3 : Int) (hG : ¬ Good L3 k3) (w : World) (hA : Sl w w.heap.size A N (bl L)) (hB : Sl w w.heap.size B D (bl E)) (hC : Sl w w.heap.size C L3.length (bl L3)) :
    Calls Try.prog 10 #[.slice A N ca, .slice B D ce, .agg (bcs C L3.length c3 k3)] w fun e w' => e = .returned (.bool true) ∧ Below w.heap.size w w' := by
  obtain ⟨hN2, hD2⟩ := lawLzRound.sz_good h1
  have HP := Lib.hid (fun w hA hB => H.parse L E N D hN hD hN2 hD2 A B ca ce w hA hB)
  clear h1
  have HK := Lib.hid (fun w hS => ok_no L3 k3 hG C c3 w hS)
  clear hG
  have HAB := Lib.hid (And.intro hA (And.intro hB hC))
  have HL := Lib.hid (And.intro hN hD)
  clear hA hB hC hN hD
  go_enter Try.func10, Try.ntmps10
  go_upto_region 1 with (fail)
  have ha : Below w.heap.size w (w.alloc (.cells (bcs C L3.length c3 k3) 43)) := (Below.refl _ _).alloc (Nat.le_refl _) _
  refine wp_world (F := fun W => Row W w.heap.size 43 (bcs C L3.length c3 k3) ∧ Sl W W.heap.size C L3.length (bl L3) ∧ Sl W W.heap.size A N (bl L) ∧ Sl W W.heap.size B D (bl E) ∧ Below w.heap.size w W) ⟨Row.newEq _ _ _ _ _ rfl rfl, HAB.out.2.2.up ha, HAB.out.1.up ha, HAB.out.2.1.up ha, ha⟩ ?_
  clear ha HAB
  rintro W0 ⟨r5, sC, sA, sB, hb⟩
  go_upto_region 2 with (first
    | (go_at_call 11; refine (HP.out _ sA sB).mono ?_; rintro e w1 ⟨⟨G1, d1, K, t, hT, rfl, sP⟩, hb1⟩)
    | (refine wpList_store_row rfl 25 _ _ rfl w1.heap.size (flt 0 0) rfl rfl 25 (flt 0 0) ((Row.newEq _ _ _ _ _ rfl rfl)) (by rw [flt_size]; exact cellsF) rfl (all_one (flt_one _ _)) ?_))
  have hplen := path_len hT N 0
  have HT := Lib.hid hT
  obtain ⟨o, ho⟩ : ∃ o, o = pathT t N N 0 := ⟨_, rfl⟩
  obtain ⟨n, hn⟩ : ∃ n, n = o.length := ⟨_, rfl⟩
  have HO := Lib.hid (And.intro ho hn)
  rw [← ho] at hplen sP ⊢
  rw [← hn] at hplen sP ⊢
  have hkw := blw_new1 w1 (.cells #[.int .i64 0, .int .i64 0] 25) (flt 0 0)
  have sP := sP.up hkw
  clear hkw ho hn hT
  have hkw := blw_new1 w1 (.cells #[.int .i64 0, .int .i64 0] 25) (flt 0 0)
  have hk2 := up_call hb1 hkw
  refine wp_world (F := fun W => Row W w1.heap.size 25 (flt 0 0) ∧ Row W w.heap.size 43 (bcs C L3.length c3 k3) ∧ Sl W W.heap.size C L3.length (bl L3) ∧ Tks W W.heap.size G1 n (tz o) ∧ Below w.heap.size w W) ⟨row_new1 _ _ _ _, r5.below hk2 r5.lt, sC.up hk2, sP, up_call hb hk2⟩ ?_
  generalize w1.heap.size = g8
  clear hkw hk2 hb1 r5 sC sA sB hb HP sP
  rintro W1 ⟨r8, r5, sC, sP, hb⟩
  go_wp2_with (first
    | (go_at_call 13; refine (matches_any H W1).mono ?_; rintro e w2 ⟨rfl, hb2⟩; have hc2 := hb2; have k82 : w2.cell? ⟨g8, 0, none⟩ = some (.int .i64 0) := ((r8.below hc2 r8.lt).cell 0).trans rfl; have q52 := r5.below hc2 r5.lt; have qC2 := sC.up hc2)
    | (refine wpList_load_rowG (by simp [Region.wanted, yielded, Act.put]) 43 _ rfl w.heap.size rfl 43 (bcs C L3.length c3 k3) (0, 0) _ (q52) Try.underlying43 rfl (by rw [bcs_size]; exact cellsB) ?_)
    | (go_at_call 28; refine (HK.out _ qC2).mono ?_; rintro e w3 ⟨rfl, hb3⟩; have hc3 := up_call hb2 hb3)
    | (go_at_call 13; refine (matches_any H w3).mono ?_; rintro e w4 ⟨rfl, hb4⟩; have hc4 := up_call hc3 hb4; have k84 : w4.cell? ⟨g8, 0, none⟩ = some (.int .i64 0) := ((r8.below hc4 r8.lt).cell 0).trans rfl; have q54 := r5.below hc4 r5.lt; have qC4 := sC.up hc4))
  go_ret
  exact ⟨rfl, up_call hb hc4⟩

set_option maxRecDepth 100000 in
set_option maxHeartbeats 8000000 in
theorem walk_m (H : LZ) (L E : List UInt8) (N D : Nat) (hN : N = L.length) (hD : D = E.length) (h1 : ¬ (szF N 1024 D).1 ≠ 0) (A B : Option Addr) (ca ce : Nat) (C : Option Addr) (c3 : Nat) (l3 : List Bool) (hl3 : l3.length ≤ 131072) (h100 : 100000 < l3.length) (w : World) (hA : Sl w w.heap.size A N (bl L)) (hB : Sl w w.heap.size B D (bl E)) (hC : Sl w w.heap.size C (pack l3).length (bl (pack l3))) :
    Calls Try.prog 10 #[.slice A N ca, .slice B D ce, .agg (bcs C (pack l3).length c3 l3.length)] w fun e w' => e = .returned (.bool true) ∧ Below w.heap.size w w' := by
  obtain ⟨hN2, hD2⟩ := lawLzRound.sz_good h1
  have HP := Lib.hid (fun w hA hB => H.parse L E N D hN hD hN2 hD2 A B ca ce w hA hB)
  clear h1
  have HK := Lib.hid (fun w hS => ok_yes (pack l3) l3 (pack_rep l3) (by omega) C c3 w hS)
  have a1 : decide ((100000 : Int) < (l3.length : Int)) = true := decide_eq_true (by omega)
  have a2 : decide (100000 < l3.length) = true := decide_eq_true h100
  have HAB := Lib.hid (And.intro hA (And.intro hB hC))
  have HL := Lib.hid (And.intro hN hD)
  clear hA hB hC hN hD
  go_enter Try.func10, Try.ntmps10
  go_upto_region 1 with (fail)
  have ha : Below w.heap.size w (w.alloc (.cells (bcs C (pack l3).length c3 l3.length) 43)) := (Below.refl _ _).alloc (Nat.le_refl _) _
  refine wp_world (F := fun W => Row W w.heap.size 43 (bcs C (pack l3).length c3 l3.length) ∧ Sl W W.heap.size C (pack l3).length (bl (pack l3)) ∧ Sl W W.heap.size A N (bl L) ∧ Sl W W.heap.size B D (bl E) ∧ Below w.heap.size w W) ⟨Row.newEq _ _ _ _ _ rfl rfl, HAB.out.2.2.up ha, HAB.out.1.up ha, HAB.out.2.1.up ha, ha⟩ ?_
  clear ha HAB
  rintro W0 ⟨r5, sC, sA, sB, hb⟩
  go_upto_region 2 with (first
    | (go_at_call 11; refine (HP.out _ sA sB).mono ?_; rintro e w1 ⟨⟨G1, d1, K, t, hT, rfl, sP⟩, hb1⟩)
    | (refine wpList_store_row rfl 25 _ _ rfl w1.heap.size (flt 0 0) rfl rfl 25 (flt 0 0) ((Row.newEq _ _ _ _ _ rfl rfl)) (by rw [flt_size]; exact cellsF) rfl (all_one (flt_one _ _)) ?_))
  have hplen := path_len hT N 0
  have HT := Lib.hid hT
  obtain ⟨o, ho⟩ : ∃ o, o = pathT t N N 0 := ⟨_, rfl⟩
  obtain ⟨n, hn⟩ : ∃ n, n = o.length := ⟨_, rfl⟩
  have HO := Lib.hid (And.intro ho hn)
  rw [← ho] at hplen sP ⊢
  rw [← hn] at hplen sP ⊢
  have hkw := blw_new1 w1 (.cells #[.int .i64 0, .int .i64 0] 25) (flt 0 0)
  have sP := sP.up hkw
  clear hkw ho hn hT
  have hkw := blw_new1 w1 (.cells #[.int .i64 0, .int .i64 0] 25) (flt 0 0)
  have hk2 := up_call hb1 hkw
  refine wp_world (F := fun W => Row W w1.heap.size 25 (flt 0 0) ∧ Row W w.heap.size 43 (bcs C (pack l3).length c3 l3.length) ∧ Sl W W.heap.size C (pack l3).length (bl (pack l3)) ∧ Tks W W.heap.size G1 n (tz o) ∧ Below w.heap.size w W) ⟨row_new1 _ _ _ _, r5.below hk2 r5.lt, sC.up hk2, sP, up_call hb hk2⟩ ?_
  generalize w1.heap.size = g8
  clear hkw hk2 hb1 r5 sC sA sB hb HP sP
  rintro W1 ⟨r8, r5, sC, sP, hb⟩
  go_wp2_with (first
    | (go_at_call 13; refine (matches_any H W1).mono ?_; rintro e w2 ⟨rfl, hb2⟩; have hc2 := hb2; have k82 : w2.cell? ⟨g8, 0, none⟩ = some (.int .i64 0) := ((r8.below hc2 r8.lt).cell 0).trans rfl; have q52 := r5.below hc2 r5.lt; have qC2 := sC.up hc2)
    | (refine wpList_load_rowG (by simp [Region.wanted, yielded, Act.put]) 43 _ rfl w.heap.size rfl 43 (bcs C (pack l3).length c3 l3.length) (0, 0) _ (q52) Try.underlying43 rfl (by rw [bcs_size]; exact cellsB) ?_)
    | (go_at_call 28; refine (HK.out _ qC2).mono ?_; rintro e w3 ⟨rfl, hb3⟩; have hc3 := up_call hb2 hb3; have k33 : w3.cell? ⟨w.heap.size, 1, none⟩ = some (.int .i64 (l3.length : Int)) := ((r5.below hc3 r5.lt).cell 1).trans rfl)
    | (go_at_call 13; refine (matches_any H w3).mono ?_; rintro e w4 ⟨rfl, hb4⟩; have hc4 := up_call hc3 hb4; have k84 : w4.cell? ⟨g8, 0, none⟩ = some (.int .i64 0) := ((r8.below hc4 r8.lt).cell 0).trans rfl; have q54 := r5.below hc4 r5.lt; have qC4 := sC.up hc4))
  go_ret
  exact ⟨rfl, up_call hb hc4⟩

set_option maxRecDepth 100000 in
set_option maxHeartbeats 8000000 in
theorem walk_g (H : LZ) (L E : List UInt8) (N D : Nat) (hN : N = L.length) (hD : D = E.length) (h1 : ¬ (szF N 1024 D).1 ≠ 0) (A B : Option Addr) (ca ce : Nat) (C : Option Addr) (c3 : Nat) (l3 : List Bool) (hl3 : l3.length ≤ 100000) (w : World) (hA : Sl w w.heap.size A N (bl L)) (hB : Sl w w.heap.size B D (bl E)) (hC : Sl w w.heap.size C (pack l3).length (bl (pack l3))) :
    Calls Try.prog 10 #[.slice A N ca, .slice B D ce, .agg (bcs C (pack l3).length c3 l3.length)] w fun e w' => e = .returned (.bool true) ∧ Below w.heap.size w w' := by
  obtain ⟨hN2, hD2⟩ := lawLzRound.sz_good h1
  have HP := Lib.hid (fun w hA hB => H.parse L E N D hN hD hN2 hD2 A B ca ce w hA hB)
  clear h1
  have HK := Lib.hid (fun w hS => ok_yes (pack l3) l3 (pack_rep l3) (by omega) C c3 w hS)
  have a1 : decide ((100000 : Int) < (l3.length : Int)) = false := decide_eq_false (by omega)
  have a2 : decide (100000 < l3.length) = false := decide_eq_false (by omega)
  have HAB := Lib.hid (And.intro hA (And.intro hB hC))
  have HL := Lib.hid (And.intro hN hD)
  clear hA hB hC hN hD
  go_enter Try.func10, Try.ntmps10
  go_upto_region 1 with (fail)
  have ha : Below w.heap.size w (w.alloc (.cells (bcs C (pack l3).length c3 l3.length) 43)) := (Below.refl _ _).alloc (Nat.le_refl _) _
  refine wp_world (F := fun W => Row W w.heap.size 43 (bcs C (pack l3).length c3 l3.length) ∧ Sl W W.heap.size C (pack l3).length (bl (pack l3)) ∧ Sl W W.heap.size A N (bl L) ∧ Sl W W.heap.size B D (bl E) ∧ Below w.heap.size w W) ⟨Row.newEq _ _ _ _ _ rfl rfl, HAB.out.2.2.up ha, HAB.out.1.up ha, HAB.out.2.1.up ha, ha⟩ ?_
  clear ha HAB
  rintro W0 ⟨r5, sC, sA, sB, hb⟩
  go_upto_region 2 with (first
    | (go_at_call 11; refine (HP.out _ sA sB).mono ?_; rintro e w1 ⟨⟨G1, d1, K, t, hT, rfl, sP⟩, hb1⟩)
    | (refine wpList_store_row rfl 25 _ _ rfl w1.heap.size (flt 0 0) rfl rfl 25 (flt 0 0) ((Row.newEq _ _ _ _ _ rfl rfl)) (by rw [flt_size]; exact cellsF) rfl (all_one (flt_one _ _)) ?_))
  have hplen := path_len hT N 0
  have HT := Lib.hid hT
  obtain ⟨o, ho⟩ : ∃ o, o = pathT t N N 0 := ⟨_, rfl⟩
  obtain ⟨n, hn⟩ : ∃ n, n = o.length := ⟨_, rfl⟩
  have HO := Lib.hid (And.intro ho hn)
  rw [← ho] at hplen sP ⊢
  rw [← hn] at hplen sP ⊢
  have hkw := blw_new1 w1 (.cells #[.int .i64 0, .int .i64 0] 25) (flt 0 0)
  have sP := sP.up hkw
  clear hkw ho hn hT
  have hkw := blw_new1 w1 (.cells #[.int .i64 0, .int .i64 0] 25) (flt 0 0)
  have hk2 := up_call hb1 hkw
  refine wp_world (F := fun W => Row W w1.heap.size 25 (flt 0 0) ∧ Row W w.heap.size 43 (bcs C (pack l3).length c3 l3.length) ∧ Sl W W.heap.size C (pack l3).length (bl (pack l3)) ∧ Tks W W.heap.size G1 n (tz o) ∧ Below w.heap.size w W) ⟨row_new1 _ _ _ _, r5.below hk2 r5.lt, sC.up hk2, sP, up_call hb hk2⟩ ?_
  generalize w1.heap.size = g8
  clear hkw hk2 hb1 r5 sC sA sB hb HP sP
  rintro W1 ⟨r8, r5, sC, sP, hb⟩
  have hXl : (E ++ L).length = D + N := by rw [List.length_append, ← HL.out.1, ← HL.out.2]
  have hgood := good_path hXl hN2 hD2 HT.out N 0
  have hcp := cost_path hXl HT.out N 0 (by omega) (Nat.zero_le _)
  have hkl := tab_le hXl HT.out N 0 rfl (Nat.zero_le _)
  have hlp := len_path hXl HT.out N 0 (by omega) (Nat.zero_le _)
  rw [← HO.out.1] at hgood hcp hlp
  rw [← hcp] at hkl
  obtain ⟨cd, hcd⟩ : ∃ cd, cd = codeT o := ⟨_, rfl⟩
  have hcl : cd.length = costT o := by rw [hcd]; exact codeT_length o
  have hdec : decF (cd ++ l3) N 0 N [] = .inl (o, cd.length) := by
    have h := decF_code o [] l3 [] N hgood (by rw [← HO.out.2]; omega)
    rw [hlp, Nat.sub_zero, ← hcd, List.nil_append, List.nil_append, List.length_nil, Nat.zero_add] at h
    exact h
  have hall : (cd ++ l3).length ≤ 131072 := by rw [List.length_append]; omega
  have he := fun w hS => H.enc o hgood n HO.out.2 (by omega) G1 d1 w hS
  have hco := fun w hS => H.cost o hgood n HO.out.2 (by omega) G1 d1 w hS
  rw [← hcd] at he
  rw [← hcl] at hco
  have hde := fun A5 c5 w hS => H.dec (cd ++ l3) hall N hN2 A5 c5 w hS
  rw [hdec] at hde
  obtain ⟨al, hal⟩ : ∃ al, al = cd ++ l3 := ⟨_, rfl⟩
  rw [← hal] at hde hall
  obtain ⟨ac, hac⟩ : ∃ ac, ac = cd.length := ⟨_, rfl⟩
  rw [← hac] at hco hde
  have hde2 : ∀ A5 c5 w, Sl w w.heap.size A5 (pack al).length (bl (pack al)) → Calls Try.prog 27 #[.agg (bcs A5 (pack al).length c5 al.length), .int .i64 N] w fun e w' => ∃ B d, e = .returned (.tuple #[.slice B n d, .int .i64 ac, .agg (flt 0 0)]) ∧ Tks w' w'.heap.size B n (tz o) ∧ Below w.heap.size w w' := by
    intro A5 c5 w hS
    refine (hde A5 c5 w hS).mono ?_
    rintro e w' ⟨⟨B, d, he, h3⟩, hb⟩
    rw [← HO.out.2] at he h3
    exact ⟨B, d, he, h3, hb⟩
  have HEN := Lib.hid he
  have HCO := Lib.hid hco
  have HDE := Lib.hid hde2
  have HJN := Lib.hid (fun A w hS => join_two cd l3 al hal hall A w hS)
  have hcd2 : cd.length ≤ 131072 := by omega
  clear hgood hcp hkl hlp hcl hdec he hco hde hde2 hal hac hcd hXl
  go_upto_region 5 with (first
    | (go_at_call 13; refine (matches_any H W1).mono ?_; rintro e w2 ⟨rfl, hb2⟩; have hc2 := hb2; have k82 : w2.cell? ⟨g8, 0, none⟩ = some (.int .i64 0) := ((r8.below hc2 r8.lt).cell 0).trans rfl; have q52 := r5.below hc2 r5.lt; have qC2 := sC.up hc2)
    | (refine wpList_load_rowG (by simp [Region.wanted, yielded, Act.put]) 43 _ rfl w.heap.size rfl 43 (bcs C (pack l3).length c3 l3.length) (0, 0) _ (q52) Try.underlying43 rfl (by rw [bcs_size]; exact cellsB) ?_)
    | (go_at_call 28; refine (HK.out _ qC2).mono ?_; rintro e w3 ⟨rfl, hb3⟩; have hc3 := up_call hb2 hb3; have k33 : w3.cell? ⟨w.heap.size, 1, none⟩ = some (.int .i64 (l3.length : Int)) := ((r5.below hc3 r5.lt).cell 1).trans rfl)
    | (go_at_call 22; refine (HEN.out _ (sP.up hc3)).mono ?_; rintro e w5 ⟨B5, d5, rfl, s5, hb5⟩)
    | (refine wpList_store_row rfl 43 _ _ rfl w5.heap.size (bcs B5 (pack cd).length d5 cd.length) rfl rfl 43 (bcs none 0 0 0) (Row.alloc (Row.newEq _ _ _ _ _ rfl rfl) _) (by rw [bcs_size]; exact cellsB) rfl (all_one (bcs_one _ _ _ _)) ?_)
    | (refine wpList_store_row rfl 25 _ _ rfl (w5.heap.size + 1) (flt 0 0) rfl rfl 25 (flt 0 0) (row_far_new2 _ _ _ _ _ _) (by rw [flt_size]; exact cellsF) rfl (all_one (flt_one _ _)) ?_))
  have hkw := blw_new2 w5 (.cells #[.slice none 0 0, .int .i64 0] 43) (.cells #[.int .i64 0, .int .i64 0] 25) (bcs B5 (pack cd).length d5 cd.length) (flt 0 0)
  have hk2 := up_call (up_call hc3 hb5) hkw
  refine wp_world (F := fun W => (Row W w5.heap.size 43 (bcs B5 (pack cd).length d5 cd.length) ∧ Row W (w5.heap.size + 1) 25 (flt 0 0)) ∧ Row W w.heap.size 43 (bcs C (pack l3).length c3 l3.length) ∧ Sl W W.heap.size C (pack l3).length (bl (pack l3)) ∧ Tks W W.heap.size G1 n (tz o) ∧ Sl W W.heap.size B5 (pack cd).length (bl (pack cd)) ∧ Below w.heap.size w W) ⟨⟨row_new2a _ _ _ _ _ _ _, row_new2b _ _ _ _ _ _ _⟩, r5.below hk2 r5.lt, sC.up hk2, sP.up hk2, s5.up hkw, up_call hb hk2⟩ ?_
  generalize w5.heap.size = g9
  clear hkw hk2 hb5 s5 hc3 hb3 hb2 hc2 k82 q52 qC2 k33 r8 r5 sC sP hb HEN HK a1 a2
  rintro W5 ⟨⟨r9, r10⟩, r5, sC, sP, s5, hb⟩
  go_upto_region 6 with (first
    | (refine wpList_load_row rfl 43 _ rfl g9 rfl 43 (bcs B5 (pack cd).length d5 cd.length) (0, 0) _ (r9) Try.underlying43 rfl (by rw [bcs_size]; exact cellsB) ?_)
    | (refine wpList_load_row rfl 43 _ rfl w.heap.size rfl 43 (bcs C (pack l3).length c3 l3.length) (0, 0) _ (r5) Try.underlying43 rfl (by rw [bcs_size]; exact cellsB) ?_)
    | (refine wpList_two rfl _ _ rfl B5 C (pack cd).length (pack l3).length d5 c3 _ _ rfl rfl ?_)
    | (go_at_call 33; refine (HJN.out _ _ (bsv_two W5 43 _ cd l3 B5 C d5 c3 rfl hcd2 (by omega) s5 sC)).mono ?_; rintro e w6 ⟨B6, d6, rfl, s6, hb6⟩)
    | (refine wpList_store_row rfl 43 _ _ rfl w6.heap.size (bcs B6 (pack al).length d6 al.length) rfl rfl 43 (bcs none 0 0 0) (Row.alloc (Row.newEq _ _ _ _ _ rfl rfl) _) (by rw [bcs_size]; exact cellsB) rfl (all_one (bcs_one _ _ _ _)) ?_)
    | (refine wpList_store_row rfl 25 _ _ rfl (w6.heap.size + 1) (flt 0 0) rfl rfl 25 (flt 0 0) (row_far_new2 _ _ _ _ _ _) (by rw [flt_size]; exact cellsF) rfl (all_one (flt_one _ _)) ?_))
  have hkw := blw_new2 w6 (.cells #[.slice none 0 0, .int .i64 0] 43) (.cells #[.int .i64 0, .int .i64 0] 25) (bcs B6 (pack al).length d6 al.length) (flt 0 0)
  have hk2 := up_call (up_call ((Below.refl W5.heap.size W5).alloc (Nat.le_refl _) _) hb6) hkw
  refine wp_world (F := fun W => (Row W w6.heap.size 43 (bcs B6 (pack al).length d6 al.length) ∧ Row W (w6.heap.size + 1) 25 (flt 0 0)) ∧ Row W (g9 + 1) 25 (flt 0 0) ∧ Tks W W.heap.size G1 n (tz o) ∧ Sl W W.heap.size B6 (pack al).length (bl (pack al)) ∧ Below w.heap.size w W) ⟨⟨row_new2a _ _ _ _ _ _ _, row_new2b _ _ _ _ _ _ _⟩, r10.below hk2 r10.lt, sP.up hk2, s6.up hkw, up_call hb hk2⟩ ?_
  generalize w6.heap.size = g11
  clear hkw hk2 hb6 s6 r9 r10 r5 sC sP s5 hb HJN
  rintro W6 ⟨⟨r11, r12⟩, r10, sP, s6, hb⟩
  go_upto_region 7 with (first
    | (refine wpList_load_row rfl 43 _ rfl g11 rfl 43 (bcs B6 (pack al).length d6 al.length) (0, 0) _ (r11) Try.underlying43 rfl (by rw [bcs_size]; exact cellsB) ?_)
    | (go_at_call 27; refine (HDE.out _ _ _ s6).mono ?_; rintro e w7 ⟨B7, d7, rfl, s7, hb7⟩)
    | (refine wpList_store_row rfl 25 _ _ rfl w7.heap.size (flt 0 0) rfl rfl 25 (flt 0 0) ((Row.newEq _ _ _ _ _ rfl rfl)) (by rw [flt_size]; exact cellsF) rfl (all_one (flt_one _ _)) ?_))
  have hkw := blw_new1 w7 (.cells #[.int .i64 0, .int .i64 0] 25) (flt 0 0)
  have hk2 := up_call hb7 hkw
  refine wp_world (F := fun W => Row W w7.heap.size 25 (flt 0 0) ∧ Row W (g11 + 1) 25 (flt 0 0) ∧ Row W (g9 + 1) 25 (flt 0 0) ∧ Tks W W.heap.size G1 n (tz o) ∧ Tks W W.heap.size B7 n (tz o) ∧ Below w.heap.size w W) ⟨row_new1 _ _ _ _, r12.below hk2 r12.lt, r10.below hk2 r10.lt, sP.up hk2, s7.up hkw, up_call hb hk2⟩ ?_
  generalize w7.heap.size = g15
  clear hkw hk2 hb7 s7 r11 r12 r10 sP s6 hb HDE
  rintro W7 ⟨r15, r12, r10, sP, s7, hb⟩
  go_upto_region 8 with (first
    | (go_at_call 21; refine (HCO.out _ sP).mono ?_; rintro e w8 ⟨rfl, hb8⟩)
    | (refine wpList_store_row rfl 25 _ _ rfl w8.heap.size (flt 0 0) rfl rfl 25 (flt 0 0) ((Row.newEq _ _ _ _ _ rfl rfl)) (by rw [flt_size]; exact cellsF) rfl (all_one (flt_one _ _)) ?_))
  have hkw := blw_new1 w8 (.cells #[.int .i64 0, .int .i64 0] 25) (flt 0 0)
  have hk2 := up_call hb8 hkw
  refine wp_world (F := fun W => Row W w8.heap.size 25 (flt 0 0) ∧ Row W g15 25 (flt 0 0) ∧ Row W (g11 + 1) 25 (flt 0 0) ∧ Row W (g9 + 1) 25 (flt 0 0) ∧ Tks W W.heap.size G1 n (tz o) ∧ Tks W W.heap.size B7 n (tz o) ∧ Below w.heap.size w W) ⟨row_new1 _ _ _ _, r15.below hk2 r15.lt, r12.below hk2 r12.lt, r10.below hk2 r10.lt, sP.up hk2, s7.up hk2, up_call hb hk2⟩ ?_
  generalize w8.heap.size = g17
  clear hkw hk2 hb8 s7 r15 r12 r10 sP hb HCO
  rintro W8 ⟨r17, r15, r12, r10, sP, s7, hb⟩
  have q17 : W8.cell? ⟨g17, 0, none⟩ = some (.int .i64 0) := (r17.cell 0).trans rfl
  have q15 : W8.cell? ⟨g15, 0, none⟩ = some (.int .i64 0) := (r15.cell 0).trans rfl
  have q12 : W8.cell? ⟨g11 + 1, 0, none⟩ = some (.int .i64 0) := (r12.cell 0).trans rfl
  have q10 : W8.cell? ⟨g9 + 1, 0, none⟩ = some (.int .i64 0) := (r10.cell 0).trans rfl
  have hnl : n ≤ 100000 := by omega
  go_wp2_with (first
    | (go_at_call 14; refine (tokens_yes (tz o) n hnl _ _ _ _ W8 sP s7).mono ?_; rintro e w9 ⟨rfl, hb9⟩))
  go_ret
  exact ⟨rfl, up_call hb hb9⟩
end Go.Proofs.Ytahihgmlkcbfiaa.lawLzIt
