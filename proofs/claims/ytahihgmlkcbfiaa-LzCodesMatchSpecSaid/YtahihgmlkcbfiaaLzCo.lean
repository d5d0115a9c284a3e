/-
  The walks of LzCodesMatchSpec.
-/
import Derived.Test.YtahihgmlkcbfiaaLzPs
import Derived.Deep.RegionHeld3
namespace Go.Proofs.Ytahihgmlkcbfiaa.lawLzCodes
open Go.RowKit

set_option maxRecDepth 100000 in
set_option maxHeartbeats 8000000 in
theorem walk_bad (H : LZ) (ts : List TokZ) (k i : Int) (h : TkF ts k i) (A : Option Addr) (c : Nat) (w : World) (hS : Tks w w.heap.size A ts.length ts) :
    Calls Try.prog 8 #[.slice A ts.length c] w fun e w' => e = .returned (.bool true) ∧ Below w.heap.size w w' := by
  have t1 : (k != 0) = true := bne_iff_ne.2 h.ne
  have hne := lawLzParse.eqin_f k i
  have HE := Lib.hid (fun w hS => H.encBad ts k i h A c w hS)
  have HC := Lib.hid (fun w hS => H.costBad ts k i h A c w hS)
  have HF := Lib.hid (fun w hS => rtf_bad ts k i h A c w hS)
  have HS := Lib.hid hS
  clear hS h
  go_enter Try.func8, Try.ntmps8
  go_upto_region 2 with (first
    | (go_at_call 22; refine (HE.out _ HS.out).mono ?_; rintro e w1 ⟨⟨B1, d1, rfl⟩, hb1⟩)
    | (refine wpList_store_row rfl 43 _ _ rfl w1.heap.size (bcs B1 0 d1 0) rfl rfl 43 (bcs none 0 0 0) (Row.alloc (Row.newEq _ _ _ _ _ rfl rfl) _) (by rw [bcs_size]; exact cellsB) rfl (all_one (bcs_one _ _ _ _)) ?_)
    | (refine wpList_store_row rfl 25 _ _ rfl (w1.heap.size + 1) (flt k i) rfl rfl 25 (flt 0 0) (row_far_new2 _ _ _ _ _ _) (by rw [flt_size]; exact cellsF) rfl (all_one (flt_one _ _)) ?_))
  have hkw := blw_new2 w1 (.cells #[.slice none 0 0, .int .i64 0] 43) (.cells #[.int .i64 0, .int .i64 0] 25) (bcs B1 0 d1 0) (flt k i)
  have hk2 := up_call hb1 hkw
  refine wp_world (F := fun W => (Row W w1.heap.size 43 (bcs B1 0 d1 0) ∧ Row W (w1.heap.size + 1) 25 (flt k i)) ∧ Tks W W.heap.size A ts.length (ts) ∧ Below w.heap.size w W) ⟨⟨row_new2a _ _ _ _ _ _ _, row_new2b _ _ _ _ _ _ _⟩, HS.out.up hk2, hk2⟩ ?_
  generalize w1.heap.size = g3
  clear hkw hk2 hb1 HS HE w1
  rintro W1 ⟨⟨r3, r4⟩, sT, hb⟩
  go_upto_region 3 with (first
    | (go_at_call 21; refine (HC.out _ sT).mono ?_; rintro e w2 ⟨rfl, hb2⟩)
    | (refine wpList_store_row rfl 25 _ _ rfl w2.heap.size (flt k i) rfl rfl 25 (flt 0 0) ((Row.newEq _ _ _ _ _ rfl rfl)) (by rw [flt_size]; exact cellsF) rfl (all_one (flt_one _ _)) ?_))
  have hkw := blw_new1 w2 (.cells #[.int .i64 0, .int .i64 0] 25) (flt k i)
  have hk2 := up_call hb2 hkw
  refine wp_world (F := fun W => Row W w2.heap.size 25 (flt k i) ∧ (Row W g3 43 (bcs B1 0 d1 0) ∧ Row W (g3 + 1) 25 (flt k i)) ∧ Tks W W.heap.size A ts.length (ts) ∧ Below w.heap.size w W) ⟨row_new1 _ _ _ _, ⟨r3.below hk2 r3.lt, r4.below hk2 r4.lt⟩, sT.up hk2, up_call hb hk2⟩ ?_
  generalize w2.heap.size = g6
  clear hkw hk2 hb2 HC sT r3 r4 hb w2
  rintro W2 ⟨r6, ⟨r3, r4⟩, sT, hb⟩
  go_upto_region 4 with (first
    | (go_at_call 23; refine (HF.out _ sT).mono ?_; rintro e w3 ⟨rfl, hb3⟩)
    | (refine wpList_store_row rfl 25 _ _ rfl w3.heap.size (flt k i) rfl rfl 25 (flt 0 0) ((Row.newEq _ _ _ _ _ rfl rfl)) (by rw [flt_size]; exact cellsF) rfl (all_one (flt_one _ _)) ?_))
  have hkw := blw_new1 w3 (.cells #[.int .i64 0, .int .i64 0] 25) (flt k i)
  have hk2 := up_call hb3 hkw
  refine wp_world (F := fun W => Row W w3.heap.size 25 (flt k i) ∧ Row W g6 25 (flt k i) ∧ (Row W g3 43 (bcs B1 0 d1 0) ∧ Row W (g3 + 1) 25 (flt k i)) ∧ Tks W W.heap.size A ts.length (ts) ∧ Below w.heap.size w W) ⟨row_new1 _ _ _ _, r6.below hk2 r6.lt, ⟨r3.below hk2 r3.lt, r4.below hk2 r4.lt⟩, sT.up hk2, up_call hb hk2⟩ ?_
  generalize w3.heap.size = g7
  clear hkw hk2 hb3 HF sT r3 r4 r6 hb w3
  rintro W3 ⟨r7, r6, ⟨r3, r4⟩, sT, hb⟩
  go_upto_region 7 with (first
    | (go_at_call 13; refine (matches_any H W3).mono ?_; rintro e w4 ⟨rfl, hb4⟩; have q3 := r3.below hb4 r3.lt; have q4 := r4.below hb4 r4.lt; have q6 := r6.below hb4 r6.lt; have q7 := r7.below hb4 r7.lt; have k7 : w4.cell? ⟨g7, 0, none⟩ = some (.int .i64 k) := (q7.cell 0).trans rfl)
    | (refine wpList_load_rowG (by simp [Region.wanted, yielded, Act.put]) 25 _ rfl (g3 + 1) rfl 25 (flt k i) (0, 0) _ (q4) Try.underlying25 rfl (by rw [flt_size]; exact cellsF) ?_)
    | (refine wpList_load_rowG (by simp [Region.wanted, yielded, Act.put]) 25 _ rfl g6 rfl 25 (flt k i) (0, 0) _ (q6) Try.underlying25 rfl (by rw [flt_size]; exact cellsF) ?_)
    | (refine wpList_load_rowG (by simp [Region.wanted, yielded, Act.put]) 25 _ rfl g7 rfl 25 (flt k i) (0, 0) _ (q7) Try.underlying25 rfl (by rw [flt_size]; exact cellsF) ?_))
  have hsb : ∀ w : World, Calls Try.prog 24 #[.agg (bcs B1 0 d1 0), .agg #[.slice none 0 0, .int .i64 0]] w fun e w' => e = .returned (.bool true) ∧ Below w.heap.size w w' := fun w => sameb_yes [] 0 B1 none 0 d1 0 w (by rw [bl_nil]; exact Sl.nil _ _ _) (by rw [bl_nil]; exact Sl.nil _ _ _)
  go_wp2_with (first
    | (refine wpList_load_row rfl 43 _ rfl g3 rfl 43 (bcs B1 0 d1 0) (0, 0) _ (q3) Try.underlying43 rfl (by rw [bcs_size]; exact cellsB) ?_)
    | (go_at_call 24; refine (hsb _).mono ?_; rintro e w5 ⟨rfl, hb5⟩))
  go_ret
  exact ⟨rfl, up_call (up_call hb hb4) hb5⟩

attribute [local go_sem ↓] wp_load_flat run_load_flat
attribute [local go_sem] blkOf_ptr cells_agg sizedB sizeTB aggB
set_option maxRecDepth 100000 in
set_option maxHeartbeats 8000000 in
theorem walk_good (H : LZ) (l : List Tk) (hg : GoodT l) (n : Nat) (hn : n = l.length) (hl : n ≤ 1024) (A : Option Addr) (c : Nat) (w : World) (hS : Tks w w.heap.size A n (tz l)) :
    Calls Try.prog 8 #[.slice A n c] w fun e w' => e = .returned (.bool true) ∧ Below w.heap.size w w' := by
  have hne := lawLzParse.eqin_f 0 0
  have he := fun w hS => H.enc l hg n hn hl A c w hS
  have hc := fun w hS => H.cost l hg n hn hl A c w hS
  have ht := fun w hS => tokensbits_any l hg n hn hl A c w hS
  have hcl := costT_le l hg
  have hcd := codeT_length l
  obtain ⟨cd, hcd2⟩ : ∃ cd, cd = codeT l := ⟨_, rfl⟩
  rw [← hcd2] at he ht hcd
  rw [← hcd] at hc hcl
  obtain ⟨m, hm⟩ : ∃ m, m = cd.length := ⟨_, rfl⟩
  have hm2 : m ≤ 41984 := by rw [← hn] at hcl; omega
  have HE := Lib.hid he
  have HC := Lib.hid hc
  have HT := Lib.hid ht
  have HM := Lib.hid hm
  have HF := Lib.hid (fun w hS => rtf_ok l hg n hn hl A c w hS)
  have HS := Lib.hid hS
  clear he hc ht hcl hcd hcd2 hm hS hn hg
  go_enter Try.func8, Try.ntmps8
  go_upto_region 2 with (first
    | (go_at_call 22; refine (HE.out _ HS.out).mono ?_; rintro e w1 ⟨B1, d1, rfl, sB, hb1⟩)
    | (refine wpList_store_row rfl 43 _ _ rfl w1.heap.size (bcs B1 (pack cd).length d1 cd.length) rfl rfl 43 (bcs none 0 0 0) (Row.alloc (Row.newEq _ _ _ _ _ rfl rfl) _) (by rw [bcs_size]; exact cellsB) rfl (all_one (bcs_one _ _ _ _)) ?_)
    | (refine wpList_store_row rfl 25 _ _ rfl (w1.heap.size + 1) (flt 0 0) rfl rfl 25 (flt 0 0) (row_far_new2 _ _ _ _ _ _) (by rw [flt_size]; exact cellsF) rfl (all_one (flt_one _ _)) ?_))
  have hkw := blw_new2 w1 (.cells #[.slice none 0 0, .int .i64 0] 43) (.cells #[.int .i64 0, .int .i64 0] 25) (bcs B1 (pack cd).length d1 cd.length) (flt 0 0)
  have hk2 := up_call hb1 hkw
  refine wp_world (F := fun W => (Row W w1.heap.size 43 (bcs B1 (pack cd).length d1 cd.length) ∧ Row W (w1.heap.size + 1) 25 (flt 0 0)) ∧ Tks W W.heap.size A n (tz l) ∧ Sl W W.heap.size B1 (pack cd).length (bl (pack cd)) ∧ Below w.heap.size w W) ⟨⟨row_new2a _ _ _ _ _ _ _, row_new2b _ _ _ _ _ _ _⟩, HS.out.up hk2, sB.up hkw, hk2⟩ ?_
  generalize w1.heap.size = g3
  clear hkw hk2 hb1 HS HE sB w1
  rintro W1 ⟨⟨r3, r4⟩, sT, sB, hb⟩
  go_upto_region 3 with (first
    | (go_at_call 21; refine (HC.out _ sT).mono ?_; rintro e w2 ⟨rfl, hb2⟩)
    | (refine wpList_store_row rfl 25 _ _ rfl w2.heap.size (flt 0 0) rfl rfl 25 (flt 0 0) ((Row.newEq _ _ _ _ _ rfl rfl)) (by rw [flt_size]; exact cellsF) rfl (all_one (flt_one _ _)) ?_))
  have hkw := blw_new1 w2 (.cells #[.int .i64 0, .int .i64 0] 25) (flt 0 0)
  have hk2 := up_call hb2 hkw
  refine wp_world (F := fun W => Row W w2.heap.size 25 (flt 0 0) ∧ (Row W g3 43 (bcs B1 (pack cd).length d1 cd.length) ∧ Row W (g3 + 1) 25 (flt 0 0)) ∧ Tks W W.heap.size A n (tz l) ∧ Sl W W.heap.size B1 (pack cd).length (bl (pack cd)) ∧ Below w.heap.size w W) ⟨row_new1 _ _ _ _, ⟨r3.below hk2 r3.lt, r4.below hk2 r4.lt⟩, sT.up hk2, sB.up hk2, up_call hb hk2⟩ ?_
  generalize w2.heap.size = g6
  clear hkw hk2 hb2 HC sT r3 r4 hb sB w2
  rintro W2 ⟨r6, ⟨r3, r4⟩, sT, sB, hb⟩
  go_upto_region 4 with (first
    | (go_at_call 23; refine (HF.out _ sT).mono ?_; rintro e w3 ⟨rfl, hb3⟩)
    | (refine wpList_store_row rfl 25 _ _ rfl w3.heap.size (flt 0 0) rfl rfl 25 (flt 0 0) ((Row.newEq _ _ _ _ _ rfl rfl)) (by rw [flt_size]; exact cellsF) rfl (all_one (flt_one _ _)) ?_))
  have hkw := blw_new1 w3 (.cells #[.int .i64 0, .int .i64 0] 25) (flt 0 0)
  have hk2 := up_call hb3 hkw
  refine wp_world (F := fun W => Row W w3.heap.size 25 (flt 0 0) ∧ Row W g6 25 (flt 0 0) ∧ (Row W g3 43 (bcs B1 (pack cd).length d1 cd.length) ∧ Row W (g3 + 1) 25 (flt 0 0)) ∧ Tks W W.heap.size A n (tz l) ∧ Sl W W.heap.size B1 (pack cd).length (bl (pack cd)) ∧ Below w.heap.size w W) ⟨row_new1 _ _ _ _, r6.below hk2 r6.lt, ⟨r3.below hk2 r3.lt, r4.below hk2 r4.lt⟩, sT.up hk2, sB.up hk2, up_call hb hk2⟩ ?_
  generalize w3.heap.size = g7
  clear hkw hk2 hb3 HF sT r3 r4 r6 hb sB w3
  rintro W3 ⟨r7, r6, ⟨r3, r4⟩, sT, sB, hb⟩
  go_upto_region 8 with (first
    | (go_at_call 13; refine (matches_any H W3).mono ?_; rintro e w4 ⟨rfl, hb4⟩; have q3 := r3.below hb4 r3.lt; have q4 := r4.below hb4 r4.lt; have q6 := r6.below hb4 r6.lt; have q7 := r7.below hb4 r7.lt; have k7 : w4.cell? ⟨g7, 0, none⟩ = some (.int .i64 0) := (q7.cell 0).trans rfl)
    | (refine wpList_load_rowG (by simp [Region.wanted, yielded, Act.put]) 25 _ rfl (g3 + 1) rfl 25 (flt 0 0) (0, 0) _ (q4) Try.underlying25 rfl (by rw [flt_size]; exact cellsF) ?_)
    | (refine wpList_load_rowG (by simp [Region.wanted, yielded, Act.put]) 25 _ rfl g6 rfl 25 (flt 0 0) (0, 0) _ (q6) Try.underlying25 rfl (by rw [flt_size]; exact cellsF) ?_)
    | (refine wpList_load_rowG (by simp [Region.wanted, yielded, Act.put]) 25 _ rfl g7 rfl 25 (flt 0 0) (0, 0) _ (q7) Try.underlying25 rfl (by rw [flt_size]; exact cellsF) ?_))
  go_upto_region 9 with (first
    | (go_at_call 25; refine (HT.out _ (sT.up hb4)).mono ?_; rintro e w5 ⟨v5, rfl, ho5, hb5⟩))
  obtain ⟨A5, c5, hv5, _, _⟩ := own_form ho5
  subst hv5
  have s5 := Sl.of_own ho5
  have p3 := q3.below hb5 q3.lt
  have pB := (sB.up hb4).up hb5
  have hbw := up_call (up_call hb hb4) hb5
  have hpk := fun w hS => packed_any cd (by rw [← HM.out]; omega) A5 c5 cd.length rfl w hS
  have HPK := Lib.hid hpk
  clear hpk ho5 q3 q4 q6 q7 k7 hb4 hb5 r3 r4 r6 r7 sT sB hb
  have i3 := p3.drew.is (bcs_size _ _ _ _)
  have a3 := p3.drew.at
  go_region_held3 (fun W => IsRow W g3 2 ∧ rowAt W g3 = bcs B1 (pack cd).length d1 cd.length)
    (first
      | exact ⟨i3, a3⟩
      | exact ⟨(p3.drew.below hb6 p3.lt).is (bcs_size _ _ _ _), (p3.drew.below hb6 p3.lt).at⟩
      | exact ⟨(p3.drew.below hb7c p3.lt).is (bcs_size _ _ _ _), (p3.drew.below hb7c p3.lt).at⟩)
    (first
      | (go_at_call 26; refine (HPK.out _ s5.drew).mono ?_; rintro e w6 ⟨A6, c6, rfl, t6, hb6⟩; have u6 := pB.drew.up hb6)
      | (go_at_call 24; refine (same_pack cd cd.length B1 A6 d1 c6 _ u6 t6).mono ?_; rintro e w7 ⟨rfl, hb7⟩; have hb7c := up_call hb6 hb7))
  all_goals
    go_wp2
    go_ret
    exact ⟨rfl, up_call hbw.drew hb7c⟩
end Go.Proofs.Ytahihgmlkcbfiaa.lawLzCodes
