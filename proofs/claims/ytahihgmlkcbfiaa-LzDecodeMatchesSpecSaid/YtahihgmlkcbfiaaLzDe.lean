/-
  The walks of LzDecodeMatchesSpec.
-/
import Derived.Test.YtahihgmlkcbfiaaLzPs
import Derived.Deep.RegionHeld3
namespace Go.Proofs.Ytahihgmlkcbfiaa.lawLzDec
open Go.RowKit

theorem eql_f (a b : Int) (w : World) : (binOp .eql 25 (.agg (flt a b)) (.agg (flt a b))).run Try.prog w = .ok (.bool true) w := by
  have h := eql_flt a b a b w
  simp only [beq_self_eq_true, Bool.and_self] at h
  exact h
theorem eqin_f (a b : Int) (w : World) : (Op.equalIn 10000 25 (.agg (flt a b)) (.agg (flt a b))).run Try.prog w = .ok true w := by
  have h := eql_f a b w
  simp only [binOp] at h
  simp only [Op.equal, Op.maxDepth, Sem.run_bind] at h
  cases hq : (Op.equalIn 10000 25 (.agg (flt a b)) (.agg (flt a b))).run Try.prog w with
  | ok v w' =>
    rw [hq] at h
    simp only [Result.andThen_ok, Sem.run_pure, Result.ok.injEq, Value.bool.injEq] at h
    rw [h.1, h.2]
  | halt e w' =>
    rw [hq] at h
    simp at h
attribute [local go_sem ↓] wp_load_flat run_load_flat
attribute [local go_sem] isRow_drewN rowAt_drewN blkOf_ptr cells_agg sizedF sizeTF aggF
set_option maxRecDepth 100000 in
set_option maxHeartbeats 8000000 in
theorem walk_form (H : LZ) (L : List UInt8) (k : Int) (hG : ¬ Good L k) (c : Int) (A : Option Addr) (d : Nat) (w : World) (hS : Sl w w.heap.size A L.length (bl L)) :
    Calls Try.prog 9 #[.agg (bcs A L.length d k), .int .i64 c] w fun e w' => e = .returned (.bool true) ∧ Below w.heap.size w w' := by
  have HD := Lib.hid (fun w hS => H.decForm L k hG c A d w hS)
  have HK := Lib.hid (fun w hS => ok_no L k hG A d w hS)
  clear hG
  go_enter Try.func9, Try.ntmps9
  go_upto_region 1 with (fail)
  have ha : Below w.heap.size w (w.alloc (.cells (bcs A L.length d k) 43)) := (Below.refl _ _).alloc (Nat.le_refl _) _
  refine wp_world (F := fun W => Row W w.heap.size 43 (bcs A L.length d k) ∧ Sl W W.heap.size A L.length (bl L) ∧ Below w.heap.size w W) ⟨Row.newEq _ _ _ _ _ rfl rfl, hS.up ha, ha⟩ ?_
  clear ha
  rintro W0 ⟨r2, sB, hb⟩
  go_upto_region 2 with (first
    | (refine wpList_load_row rfl 43 _ rfl w.heap.size rfl 43 (bcs A L.length d k) (0, 0) _ (r2) Try.underlying43 rfl (by rw [bcs_size]; exact cellsB) ?_)
    | (go_at_call 27; refine (HD.out _ sB).mono ?_; rintro e w1 ⟨⟨G1, c1, rfl⟩, hb1⟩)
    | (refine wpList_store_row rfl 25 _ _ rfl w1.heap.size (flt 6 (-1)) rfl rfl 25 (flt 0 0) ((Row.newEq _ _ _ _ _ rfl rfl)) (by rw [flt_size]; exact cellsF) rfl (all_one (flt_one _ _)) ?_))
  have hkw := blw_new1 w1 (.cells #[.int .i64 0, .int .i64 0] 25) (flt 6 (-1))
  have hk2 := up_call hb1 hkw
  refine wp_world (F := fun W => Row W w1.heap.size 25 (flt 6 (-1)) ∧ Row W w.heap.size 43 (bcs A L.length d k) ∧ Sl W W.heap.size A L.length (bl L) ∧ Below w.heap.size w W) ⟨row_new1 _ _ _ _, r2.below hk2 r2.lt, sB.up hk2, up_call hb hk2⟩ ?_
  generalize w1.heap.size = g7
  clear hkw hk2 hb1 r2 sB hb
  rintro W1 ⟨r7, r2, sB, hb⟩
  go_upto_region 5 with (first
    | (go_at_call 13; refine (matches_any H W1).mono ?_; rintro e w2 ⟨rfl, hb2⟩; have p7 := r7.below hb2 r7.lt; have p2 := r2.below hb2 r2.lt; have pB := sB.up hb2)
    | (refine wpList_load_row rfl 43 _ rfl w.heap.size rfl 43 (bcs A L.length d k) (0, 0) _ (p2) Try.underlying43 rfl (by rw [bcs_size]; exact cellsB) ?_)
    | (go_at_call 28; refine (HK.out _ pB).mono ?_; rintro e w3 ⟨rfl, hb3⟩; have q7 := p7.below hb3 p7.lt))
  have hbw := up_call (up_call hb hb2) hb3
  have i7 := q7.drew.is (flt_size _ _)
  have a7 := q7.drew.at
  have hef := fun w => lawLzDec.eql_f (6) (-1) w
  have hef2 := fun w => lawLzDec.eqin_f (6) (-1) w
  clear p7 p2 pB r7 r2 sB hb hb2 hb3
  go_region_held3 (fun W => IsRow W g7 2 ∧ rowAt W g7 = flt (6) (-1))
    (first
      | exact ⟨i7, a7⟩
      | exact ⟨(q7.drew.below hb5 q7.lt).is (flt_size _ _), (q7.drew.below hb5 q7.lt).at⟩)
    (first
      | (go_at_call 29; refine (at_any (6) (-1) _).mono ?_; rintro e w5 ⟨rfl, hb5⟩))
  all_goals
    go_wp2
    go_ret
    exact ⟨rfl, up_call hbw.drew hb5⟩

set_option maxRecDepth 100000 in
set_option maxHeartbeats 8000000 in
theorem walk_range (H : LZ) (l : List Bool) (hl : l.length ≤ 131072) (c : Int) (hc : c < 0 ∨ 1024 < c) (A : Option Addr) (d : Nat) (w : World) (hS : Sl w w.heap.size A (pack l).length (bl (pack l))) :
    Calls Try.prog 9 #[.agg (bcs A (pack l).length d l.length), .int .i64 c] w fun e w' => e = .returned (.bool true) ∧ Below w.heap.size w w' := by
  have HD := Lib.hid (fun w hS => H.decRange l hl c hc A d w hS)
  have HK := Lib.hid (fun w hS => ok_yes (pack l) l (pack_rep l) hl A d w hS)
  have HI := Lib.hid (in_no c 0 1024 hc)
  clear hc
  go_enter Try.func9, Try.ntmps9
  go_upto_region 1 with (fail)
  have ha : Below w.heap.size w (w.alloc (.cells (bcs A (pack l).length d l.length) 43)) := (Below.refl _ _).alloc (Nat.le_refl _) _
  refine wp_world (F := fun W => Row W w.heap.size 43 (bcs A (pack l).length d l.length) ∧ Sl W W.heap.size A (pack l).length (bl (pack l)) ∧ Below w.heap.size w W) ⟨Row.newEq _ _ _ _ _ rfl rfl, hS.up ha, ha⟩ ?_
  clear ha
  rintro W0 ⟨r2, sB, hb⟩
  go_upto_region 2 with (first
    | (refine wpList_load_row rfl 43 _ rfl w.heap.size rfl 43 (bcs A (pack l).length d l.length) (0, 0) _ (r2) Try.underlying43 rfl (by rw [bcs_size]; exact cellsB) ?_)
    | (go_at_call 27; refine (HD.out _ sB).mono ?_; rintro e w1 ⟨⟨G1, c1, rfl⟩, hb1⟩)
    | (refine wpList_store_row rfl 25 _ _ rfl w1.heap.size (flt 4 (-2)) rfl rfl 25 (flt 0 0) ((Row.newEq _ _ _ _ _ rfl rfl)) (by rw [flt_size]; exact cellsF) rfl (all_one (flt_one _ _)) ?_))
  have hkw := blw_new1 w1 (.cells #[.int .i64 0, .int .i64 0] 25) (flt 4 (-2))
  have hk2 := up_call hb1 hkw
  refine wp_world (F := fun W => Row W w1.heap.size 25 (flt 4 (-2)) ∧ Row W w.heap.size 43 (bcs A (pack l).length d l.length) ∧ Sl W W.heap.size A (pack l).length (bl (pack l)) ∧ Below w.heap.size w W) ⟨row_new1 _ _ _ _, r2.below hk2 r2.lt, sB.up hk2, up_call hb hk2⟩ ?_
  generalize w1.heap.size = g7
  clear hkw hk2 hb1 r2 sB hb
  rintro W1 ⟨r7, r2, sB, hb⟩
  go_upto_region 7 with (first
    | (go_at_call 13; refine (matches_any H W1).mono ?_; rintro e w2 ⟨rfl, hb2⟩; have p7 := r7.below hb2 r7.lt; have p2 := r2.below hb2 r2.lt; have pB := sB.up hb2)
    | (refine wpList_load_row rfl 43 _ rfl w.heap.size rfl 43 (bcs A (pack l).length d l.length) (0, 0) _ (p2) Try.underlying43 rfl (by rw [bcs_size]; exact cellsB) ?_)
    | (go_at_call 28; refine (HK.out _ pB).mono ?_; rintro e w3 ⟨rfl, hb3⟩; have q7 := p7.below hb3 p7.lt)
    | (go_at_call 30; refine (HI.out _).mono ?_; rintro e w4 ⟨rfl, h4⟩; subst w4))
  have hbw := up_call (up_call hb hb2) hb3
  have i7 := q7.drew.is (flt_size _ _)
  have a7 := q7.drew.at
  have hef := fun w => lawLzDec.eql_f (4) (-2) w
  have hef2 := fun w => lawLzDec.eqin_f (4) (-2) w
  clear p7 p2 pB r7 r2 sB hb hb2 hb3
  go_region_held3 (fun W => IsRow W g7 2 ∧ rowAt W g7 = flt (4) (-2))
    (first
      | exact ⟨i7, a7⟩
      | exact ⟨(q7.drew.below hb5 q7.lt).is (flt_size _ _), (q7.drew.below hb5 q7.lt).at⟩)
    (first
      | (go_at_call 29; refine (at_any (4) (-2) _).mono ?_; rintro e w5 ⟨rfl, hb5⟩))
  all_goals
    go_wp2
    go_ret
    exact ⟨rfl, up_call hbw.drew hb5⟩

set_option maxRecDepth 100000 in
set_option maxHeartbeats 8000000 in
theorem walk_ok (H : LZ) (l : List Bool) (hl : l.length ≤ 131072) (c : Nat) (hc : c ≤ 1024) (o : List Tk) (b : Nat) (hol : o.length ≤ 100000) (hr : decF l c 0 c [] = .inl (o, b)) (A : Option Addr) (d : Nat) (w : World) (hS : Sl w w.heap.size A (pack l).length (bl (pack l))) :
    Calls Try.prog 9 #[.agg (bcs A (pack l).length d l.length), .int .i64 c] w fun e w' => e = .returned (.bool true) ∧ Below w.heap.size w w' := by
  have hd := fun w hS => H.dec l hl c hc A d w hS
  have ht := fun A5 c5 h w hS => tokensat_any l l.length rfl hl c hc A5 c5 h w hS
  rw [hr] at hd ht
  have HD := Lib.hid hd
  have HT := Lib.hid ht
  have HK := Lib.hid (fun w hS => ok_yes (pack l) l (pack_rep l) hl A d w hS)
  have HB := Lib.hid (fun w hS => rbits_any (pack l) l (pack_rep l) hl A d w hS)
  have HI := Lib.hid (in_yes c 0 1024 (by omega) (by omega))
  clear hd ht hr
  go_enter Try.func9, Try.ntmps9
  go_upto_region 1 with (fail)
  have ha : Below w.heap.size w (w.alloc (.cells (bcs A (pack l).length d l.length) 43)) := (Below.refl _ _).alloc (Nat.le_refl _) _
  refine wp_world (F := fun W => Row W w.heap.size 43 (bcs A (pack l).length d l.length) ∧ Sl W W.heap.size A (pack l).length (bl (pack l)) ∧ Below w.heap.size w W) ⟨Row.newEq _ _ _ _ _ rfl rfl, hS.up ha, ha⟩ ?_
  clear ha
  rintro W0 ⟨r2, sB, hb⟩
  go_upto_region 2 with (first
    | (refine wpList_load_row rfl 43 _ rfl w.heap.size rfl 43 (bcs A (pack l).length d l.length) (0, 0) _ (r2) Try.underlying43 rfl (by rw [bcs_size]; exact cellsB) ?_)
    | (go_at_call 27; refine (HD.out _ sB).mono ?_; rintro e w1 ⟨⟨G1, c1, rfl, sO⟩, hb1⟩)
    | (refine wpList_store_row rfl 25 _ _ rfl w1.heap.size (flt 0 0) rfl rfl 25 (flt 0 0) ((Row.newEq _ _ _ _ _ rfl rfl)) (by rw [flt_size]; exact cellsF) rfl (all_one (flt_one _ _)) ?_))
  have hkw := blw_new1 w1 (.cells #[.int .i64 0, .int .i64 0] 25) (flt 0 0)
  have hk2 := up_call hb1 hkw
  refine wp_world (F := fun W => Row W w1.heap.size 25 (flt 0 0) ∧ Row W w.heap.size 43 (bcs A (pack l).length d l.length) ∧ Sl W W.heap.size A (pack l).length (bl (pack l)) ∧ Tks W W.heap.size G1 o.length (tz o) ∧ Below w.heap.size w W) ⟨row_new1 _ _ _ _, r2.below hk2 r2.lt, sB.up hk2, sO.up hkw, up_call hb hk2⟩ ?_
  generalize w1.heap.size = g7
  clear hkw hk2 hb1 r2 sB hb
  rintro W1 ⟨r7, r2, sB, sO, hb⟩
  go_upto_region 9 with (first
    | (go_at_call 13; refine (matches_any H W1).mono ?_; rintro e w2 ⟨rfl, hb2⟩; have p7 := r7.below hb2 r7.lt; have p2 := r2.below hb2 r2.lt; have pB := sB.up hb2; have pO := sO.up hb2)
    | (refine wpList_load_row rfl 43 _ rfl w.heap.size rfl 43 (bcs A (pack l).length d l.length) (0, 0) _ (p2) Try.underlying43 rfl (by rw [bcs_size]; exact cellsB) ?_)
    | (go_at_call 28; refine (HK.out _ pB).mono ?_; rintro e w3 ⟨rfl, hb3⟩; have q7 := p7.below hb3 p7.lt; have q2 := p2.below hb3 p2.lt; have qB := pB.up hb3; have qO := pO.up hb3)
    | (go_at_call 30; refine (HI.out _).mono ?_; rintro e w4 ⟨rfl, h4⟩; subst w4)
    | (refine wpList_load_row rfl 43 _ rfl w.heap.size rfl 43 (bcs A (pack l).length d l.length) (0, 0) _ (q2) Try.underlying43 rfl (by rw [bcs_size]; exact cellsB) ?_)
    | (go_at_call 32; refine (HB.out _ qB).mono ?_; rintro e w5 ⟨v5, rfl, ho5, hb5⟩; obtain ⟨A5, c5, hv5, hc5, _⟩ := own_form ho5; subst hv5; have s5 := Sl.of_own ho5)
    | (go_at_call 31; refine (HT.out A5 c5 hc5 _ s5).mono ?_; rintro e w6 ⟨⟨G6, c6, rfl, s6⟩, hb6⟩)
    | (refine wpList_store_row rfl 25 _ _ rfl w6.heap.size (flt 0 0) rfl rfl 25 (flt 0 0) ((Row.newEq _ _ _ _ _ rfl rfl)) (by rw [flt_size]; exact cellsF) rfl (all_one (flt_one _ _)) ?_))
  have hbw := up_call (up_call (up_call hb hb2) hb3) (up_call hb5 hb6)
  have hkw := blw_new1 w6 (.cells #[.int .i64 0, .int .i64 0] 25) (flt 0 0)
  have u7 := (q7.below hb5 q7.lt).below hb6 (Nat.lt_of_lt_of_le q7.lt hb5.size)
  refine wp_world (F := fun W => Row W w6.heap.size 25 (flt 0 0) ∧ Row W g7 25 (flt 0 0) ∧ Tks W W.heap.size G1 o.length (tz o) ∧ Tks W W.heap.size G6 o.length (tz o) ∧ Below w.heap.size w W) ⟨row_new1 _ _ _ _, u7.below hkw u7.lt, ((qO.up hb5).up hb6).up hkw, s6.up hkw, up_call hbw hkw⟩ ?_
  generalize w6.heap.size = g10
  clear hkw hbw u7 hb6 hb5 s5 ho5 hb3 hb2 hb qB q2 q7 pB p2 p7 sB r2 r7 sO pO qO s6
  rintro W6 ⟨r10, r7, s1, s6, hb⟩
  have hee := fun w => lawLzDec.eql_f 0 0 w
  go_wp2_with (first
    | (refine wpList_load_row rfl 25 _ rfl g7 rfl 25 (flt 0 0) (0, 0) _ (r7) Try.underlying25 rfl (by rw [flt_size]; exact cellsF) ?_)
    | (refine wpList_load_row rfl 25 _ rfl g10 rfl 25 (flt 0 0) (0, 0) _ (r10) Try.underlying25 rfl (by rw [flt_size]; exact cellsF) ?_)
    | (go_at_call 14; refine (tokens_yes (tz o) o.length hol _ _ _ _ W6 s1 s6).mono ?_; rintro e w9 ⟨rfl, hb9⟩))
  go_ret
  exact ⟨rfl, up_call hb hb9⟩

set_option maxRecDepth 100000 in
set_option maxHeartbeats 8000000 in
theorem walk_err (H : LZ) (l : List Bool) (hl : l.length ≤ 131072) (c : Nat) (hc : c ≤ 1024) (z a : Nat) (hr : decF l c 0 c [] = .inr (z, a)) (A : Option Addr) (d : Nat) (w : World) (hS : Sl w w.heap.size A (pack l).length (bl (pack l))) :
    Calls Try.prog 9 #[.agg (bcs A (pack l).length d l.length), .int .i64 c] w fun e w' => e = .returned (.bool true) ∧ Below w.heap.size w w' := by
  have hd := fun w hS => H.dec l hl c hc A d w hS
  have ht := fun A5 c5 h w hS => tokensat_any l l.length rfl hl c hc A5 c5 h w hS
  rw [hr] at hd ht
  have HD := Lib.hid hd
  have HT := Lib.hid ht
  have HK := Lib.hid (fun w hS => ok_yes (pack l) l (pack_rep l) hl A d w hS)
  have HB := Lib.hid (fun w hS => rbits_any (pack l) l (pack_rep l) hl A d w hS)
  have HI := Lib.hid (in_yes c 0 1024 (by omega) (by omega))
  clear hd ht hr
  go_enter Try.func9, Try.ntmps9
  go_upto_region 1 with (fail)
  have ha : Below w.heap.size w (w.alloc (.cells (bcs A (pack l).length d l.length) 43)) := (Below.refl _ _).alloc (Nat.le_refl _) _
  refine wp_world (F := fun W => Row W w.heap.size 43 (bcs A (pack l).length d l.length) ∧ Sl W W.heap.size A (pack l).length (bl (pack l)) ∧ Below w.heap.size w W) ⟨Row.newEq _ _ _ _ _ rfl rfl, hS.up ha, ha⟩ ?_
  clear ha
  rintro W0 ⟨r2, sB, hb⟩
  go_upto_region 2 with (first
    | (refine wpList_load_row rfl 43 _ rfl w.heap.size rfl 43 (bcs A (pack l).length d l.length) (0, 0) _ (r2) Try.underlying43 rfl (by rw [bcs_size]; exact cellsB) ?_)
    | (go_at_call 27; refine (HD.out _ sB).mono ?_; rintro e w1 ⟨⟨G1, c1, rfl⟩, hb1⟩)
    | (refine wpList_store_row rfl 25 _ _ rfl w1.heap.size (flt (z : Int) (a : Int)) rfl rfl 25 (flt 0 0) ((Row.newEq _ _ _ _ _ rfl rfl)) (by rw [flt_size]; exact cellsF) rfl (all_one (flt_one _ _)) ?_))
  have hkw := blw_new1 w1 (.cells #[.int .i64 0, .int .i64 0] 25) (flt (z : Int) (a : Int))
  have hk2 := up_call hb1 hkw
  refine wp_world (F := fun W => Row W w1.heap.size 25 (flt (z : Int) (a : Int)) ∧ Row W w.heap.size 43 (bcs A (pack l).length d l.length) ∧ Sl W W.heap.size A (pack l).length (bl (pack l)) ∧ Below w.heap.size w W) ⟨row_new1 _ _ _ _, r2.below hk2 r2.lt, sB.up hk2, up_call hb hk2⟩ ?_
  generalize w1.heap.size = g7
  clear hkw hk2 hb1 r2 sB hb
  rintro W1 ⟨r7, r2, sB, hb⟩
  go_upto_region 9 with (first
    | (go_at_call 13; refine (matches_any H W1).mono ?_; rintro e w2 ⟨rfl, hb2⟩; have p7 := r7.below hb2 r7.lt; have p2 := r2.below hb2 r2.lt; have pB := sB.up hb2)
    | (refine wpList_load_row rfl 43 _ rfl w.heap.size rfl 43 (bcs A (pack l).length d l.length) (0, 0) _ (p2) Try.underlying43 rfl (by rw [bcs_size]; exact cellsB) ?_)
    | (go_at_call 28; refine (HK.out _ pB).mono ?_; rintro e w3 ⟨rfl, hb3⟩; have q7 := p7.below hb3 p7.lt; have q2 := p2.below hb3 p2.lt; have qB := pB.up hb3)
    | (go_at_call 30; refine (HI.out _).mono ?_; rintro e w4 ⟨rfl, h4⟩; subst w4)
    | (refine wpList_load_row rfl 43 _ rfl w.heap.size rfl 43 (bcs A (pack l).length d l.length) (0, 0) _ (q2) Try.underlying43 rfl (by rw [bcs_size]; exact cellsB) ?_)
    | (go_at_call 32; refine (HB.out _ qB).mono ?_; rintro e w5 ⟨v5, rfl, ho5, hb5⟩; obtain ⟨A5, c5, hv5, hc5, _⟩ := own_form ho5; subst hv5; have s5 := Sl.of_own ho5)
    | (go_at_call 31; refine (HT.out A5 c5 hc5 _ s5).mono ?_; rintro e w6 ⟨rfl, hb6⟩)
    | (refine wpList_store_row rfl 25 _ _ rfl w6.heap.size (flt (z : Int) (a : Int)) rfl rfl 25 (flt 0 0) ((Row.newEq _ _ _ _ _ rfl rfl)) (by rw [flt_size]; exact cellsF) rfl (all_one (flt_one _ _)) ?_))
  have hbw := up_call (up_call (up_call hb hb2) hb3) (up_call hb5 hb6)
  have hkw := blw_new1 w6 (.cells #[.int .i64 0, .int .i64 0] 25) (flt (z : Int) (a : Int))
  have u7 := (q7.below hb5 q7.lt).below hb6 (Nat.lt_of_lt_of_le q7.lt hb5.size)
  refine wp_world (F := fun W => Row W w6.heap.size 25 (flt (z : Int) (a : Int)) ∧ Row W g7 25 (flt (z : Int) (a : Int)) ∧  Below w.heap.size w W) ⟨row_new1 _ _ _ _, u7.below hkw u7.lt,  up_call hbw hkw⟩ ?_
  generalize w6.heap.size = g10
  clear hkw hbw u7 hb6 hb5 s5 ho5 hb3 hb2 hb qB q2 q7 pB p2 p7 sB r2 r7 
  rintro W6 ⟨r10, r7,  hb⟩
  have hee := fun w => lawLzDec.eql_f (z : Int) (a : Int) w
  go_wp2_with (first
    | (refine wpList_load_row rfl 25 _ rfl g7 rfl 25 (flt (z : Int) (a : Int)) (0, 0) _ (r7) Try.underlying25 rfl (by rw [flt_size]; exact cellsF) ?_)
    | (refine wpList_load_row rfl 25 _ rfl g10 rfl 25 (flt (z : Int) (a : Int)) (0, 0) _ (r10) Try.underlying25 rfl (by rw [flt_size]; exact cellsF) ?_)
    | (go_at_call 14; refine (tokens_yes [] 0 (by omega) _ _ _ _ W6 (Tks.nil _ _ _) (Tks.nil _ _ _)).mono ?_; rintro e w9 ⟨rfl, hb9⟩))
  go_ret
  exact ⟨rfl, up_call hb hb9⟩
/-- one token for each piece of fuel at most -/
theorem decF_few (l : List Bool) : ∀ (f a m : Nat) (o o2 : List Tk) (b : Nat), decF l f a m o = .inl (o2, b) → o2.length ≤ o.length + f
  | 0, a, m, o, o2, b, h => by
    rw [decF] at h
    injection h with h
    injection h with h1 h2
    subst h1
    exact Nat.le_refl _
  | f + 1, a, m, o, o2, b, h => by
    rw [decF] at h
    split at h
    · injection h with h
      injection h with h1 h2
      subst h1
      exact Nat.le_add_right _ _
    · split at h
      · cases h
      · have := decF_few l f _ _ _ o2 b h
        rw [List.length_append, List.length_singleton] at this
        omega
end Go.Proofs.Ytahihgmlkcbfiaa.lawLzDec
