/-
  The contracts of the package's inRange and Train. (Written by cards/gen_YDt.py.)
-/
import Derived.Test.YtcmbpniikcghfaaYTrn
import Derived.Test.YtcmbpniikcghfaaYChk
namespace Go.Proofs.Ytcmbpniikcghfaa
open Go.RowKit

/-- a slice of bytes lies in no fault's block -/
theorem Sl.notFlt {w : World} {B n g : Nat} {ad : Addr} {L : List UInt8} {T : TypeId} {a b : Int} (h : Sl w B (some ad) n (bl L)) (hn : 0 < n) (hr : Row w g T (flt a b)) : ad.block ≠ g := by
  intro e
  obtain ⟨ad', h1, _, hc⟩ := h.byte hn
  injection h1 with h1
  subst h1
  rw [add_zero'] at hc
  obtain ⟨k, o, s⟩ := ad
  simp only at e
  subst e
  unfold Row at hr
  unfold World.cell? at hc
  simp only [hr] at hc
  split at hc
  · cases hc
  · rcases o with _ | _ | o
    · simp [flt] at hc
    · simp [flt] at hc
    · simp [flt] at hc
theorem Sl.keepFlt {w : World} {A : Option Addr} {n g : Nat} {L : List UInt8} {T : TypeId} {a b : Int} (h : Sl w w.heap.size A n (bl L)) (hr : Row w g T (flt a b)) (cs : Array Value) : Sl (w.setRow g cs) (w.setRow g cs).heap.size A n (bl L) := by
  refine ⟨h.1, fun hn => ?_⟩
  obtain ⟨ad, rfl, hb, hc⟩ := h.2 hn
  have hne := h.notFlt hn hr
  refine ⟨ad, rfl, by simpa using hb, fun j u hu => ?_⟩
  rw [← hc j u hu]
  unfold World.cell?
  rw [show (w.setRow g cs).heap[(ad.add j).block]? = w.heap[(ad.add j).block]? from setRow_other w g _ cs (by rw [add_block]; exact hne)]
attribute [local go_sem ↓] wp_store_act wp_load_flat run_load_flat wp_store_flat
attribute [local go_sem] flat_lit blkOf_ptr cells_agg sizedF sizeTF aggF flat_flt isRow_set_eq rowAt_set_eq

set_option maxRecDepth 100000 in
theorem inrange_yes (z : Int) (h1 : 0 ≤ z) (h2 : z ≤ 512) (w : World) : Calls Try.prog 23 #[.int .i64 z] w fun e w' => e = .returned (.bool true) ∧ w' = w := by
  have t1 : decide ((0 : Int) ≤ z) = true := decide_eq_true h1
  have t2 : decide (z ≤ (512 : Int)) = true := decide_eq_true h2
  clear h1 h2
  go_enter Try.func23, Try.ntmps23
  go_wp2
  go_ret
  exact ⟨rfl, rfl⟩
set_option maxRecDepth 100000 in
theorem inrange_no (z : Int) (h : ¬ (0 ≤ z ∧ z ≤ 512)) (w : World) : Calls Try.prog 23 #[.int .i64 z] w fun e w' => e = .returned (.bool false) ∧ w' = w := by
  by_cases h1 : 0 ≤ z
  · have t1 : decide ((0 : Int) ≤ z) = true := decide_eq_true h1
    have t2 : decide (z ≤ (512 : Int)) = false := decide_eq_false (by omega)
    clear h1 h
    go_enter Try.func23, Try.ntmps23
    go_wp2
    go_ret
    exact ⟨rfl, rfl⟩
  · have t1 : decide ((0 : Int) ≤ z) = false := decide_eq_false h1
    clear h1 h
    go_enter Try.func23, Try.ntmps23
    go_wp2
    go_ret
    exact ⟨rfl, rfl⟩
set_option maxRecDepth 100000 in
set_option maxHeartbeats 8000000 in
theorem train_bad1 (Ss : List (List UInt8)) (N : Nat) (size : Int) (hN : N = Ss.length) (hz : (smF Ss (-1)).1 ≠ 0) (A : Option Addr) (c : Nat) (w : World) (hS : Sls w w.heap.size A N Ss) :
    Calls Try.prog 8 #[.slice A N c, .int .i64 size] w fun e w' => (∃ G g, e = .returned (.tuple #[.slice G 0 g, .agg (flt (smF Ss (-1)).1 (smF Ss (-1)).2)])) ∧ Below w.heap.size w w' := by
  have hf := fun (w : World) hS => checksamples_any Ss N hN (-1) A c w hS
  obtain ⟨k, i, hk⟩ : ∃ k i, smF Ss (-1) = (k, i) := ⟨_, _, rfl⟩
  rw [hk] at hf hz ⊢
  simp only at hf hz ⊢
  have hnq := neq_bad k i hz
  have HF := Lib.hid hf
  have HS := Lib.hid hS
  clear hf hS hz hk hN
  go_enter Try.func8, Try.ntmps8
  go_upto_region 1 with (fail)
  have ha : Below w.heap.size w (w.alloc (.cells #[.int .i64 0, .int .i64 0] 25)) := (Below.refl _ _).alloc (Nat.le_refl _) _
  refine wp_world (F := fun W => Row W w.heap.size 25 (flt 0 0) ∧ Sls W W.heap.size A N Ss ∧ Below w.heap.size w W) ⟨Row.newEq _ _ _ _ _ rfl rfl, HS.out.up ha, ha⟩ ?_
  clear ha
  rintro W0 ⟨r0, hS, hb⟩
  go_upto_region 2 with (first
    | (go_at_call 22; refine (HF.out _ hS).mono ?_; rintro e w2 ⟨rfl, hb2⟩)
    | (refine wpList_store_row rfl 25 _ _ rfl w2.heap.size (flt k i) rfl rfl 25 (flt 0 0) (Row.newEq _ _ _ _ _ rfl rfl) (by rw [flt_size]; exact cellsF) rfl (all_one (flt_one _ _)) ?_))
  have hk2 := up_call hb2 (blw_new1 w2 (.cells #[.int .i64 0, .int .i64 0] 25) (flt k i))
  refine wp_world (F := fun W => Row W w2.heap.size 25 (flt k i) ∧ Row W w.heap.size 25 (flt 0 0) ∧ w.heap.size < w2.heap.size ∧ Sls W W.heap.size A N Ss ∧ Below w.heap.size w W)
    ⟨row_new1 _ _ _ _, r0.below hk2 r0.lt, Nat.lt_of_lt_of_le r0.lt hb2.size, hS.up hk2, up_call hb hk2⟩ ?_
  generalize w2.heap.size = g6
  clear hb2 r0 hS hb hk2 w2 W0
  rintro W2 ⟨r6, r0, hlt, hS, hb⟩
  clear hS
  go_upto_region 3 with (first
    | (refine wpList_load_row rfl 25 _ rfl g6 rfl 25 (flt k i) (0, 0) _ r6 Try.underlying25 rfl (by rw [flt_size]; exact cellsF) ?_))
  have i6 := r6.drew.is (flt_size _ _)
  have a6 := r6.drew.at
  have q0 := r0.drew
  have i0 := r0.drew.is (flt_size _ _)
  have n3 : ¬ w.heap.size = g6 := by omega
  have n4 : ¬ g6 = w.heap.size := by omega
  go_region_law (fail)
  all_goals
    go_wp2
    refine bodyPost_ret (results_tmp_row Try.results8 _ _ _ w.heap.size 25 (flt k i) _ rfl rfl (Row.row q0 _) Try.underlying25 rfl (by rw [flt_size]; exact cellsF)) rfl ⟨⟨none, 0, rfl⟩, ?_⟩
    exact blw_row hb.drew (Nat.le_refl _) _
set_option maxRecDepth 100000 in
set_option maxHeartbeats 8000000 in
theorem train_bad2 (Ss : List (List UInt8)) (N : Nat) (size : Int) (hN : N = Ss.length) (hz : (smF Ss (-1)).1 = 0) (hr : ¬ (0 ≤ size ∧ size ≤ 512)) (A : Option Addr) (c : Nat) (w : World) (hS : Sls w w.heap.size A N Ss) :
    Calls Try.prog 8 #[.slice A N c, .int .i64 size] w fun e w' => (∃ G g, e = .returned (.tuple #[.slice G 0 g, .agg (flt 4 (-2))])) ∧ Below w.heap.size w w' := by
  have hf := fun (w : World) hS => checksamples_any Ss N hN (-1) A c w hS
  rw [(smF_ok hz).1] at hf
  simp only at hf
  have hnq : ∀ w : World, (binOp .neq 25 (.agg (flt 0 0)) (.agg #[.int .i64 0, .int .i64 0])).run Try.prog w = .ok (.bool false) w := fun w => neq_flt 0 0 0 0 w
  have HI := Lib.hid (fun w => inrange_no size hr w)
  have HF := Lib.hid hf
  have HS := Lib.hid hS
  clear hf hS hz hN hr
  go_enter Try.func8, Try.ntmps8
  go_upto_region 1 with (fail)
  have ha : Below w.heap.size w (w.alloc (.cells #[.int .i64 0, .int .i64 0] 25)) := (Below.refl _ _).alloc (Nat.le_refl _) _
  refine wp_world (F := fun W => Row W w.heap.size 25 (flt 0 0) ∧ Sls W W.heap.size A N Ss ∧ Below w.heap.size w W) ⟨Row.newEq _ _ _ _ _ rfl rfl, HS.out.up ha, ha⟩ ?_
  clear ha
  rintro W0 ⟨r0, hS, hb⟩
  go_upto_region 2 with (first
    | (go_at_call 22; refine (HF.out _ hS).mono ?_; rintro e w2 ⟨rfl, hb2⟩)
    | (refine wpList_store_row rfl 25 _ _ rfl w2.heap.size (flt 0 0) rfl rfl 25 (flt 0 0) (Row.newEq _ _ _ _ _ rfl rfl) (by rw [flt_size]; exact cellsF) rfl (all_one (flt_one _ _)) ?_))
  have hk2 := up_call hb2 (blw_new1 w2 (.cells #[.int .i64 0, .int .i64 0] 25) (flt 0 0))
  refine wp_world (F := fun W => Row W w2.heap.size 25 (flt 0 0) ∧ Row W w.heap.size 25 (flt 0 0) ∧ w.heap.size < w2.heap.size ∧ Sls W W.heap.size A N Ss ∧ Below w.heap.size w W)
    ⟨row_new1 _ _ _ _, r0.below hk2 r0.lt, Nat.lt_of_lt_of_le r0.lt hb2.size, hS.up hk2, up_call hb hk2⟩ ?_
  generalize w2.heap.size = g6
  clear hb2 r0 hS hb hk2 w2 W0
  rintro W2 ⟨r6, r0, hlt, hS, hb⟩
  clear hS
  go_wp2_with (first
    | (refine wpList_load_row rfl 25 _ rfl g6 rfl 25 (flt 0 0) (0, 0) _ r6 Try.underlying25 rfl (by rw [flt_size]; exact cellsF) ?_)
    | (go_at_call 23; refine (HI.out _).mono ?_; rintro e w3 ⟨rfl, h3⟩; subst w3)
    | (refine wpList_store_row rfl 25 _ _ rfl w.heap.size (flt 4 (-2)) rfl rfl 25 (flt 0 0) r0 (by rw [flt_size]; exact cellsF) rfl (all_one (flt_one _ _)) ?_))
  refine bodyPost_ret (results_tmp_row Try.results8 _ _ _ w.heap.size 25 (flt 4 (-2)) _ rfl rfl (Row.row r0 _) Try.underlying25 rfl (by rw [flt_size]; exact cellsF)) rfl ⟨⟨none, 0, rfl⟩, ?_⟩
  exact blw_row hb (Nat.le_refl _) _
set_option maxRecDepth 100000 in
set_option maxHeartbeats 8000000 in
theorem train_ok : PTrain := by
  intro Ss N size hN hal A c hc w hM hS
  obtain ⟨_, hN64, h8, hs0, hs5⟩ := trF_ok (Ss := Ss) (size := (size : Int)) (k := -1) (r := -2) (by rw [hal]; exact fun h => h rfl)
  have hsm : smF Ss (-1) = (0, 0) := by
    unfold trF at hal
    split at hal
    · rename_i h2
      exact (smF_ok h2).1
    · exact hal
  have hf := fun (w : World) hS => checksamples_any Ss N hN (-1) A c w hS
  rw [hsm] at hf
  simp only at hf
  have hnq : ∀ w : World, (binOp .neq 25 (.agg (flt 0 0)) (.agg #[.int .i64 0, .int .i64 0])).run Try.prog w = .ok (.bool false) w := fun w => neq_flt 0 0 0 0 w
  have HI := Lib.hid (fun w => inrange_yes size hs0 hs5 w)
  have HT := Lib.hid (fun w hM hS => ptrain_any Ss N (by omega) h8 size (by omega) A c w hM hS)
  have HF := Lib.hid hf
  have HS := Lib.hid hS
  have HM := Lib.hid hM
  clear hf hS hal hN hM hsm h8 hs0
  go_enter Try.func8, Try.ntmps8
  go_upto_region 1 with (fail)
  have ha : Below w.heap.size w (w.alloc (.cells #[.int .i64 0, .int .i64 0] 25)) := (Below.refl _ _).alloc (Nat.le_refl _) _
  refine wp_world (F := fun W => Row W w.heap.size 25 (flt 0 0) ∧ Sls W W.heap.size A N Ss ∧ Below w.heap.size w W) ⟨Row.newEq _ _ _ _ _ rfl rfl, HS.out.up ha, ha⟩ ?_
  clear ha
  rintro W0 ⟨r0, hS, hb⟩
  go_upto_region 2 with (first
    | (go_at_call 22; refine (HF.out _ hS).mono ?_; rintro e w2 ⟨rfl, hb2⟩)
    | (refine wpList_store_row rfl 25 _ _ rfl w2.heap.size (flt 0 0) rfl rfl 25 (flt 0 0) (Row.newEq _ _ _ _ _ rfl rfl) (by rw [flt_size]; exact cellsF) rfl (all_one (flt_one _ _)) ?_))
  have hk2 := up_call hb2 (blw_new1 w2 (.cells #[.int .i64 0, .int .i64 0] 25) (flt 0 0))
  refine wp_world (F := fun W => Row W w2.heap.size 25 (flt 0 0) ∧ Row W w.heap.size 25 (flt 0 0) ∧ w.heap.size < w2.heap.size ∧ Sls W W.heap.size A N Ss ∧ Below w.heap.size w W)
    ⟨row_new1 _ _ _ _, r0.below hk2 r0.lt, Nat.lt_of_lt_of_le r0.lt hb2.size, hS.up hk2, up_call hb hk2⟩ ?_
  generalize w2.heap.size = g6
  clear hb2 r0 hS hb hk2 w2 W0
  rintro W2 ⟨r6, r0, hlt, hS, hb⟩
  have HML := Lib.hid (HM.out.below hb)
  go_wp2_with (first
    | (refine wpList_load_row rfl 25 _ rfl g6 rfl 25 (flt 0 0) (0, 0) _ r6 Try.underlying25 rfl (by rw [flt_size]; exact cellsF) ?_)
    | (go_at_call 23; refine (HI.out _).mono ?_; rintro e w3 ⟨rfl, h3⟩; subst w3)
    | (go_at_call 24; refine (HT.out _ HML.out hS).mono ?_; rintro e w4 ⟨⟨R, G, g, hR, rfl, hg, sR⟩, hb4⟩)
    | (refine wpList_store_row rfl 25 _ _ rfl w.heap.size (flt 0 0) rfl rfl 25 (flt 0 0) (r0.below hb4 r0.lt) (by rw [flt_size]; exact cellsF) rfl (all_one (flt_one _ _)) ?_))
  refine bodyPost_ret (results_tmp_row Try.results8 _ _ _ w.heap.size 25 (flt 0 0) _ rfl rfl (Row.row (r0.below hb4 r0.lt) _) Try.underlying25 rfl (by rw [flt_size]; exact cellsF)) rfl ⟨⟨R, G, g, hR, rfl, hg, ?_⟩, ?_⟩
  · exact sR.keepFlt (r0.below hb4 r0.lt) _
  · exact blw_row (up_call hb hb4) (Nat.le_refl _) _
end Go.Proofs.Ytcmbpniikcghfaa
