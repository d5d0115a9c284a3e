/-
  The contract of the reference's Expanded: the bytes for which tokens stand.
-/
import Derived.Test.YtahihgmlkcbfiaaRTokB
import Derived.Test.YtahihgmlkcbfiaaTPlain
import Derived.Test.YtahihgmlkcbfiaaGMem
import Derived.Test.YtahihgmlkcbfiaaGFlat
namespace Go.Proofs.Ytahihgmlkcbfiaa
open Go.RowKit

attribute [local go_sem ↓] wp_store_act wp_load_flat run_load_flat wp_store_flat
attribute [local go_sem] flat_lit blkOf_ptr cells_agg sizedF sizeTF aggF flat_flt isRow_set_eq rowAt_set_eq

/-- what Expanded answers -/
def ExOut (D : Nat) (r : List UInt8 ⊕ (Int × Int)) (w : World) (e : Ending) (w' : World) : Prop :=
  (match r with
    | .inl W => ∃ A c, e = .returned (.tuple #[.slice A (W.length - D) c, .agg (flt 0 0)]) ∧ Sl w' w'.heap.size A (W.length - D) (bl (W.drop D))
    | .inr (k, i) => e = .returned (.tuple #[.slice none 0 0, .agg (flt k i)])) ∧ Below w.heap.size w w'

set_option maxRecDepth 100000 in
set_option maxHeartbeats 4000000 in
theorem expanded_bad (ts : List TokZ) (k i : Int) (h : TkF ts k i) (A B : Option Addr) (c d m : Nat) (w : World) (hS : Tks w w.heap.size A ts.length ts) :
    Calls Try.prog 17 #[.slice A ts.length c, .slice B m d] w fun e w' => e = .returned (.tuple #[.slice none 0 0, .agg (flt k i)]) ∧ Below w.heap.size w w' := by
  have t1 : (k == 0) = false := beq_eq_false_iff_ne.2 h.ne
  have t2 : (k != 0) = true := bne_iff_ne.2 h.ne
  have HF := Lib.hid (fun w hS => rtf_bad ts k i h A c w hS)
  have HS := Lib.hid hS
  clear hS h
  go_enter Try.func17, Try.ntmps17
  go_upto_region 1 with (fail)
  refine wp_world (F := fun W => Row W w.heap.size 25 (flt 0 0) ∧ Tks W W.heap.size A ts.length ts ∧ Below w.heap.size w W) ⟨Row.newEq _ _ _ _ _ rfl rfl, HS.out.up ((Below.refl _ _).alloc (Nat.le_refl _) _), (Below.refl _ _).alloc (Nat.le_refl _) _⟩ ?_
  clear HS
  rintro W0 ⟨r0, hS, hb⟩
  go_upto_region 2 with (first
    | (go_at_call 23; refine (HF.out _ hS).mono ?_; rintro e w2 ⟨rfl, hb2⟩)
    | (refine wpList_store_row rfl 25 _ _ rfl w2.heap.size (flt k i) rfl rfl 25 (flt 0 0) (Row.newEq _ _ _ _ _ rfl rfl) (by rw [flt_size]; exact cellsF) rfl (all_one (flt_one _ _)) ?_))
  refine wp_world (F := fun W => Row W w2.heap.size 25 (flt k i) ∧ Row W w.heap.size 25 (flt 0 0) ∧ w.heap.size < w2.heap.size ∧ Below w.heap.size w W)
    ⟨row_new1 _ _ _ _, r0.below (up_call hb2 (blw_new1 _ _ _)) r0.lt, Nat.lt_of_lt_of_le r0.lt hb2.size, up_call hb (up_call hb2 (blw_new1 _ _ _))⟩ ?_
  generalize w2.heap.size = g6
  clear hb2 r0 hS hb w2 W0
  rintro W2 ⟨r6, r0, hlt, hb⟩
  have k0 : W2.cell? ⟨g6, 0, none⟩ = some (.int .i64 k) := (r6.cell 0).trans rfl
  go_upto_region 5 with (fail)
  have i6 := r6.drew.is (flt_size _ _)
  have a6 := r6.drew.at
  have q0 := r0.drew
  have i0 := r0.drew.is (flt_size _ _)
  have n3 : ¬ w.heap.size = g6 := by omega
  have n4 : ¬ g6 = w.heap.size := by omega
  go_region_law (fail)
  all_goals
    go_wp2
    refine bodyPost_ret (results_tmp_row Try.results17 _ _ _ w.heap.size 25 (flt k i) _ rfl rfl (Row.row q0 _) Try.underlying25 rfl (by rw [flt_size]; exact cellsF)) rfl ⟨rfl, ?_⟩
    exact blw_row hb.drew (Nat.le_refl _) _

set_option maxRecDepth 100000 in
set_option maxHeartbeats 4000000 in
theorem expanded_long (l : List Tk) (hg : GoodT l) (n : Nat) (hn : n = l.length) (hl : n ≤ 1024) (A B : Option Addr) (c d m : Nat) (hm : 512 < m) (w : World) (hS : Tks w w.heap.size A n (tz l)) :
    Calls Try.prog 17 #[.slice A n c, .slice B m d] w fun e w' => e = .returned (.tuple #[.slice none 0 0, .agg (flt 3 (-2))]) ∧ Below w.heap.size w w' := by
  have t1 : decide ((512 : Int) < (m : Int)) = true := decide_eq_true (by omega)
  have t2 : decide (512 < m) = true := decide_eq_true hm
  have HF := Lib.hid (fun w hS => rtf_ok l hg n hn hl A c w hS)
  have HS := Lib.hid hS
  clear hS hn hg
  go_enter Try.func17, Try.ntmps17
  go_upto_region 1 with (fail)
  refine wp_world (F := fun W => Row W w.heap.size 25 (flt 0 0) ∧ Tks W W.heap.size A n (tz l) ∧ Below w.heap.size w W) ⟨Row.newEq _ _ _ _ _ rfl rfl, HS.out.up ((Below.refl _ _).alloc (Nat.le_refl _) _), (Below.refl _ _).alloc (Nat.le_refl _) _⟩ ?_
  clear HS
  rintro W0 ⟨r0, hS, hb⟩
  go_upto_region 2 with (first
    | (go_at_call 23; refine (HF.out _ hS).mono ?_; rintro e w2 ⟨rfl, hb2⟩)
    | (refine wpList_store_row rfl 25 _ _ rfl w2.heap.size (flt 0 0) rfl rfl 25 (flt 0 0) (Row.newEq _ _ _ _ _ rfl rfl) (by rw [flt_size]; exact cellsF) rfl (all_one (flt_one _ _)) ?_))
  refine wp_world (F := fun W => Row W w2.heap.size 25 (flt 0 0) ∧ Row W w.heap.size 25 (flt 0 0) ∧ w.heap.size < w2.heap.size ∧ Below w.heap.size w W)
    ⟨row_new1 _ _ _ _, r0.below (up_call hb2 (blw_new1 _ _ _)) r0.lt, Nat.lt_of_lt_of_le r0.lt hb2.size, up_call hb (up_call hb2 (blw_new1 _ _ _))⟩ ?_
  generalize w2.heap.size = g6
  clear hb2 r0 hS hb w2 W0
  rintro W2 ⟨r6, r0, hlt, hb⟩
  have k0 : W2.cell? ⟨g6, 0, none⟩ = some (.int .i64 0) := (r6.cell 0).trans rfl
  go_upto_region 4 with (first
    | (go_at_call 29; refine (at_any 3 (-2) _).mono ?_; rintro e w3 ⟨rfl, hb3⟩; have q6 := r6.below hb3 r6.lt; have q0 := r0.below hb3 r0.lt; have hb4 := up_call hb hb3)
    | (refine wpList_store_row rfl 25 _ _ rfl g6 (flt 3 (-2)) rfl rfl 25 (flt 0 0) q6 (by rw [flt_size]; exact cellsF) rfl (all_one (flt_one _ _)) ?_))
  refine wp_world (F := fun W => Row W g6 25 (flt 3 (-2)) ∧ Row W w.heap.size 25 (flt 0 0) ∧ Below w.heap.size w W) ⟨Row.row q6 _, q0.rowFar (by omega) _, blw_row hb4 (by omega) _⟩ ?_
  clear k0 r6 r0 hb q6 q0 hb4 hb3 w3 W2
  rintro W4 ⟨r6, r0, hb⟩
  have k0 : W4.cell? ⟨g6, 0, none⟩ = some (.int .i64 3) := (r6.cell 0).trans rfl
  go_upto_region 5 with (fail)
  have i6 := r6.drew.is (flt_size _ _)
  have a6 := r6.drew.at
  have q0 := r0.drew
  have i0 := r0.drew.is (flt_size _ _)
  have n3 : ¬ w.heap.size = g6 := by omega
  have n4 : ¬ g6 = w.heap.size := by omega
  go_region_law (fail)
  all_goals
    go_wp2
    refine bodyPost_ret (results_tmp_row Try.results17 _ _ _ w.heap.size 25 (flt 3 (-2)) _ rfl rfl (Row.row q0 _) Try.underlying25 rfl (by rw [flt_size]; exact cellsF)) rfl ⟨rfl, ?_⟩
    exact blw_row hb.drew (Nat.le_refl _) _

set_option maxRecDepth 100000 in
set_option maxHeartbeats 16000000 in
theorem expanded_any (l : List Tk) (hg : GoodT l) (n : Nat) (hn : n = l.length) (hl : n ≤ 1024) (L : List UInt8) (Dn : Nat) (hd : Dn = L.length) (hd5 : Dn ≤ 512) (A B : Option Addr) (c cd : Nat) (w : World) (hS : Tks w w.heap.size A n (tz l)) (hB : Sl w w.heap.size B Dn (bl L)) :
    Calls Try.prog 17 #[.slice A n c, .slice B Dn cd] w (ExOut Dn (runT Dn l L 0) w) := by
  obtain ⟨i0, hi, hz0, hz1, hz2⟩ := info_parts infoU8
  obtain ⟨r, hr⟩ : ∃ r, r = runT Dn l L 0 := ⟨_, rfl⟩
  rw [← hr]
  have t1 : decide ((512 : Int) < (Dn : Int)) = false := decide_eq_false (by omega)
  have t2 : decide (512 < Dn) = false := decide_eq_false (by omega)
  have HF := Lib.hid (fun w hS => rtf_ok l hg n hn hl A c w hS)
  have HS := Lib.hid hS
  have HB := Lib.hid hB
  have HL := Lib.hid (And.intro hn (And.intro hg (And.intro hd hr)))
  clear hS hn hg hd hr hB
  go_enter Try.func17, Try.ntmps17
  go_upto_region 1 with (fail)
  have ha : Below w.heap.size w (w.alloc (.cells #[.int .i64 0, .int .i64 0] 25)) := (Below.refl _ _).alloc (Nat.le_refl _) _
  refine wp_world (F := fun W => Row W w.heap.size 25 (flt 0 0) ∧ Tks W W.heap.size A n (tz l) ∧ Below w.heap.size w W) ⟨Row.newEq _ _ _ _ _ rfl rfl, HS.out.up ha, ha⟩ ?_
  clear ha
  rintro W0 ⟨r0, hS0, hb⟩
  go_upto_region 2 with (first
    | (go_at_call 23; refine (HF.out _ hS0).mono ?_; rintro e w2 ⟨rfl, hb2⟩)
    | (refine wpList_store_row rfl 25 _ _ rfl w2.heap.size (flt 0 0) rfl rfl 25 (flt 0 0) (Row.newEq _ _ _ _ _ rfl rfl) (by rw [flt_size]; exact cellsF) rfl (all_one (flt_one _ _)) ?_))
  refine wp_world (F := fun W => Row W w2.heap.size 25 (flt 0 0) ∧ Row W w.heap.size 25 (flt 0 0) ∧ w.heap.size < w2.heap.size ∧ Below w.heap.size w W)
    ⟨row_new1 _ _ _ _, r0.below (up_call hb2 (blw_new1 _ _ _)) r0.lt, Nat.lt_of_lt_of_le r0.lt hb2.size, up_call hb (up_call hb2 (blw_new1 _ _ _))⟩ ?_
  generalize w2.heap.size = g6
  clear hb2 r0 hb hS0 w2 W0
  rintro W2 ⟨r6, r0, hlt6, hb⟩
  have k0 : W2.cell? ⟨g6, 0, none⟩ = some (.int .i64 0) := (r6.cell 0).trans rfl
  go_upto_region 7 with (fail)
  go_upto_region 9 with (first
    | (at_builtin; refine wpList_app _ rfl _ _ _ rfl w.heap.size 5 i0 (.int .u8 0) 1 Try.underlying22 hi hz0 hz1 hz2 rfl _ 0 _ rfl (World.ownsRow_nil _ _ _ _) _ _ Dn _ _ rfl (HB.out.below hb) (fun u hu => bl_one _ u hu) (by unfold maxLen; omega) (by omega) hb.size ?_; intro v7 w7 hown7 hg7))
  clear t1 t2 k0
  have r7 := (keep_grown (World.ownsRow_nil W2 w.heap.size 5 1) hg7) _ _ _ (by decide) r0
  have hb7 := blw_grown hb hg7 hb.size (World.ownsRow_nil W2 w.heap.size 5 1) (Nat.le_refl _)
  rw [List.nil_append, Nat.zero_add] at hown7
  have HV7 := Lib.hid hown7
  clear hown7 hg7 r6 r0 hb hlt6
  go_loopw [7, 8] (fun v i wr => ∃ (j m : Nat) (W : List UInt8), j ≤ n ∧ i = .int .i64 j ∧ Dn ≤ m ∧ m ≤ Dn + 1024 ∧ Hid (m = W.length ∧ r = runT Dn (l.drop j) W j) ∧ Hid (wr.ownsRow w.heap.size 5 1 v m (bl W)) ∧ Row wr w.heap.size 25 (flt 0 0) ∧ Below w.heap.size w wr) (fun _ i _ => n - (intOf i).toNat)
  case atStart => exact ⟨0, Dn, L, Nat.zero_le _, rfl, Nat.le_refl _, by omega, Lib.hid ⟨HL.out.2.2.1, by rw [List.drop_zero]; exact HL.out.2.2.2⟩, HV7, r7, hb7⟩
  case round =>
    clear r7 hb7 HV7
    obtain ⟨j, m, W, hj, rfl, hm1, hm2, HW, HV, r1, hb1⟩ := hrel
    obtain ⟨A5, c5, hv5, hc5, _⟩ := own_form HV.out
    subst hv5
    by_cases hlt : j < n
    · obtain ⟨ad, rfl, hbl, k1, k2, k3⟩ := (HS.out.below hb1).at_ hlt
      have hjl : j < l.length := by rw [← HL.out.1]; exact hlt
      have hzz := tz_getD l j hjl
      have hok := HL.out.2.1 l[j] (List.getElem_mem hjl)
      have hrr := HW.out.2
      rw [drop_at l j hjl] at hrr
      obtain ⟨t, ht⟩ : ∃ t, t = l[j] := ⟨_, rfl⟩
      rw [← ht] at hzz hok hrr
      rw [hzz] at k1 k2 k3
      have hlen := length_any t hok
      have hadb0 := hbl
      clear ht hjl hbl
      by_cases hrange : m < t.dist
      · have hre : r = .inr (4, (j : Int)) := by rw [hrr]; exact runT_range Dn _ _ W j (by rw [← HW.out.1]; exact hrange)
        have HRE := Lib.hid hre
        obtain ⟨d, hd⟩ : ∃ d, d = t.dist := ⟨_, rfl⟩
        have hkd : (t.z).1 = (d : Int) := by rw [hd]; cases t <;> rfl
        rw [hkd] at k1
        rw [← hd] at hrange
        have s1 : decide ((m : Int) < (d : Int)) = true := decide_eq_true (by omega)
        have s2 : decide (m < d) = true := decide_eq_true hrange
        clear hre hrr hzz hok hlen hd hkd k2 k3
        go_wp2_with (first
          | (go_at_call 29; refine (at_any 4 j _).mono ?_; rintro e w3 ⟨rfl, hb3⟩; have q1 := r1.below hb3 r1.lt)
          | (refine wpList_store_row rfl 25 _ _ rfl w.heap.size (flt 4 j) rfl rfl 25 (flt 0 0) q1 (by rw [flt_size]; exact cellsF) rfl (all_one (flt_one _ _)) ?_))
        refine bodyPost_ret (results_tmp_row Try.results17 _ _ _ w.heap.size 25 (flt 4 j) _ rfl rfl (Row.row (q1) _) Try.underlying25 rfl (by rw [flt_size]; exact cellsF)) rfl ?_
        refine ⟨?_, blw_row (up_call hb1 hb3) (Nat.le_refl _) _⟩
        rw [HRE.out]
        exact rfl
      · obtain ⟨tl, htl⟩ : ∃ tl, tl = t.len := ⟨_, rfl⟩
        have hdl : (t.z).1 = (t.dist : Int) := by cases t <;> rfl
        have s1 : decide ((m : Int) < (t.dist : Int)) = false := decide_eq_false (by omega)
        have s2 : decide (m < t.dist) = false := decide_eq_false (by omega)
        have htl2 : 1 ≤ tl ∧ tl ≤ 1024 := by
          rw [htl]
          cases t with
          | lit x => exact ⟨Nat.le_refl _, by show 1 ≤ 1024; omega⟩
          | mat d n => exact ⟨by have := hok.2.2.1; show 1 ≤ n; omega, hok.2.2.2⟩
        rw [← htl] at hlen
        by_cases hlarge : 1024 < m - Dn + tl
        · have hre : r = .inr (14, (j : Int)) := by rw [hrr]; exact runT_large Dn _ _ W j (by rw [← HW.out.1]; exact hrange) (by rw [← HW.out.1, ← htl]; exact hlarge)
          have HRE := Lib.hid hre
          rw [hdl] at k1 hlen
          have s3 : decide ((1024 : Int) < (m : Int) - (Dn : Int) + (tl : Int)) = true := decide_eq_true (by omega)
          obtain ⟨d, hd⟩ : ∃ d, d = t.dist := ⟨_, rfl⟩
          obtain ⟨y, hy⟩ : ∃ y, y = (t.z).2.1 := ⟨_, rfl⟩
          obtain ⟨x, hx⟩ : ∃ x : Int, x = ((t.z).2.2.toNat : Int) := ⟨_, rfl⟩
          unfold tcs at hlen
          rw [← hd] at k1 s1 s2 hlen
          rw [← hy] at k2 hlen
          rw [← hx] at k3 hlen
          clear hre hrr hzz hok hd hy hx hdl htl hrange
          go_wp2_with (first
            | (go_at_call 38; refine (hlen _).mono ?_; rintro e w3 ⟨rfl, hb3⟩; have q1 := r1.below hb3 r1.lt)
            | (go_at_call 29; refine (at_any 14 j _).mono ?_; rintro e w4 ⟨rfl, hb4⟩; have q2 := q1.below hb4 q1.lt)
            | (refine wpList_store_row rfl 25 _ _ rfl w.heap.size (flt 14 j) rfl rfl 25 (flt 0 0) q2 (by rw [flt_size]; exact cellsF) rfl (all_one (flt_one _ _)) ?_))
          refine bodyPost_ret (results_tmp_row Try.results17 _ _ _ w.heap.size 25 (flt 14 j) _ rfl rfl (Row.row (q2) _) Try.underlying25 rfl (by rw [flt_size]; exact cellsF)) rfl ?_
          refine ⟨?_, blw_row (up_call (up_call hb1 hb3) hb4) (Nat.le_refl _) _⟩
          rw [HRE.out]
          exact rfl
        · have hnx : r = runT Dn (l.drop (j + 1)) (t.put W) (j + 1) := by rw [hrr]; exact runT_next Dn _ _ W j (by rw [← HW.out.1]; exact hrange) (by rw [← HW.out.1, ← htl]; exact hlarge)
          have HNX := Lib.hid hnx
          have s3 : decide ((1024 : Int) < (m : Int) - (Dn : Int) + (tl : Int)) = false := decide_eq_false (by omega)
          obtain ⟨PW, hPW⟩ : ∃ PW, PW = t.put W := ⟨_, rfl⟩
          rw [← hPW] at HNX
          have hadb : (ad.add (j * 3)).block < wr.heap.size := by rw [add_block]; exact Nat.lt_of_lt_of_le hadb0 hb1.size
          clear hnx hrr hdl s1 s2 hadb0
          cases t with
          | lit x =>
            obtain ⟨d, hd0⟩ : ∃ d : Nat, d = 0 := ⟨_, rfl⟩
            obtain ⟨nn, hn0⟩ : ∃ nn : Nat, nn = 0 := ⟨_, rfl⟩
            have HT := Lib.hid (show (tz l).getD j (0, 0, 0) = ((d : Int), (nn : Int), x) by rw [hzz, hd0, hn0]; rfl)
            have HPW := Lib.hid (show copyN d nn (W ++ [x]) = PW by rw [hPW, hd0, hn0]; rfl)
            obtain ⟨z, hz⟩ : ∃ z : Int, z = (x.toNat : Int) := ⟨_, rfl⟩
            have hbv : bl W ++ [.int .u8 z] = bl (W ++ [x]) := by rw [bl_append, hz]; unfold bl; rfl
            have HBW := Lib.hid hbv
            have htl1 : tl = 1 := htl
            have k1' : wr.cell? (ad.add (j * 3)) = some (.int .i64 0) := k1
            have k2' : wr.cell? ⟨(ad.add (j * 3)).block, (ad.add (j * 3)).off + 1, none⟩ = some (.int .i64 0) := k2
            have k3' : wr.cell? ⟨(ad.add (j * 3)).block, (ad.add (j * 3)).off + 2, none⟩ = some (.int .u8 z) := by rw [hz]; exact k3
            have hlen' : ∀ w, Calls Try.prog 38 #[.agg #[.int .i64 0, .int .i64 0, .int .u8 z]] w fun e w' => e = .returned (.int .i64 (tl : Int)) ∧ Below w.heap.size w w' := by rw [hz]; exact hlen
            have s1' : decide ((m : Int) < 0) = false := decide_eq_false (by omega)
            have HM1 := Lib.hid (show m + 1 = (W ++ [x]).length by rw [List.length_append, ← HW.out.1]; rfl)
            have hm3 : m + 1 ≤ Dn + 1024 := by omega
            clear k1 k2 k3 hlen hzz htl hz hok hrange htl2 hlarge hPW hbv
            go_upto_region 17 with (first
              | (go_at_call 38; refine (hlen' _).mono ?_; rintro e w3 ⟨rfl, hb3⟩; have q1 := r1.below hb3 r1.lt; have own3 := own_below HV.out hb3; have hb4 := up_call hb1 hb3; have d1 := (hb3.cell (p := ad.add (j * 3)) hadb).trans k1'; have d3 := (hb3.cell (p := ⟨(ad.add (j * 3)).block, (ad.add (j * 3)).off + 2, none⟩) hadb).trans k3')
              | (at_builtin; refine wpList_app _ rfl _ _ _ rfl w.heap.size 5 i0 (.int .u8 0) 1 Try.underlying22 hi hz0 hz1 hz2 rfl _ m _ rfl (own3.alloc _) _ _ 1 _ _ rfl (Sl.one _ _ _) (fun u hu => by obtain rfl := List.mem_singleton.1 hu; rfl) (by unfold maxLen; omega) (by omega) (Nat.le_trans hb4.size (by simp)) ?_; intro v5 w5 hown5 hg5))
            rw [HBW.out] at hown5
            have HV1 := Lib.hid hown5
            have r5 := (keep_grown (own3.alloc (.cells #[.int .u8 z] 5)) hg5) _ _ _ (by decide) (q1.alloc _)
            have hb5 := blw_grown (up_alloc hb4 (.cells #[.int .u8 z] 5)) hg5 (up_alloc hb4 _).size (own3.alloc _) (Nat.le_refl _)
            have hdm : d ≤ m + 1 := by omega
            have hnd : nn = 0 ∨ 1 ≤ d := .inl hn0
            have hm4 : m + 1 + nn ≤ Dn + 1024 := by omega
            clear hown5 hg5 own3 hb4 q1 d1 d3 hb3 k1' k2' k3' hlen' s1' s3 hn0 hd0 HV r1 hb1
            obtain ⟨W1, hW1⟩ : ∃ W1, W1 = W ++ [x] := ⟨_, rfl⟩
            obtain ⟨m1, hmm⟩ : ∃ m1, m1 = m + 1 := ⟨_, rfl⟩
            rw [← hW1] at HV1 HPW HM1
            rw [← hmm] at HV1 HM1 hdm hm4
            have hm5 : Dn ≤ m1 := by omega
            clear hW1 hmm
            go_upto_region 18 with (fail)
            go_loopw [7, 9] (fun v i wr => ∃ (q p : Nat) (V : List UInt8), q ≤ nn ∧ i = .int .i64 q ∧ p = m1 + q ∧ Hid (V = copyN d q W1 ∧ p = V.length) ∧ Hid (wr.ownsRow w.heap.size 5 1 v p (bl V)) ∧ Row wr w.heap.size 25 (flt 0 0) ∧ Below w.heap.size w wr) (fun _ i _ => nn - (intOf i).toNat)
            case atStart => exact ⟨0, m1, W1, Nat.zero_le _, rfl, rfl, Lib.hid ⟨rfl, HM1.out⟩, HV1, r5, hb5⟩
            case round =>
              clear HV1 r5 hb5
              obtain ⟨q, p, V, hq, rfl, hp, HVV, HV2, r2, hb2⟩ := hrel
              obtain ⟨A6, c6, hv6, _, _⟩ := own_form HV2.out
              subst hv6
              obtain ⟨ad2, e2, _, k1, k2, k3⟩ := (HS.out.below hb2).at_ hlt
              injection e2 with e2
              subst e2
              rw [HT.out] at k1 k2
              simp only at k1 k2
              clear k3
              by_cases hqn : q < nn
              · obtain ⟨k, hk⟩ : ∃ k, p = k + d := ⟨p - d, by omega⟩
                have hk1 : k < p := by omega
                have hp2 : p ≤ Dn + 1024 := by omega
                have HPP := Lib.hid hp
                clear hp
                obtain ⟨ad3, rfl, hbl3, k4⟩ := (Sl.of_own HV2.out).byte hk1
                have hsn : copyN d (q + 1) W1 = V ++ [V.getD k 0] := by rw [copyN_snoc, ← HVV.out.1, ← HVV.out.2, hk, Nat.add_sub_cancel]
                obtain ⟨y, hy⟩ : ∃ y, y = V.getD k 0 := ⟨_, rfl⟩
                rw [← hy] at hsn k4
                have HSN := Lib.hid hsn
                have hbv : bl V ++ [.int .u8 (y.toNat : Int)] = bl (V ++ [y]) := by rw [bl_append]; unfold bl; rfl
                have HBV := Lib.hid hbv
                clear hsn hy hbl3 hbv
                subst hk
                go_wp2_with (first
                  | (at_builtin; refine wpList_app _ rfl _ _ _ rfl w.heap.size 5 i0 (.int .u8 0) 1 Try.underlying22 hi hz0 hz1 hz2 rfl _ (k + d) _ rfl (HV2.out.alloc _) _ _ 1 _ _ rfl (Sl.one _ _ _) (fun u hu => by obtain rfl := List.mem_singleton.1 hu; rfl) (by unfold maxLen; omega) (by omega) (Nat.le_trans hb2.size (by simp)) ?_; intro v8 w8 hown8 hg8))
                rw [HBV.out] at hown8
                have HV8 := Lib.hid hown8
                have r8 := (keep_grown (HV2.out.alloc (.cells #[.int .u8 (y.toNat : Int)] 5)) hg8) _ _ _ (by decide) (r2.alloc _)
                have hb8 := blw_grown (up_alloc hb2 (.cells #[.int .u8 (y.toNat : Int)] 5)) hg8 (up_alloc hb2 _).size (HV2.out.alloc _) (Nat.le_refl _)
                clear hown8 hg8
                go_roundw
                case rel => exact ⟨q + 1, k + d + 1, V ++ [y], by omega, by go_num, by have := HPP.out; omega, Lib.hid ⟨HSN.out.symm, by rw [List.length_append, ← HVV.out.2]; rfl⟩, HV8, r8, hb8⟩
                case measure => simp [intOf]; omega
              · obtain rfl : nn = q := by omega
                have hput : V = PW := by rw [HVV.out.1]; exact HPW.out
                have hnx : r = runT Dn (l.drop (j + 1)) V (j + 1) := by rw [HNX.out, hput]
                have HNN := Lib.hid (And.intro HVV.out.2 hnx)
                clear hput hnx
                go_wp2
                go_roundw
                case rel => exact ⟨j + 1, p, V, by omega, by go_num, by omega, by omega, HNN, HV2, r2, hb2⟩
                case measure => simp [intOf]; omega
          | mat d nn =>
            have HT := Lib.hid (show (tz l).getD j (0, 0, 0) = ((d : Int), (nn : Int), 0) from hzz)
            have HPW := Lib.hid (show copyN d nn W = PW by rw [hPW]; rfl)
            have htl1 : tl = nn := htl
            obtain ⟨hd1, hd2, hn1, hn2⟩ := hok
            have hdm : d ≤ m := by have h : ¬ m < d := hrange; omega
            have k1' : wr.cell? (ad.add (j * 3)) = some (.int .i64 (d : Int)) := k1
            have k2' : wr.cell? ⟨(ad.add (j * 3)).block, (ad.add (j * 3)).off + 1, none⟩ = some (.int .i64 (nn : Int)) := k2
            have k3' : wr.cell? ⟨(ad.add (j * 3)).block, (ad.add (j * 3)).off + 2, none⟩ = some (.int .u8 0) := k3
            have hlen' : ∀ w, Calls Try.prog 38 #[.agg #[.int .i64 (d : Int), .int .i64 (nn : Int), .int .u8 0]] w fun e w' => e = .returned (.int .i64 (tl : Int)) ∧ Below w.heap.size w w' := hlen
            have s1' : decide ((m : Int) < (d : Int)) = false := decide_eq_false (by omega)
            have s2' : decide (m < d) = false := decide_eq_false (by omega)
            have s4 : ((d : Int) == 0) = false := beq_eq_false_iff_ne.2 (by omega)
            have s5 : (d == 0) = false := beq_eq_false_iff_ne.2 (by omega)
            have HM1 := Lib.hid HW.out.1
            have hm4 : m + nn ≤ Dn + 1024 := by omega
            clear k1 k2 k3 hlen hzz htl hrange htl2 hlarge hPW
            go_upto_region 17 with (first
              | (go_at_call 38; refine (hlen' _).mono ?_; rintro e w3 ⟨rfl, hb3⟩; have q1 := r1.below hb3 r1.lt; have own3 := own_below HV.out hb3; have hb4 := up_call hb1 hb3; have d1 := (hb3.cell (p := ad.add (j * 3)) hadb).trans k1'))
            have HV1 := Lib.hid own3
            have r5 := q1
            have hb5 := hb4
            have hnd : nn = 0 ∨ 1 ≤ d := .inr hd1
            clear own3 hb4 q1 d1 hb3 k1' k2' k3' hlen' s1' s2' s3 s4 s5 HV r1 hb1
            obtain ⟨W1, hW1⟩ : ∃ W1, W1 = W := ⟨_, rfl⟩
            obtain ⟨m1, hmm⟩ : ∃ m1, m1 = m := ⟨_, rfl⟩
            rw [← hW1] at HV1 HPW HM1
            rw [← hmm] at HV1 HM1 hdm hm4
            rw [← hmm]
            have hm5 : Dn ≤ m1 := by omega
            clear hW1 hmm
            go_upto_region 18 with (fail)
            go_loopw [7, 9] (fun v i wr => ∃ (q p : Nat) (V : List UInt8), q ≤ nn ∧ i = .int .i64 q ∧ p = m1 + q ∧ Hid (V = copyN d q W1 ∧ p = V.length) ∧ Hid (wr.ownsRow w.heap.size 5 1 v p (bl V)) ∧ Row wr w.heap.size 25 (flt 0 0) ∧ Below w.heap.size w wr) (fun _ i _ => nn - (intOf i).toNat)
            case atStart => exact ⟨0, m1, W1, Nat.zero_le _, rfl, rfl, Lib.hid ⟨rfl, HM1.out⟩, HV1, r5, hb5⟩
            case round =>
              clear HV1 r5 hb5
              obtain ⟨q, p, V, hq, rfl, hp, HVV, HV2, r2, hb2⟩ := hrel
              obtain ⟨A6, c6, hv6, _, _⟩ := own_form HV2.out
              subst hv6
              obtain ⟨ad2, e2, _, k1, k2, k3⟩ := (HS.out.below hb2).at_ hlt
              injection e2 with e2
              subst e2
              rw [HT.out] at k1 k2
              simp only at k1 k2
              clear k3
              by_cases hqn : q < nn
              · obtain ⟨k, hk⟩ : ∃ k, p = k + d := ⟨p - d, by omega⟩
                have hk1 : k < p := by omega
                have hp2 : p ≤ Dn + 1024 := by omega
                have HPP := Lib.hid hp
                clear hp
                obtain ⟨ad3, rfl, hbl3, k4⟩ := (Sl.of_own HV2.out).byte hk1
                have hsn : copyN d (q + 1) W1 = V ++ [V.getD k 0] := by rw [copyN_snoc, ← HVV.out.1, ← HVV.out.2, hk, Nat.add_sub_cancel]
                obtain ⟨y, hy⟩ : ∃ y, y = V.getD k 0 := ⟨_, rfl⟩
                rw [← hy] at hsn k4
                have HSN := Lib.hid hsn
                have hbv : bl V ++ [.int .u8 (y.toNat : Int)] = bl (V ++ [y]) := by rw [bl_append]; unfold bl; rfl
                have HBV := Lib.hid hbv
                clear hsn hy hbl3 hbv
                subst hk
                go_wp2_with (first
                  | (at_builtin; refine wpList_app _ rfl _ _ _ rfl w.heap.size 5 i0 (.int .u8 0) 1 Try.underlying22 hi hz0 hz1 hz2 rfl _ (k + d) _ rfl (HV2.out.alloc _) _ _ 1 _ _ rfl (Sl.one _ _ _) (fun u hu => by obtain rfl := List.mem_singleton.1 hu; rfl) (by unfold maxLen; omega) (by omega) (Nat.le_trans hb2.size (by simp)) ?_; intro v8 w8 hown8 hg8))
                rw [HBV.out] at hown8
                have HV8 := Lib.hid hown8
                have r8 := (keep_grown (HV2.out.alloc (.cells #[.int .u8 (y.toNat : Int)] 5)) hg8) _ _ _ (by decide) (r2.alloc _)
                have hb8 := blw_grown (up_alloc hb2 (.cells #[.int .u8 (y.toNat : Int)] 5)) hg8 (up_alloc hb2 _).size (HV2.out.alloc _) (Nat.le_refl _)
                clear hown8 hg8
                go_roundw
                case rel => exact ⟨q + 1, k + d + 1, V ++ [y], by omega, by go_num, by have := HPP.out; omega, Lib.hid ⟨HSN.out.symm, by rw [List.length_append, ← HVV.out.2]; rfl⟩, HV8, r8, hb8⟩
                case measure => simp [intOf]; omega
              · obtain rfl : nn = q := by omega
                have hput : V = PW := by rw [HVV.out.1]; exact HPW.out
                have hnx : r = runT Dn (l.drop (j + 1)) V (j + 1) := by rw [HNX.out, hput]
                have HNN := Lib.hid (And.intro HVV.out.2 hnx)
                clear hput hnx
                go_wp2
                go_roundw
                case rel => exact ⟨j + 1, p, V, by omega, by go_num, by omega, by omega, HNN, HV2, r2, hb2⟩
                case measure => simp [intOf]; omega
    · obtain rfl : n = j := by omega
      have hrr := HW.out.2
      have hl0 := HL.out.1
      rw [hl0, drop_end] at hrr
      have HRE := Lib.hid (show r = .inl W from hrr)
      have HML := Lib.hid HW.out.1
      clear hrr hl0
      have hsl := (Sl.of_own HV.out).cut hm1 hc5
      rw [bl_drop] at hsl
      have hsl2 := hsl.rowFar r1 (no_flt _ _) (flt 0 0)
      have hsz : (wr.setRow w.heap.size (flt 0 0)).heap.size = wr.heap.size := by simp
      by_cases hcD : c5 = Dn
      · subst hcD
        rw [if_pos rfl] at hsl2
        go_wp2_with (first
          | (refine wpList_store_row rfl 25 _ _ rfl w.heap.size (flt 0 0) rfl rfl 25 (flt 0 0) r1 (by rw [flt_size]; exact cellsF) rfl (all_one (flt_one _ _)) ?_))
        refine bodyPost_ret (results_tmp_row Try.results17 _ _ _ w.heap.size 25 (flt 0 0) _ rfl rfl (Row.row (r1) _) Try.underlying25 rfl (by rw [flt_size]; exact cellsF)) rfl ?_
        refine ⟨?_, blw_row hb1 (Nat.le_refl _) _⟩
        rw [HRE.out]
        show ∃ A c, _ ∧ _
        rw [← HML.out, hsz]
        have h0 : m - c5 = 0 := by omega
        rw [h0] at hsl2 ⊢
        exact ⟨_, _, rfl, hsl2⟩
      · rw [if_neg hcD] at hsl2
        go_wp2_with (first
          | (refine wpList_store_row rfl 25 _ _ rfl w.heap.size (flt 0 0) rfl rfl 25 (flt 0 0) r1 (by rw [flt_size]; exact cellsF) rfl (all_one (flt_one _ _)) ?_))
        refine bodyPost_ret (results_tmp_row Try.results17 _ _ _ w.heap.size 25 (flt 0 0) _ rfl rfl (Row.row (r1) _) Try.underlying25 rfl (by rw [flt_size]; exact cellsF)) rfl ?_
        refine ⟨?_, blw_row hb1 (Nat.le_refl _) _⟩
        rw [HRE.out]
        show ∃ A c, _ ∧ _
        rw [← HML.out, hsz]
        exact ⟨_, _, rfl, hsl2⟩
end Go.Proofs.Ytahihgmlkcbfiaa
