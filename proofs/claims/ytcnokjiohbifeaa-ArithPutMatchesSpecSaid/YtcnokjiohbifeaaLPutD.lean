/-
  ArithPutMatchesSpec where too many bits would be pending.
-/
import Derived.Test.YtcnokjiohbifeaaAArgs
import Derived.Test.YtcnokjiohbifeaaRSent
import Derived.Test.YtcnokjiohbifeaaRPack
import Derived.Test.YtcnokjiohbifeaaRSteps
import Derived.Deep.RegionHeld3
namespace Go.Proofs.Ytcnokjiohbifeaa.lawPut
open Go.RowKit
attribute [local go_sem ↓] wp_load_flat run_load_flat
attribute [local go_sem] blkOf_ptr cells_agg sizedB sizeTB aggB sizedCd sizeTCd aggCd

set_option maxRecDepth 100000 in
set_option maxHeartbeats 8000000 in
theorem walk_large (L H P p : Nat) (b : Bool) (h : CoderZ L H P) (h1 : 1 ≤ p) (h2 : p ≤ 4095) (hl : 131056 < (sentN P (stepN L H p b).2.2).2) (w : World) :
    Calls Try.prog 3 #[.agg (cds L H P), .int .i64 ((b.toNat : Nat) : Int), .int .i64 p] w fun e w' => e = .returned (.bool true) ∧ Below w.heap.size w w' := by
  have hp := Put_large L H P p b h h1 h2 hl
  have hw := h.wide
  have hst := steps_any L H p b hw h1 h2
  obtain ⟨_, hs2, _, hs4⟩ := step_ok hw h1 h2 b
  have hin := in_yes (p : Int) 1 4095 (by omega) (by omega)
  have hsl := sent_length (stepN L H p b).2.2 P
  have hbt : ((b.toNat : Nat) : Int) = 0 ∨ ((b.toNat : Nat) : Int) = 1 := by cases b; exact .inl rfl; exact .inr rfl
  obtain ⟨fL, fH, fs, hfs⟩ : ∃ fL fH fs, stepN L H p b = (fL, fH, fs) := ⟨_, _, _, rfl⟩
  rw [hfs] at hst hs2 hs4 hl hsl
  simp only at hst hs2 hs4 hl hsl
  obtain ⟨ns, hns⟩ : ∃ ns, ns = fs.length := ⟨_, rfl⟩
  rw [← hns] at hst hs2 hsl
  have hse := fun (A : Option Addr) (c : Nat) (w : World) (hS : Sl w w.heap.size A ns (nl fs)) => sent_any fs hs4 P ns hns (by have := h.2.2; omega) A c w hS
  obtain ⟨o, Q, hsq⟩ : ∃ o Q, sentN P fs = (o, Q) := ⟨_, _, rfl⟩
  rw [hsq] at hse hl hsl
  simp only at hse hl hsl
  have hol : o.length ≤ 131072 := by have := h.2.2; omega
  have HPO := Lib.hid (fun (A : Option Addr) (c : Nat) (w : World) (hS : Sl w w.heap.size A o.length (il o)) => packed_any o (Nat.le_trans hol (by decide)) A c o.length rfl w hS)
  obtain ⟨bit, hbit⟩ : ∃ z : Int, z = ((b.toNat : Nat) : Int) := ⟨_, rfl⟩
  rw [← hbit] at hp hbt hst ⊢
  have HBT := Lib.hid hbt
  have HST := Lib.hid hst
  have HSE := Lib.hid hse
  clear hbt hbit hst hse hs2 hs4 hns hsl hfs hsq hol hw
  have tQ : decide ((131056 : Int) < (Q : Int)) = true := decide_eq_true (by omega)
  have hP : P ≤ 131056 := by have := h.2.2; omega
  have hfi := Finish_ok L H P h
  have hok := coderok_any L H P
  rw [decide_eq_true h] at hok
  obtain ⟨kl, hkl⟩ : ∃ kl : Nat, kl = if L < 16384 then 0 else 2 := ⟨_, rfl⟩
  have hsn := fun (A : Option Addr) (c : Nat) (w : World) (hS : Sl w w.heap.size A 1 (nl [kl])) => sent_any [kl] (fun k hk => by rw [List.mem_singleton.1 hk, hkl]; split <;> omega) (P + 1) 1 rfl (by omega) A c w hS
  rw [show (sentN (P + 1) [kl]).1 = lastN P L by unfold lastN; rw [hkl]] at hsn
  have hll := last_length P L
  obtain ⟨ed, hed⟩ : ∃ ed, ed = lastN P L := ⟨_, rfl⟩
  rw [← hed] at hfi hsn hll
  have hedl : ed.length ≤ 131072 := by omega
  obtain ⟨pz, hpz⟩ : ∃ pz : Int, pz = ((sentN (P + 1) [kl]).2 : Int) := ⟨_, rfl⟩
  rw [← hpz] at hsn
  have HSN := Lib.hid hsn
  have HPK := Lib.hid (fun (A : Option Addr) (c : Nat) (w : World) (hS : Sl w w.heap.size A ed.length (il ed)) => packed_any ed (Nat.le_trans hedl (by decide)) A c ed.length rfl w hS)
  have HKL := Lib.hid hkl
  have HEL := Lib.hid hedl
  clear hsn hll hed hedl hpz hkl
  have hsc : ∀ w : World, (binOp .neq 23 (.agg (cds 0 65535 0)) (.agg #[.int .i64 0, .int .i64 65535, .int .i64 0])).run Try.prog w = .ok (.bool false) w := fun w => neq_cds 0 65535 0 0 65535 0 w
  go_enter Try.func3, Try.ntmps3
  go_upto_region 1 with (fail)
  refine wp_world (F := fun W => Row W w.heap.size 23 (cds L H P) ∧ Below w.heap.size w W) ⟨Row.newEq _ _ _ _ _ rfl rfl, (Below.refl _ _).alloc (Nat.le_refl _) _⟩ ?_
  rintro W0 ⟨r0, hb⟩
  go_upto_region 2 with (first
    | (refine wpList_load_row rfl 23 _ rfl w.heap.size rfl 23 (cds L H P) (0, 0) _ r0 Try.underlying23 rfl (by rw [cds_size]; exact cellsCd) ?_)
    | (go_at_call 11; refine (hp _).mono ?_; rintro e w1 ⟨rfl, hb1⟩)
    | (refine wpList_out3 23 26 28 7 8 9 28 29 30 _ _ _ (cds 0 0 0) (bcs none 0 0 0) (flt 14 (-1)) rfl rfl rfl rfl rfl rfl rfl rfl rfl rfl rfl rfl rfl rfl rfl rfl rfl rfl allocCd allocB allocF (by rw [cds_size]; exact cellsCd) (by rw [bcs_size]; exact cellsB) (by rw [flt_size]; exact cellsF) rfl rfl rfl (all_one (cds_one _ _ _)) (all_one (bcs_one _ _ _ _)) (all_one (flt_one _ _)) (by decide) (by simp) rfl rfl rfl ?_; intro W1 r7 r8 r9 hbk))
  have r0l := r0.lt
  have hk := up_call hb1 hbk
  replace r0 := r0.below hk r0.lt
  replace hb := up_call hb hk
  have hlo : w.heap.size < w1.heap.size := Nat.lt_of_lt_of_le r0l hb1.size
  generalize w1.heap.size = g7 at r7 r8 r9 hlo ⊢
  clear hk hbk hb1 r0l
  go_upto_region 3 with (first
    | (refine wpList_load_row rfl 23 _ rfl w.heap.size rfl 23 (cds L H P) (0, 0) _ r0 Try.underlying23 rfl (by rw [cds_size]; exact cellsCd) ?_)
    | (go_at_call 12; refine (hfi _).mono ?_; rintro e w2 ⟨A2, c2, rfl, s10, hb2⟩)
    | (refine wpList_store_row rfl 26 _ _ rfl w2.heap.size (bcs A2 (pack ed).length c2 ed.length) rfl rfl 26 (bcs none 0 0 0) ((Row.newEq _ _ _ _ _ rfl rfl).alloc _) (by rw [bcs_size]; exact cellsB) rfl (all_one (bcs_one _ _ _ _)) ?_)
    | (refine wpList_store_row rfl 28 _ _ rfl (w2.heap.size + 1) (flt 0 0) rfl rfl 28 (flt 0 0) (row_far_new2 _ _ _ _ _ _) (by rw [flt_size]; exact cellsF) rfl (all_one (flt_one _ _)) ?_))
  have hk0 := blw_new2 w2 (.cells #[.slice none 0 0, .int .i64 0] 26) (.cells #[.int .i64 0, .int .i64 0] 28) (bcs A2 (pack ed).length c2 ed.length) (flt 0 0)
  have hk := up_call hb2 hk0
  refine wp_world (F := fun W => Row W w.heap.size 23 (cds L H P) ∧ Row W g7 23 (cds 0 0 0) ∧ Row W (g7 + 1) 26 (bcs none 0 0 0) ∧ Row W (g7 + 1 + 1) 28 (flt 14 (-1)) ∧ Row W w2.heap.size 26 (bcs A2 (pack ed).length c2 ed.length) ∧ Row W (w2.heap.size + 1) 28 (flt 0 0) ∧ Sl W W.heap.size A2 (pack ed).length (bl (pack ed)) ∧ Below w.heap.size w W)
    ⟨r0.below hk r0.lt, r7.below hk r7.lt, r8.below hk r8.lt, r9.below hk r9.lt, row_new2a _ _ _ _ _ _ _, row_new2b _ _ _ _ _ _ _, s10.up hk0, up_call hb hk⟩ ?_
  have hl10 : g7 + 1 + 1 < w2.heap.size := Nat.lt_of_lt_of_le r9.lt hb2.size
  generalize w2.heap.size = g10 at hl10
  clear hk hk0 hb2 r0 r7 r8 r9 hb s10 w2
  rintro W2 ⟨r0, r7, r8, r9, r10, r11, s10, hb⟩
  go_upto_region 5 with (first
    | (go_at_call 13; refine (codes_any _).mono ?_; rintro e w14 ⟨rfl, hb14⟩; have q0 := r0.below hb14 r0.lt; have q7 := r7.below hb14 r7.lt; have q8 := r8.below hb14 r8.lt; have q9 := r9.below hb14 r9.lt; have q10 := r10.below hb14 r10.lt; have q11 := r11.below hb14 r11.lt; have qs10 := s10.up hb14; have hb2 := up_call hb hb14)
    | (go_at_call 14; refine (start_any _).mono ?_; rintro e w15 ⟨rfl, hb15⟩; have p0 := q0.below hb15 q0.lt; have p7 := q7.below hb15 q7.lt; have p8 := q8.below hb15 q8.lt; have p9 := q9.below hb15 q9.lt; have p10 := q10.below hb15 q10.lt; have p11 := q11.below hb15 q11.lt; have ps10 := qs10.up hb15; have hb3 := up_call hb2 hb15))
  clear r0 r7 r8 r9 r10 r11 s10 hb hb14 q0 q7 q8 q9 q10 q11 qs10 hb2 hb15 hsc
  go_upto_region 9 with (first
    | (refine wpList_load_row rfl 23 _ rfl w.heap.size rfl 23 (cds L H P) (0, 0) _ p0 Try.underlying23 rfl (by rw [cds_size]; exact cellsCd) ?_)
    | (go_at_call 15; refine (hok _).mono ?_; rintro e w16 ⟨rfl, hb16⟩))
  refine wp_world (F := fun W => Row W w.heap.size 23 (cds L H P) ∧ Row W g7 23 (cds 0 0 0) ∧ Row W (g7 + 1) 26 (bcs none 0 0 0) ∧ Row W (g7 + 1 + 1) 28 (flt 14 (-1)) ∧ Row W g10 26 (bcs A2 (pack ed).length c2 ed.length) ∧ Row W (g10 + 1) 28 (flt 0 0) ∧ Sl W W.heap.size A2 (pack ed).length (bl (pack ed)) ∧ Below w.heap.size w W)
    ⟨p0.below hb16 p0.lt, p7.below hb16 p7.lt, p8.below hb16 p8.lt, p9.below hb16 p9.lt, p10.below hb16 p10.lt, p11.below hb16 p11.lt, ps10.up hb16, up_call hb3 hb16⟩ ?_
  clear hb16 p0 p7 p8 p9 p10 p11 ps10 hb3 hok
  rintro W3 ⟨r0, r7, r8, r9, r10, r11, s10, hb⟩
  have e0 : W3.cell? ⟨w.heap.size, 0, none⟩ = some (.int .i64 L) := (r0.cell 0).trans rfl
  have e2 : W3.cell? ⟨w.heap.size, 2, none⟩ = some (.int .i64 P) := (r0.cell 2).trans rfl
  have hlit := fun (z : Int) (hz : z = (kl : Int)) => sl_num W3 kl z hz
  have hka := (Below.refl W3.heap.size W3).alloc (Nat.le_refl _) (.cells #[.int .i64 (kl : Int)] 3)
  by_cases hL : L < 16384
  · obtain rfl : kl = 0 := by rw [HKL.out, if_pos hL]
    have tL : decide ((L : Int) < 16384) = true := decide_eq_true (by omega)
    clear hL HKL
    have e2a : (W3.alloc (.cells #[.int .i64 0] 3)).cell? ⟨w.heap.size, 2, none⟩ = some (.int .i64 P) := ((r0.alloc _).cell 2).trans rfl
    go_upto_region 12 with (first
      | (go_at_call 18; refine (HSN.out _ _ _ (hlit 0 rfl)).mono ?_; rintro e w5 ⟨v5, rfl, ho5, hb5⟩))
    obtain ⟨A5, c5, hv5, _, _⟩ := own_form ho5
    subst hv5
    have s5 := Sl.of_own ho5
    have hk := hka.trans (hb5.mono (by simp))
    have q7 := r7.below hk r7.lt
    have q8 := r8.below hk r8.lt
    have q9 := r9.below hk r9.lt
    have q10 := r10.below hk r10.lt
    have q11 := r11.below hk r11.lt
    have q0 := r0.below hk r0.lt
    skip
    have t10 := s10.up hk
    have hbb := up_call hb hk
    clear hka hlit hk ho5 hb5 r0 r7 r8 r9 r10 r11 s10 hb e0 e2 e2a tL HSN
    have i10 := q10.drew.is (bcs_size _ _ _ _)
    have a10 := q10.drew.at
    have x11 : w5.drew.cell? ⟨g10 + 1, 0, none⟩ = some (.int .i64 0) := (q11.drew.cell 0).trans rfl
    go_region_held3 (fun W => W.cell? ⟨g10 + 1, 0, none⟩ = some (.int .i64 0) ∧ IsRow W g10 2 ∧ rowAt W g10 = bcs A2 (pack ed).length c2 ed.length)
      (first
        | exact ⟨x11, i10, a10⟩
        | exact ⟨((q11.drew.below hb6 q11.lt).cell 0).trans rfl, (q10.drew.below hb6 q10.lt).is (bcs_size _ _ _ _), (q10.drew.below hb6 q10.lt).at⟩
        | exact ⟨((q11.drew.below hb7c q11.lt).cell 0).trans rfl, (q10.drew.below hb7c q10.lt).is (bcs_size _ _ _ _), (q10.drew.below hb7c q10.lt).at⟩)
      (first
        | (go_at_call 19; refine (HPK.out _ _ _ s5.drew).mono ?_; rintro e w6 ⟨A6, c6, rfl, t6, hb6⟩; have u10 := t10.drew.up hb6)
        | (go_at_call 17; refine (same_pack ed ed.length A2 A6 c2 c6 _ u10 t6).mono ?_; rintro e w7 ⟨rfl, hb7⟩; have hb7c := up_call hb6 hb7))
    all_goals
      have v0 := q0.drew.below hb7c q0.lt
      have v7 := q7.drew.below hb7c q7.lt
      have v8 := q8.drew.below hb7c q8.lt
      have v9 := q9.drew.below hb7c q9.lt
      skip
      have hbv := up_call hbb.drew hb7c
      clear x11 i10 a10 q0 q7 q8 q9 q10 q11 t10 hbb s5 t6 u10 hb6 hb7 hb7c HPK
      go_upto_region 17 with (first
        | (refine wpList_store_row rfl 28 _ _ rfl w7.heap.size (flt 0 0) rfl rfl 28 (flt 0 0) (Row.newEq _ _ _ _ _ rfl rfl) (by rw [flt_size]; exact cellsF) rfl (all_one (flt_one _ _)) ?_))
      have hk1 := blw_new1 w7 (.cells #[.int .i64 0, .int .i64 0] 28) (flt 0 0)
      refine wp_world (F := fun W => Row W w.heap.size 23 (cds L H P) ∧ Row W g7 23 (cds 0 0 0) ∧ Row W (g7 + 1) 26 (bcs none 0 0 0) ∧ Row W (g7 + 1 + 1) 28 (flt 14 (-1)) ∧ Row W w7.heap.size 28 (flt 0 0) ∧ Below w.heap.size w W)
        ⟨v0.below hk1 v0.lt, v7.below hk1 v7.lt, v8.below hk1 v8.lt, v9.below hk1 v9.lt, row_new1 _ _ _ _, up_call hbv hk1⟩ ?_
      have hl16 : g7 + 1 + 1 < w7.heap.size := v9.lt
      generalize w7.heap.size = g16 at hl16
      clear hk1 v0 v7 v8 v9 hbv
      rintro W8 ⟨r0, r7, r8, r9, r16, hb⟩
      have hef : ∀ w : World, (binOp .eql 28 (.agg (flt 14 (-1))) (.agg (flt 14 (-1)))).run Try.prog w = .ok (.bool true) w := fun w => eql_flt 14 (-1) 14 (-1) w
      have hec : ∀ w : World, (binOp .eql 23 (.agg (cds 0 0 0)) (.agg #[.int .i64 0, .int .i64 0, .int .i64 0])).run Try.prog w = .ok (.bool true) w := fun w => eql_cds 0 0 0 0 0 0 w
      have y0 : W8.cell? ⟨w.heap.size, 0, none⟩ = some (.int .i64 L) := (r0.cell 0).trans rfl
      have y1 : W8.cell? ⟨w.heap.size, 1, none⟩ = some (.int .i64 H) := (r0.cell 1).trans rfl
      rcases HBT.out with rfl | rfl
      all_goals
        go_upto_region 24 with (first
          | (go_at_call 20; refine (hin _).mono ?_; rintro e w17 ⟨rfl, h17⟩; subst w17)
          | (go_at_call 21; refine (HST.out _).mono ?_; rintro e w20 ⟨v20, rfl, ho20, hb20⟩; obtain ⟨B1, d1, hv20, _, _⟩ := own_form ho20; subst hv20; have sF := Sl.of_own ho20; have z2 : w20.cell? ⟨w.heap.size, 2, none⟩ = some (.int .i64 P) := ((r0.below hb20 r0.lt).cell 2).trans rfl; clear ho20)
          | (go_at_call 18; refine (HSE.out _ _ _ sF).mono ?_; rintro e w21 ⟨v21, rfl, ho21, hb21⟩; have hkk := up_call hb20 hb21))
        obtain ⟨B2, d2, hv21, _, _⟩ := own_form ho21
        subst hv21
        have sO := Sl.of_own ho21
        replace r7 := r7.below hkk r7.lt
        replace r8 := r8.below hkk r8.lt
        replace r9 := r9.below hkk r9.lt
        replace r16 := r16.below hkk r16.lt
        replace hb := up_call hb hkk
        clear hkk z2 sF ho21 hb20 hb21 y0 y1
        go_upto_region 26 with (first
          | (go_at_call 16; refine (at_any 14 (-1) _).mono ?_; rintro e w18 ⟨rfl, hb18⟩)
          | (refine wpList_store_row rfl 28 _ _ rfl g16 (flt 14 (-1)) rfl rfl 28 (flt 0 0) (r16.below hb18 r16.lt) (by rw [flt_size]; exact cellsF) rfl (all_one (flt_one _ _)) ?_))
        refine wp_world (F := fun W => Row W g7 23 (cds 0 0 0) ∧ Row W (g7 + 1) 26 (bcs none 0 0 0) ∧ Row W (g7 + 1 + 1) 28 (flt 14 (-1)) ∧ Row W g16 28 (flt 14 (-1)) ∧ Below w.heap.size w W)
          ⟨(r7.below hb18 r7.lt).rowFar (by omega) _, (r8.below hb18 r8.lt).rowFar (by omega) _, (r9.below hb18 r9.lt).rowFar (by omega) _, Row.row (r16.below hb18 r16.lt) _, blw_row (up_call hb hb18) (by have := hlo; omega) _⟩ ?_
        clear r0 r7 r8 r9 r16 hb
        rintro W9 ⟨r7, r8, r9, r16, hb⟩
        have k0 : W9.cell? ⟨g16, 0, none⟩ = some (.int .i64 14) := (r16.cell 0).trans rfl
        go_wp2_with (first
          | (refine wpList_load_row rfl 28 _ rfl (g7 + 1 + 1) rfl 28 (flt 14 (-1)) (0, 0) _ r9 Try.underlying28 rfl (by rw [flt_size]; exact cellsF) ?_)
          | (refine wpList_load_row rfl 28 _ rfl g16 rfl 28 (flt 14 (-1)) (0, 0) _ r16 Try.underlying28 rfl (by rw [flt_size]; exact cellsF) ?_)
          | (refine wpList_load_rowG (by simp [Region.wanted, yielded, Act.put]) 23 _ rfl g7 rfl 23 (cds 0 0 0) (0, 0) _ r7 Try.underlying23 rfl (by rw [cds_size]; exact cellsCd) ?_)
          | (refine wpList_load_rowG (by simp [Region.wanted, yielded, Act.put]) 26 _ rfl (g7 + 1) rfl 26 (bcs none 0 0 0) (0, 0) _ r8 Try.underlying26 rfl (by rw [bcs_size]; exact cellsB) ?_)
          | (go_at_call 17; refine (same_none _).mono ?_; rintro e w19 ⟨rfl, hb19⟩))
        go_ret
        exact ⟨rfl, up_call hb hb19⟩
  · obtain rfl : kl = 2 := by rw [HKL.out, if_neg hL]
    have tL : decide ((L : Int) < 16384) = false := decide_eq_false (by omega)
    clear hL HKL
    have e2a : (W3.alloc (.cells #[.int .i64 2] 3)).cell? ⟨w.heap.size, 2, none⟩ = some (.int .i64 P) := ((r0.alloc _).cell 2).trans rfl
    go_upto_region 12 with (first
      | (go_at_call 18; refine (HSN.out _ _ _ (hlit 2 rfl)).mono ?_; rintro e w5 ⟨v5, rfl, ho5, hb5⟩))
    obtain ⟨A5, c5, hv5, _, _⟩ := own_form ho5
    subst hv5
    have s5 := Sl.of_own ho5
    have hk := hka.trans (hb5.mono (by simp))
    have q7 := r7.below hk r7.lt
    have q8 := r8.below hk r8.lt
    have q9 := r9.below hk r9.lt
    have q10 := r10.below hk r10.lt
    have q11 := r11.below hk r11.lt
    have q0 := r0.below hk r0.lt
    skip
    have t10 := s10.up hk
    have hbb := up_call hb hk
    clear hka hlit hk ho5 hb5 r0 r7 r8 r9 r10 r11 s10 hb e0 e2 e2a tL HSN
    have i10 := q10.drew.is (bcs_size _ _ _ _)
    have a10 := q10.drew.at
    have x11 : w5.drew.cell? ⟨g10 + 1, 0, none⟩ = some (.int .i64 0) := (q11.drew.cell 0).trans rfl
    go_region_held3 (fun W => W.cell? ⟨g10 + 1, 0, none⟩ = some (.int .i64 0) ∧ IsRow W g10 2 ∧ rowAt W g10 = bcs A2 (pack ed).length c2 ed.length)
      (first
        | exact ⟨x11, i10, a10⟩
        | exact ⟨((q11.drew.below hb6 q11.lt).cell 0).trans rfl, (q10.drew.below hb6 q10.lt).is (bcs_size _ _ _ _), (q10.drew.below hb6 q10.lt).at⟩
        | exact ⟨((q11.drew.below hb7c q11.lt).cell 0).trans rfl, (q10.drew.below hb7c q10.lt).is (bcs_size _ _ _ _), (q10.drew.below hb7c q10.lt).at⟩)
      (first
        | (go_at_call 19; refine (HPK.out _ _ _ s5.drew).mono ?_; rintro e w6 ⟨A6, c6, rfl, t6, hb6⟩; have u10 := t10.drew.up hb6)
        | (go_at_call 17; refine (same_pack ed ed.length A2 A6 c2 c6 _ u10 t6).mono ?_; rintro e w7 ⟨rfl, hb7⟩; have hb7c := up_call hb6 hb7))
    all_goals
      have v0 := q0.drew.below hb7c q0.lt
      have v7 := q7.drew.below hb7c q7.lt
      have v8 := q8.drew.below hb7c q8.lt
      have v9 := q9.drew.below hb7c q9.lt
      skip
      have hbv := up_call hbb.drew hb7c
      clear x11 i10 a10 q0 q7 q8 q9 q10 q11 t10 hbb s5 t6 u10 hb6 hb7 hb7c HPK
      go_upto_region 17 with (first
        | (refine wpList_store_row rfl 28 _ _ rfl w7.heap.size (flt 0 0) rfl rfl 28 (flt 0 0) (Row.newEq _ _ _ _ _ rfl rfl) (by rw [flt_size]; exact cellsF) rfl (all_one (flt_one _ _)) ?_))
      have hk1 := blw_new1 w7 (.cells #[.int .i64 0, .int .i64 0] 28) (flt 0 0)
      refine wp_world (F := fun W => Row W w.heap.size 23 (cds L H P) ∧ Row W g7 23 (cds 0 0 0) ∧ Row W (g7 + 1) 26 (bcs none 0 0 0) ∧ Row W (g7 + 1 + 1) 28 (flt 14 (-1)) ∧ Row W w7.heap.size 28 (flt 0 0) ∧ Below w.heap.size w W)
        ⟨v0.below hk1 v0.lt, v7.below hk1 v7.lt, v8.below hk1 v8.lt, v9.below hk1 v9.lt, row_new1 _ _ _ _, up_call hbv hk1⟩ ?_
      have hl16 : g7 + 1 + 1 < w7.heap.size := v9.lt
      generalize w7.heap.size = g16 at hl16
      clear hk1 v0 v7 v8 v9 hbv
      rintro W8 ⟨r0, r7, r8, r9, r16, hb⟩
      have hef : ∀ w : World, (binOp .eql 28 (.agg (flt 14 (-1))) (.agg (flt 14 (-1)))).run Try.prog w = .ok (.bool true) w := fun w => eql_flt 14 (-1) 14 (-1) w
      have hec : ∀ w : World, (binOp .eql 23 (.agg (cds 0 0 0)) (.agg #[.int .i64 0, .int .i64 0, .int .i64 0])).run Try.prog w = .ok (.bool true) w := fun w => eql_cds 0 0 0 0 0 0 w
      have y0 : W8.cell? ⟨w.heap.size, 0, none⟩ = some (.int .i64 L) := (r0.cell 0).trans rfl
      have y1 : W8.cell? ⟨w.heap.size, 1, none⟩ = some (.int .i64 H) := (r0.cell 1).trans rfl
      rcases HBT.out with rfl | rfl
      all_goals
        go_upto_region 24 with (first
          | (go_at_call 20; refine (hin _).mono ?_; rintro e w17 ⟨rfl, h17⟩; subst w17)
          | (go_at_call 21; refine (HST.out _).mono ?_; rintro e w20 ⟨v20, rfl, ho20, hb20⟩; obtain ⟨B1, d1, hv20, _, _⟩ := own_form ho20; subst hv20; have sF := Sl.of_own ho20; have z2 : w20.cell? ⟨w.heap.size, 2, none⟩ = some (.int .i64 P) := ((r0.below hb20 r0.lt).cell 2).trans rfl; clear ho20)
          | (go_at_call 18; refine (HSE.out _ _ _ sF).mono ?_; rintro e w21 ⟨v21, rfl, ho21, hb21⟩; have hkk := up_call hb20 hb21))
        obtain ⟨B2, d2, hv21, _, _⟩ := own_form ho21
        subst hv21
        have sO := Sl.of_own ho21
        replace r7 := r7.below hkk r7.lt
        replace r8 := r8.below hkk r8.lt
        replace r9 := r9.below hkk r9.lt
        replace r16 := r16.below hkk r16.lt
        replace hb := up_call hb hkk
        clear hkk z2 sF ho21 hb20 hb21 y0 y1
        go_upto_region 26 with (first
          | (go_at_call 16; refine (at_any 14 (-1) _).mono ?_; rintro e w18 ⟨rfl, hb18⟩)
          | (refine wpList_store_row rfl 28 _ _ rfl g16 (flt 14 (-1)) rfl rfl 28 (flt 0 0) (r16.below hb18 r16.lt) (by rw [flt_size]; exact cellsF) rfl (all_one (flt_one _ _)) ?_))
        refine wp_world (F := fun W => Row W g7 23 (cds 0 0 0) ∧ Row W (g7 + 1) 26 (bcs none 0 0 0) ∧ Row W (g7 + 1 + 1) 28 (flt 14 (-1)) ∧ Row W g16 28 (flt 14 (-1)) ∧ Below w.heap.size w W)
          ⟨(r7.below hb18 r7.lt).rowFar (by omega) _, (r8.below hb18 r8.lt).rowFar (by omega) _, (r9.below hb18 r9.lt).rowFar (by omega) _, Row.row (r16.below hb18 r16.lt) _, blw_row (up_call hb hb18) (by have := hlo; omega) _⟩ ?_
        clear r0 r7 r8 r9 r16 hb
        rintro W9 ⟨r7, r8, r9, r16, hb⟩
        have k0 : W9.cell? ⟨g16, 0, none⟩ = some (.int .i64 14) := (r16.cell 0).trans rfl
        go_wp2_with (first
          | (refine wpList_load_row rfl 28 _ rfl (g7 + 1 + 1) rfl 28 (flt 14 (-1)) (0, 0) _ r9 Try.underlying28 rfl (by rw [flt_size]; exact cellsF) ?_)
          | (refine wpList_load_row rfl 28 _ rfl g16 rfl 28 (flt 14 (-1)) (0, 0) _ r16 Try.underlying28 rfl (by rw [flt_size]; exact cellsF) ?_)
          | (refine wpList_load_rowG (by simp [Region.wanted, yielded, Act.put]) 23 _ rfl g7 rfl 23 (cds 0 0 0) (0, 0) _ r7 Try.underlying23 rfl (by rw [cds_size]; exact cellsCd) ?_)
          | (refine wpList_load_rowG (by simp [Region.wanted, yielded, Act.put]) 26 _ rfl (g7 + 1) rfl 26 (bcs none 0 0 0) (0, 0) _ r8 Try.underlying26 rfl (by rw [bcs_size]; exact cellsB) ?_)
          | (go_at_call 17; refine (same_none _).mono ?_; rintro e w19 ⟨rfl, hb19⟩))
        go_ret
        exact ⟨rfl, up_call hb hb19⟩
end Go.Proofs.Ytcnokjiohbifeaa.lawPut
