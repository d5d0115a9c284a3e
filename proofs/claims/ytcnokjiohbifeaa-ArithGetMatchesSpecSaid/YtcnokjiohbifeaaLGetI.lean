/-
  ArithGetMatchesSpec: two bits or more, and a bit is read.
-/
import Derived.Test.YtcnokjiohbifeaaLGetK
import Derived.Test.YtcnokjiohbifeaaAArgs
import Derived.Test.YtcnokjiohbifeaaRBits2
import Derived.Test.YtcnokjiohbifeaaRBits3
import Derived.Test.YtcnokjiohbifeaaRNum
import Derived.Test.YtcnokjiohbifeaaRSteps
import Derived.Test.YtcnokjiohbifeaaAGetF
import Derived.Deep.RegionHeld3
import Derived.BigQuiet
namespace Go.Proofs.Ytcnokjiohbifeaa.lawGet
open Go.RowKit
attribute [local go_sem ↓] wp_load_flat run_load_flat
attribute [local go_sem] isRow_drewN rowAt_drewN blkOf_ptr cells_agg sizedDc sizeTDc aggDc sizedB sizeTB aggB sizedF sizeTF aggF

set_option maxRecDepth 100000 in
set_option maxHeartbeats 8000000 in
theorem walk_long_ok (M H v x p : Nat) (l : List Bool) (hd : DecoderZ M H v x) (hl : l.length ≤ 131072) (hp1 : 1 ≤ p) (hp2 : p ≤ 4095) (ht : x + (stepN M H p (decide (v ≤ splitN M H p))).2.2.length ≤ l.length + 14) (h2 : 2 ≤ l.length) (A : Option Addr) (cp : Nat) (w : World) (hS : Sl w w.heap.size A (pack l).length (bl (pack l))) :
    Calls Try.prog 4 #[.agg (dcs M H v x), .agg (bcs A (pack l).length cp l.length), .int .i64 p] w fun e w' => e = .returned (.bool true) ∧ Below w.heap.size w w' := by
  obtain ⟨C, hC⟩ : ∃ C : Nat → Bool, C = fun j => l.getD j false := ⟨_, rfl⟩
  have hop := fun (w : World) (hS : Sl w w.heap.size A (pack l).length (bl (pack l))) => Open_ok l hl h2 A cp w hS
  have hge := fun (w : World) (hS : Sl w w.heap.size A (pack l).length (bl (pack l))) => Get_ok M H v x p l hd hl hp1 hp2 ht A cp w hS
  have hok := ok_yes (pack l) l (pack_rep l) hl A cp
  have hbi := rbits_any (pack l) l (pack_rep l) hl A cp
  rw [← hC] at hop hge
  have hin := in_yes (p : Int) 1 4095 (by omega) (by omega)
  have hdo := decoderok_any M H v x
  rw [decide_eq_true hd] at hdo
  obtain ⟨hw, hv1, hv2, hx⟩ := hd.parts
  have hvb : v ≤ 65535 := by obtain ⟨_, _, hw3, _⟩ := hw; omega
  have hsp := split_any M H p hw hp1 hp2
  have hst := steps_any M H p (decide (v ≤ splitN M H p)) hw hp1 hp2
  obtain ⟨_, hs2, _, hs4⟩ := step_ok hw hp1 hp2 (decide (v ≤ splitN M H p))
  have hmv := move_step (C := C) (i := x) hw hp1 hp2 hv1 hv2
  obtain ⟨b, hb0⟩ : ∃ b, b = decide (v ≤ splitN M H p) := ⟨_, rfl⟩
  rw [← hb0] at hst hs2 hs4 ht hmv hge
  obtain ⟨q, hq⟩ : ∃ q, q = splitN M H p := ⟨_, rfl⟩
  rw [← hq] at hsp hb0
  obtain ⟨fL, fH, fs, hfs⟩ : ∃ fL fH fs, stepN M H p b = (fL, fH, fs) := ⟨_, _, _, rfl⟩
  rw [hfs] at hst hs2 hs4 ht hmv hge
  simp only at hst hs2 hs4 ht hmv hge
  obtain ⟨ns, hns⟩ : ∃ ns, ns = fs.length := ⟨_, rfl⟩
  rw [← hns] at hst hs2 ht hge
  obtain ⟨bit, hbit⟩ : ∃ z : Int, z = ((b.toNat : Nat) : Int) := ⟨_, rfl⟩
  rw [← hbit] at hst hge
  have hor : (bit = 1 ∧ decide ((v : Int) ≤ (q : Int)) = true ∧ decide (v ≤ q) = true) ∨ (bit = 0 ∧ decide ((v : Int) ≤ (q : Int)) = false ∧ decide (v ≤ q) = false) := by
    by_cases hvq : v ≤ q
    · rw [decide_eq_true hvq] at hb0
      subst hb0
      exact .inl ⟨hbit, decide_eq_true (by omega), decide_eq_true hvq⟩
    · rw [decide_eq_false hvq] at hb0
      subst hb0
      exact .inr ⟨hbit, decide_eq_false (by omega), decide_eq_false hvq⟩
  have HOR := Lib.hid hor
  have HSP := Lib.hid hsp
  have HST := Lib.hid hst
  have HNS := Lib.hid hns
  have HS4 := Lib.hid hs4
  obtain ⟨N, hN⟩ : ∃ N, N = numF C 16 := ⟨_, rfl⟩
  rw [← hN] at hop
  have HN16 : Hid (numF (fun j => l.getD j false) 16 = N) := Lib.hid (by rw [hN, hC])
  obtain ⟨V, hV⟩ : ∃ V, V = moveN C v x fs := ⟨_, rfl⟩
  rw [← hV] at hge hmv
  have HV := Lib.hid hmv.symm
  rw [show ((x + ns : Nat) : Int) = (x : Int) + (ns : Int) from rfl] at hge
  have HC := Lib.hid hC
  obtain ⟨n, hn⟩ : ∃ n, n = l.length := ⟨_, rfl⟩
  have hnl : l.length = n := hn.symm
  rw [← hn] at hop hge hok hbi hl h2 ht ⊢
  have HNL := Lib.hid hnl
  have hnb := hl
  have HBI := Lib.hid hbi
  have t2 : decide ((n : Int) < 2) = false := decide_eq_false (by omega)
  have t2n : decide (n < 2) = false := decide_eq_false (by omega)
  have tg : decide ((n : Int) + 14 < (x : Int) + (ns : Int)) = false := decide_eq_false (by omega)
  clear hl hn hnl hbi hd h2 hC hor hsp hst hns hs4 hmv hbit hb0 hq hfs hw hp1 hp2 hv1 hv2 hV hN
  obtain ⟨i0, hi, hz0, hz1, hz2⟩ := info_parts infoI
  go_enter Try.func4, Try.ntmps4
  go_upto_region 1 with (fail)
  refine wp_world (F := fun W => Row W w.heap.size 47 (dcs M H v x) ∧ Row W (w.heap.size + 1) 26 (bcs A (pack l).length cp n) ∧ Sl W W.heap.size A (pack l).length (bl (pack l)) ∧ Below w.heap.size w W)
    ⟨(Row.newEq _ _ _ _ _ rfl rfl).alloc _, Row.newEq _ _ _ _ _ (by simp) rfl, hS.up (((Below.refl _ _).alloc (Nat.le_refl _) _).alloc (by simp) _), ((Below.refl _ _).alloc (Nat.le_refl _) _).alloc (by simp) _⟩ ?_
  clear hS
  rintro W0 ⟨r0, r1, hS, hb⟩
  go_upto_region 2 with (first
    | (refine wpList_load_row rfl 26 _ rfl (w.heap.size + 1) rfl 26 (bcs A (pack l).length cp n) (0, 0) _ r1 Try.underlying26 rfl (by rw [bcs_size]; exact cellsB) ?_)
    | (go_at_call 22; refine (hop _ hS).mono ?_; rintro e w1 ⟨rfl, hb1⟩)
    | (refine wpList_store_row rfl 47 _ _ rfl w1.heap.size (dcs 0 65535 N 16) rfl rfl 47 (dcs 0 0 0 0) ((Row.newEq _ _ _ _ _ rfl rfl).alloc _) (by rw [dcs_size]; exact cellsDc) rfl (all_one (dcs_one _ _ _ _)) ?_)
    | (refine wpList_store_row rfl 28 _ _ rfl (w1.heap.size + 1) (flt 0 0) rfl rfl 28 (flt 0 0) (row_far_new2 _ _ _ _ _ _) (by rw [flt_size]; exact cellsF) rfl (all_one (flt_one _ _)) ?_))
  have hk0 := blw_new2 w1 (.cells #[.int .i64 0, .int .i64 0, .int .i64 0, .int .i64 0] 47) (.cells #[.int .i64 0, .int .i64 0] 28) (dcs 0 65535 N 16) (flt 0 0)
  have hk := up_call hb1 hk0
  refine wp_world (F := fun W => Row W w.heap.size 47 (dcs M H v x) ∧ Row W (w.heap.size + 1) 26 (bcs A (pack l).length cp n) ∧ (Row W w1.heap.size 47 (dcs 0 65535 N 16) ∧ Row W (w1.heap.size + 1) 28 (flt 0 0)) ∧ Sl W W.heap.size A (pack l).length (bl (pack l)) ∧ Below w.heap.size w W)
    ⟨r0.below hk r0.lt, r1.below hk r1.lt, ⟨row_new2a _ _ _ _ _ _ _, row_new2b _ _ _ _ _ _ _⟩, hS.up hk, up_call hb hk⟩ ?_
  have hl7 : w.heap.size + 1 < w1.heap.size := Nat.lt_of_lt_of_le r1.lt hb1.size
  generalize w1.heap.size = g7 at hl7
  clear hk hk0 hb1 r0 r1 hS hb w1 hop
  rintro W1 ⟨r0, r1, r78, hS, hb⟩
  go_upto_region 3 with (first
    | (refine wpList_load_row rfl 47 _ rfl w.heap.size rfl 47 (dcs M H v x) (0, 0) _ r0 Try.underlying47 rfl (by rw [dcs_size]; exact cellsDc) ?_)
    | (refine wpList_load_row rfl 26 _ rfl (w.heap.size + 1) rfl 26 (bcs A (pack l).length cp n) (0, 0) _ r1 Try.underlying26 rfl (by rw [bcs_size]; exact cellsB) ?_)
    | (go_at_call 23; refine (hge _ hS).mono ?_; rintro e w2 ⟨rfl, hb2⟩)
    | (refine wpList_store_row rfl 47 _ _ rfl w2.heap.size (dcs fL fH V ((x : Int) + (ns : Int))) rfl rfl 47 (dcs 0 0 0 0) ((Row.newEq _ _ _ _ _ rfl rfl).alloc _) (by rw [dcs_size]; exact cellsDc) rfl (all_one (dcs_one _ _ _ _)) ?_)
    | (refine wpList_store_row rfl 28 _ _ rfl (w2.heap.size + 1) (flt 0 0) rfl rfl 28 (flt 0 0) (row_far_new2 _ _ _ _ _ _) (by rw [flt_size]; exact cellsF) rfl (all_one (flt_one _ _)) ?_))
  have hk0 := blw_new2 w2 (.cells #[.int .i64 0, .int .i64 0, .int .i64 0, .int .i64 0] 47) (.cells #[.int .i64 0, .int .i64 0] 28) (dcs fL fH V ((x : Int) + (ns : Int))) (flt 0 0)
  have hk := up_call hb2 hk0
  refine wp_world (F := fun W => Six W w.heap.size g7 w2.heap.size (dcs M H v x) (bcs A (pack l).length cp n) (dcs 0 65535 N 16) (flt 0 0) (dcs fL fH V ((x : Int) + (ns : Int))) (flt 0 0) ∧ Sl W W.heap.size A (pack l).length (bl (pack l)) ∧ Below w.heap.size w W)
    ⟨⟨⟨r0.below hk r0.lt, r1.below hk r1.lt⟩, ⟨r78.1.below hk r78.1.lt, r78.2.below hk r78.2.lt⟩, row_new2a _ _ _ _ _ _ _, row_new2b _ _ _ _ _ _ _⟩, hS.up hk, up_call hb hk⟩ ?_
  have hl10 : g7 + 1 < w2.heap.size := Nat.lt_of_lt_of_le r78.2.lt hb2.size
  generalize w2.heap.size = g10 at hl10
  clear hk hk0 hb2 r0 r1 r78 hS hb w2 hge
  rintro W2 ⟨R, hS, hb⟩
  go_upto_region 10 with (first
    | (go_at_call 13; refine (codes_any _).mono ?_; rintro e w3 ⟨rfl, hb3⟩; have R3 := R.below hb3; have s3 := hS.up hb3; have q1 := R3.r1; have hba := up_call hb hb3)
    | (refine wpList_load_row rfl 26 _ rfl (w.heap.size + 1) rfl 26 (bcs A (pack l).length cp n) (0, 0) _ q1 Try.underlying26 rfl (by rw [bcs_size]; exact cellsB) ?_)
    | (go_at_call 24; refine (hok _ s3).mono ?_; rintro e w4 ⟨rfl, hb4⟩; have R4 := R3.below hb4; have s4 := s3.up hb4; have q4 := R4.r1; have hbb := up_call hba hb4)
    | (refine wpList_load_row rfl 26 _ rfl (w.heap.size + 1) rfl 26 (bcs A (pack l).length cp n) (0, 0) _ q4 Try.underlying26 rfl (by rw [bcs_size]; exact cellsB) ?_)
    | (go_at_call 25; refine (HBI.out _ s4).mono ?_; rintro e w5 ⟨v5, rfl, ho5, hb5⟩))
  have own0 := own_lower ho5 (Nat.le_succ _)
  clear R hS hb hb3 R3 s3 q1 hba hb4 hok q4 ho5
  go_loopw [13, 14] (fun s i wr => ∃ j : Nat, i = .int .i64 j ∧ j ≤ 32 ∧ wr.ownsRow w4.heap.size 3 1 s (n + j) (il (l ++ List.replicate j false)) ∧ Below w4.heap.size w4 wr) (fun _ i _ => 32 - (intOf i).toNat)
  case atStart => exact ⟨0, rfl, Nat.zero_le _, by rw [Nat.add_zero, List.replicate_zero, List.append_nil]; exact own0, hb5⟩
  case round =>
    clear own0 hb5
    obtain ⟨j, rfl, hj, ho, hbl⟩ := hrel
    by_cases hlt : j < 32
    · have HO := Lib.hid ho
      have t0 : decide ((j : Int) < 32) = true := decide_eq_true (by omega)
      have t1 : decide (j < 32) = true := decide_eq_true hlt
      clear ho
      go_wp2_with (first
        | (at_builtin; refine wpList_app _ rfl _ _ _ rfl w4.heap.size 3 i0 (.int .i64 0) 8 Try.underlying38 hi hz0 hz1 hz2 rfl _ (n + j) _ rfl (HO.out.alloc _) (wr.heap.size + 1) _ 1 _ [_] rfl (Sl.one _ _ _) (fun u hu => by obtain rfl := List.mem_singleton.1 hu; rfl) (by unfold maxLen; omega) (by omega) (Nat.le_trans hbl.size (by simp)) ?_; intro v2 w2 hown2 hgr2; have hb2 : Below w4.heap.size w4 w2 := blw_grown (hbl.alloc hbl.size _) hgr2 (Nat.le_trans hbl.size (by simp)) (HO.out.alloc _) (Nat.le_refl _)))
      go_roundw
      case rel => exact ⟨j + 1, by go_num, by omega, by rw [il_pad]; exact hown2, hb2⟩
      case measure => simp [intOf]; omega
    · obtain rfl : j = 32 := by omega
      obtain ⟨gl, cl, hvl, hcl, hcm⟩ := own_atc ho (by omega)
      subst hvl
      have sL := Sl.of_own ho
      have R := R4.below hbl
      have sS := s4.up hbl
      have hbw := up_call hbb hbl
      clear ho R4 s4 hbb hbl hlt hj HBI
      go_upto_region 14 with (first
        | (refine wpList_store_row rfl 28 _ _ rfl wr.heap.size (flt 0 0) rfl rfl 28 (flt 0 0) (Row.newEq _ _ _ _ _ rfl rfl) (by rw [flt_size]; exact cellsF) rfl (all_one (flt_one _ _)) ?_))
      refine wp_world (F := fun W => Row W wr.heap.size 28 (flt 0 0) ∧ Below wr.heap.size wr W) ⟨row_new1 _ _ _ _, blw_new1 wr (.cells #[.int .i64 0, .int .i64 0] 28) (flt 0 0)⟩ ?_
      rintro W3 ⟨r15, hbc⟩
      have k1 : W3.cell? ⟨w.heap.size + 1, 1, none⟩ = some (.int .i64 n) := ((R.below hbc).r1.cell 1).trans rfl
      go_upto_region 18 with fail
      have x80 : W3.cell? ⟨g7 + 1, 0, none⟩ = some (.int .i64 0) := ((R.below hbc).r8.cell 0).trans rfl
      have x81 : W3.cell? ⟨g7 + 1, 1, none⟩ = some (.int .i64 0) := ((R.below hbc).r8.cell 1).trans rfl
      have y0 : W3.cell? ⟨wr.heap.size, 0, none⟩ = some (.int .i64 0) := (r15.cell 0).trans rfl
      have y1 : W3.cell? ⟨wr.heap.size, 1, none⟩ = some (.int .i64 0) := (r15.cell 1).trans rfl
      have z0 : W3.cell? ⟨g7, 0, none⟩ = some (.int .i64 0) := ((R.below hbc).r7.cell 0).trans rfl
      have z1 : W3.cell? ⟨g7, 1, none⟩ = some (.int .i64 65535) := ((R.below hbc).r7.cell 1).trans rfl
      have z2 : W3.cell? ⟨g7, 2, none⟩ = some (.int .i64 N) := ((R.below hbc).r7.cell 2).trans rfl
      have z3 : W3.cell? ⟨g7, 3, none⟩ = some (.int .i64 16) := ((R.below hbc).r7.cell 3).trans rfl
      have hnf : ∀ w : World, (binOp .neq 28 (.agg #[.int .i64 0, .int .i64 0]) (.agg #[.int .i64 0, .int .i64 0])).run Try.prog w = .ok (.bool false) w := fun w => by have h := neq_flt 0 0 0 0 w; simp only [beq_self_eq_true, Bool.and_self, Bool.not_true] at h; exact h
      have hnf2 : ∀ w : World, (Op.equalIn 10000 28 (.agg #[.int .i64 0, .int .i64 0]) (.agg #[.int .i64 0, .int .i64 0])).run Try.prog w = .ok true w := fun w => by have h := eqin_flt 0 0 0 0 w; simp only [beq_self_eq_true, Bool.and_self] at h; exact h
      have hnd : ∀ w : World, (binOp .neq 47 (.agg #[.int .i64 0, .int .i64 65535, .int .i64 N, .int .i64 16]) (.agg #[.int .i64 0, .int .i64 65535, .int .i64 N, .int .i64 16])).run Try.prog w = .ok (.bool false) w := fun w => by have h := neq_dcs 0 65535 N 16 0 65535 N 16 w; simp only [beq_self_eq_true, Bool.and_self, Bool.not_true] at h; exact h
      have hnd2 : ∀ w : World, (Op.equalIn 10000 47 (.agg #[.int .i64 0, .int .i64 65535, .int .i64 N, .int .i64 16]) (.agg #[.int .i64 0, .int .i64 65535, .int .i64 N, .int .i64 16])).run Try.prog w = .ok true w := fun w => by have h := eqin_dcs 0 65535 N 16 0 65535 N 16 w; simp only [beq_self_eq_true, Bool.and_self] at h; exact h
      have hnu := fun (w : World) (hS : Sl w w.heap.size (some ⟨gl, 0, none⟩) 16 (il ((l ++ List.replicate 32 false).take 16))) => rnumber_any ((l ++ List.replicate 32 false).take 16) (by rw [List.length_take]; omega) (some ⟨gl, 0, none⟩) cl 16 (by rw [List.length_take, List.length_append, List.length_replicate]; omega) w hS
      rw [pad_num l 32 16 (by omega), HN16.out] at hnu
      have HNU := Lib.hid hnu
      have sL16 : Sl W3 W3.heap.size (some ⟨gl, 0, none⟩) 16 (il ((l ++ List.replicate 32 false).take 16)) := by
        have h := (sL.up hbc).first (k := 16) (by omega)
        rwa [il_take] at h
      have hc0 : ¬ cl = 0 := by omega
      have tc1 : decide ((16 : Int) ≤ (cl : Int)) = true := decide_eq_true (by omega)
      have tc2 : decide (16 ≤ cl) = true := decide_eq_true (by omega)
      clear hnu
      go_quiet (first
        | (go_at_call 26; exact Calls.quiet_of_same ((HNU.out _ (sL16.drewN _)).mono fun _ _ ⟨a, b⟩ => ⟨a, b.symm⟩)))
      clear hnf hnf2 hnd hnd2 x80 x81 y0 y1 z0 z1 z2 z3 HNU sL16 hc0 tc1 tc2 k1
      go_upto_region 21 with (first
        | (refine wpList_store_row rfl 28 _ _ rfl wr.heap.size (flt 0 0) rfl rfl 28 (flt 0 0) (r15.drewN _) (by rw [flt_size]; exact cellsF) rfl (all_one (flt_one _ _)) ?_))
      refine wp_world (F := fun W => Row W wr.heap.size 28 (flt 0 0) ∧ Below wr.heap.size wr W) ⟨Row.row (r15.drewN _) _, blw_row (blw_drewN hbc _) (Nat.le_refl _) _⟩ ?_
      clear r15 hbc W3
      rintro W5 ⟨r15, hbc⟩
      have q0 := (R.below hbc).r0
      go_upto_region 30 with (first
        | (refine wpList_load_row rfl 47 _ rfl w.heap.size rfl 47 (dcs M H v x) (0, 0) _ q0 Try.underlying47 rfl (by rw [dcs_size]; exact cellsDc) ?_)
        | (go_at_call 27; refine (hdo _).mono ?_; rintro e w21 ⟨rfl, hb21⟩; have r15b := r15.below hb21 r15.lt; have hbd := up_call hbc hb21; have k15 : w21.cell? ⟨wr.heap.size, 0, none⟩ = some (.int .i64 0) := (r15b.cell 0).trans rfl)
        | (go_at_call 20; refine (hin _).mono ?_; rintro e w9 ⟨rfl, h9⟩; subst w9))
      have e0 : w21.cell? ⟨w.heap.size, 0, none⟩ = some (.int .i64 M) := ((R.below hbd).r0.cell 0).trans rfl
      have e1 : w21.cell? ⟨w.heap.size, 1, none⟩ = some (.int .i64 H) := ((R.below hbd).r0.cell 1).trans rfl
      have e2 : w21.cell? ⟨w.heap.size, 2, none⟩ = some (.int .i64 v) := ((R.below hbd).r0.cell 2).trans rfl
      clear r15 r15b k15 q0 hbc hb21 hin hdo
      rcases HOR.out with ⟨rfl, tv1, tv2⟩ | ⟨rfl, tv1, tv2⟩
      all_goals
        go_quiet (first
          | (go_at_call 28; exact Calls.quiet_of_same (HSP.out _)))
        go_upto_region 37 with (first
          | (go_at_call 21; refine (HST.out _).mono ?_; rintro e w32 ⟨v32, rfl, ho32, hb32⟩; obtain ⟨B1, d1, hv32, _, _⟩ := own_form ho32; subst hv32; have sF := Sl.of_own ho32; have hbe := up_call (blw_drewN hbd _) hb32; have Re := R.below hbe; have c2 : w32.cell? ⟨w.heap.size, 2, none⟩ = some (.int .i64 v) := (Re.r0.cell 2).trans rfl; have c3 : w32.cell? ⟨w.heap.size, 3, none⟩ = some (.int .i64 x) := (Re.r0.cell 3).trans rfl; have c8 : w32.cell? ⟨w.heap.size + 1, 1, none⟩ = some (.int .i64 n) := (Re.r1.cell 1).trans rfl; clear ho32))
        clear e0 e1 e2 tv1 tv2 hb32 hbd c2 c8 HST HSP HOR
        clear c3
        go_loopw [20, 21] (fun y i wx => ∃ t : Nat, t ≤ ns ∧ i = .int .i64 t ∧ y = .int .i64 (moveZ C v x (fs.take t)) ∧ Below w32.heap.size w32 wx) (fun _ i _ => ns - (intOf i).toNat)
        case atStart => exact ⟨0, Nat.zero_le _, rfl, by rw [List.take_zero]; rfl, Below.refl _ _⟩
        case round =>
          obtain ⟨t, htn, rfl, rfl, hbx⟩ := hrel
          have c3 : wr.cell? ⟨w.heap.size, 3, none⟩ = some (.int .i64 x) := ((Re.below hbx).r0.cell 3).trans rfl
          by_cases htl : t < ns
          · obtain ⟨ad5, rfl, _, hc5⟩ := (sF.up hbx).num htl
            obtain ⟨ad6, he6, _, hc6⟩ := ((sL.up hbe).up hbx).bit (k := x + t) (by omega)
            injection he6 with he6
            subst he6
            rw [pad_getD, add_at, Nat.zero_add] at hc6
            have hts : t < fs.length := by rw [← HNS.out]; exact htl
            have hmt := move_take C v x fs t hts
            have hmr := move_room C fs v x t HS4.out hvb (by omega)
            have hk2 := HS4.out _ (List.getElem_mem hts)
            rw [show fs[t] = fs.getD t 0 from by simp [hts]] at hk2
            have hCb : (C (x + t)).toNat = (l.getD (x + t) false).toNat := by rw [HC.out]
            rw [hCb] at hmt
            have hb1 : (l.getD (x + t) false).toNat < 2 := bool_lt _
            generalize (l.getD (x + t) false).toNat = bb at hmt hc6 hb1
            generalize fs.getD t 0 = kk at hmt hc5 hk2
            generalize moveZ C v x (fs.take t) = y at hmt hmr ⊢
            have HMT := Lib.hid hmt
            have w1 : IntKind.i64.wrap (16384 * (kk : Int)) = 16384 * (kk : Int) := by rw [IntKind.wrap_i64]; omega
            have w2 : IntKind.i64.wrap (y - 16384 * (kk : Int)) = y - 16384 * (kk : Int) := by rw [IntKind.wrap_i64]; omega
            have w3 : IntKind.i64.wrap (2 * (y - 16384 * (kk : Int))) = 2 * (y - 16384 * (kk : Int)) := by rw [IntKind.wrap_i64]; omega
            have w4 : IntKind.i64.wrap (2 * (y - 16384 * (kk : Int)) + (bb : Int)) = 2 * (y - 16384 * (kk : Int)) + (bb : Int) := by rw [IntKind.wrap_i64]; omega
            have w5 : IntKind.i64.wrap ((x : Int) + (t : Int)) = (x : Int) + (t : Int) := by rw [IntKind.wrap_i64]; omega
            have hix : ((x : Int) + (t : Int)).toNat = x + t := by omega
            have ti1 : decide ((t : Int) < (ns : Int)) = true := decide_eq_true (by omega)
            have ti2 : decide (t < ns) = true := decide_eq_true htl
            have ti3 : (x : Int) + (t : Int) < (n : Int) + 32 := by omega
            have ti4 : (0 : Int) ≤ (x : Int) + (t : Int) := by omega
            clear hmt hts hCb
            go_upto_region 39 with fail
            go_quiet (fail)
            go_wp2
            go_roundw
            case rel => exact ⟨t + 1, by omega, by go_num, by rw [HMT.out], blw_drewN hbx _⟩
            case measure => simp [intOf]; omega
          · obtain rfl : ns = t := by omega
            have hfin : moveZ C v x (fs.take ns) = (V : Int) := by rw [HNS.out, List.take_length]; exact HV.out
            rw [hfin]
            have q10 := (Re.below hbx).r10
            have c11 : wr.cell? ⟨g10 + 1, 0, none⟩ = some (.int .i64 0) := ((Re.below hbx).r11.cell 0).trans rfl
            have hed : ∀ w : World, (binOp .eql 47 (.agg (dcs fL fH V ((x : Int) + (ns : Int)))) (.agg #[.int .i64 fL, .int .i64 fH, .int .i64 V, .int .i64 ((x : Int) + (ns : Int))])).run Try.prog w = .ok (.bool true) w := fun w => by have h := eql_dcs fL fH V ((x : Int) + (ns : Int)) fL fH V ((x : Int) + (ns : Int)) w; simp only [beq_self_eq_true, Bool.and_self] at h; exact h
            go_wp2_with (first
              | (refine wpList_load_rowG (by simp [Region.wanted, yielded]) 47 _ rfl g10 rfl 47 (dcs fL fH V ((x : Int) + (ns : Int))) (0, 0) _ q10 Try.underlying47 rfl (by rw [dcs_size]; exact cellsDc) ?_))
            go_ret
            exact ⟨rfl, up_call hbw (up_call hbe hbx)⟩

end Go.Proofs.Ytcnokjiohbifeaa.lawGet
