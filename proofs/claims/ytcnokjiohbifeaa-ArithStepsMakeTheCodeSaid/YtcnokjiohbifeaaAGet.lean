/-
  The contract of package arith's get: a bit is decoded.
-/
import Derived.Test.YtcnokjiohbifeaaARead
import Derived.Test.YtcnokjiohbifeaaAPutF
namespace Go.Proofs.Ytcnokjiohbifeaa
open Go.RowKit

theorem sizedDc : Sized Try.prog 47 := show (Try.prog.info? 47).map (·.size) = some (sizeT Try.prog 47) by kernel_rfl
theorem sizeTDc : sizeT Try.prog 47 = 4 := by kernel_rfl
theorem aggDc : AggT Try.prog 47 := .inl ⟨_, Try.underlying47⟩
theorem sizedIv : Sized Try.prog 92 := show (Try.prog.info? 92).map (·.size) = some (sizeT Try.prog 92) by kernel_rfl
theorem sizeTIv : sizeT Try.prog 92 = 2 := by kernel_rfl
theorem aggIv : AggT Try.prog 92 := .inl ⟨_, Try.underlying92⟩
theorem flat_dcs (a b c d : Int) : Flat (.agg (dcs a b c d)) 4 := ⟨_, rfl, dcs_size _ _ _ _, dcs_one _ _ _ _⟩
attribute [local go_sem ↓] wp_store_act wp_load_flat run_load_flat wp_store_flat
attribute [local go_sem] blkOf_ptr cells_agg sizedDc sizeTDc aggDc sizedIv sizeTIv aggIv flat_dcs isRow_set_eq rowAt_set_eq
/-- a result in a slot and one in a block, the other way round -/
theorem no_ivs (a b : Int) : NoU8 (ivs a b) := fun z h => by simp [ivs] at h

set_option maxRecDepth 100000 in
set_option maxHeartbeats 8000000 in
theorem aget_any (l : List Bool) (hl : l.length ≤ 131072) (L H p v i : Nat) (hw : WideR L H) (h1 : 1 ≤ p) (h2 : p ≤ 4095) (hv1 : L ≤ v) (hv2 : v ≤ H) (hi : i ≤ 900000) (b : Bool) (hbd : b = decide (v ≤ splitN L H p)) (A : Option Addr) (c : Nat) (w : World) (hS : Sl w w.heap.size A (pack l).length (bl (pack l))) :
    Calls Try.prog 50 #[.agg (dcs L H v i), .agg (bcs A (pack l).length c l.length), .int .i64 p] w fun e w' => e = .returned (.tuple #[.int .i64 ((b.toNat : Nat) : Int), .agg (dcs ((stepN L H p b).1 : Nat) ((stepN L H p b).2.1 : Nat) (moveN (fun j => l.getD j false) v i (stepN L H p b).2.2 : Nat) ((i + (stepN L H p b).2.2.length : Nat) : Int))]) ∧ Below w.heap.size w w' := by
  have hpa := ipart_any L H p b hw h1 h2
  have hsp := isplit_any L H p hw h1 h2
  obtain ⟨r1, r2, r3⟩ := part_room hw h1 h2 b
  have hpo := part_of L H p v hv1 hv2
  rw [← hbd] at hpo
  have hst : dblN 14 (partN L H p b).1 (partN L H p b).2 = stepN L H p b := rfl
  obtain ⟨fL, fH, fs, hf⟩ : ∃ fL fH fs, stepN L H p b = (fL, fH, fs) := ⟨_, _, _, rfl⟩
  rw [hf] at hst ⊢
  obtain ⟨px, py, hpart⟩ : ∃ px py, partN L H p b = (px, py) := ⟨_, _, rfl⟩
  rw [hpart] at hpa r1 r2 r3 hst hpo
  obtain ⟨C, hC⟩ : ∃ C : Nat → Bool, C = fun j => l.getD j false := ⟨_, rfl⟩
  rw [← hC]
  have HRD : Hid (∀ (v i v2 : Nat), v ≤ 100000 → i ≤ 1000000 → v2 = 2 * v + (C i).toNat → ∀ w : World, Sl w w.heap.size A (pack l).length (bl (pack l)) → Calls Try.prog 48 #[.agg (dcs L H v i), .agg (bcs A (pack l).length c l.length)] w fun e w' => e = .returned (.agg (dcs L H v2 (i + 1 : Nat))) ∧ Below w.heap.size w w') :=
    Lib.hid (fun v i v2 a1 a2 a3 w hS => aread_any l hl L H v i a1 a2 v2 (by rw [a3, hC]) A c w hS)
  simp only at r1 r2 r3 hst hpo
  obtain ⟨V, hV⟩ : ∃ V, V = moveN C v i fs := ⟨_, rfl⟩
  obtain ⟨I, hI⟩ : ∃ I, I = i + fs.length := ⟨_, rfl⟩
  simp only [← hV, ← hI]
  obtain ⟨q, hq⟩ : ∃ q, q = splitN L H p := ⟨_, rfl⟩
  rw [← hq] at hbd hsp
  have HSP := Lib.hid hsp
  have HST := Lib.hid (And.intro r3 (And.intro hst (And.intro hV hI)))
  obtain ⟨po1, po2⟩ := hpo
  obtain ⟨n, hn⟩ : ∃ n, n = l.length := ⟨_, rfl⟩
  rw [← hn] at HRD ⊢
  clear r3 hst hf hpart hC hV hI hq hsp hn hl hw h1 h2 hv1 hv2
  have hc0 : (dcs L H v i)[0]? = some (.int .i64 L) := rfl
  go_enter Try.func50, Try.ntmps50
  go_upto_region 1 with (fail)
  refine wp_world (F := fun W => Row W w.heap.size 47 (dcs L H v i) ∧ Row W (w.heap.size + 1) 26 (bcs A (pack l).length c n) ∧ Row W (w.heap.size + 1 + 1) 47 (dcs 0 0 0 0) ∧ W.heap.size = w.heap.size + 1 + 1 + 1 ∧ Sl W W.heap.size A (pack l).length (bl (pack l)) ∧ Below w.heap.size w W)
    ⟨((Row.newEq _ _ _ _ _ rfl rfl).alloc _).alloc _, (Row.newEq _ _ _ _ _ (by simp) rfl).alloc _, Row.newEq _ _ _ _ _ (by simp) rfl, by simp, hS.up ((((Below.refl _ _).alloc (Nat.le_refl _) _).alloc (by simp) _).alloc (by simp; omega) _), (((Below.refl _ _).alloc (Nat.le_refl _) _).alloc (by simp) _).alloc (by simp; omega) _⟩ ?_
  clear hS
  generalize hg2 : w.heap.size + 1 + 1 = g2
  generalize hg1 : w.heap.size + 1 = g1
  have hl1 : w.heap.size < g1 := by omega
  have hl2 : g1 < g2 := by omega
  clear hg1 hg2
  rintro W0 ⟨rd, rc, ro, hsz, hS, hb⟩
  have e0 : W0.cell? ⟨w.heap.size, 0, none⟩ = some (.int .i64 L) := (rd.cell 0).trans rfl
  have e1 : W0.cell? ⟨w.heap.size, 1, none⟩ = some (.int .i64 H) := (rd.cell 1).trans rfl
  have HSZ := Lib.hid hsz
  clear hsz
  go_upto_region 2 with (first
    | (refine wpList_store_row rfl 92 _ _ rfl W0.heap.size (ivs L H) rfl rfl 92 (ivs 0 0) (Row.newEq _ _ _ _ _ rfl rfl) (by rw [ivs_size]; exact cellsIv) rfl (all_one (ivs_one _ _)) ?_))
  have hk0 := blw_new1 W0 (.cells #[.int .i64 0, .int .i64 0] 92) (ivs L H)
  have hl3 : g2 < W0.heap.size := by rw [HSZ.out]; omega
  refine wp_world (F := fun W => Row W w.heap.size 47 (dcs L H v i) ∧ Row W g1 26 (bcs A (pack l).length c n) ∧ Row W g2 47 (dcs 0 0 0 0) ∧ Row W W0.heap.size 92 (ivs L H) ∧ Sl W W.heap.size A (pack l).length (bl (pack l)) ∧ Below w.heap.size w W)
    ⟨rd.below hk0 rd.lt, rc.below hk0 rc.lt, ro.below hk0 ro.lt, row_new1 _ _ _ _, hS.up hk0, up_call hb hk0⟩ ?_
  generalize W0.heap.size = g3 at hl3
  clear hk0 e0 e1 rd rc ro HSZ hS hb W0
  rintro W0 ⟨rd, rc, ro, ri, hS, hb⟩
  go_upto_region 3 with fail
  by_cases hle : v ≤ q
  · obtain rfl : b = true := by rw [hbd]; exact decide_eq_true hle
    have t0 : decide (v ≤ q) = true := decide_eq_true (by omega)
    rw [show (((true : Bool).toNat : Nat) : Int) = 1 from rfl] at hpa
    have HPA := Lib.hid hpa
    clear hle hbd hpa
    have x2 : W0.drew.cell? ⟨w.heap.size, 2, none⟩ = some (.int .i64 v) := (rd.drew.cell 2).trans rfl
    have i3 := ri.drew.is (ivs_size _ _)
    have a3 := ri.drew.at
    go_region_held3 (fun W => W.cell? ⟨w.heap.size, 2, none⟩ = some (.int .i64 v) ∧ IsRow W g3 2 ∧ rowAt W g3 = ivs L H)
      (first
        | exact ⟨x2, i3, a3⟩
        | exact ⟨((rd.drew.below hb3 rd.lt).cell 2).trans rfl, (ri.drew.below hb3 ri.lt).is (ivs_size _ _), (ri.drew.below hb3 ri.lt).at⟩)
      (first
        | (go_at_call 65; refine (HSP.out _).mono ?_; rintro e w3 ⟨rfl, hb3⟩))
    all_goals
      replace rd := rd.drew.below hb3 rd.lt
      replace rc := rc.drew.below hb3 rc.lt
      replace ro := ro.drew.below hb3 ro.lt
      replace ri := ri.drew.below hb3 ri.lt
      replace hS := hS.drew.up hb3
      replace hb := up_call hb.drew hb3
      clear x2 i3 a3 hb3 HSP
      go_upto_region 6 with (first
        | (refine wpList_load_row rfl 92 _ rfl g3 rfl 92 (ivs L H) (0, 0) _ ri Try.underlying92 rfl (by rw [ivs_size]; exact cellsIv) ?_)
        | (go_at_call 57; refine (HPA.out _).mono ?_; rintro e w4 ⟨rfl, hb4⟩)
        | (refine wpList_store_row rfl 92 _ _ rfl g3 (ivs px py) rfl rfl 92 (ivs L H) (ri.below hb4 ri.lt) (by rw [ivs_size]; exact cellsIv) rfl (all_one (ivs_one _ _)) ?_))
      refine wp_world (F := fun W => Row W w.heap.size 47 (dcs L H v i) ∧ Row W g1 26 (bcs A (pack l).length c n) ∧ Row W g2 47 (dcs 0 0 0 0) ∧ Row W g3 92 (ivs px py) ∧ Sl W W.heap.size A (pack l).length (bl (pack l)) ∧ Below w.heap.size w W)
        ⟨(rd.below hb4 rd.lt).rowFar (by omega) _, (rc.below hb4 rc.lt).rowFar (by omega) _, (ro.below hb4 ro.lt).rowFar (by omega) _, Row.row (ri.below hb4 ri.lt) _, Sl.wider ((hS.up hb4).rowFar (ri.below hb4 ri.lt) (no_ivs _ _) _) (by simp), blw_row (up_call hb hb4) (by omega) _⟩ ?_
      clear rd rc ro ri hS hb hb4 HPA t0
      rintro W7 ⟨rd, rc, ro, ri, hS, hb⟩
      go_upto_region 7 with (first
        | (refine wpList_load_row rfl 92 _ rfl g3 rfl 92 (ivs px py) (0, 0) _ ri Try.underlying92 rfl (by rw [ivs_size]; exact cellsIv) ?_)
        | (go_at_call 58; refine (ioffset_any px py _).mono ?_; rintro e w2 ⟨rfl, hb2⟩))
      go_loopw [10, 11] (fun z t wr => ∃ (x y f v' i' : Nat) (s : List Nat), z = .int .i64 (offZ x y) ∧ t = .bool (moreB x y) ∧ x ≤ v' ∧ v' ≤ y ∧ y < 65536 ∧ i' + f = i + 14 ∧ Hid (65536 ≤ (y - x + 1) * 2 ^ f ∧ dblN f x y = (fL, fH, s) ∧ moveN C v' i' s = V ∧ i' + s.length = I) ∧ Row wr w.heap.size 47 (dcs L H v' i') ∧ Row wr g1 26 (bcs A (pack l).length c n) ∧ Row wr g2 47 (dcs 0 0 0 0) ∧ Row wr g3 92 (ivs x y) ∧ Sl wr wr.heap.size A (pack l).length (bl (pack l)) ∧ Below w.heap.size w wr) (fun _ _ wr => msI wr g3)
      case atStart => exact ⟨px, py, 14, v, i, fs, rfl, rfl, po1, po2, r2, rfl, Lib.hid ⟨HST.out.1, HST.out.2.1, HST.out.2.2.1.symm, HST.out.2.2.2.symm⟩, rd.below hb2 rd.lt, rc.below hb2 rc.lt, ro.below hb2 ro.lt, ri.below hb2 ri.lt, hS.up hb2, up_call hb hb2⟩
      case round =>
        clear rd rc ro ri hS hb hb2 r1 r2 po1 po2 HST
        obtain ⟨x, y, f, v', i', s, rfl, rfl, hxv, hvy, hy, hcnt, HN, rd, rc, ro, ri, hS, hb⟩ := hrel
        cases ht : twN x y with
        | none =>
          rw [more_none ht]
          obtain ⟨_, hd, hs1, hs2⟩ := HN.out
          rw [dbl_wide (tw_none hy ht)] at hd
          obtain ⟨rfl, rfl, rfl⟩ : x = fL ∧ y = fH ∧ s = [] := by injection hd with a1 a2; injection a2 with a2 a3; exact ⟨a1, a2, a3.symm⟩
          obtain rfl : v' = V := hs1
          obtain rfl : i' = I := by simpa using hs2
          clear hd hs2 HN ht hcnt hxv hvy hy
          go_upto_region 12 with fail
          have y0 : wr.drew.cell? ⟨g3, 0, none⟩ = some (.int .i64 x) := (ri.drew.cell 0).trans rfl
          have y1 : wr.drew.cell? ⟨g3, 1, none⟩ = some (.int .i64 y) := (ri.drew.cell 1).trans rfl
          have z0 : wr.drew.cell? ⟨w.heap.size, 0, none⟩ = some (.int .i64 L) := (rd.drew.cell 0).trans rfl
          have z1 : wr.drew.cell? ⟨w.heap.size, 1, none⟩ = some (.int .i64 H) := (rd.drew.cell 1).trans rfl
          have fz0 := rd.drew.free 0
          have fz1 := rd.drew.free 1
          have y0' : wr.cell? ⟨g3, 0, none⟩ = some (.int .i64 x) := (ri.cell 0).trans rfl
          have y1' : wr.cell? ⟨g3, 1, none⟩ = some (.int .i64 y) := (ri.cell 1).trans rfl
          have z0' : wr.cell? ⟨w.heap.size, 0, none⟩ = some (.int .i64 L) := (rd.cell 0).trans rfl
          have z1' : wr.cell? ⟨w.heap.size, 1, none⟩ = some (.int .i64 H) := (rd.cell 1).trans rfl
          have fz0' := rd.free 0
          have fz1' := rd.free 1
          have n1 : ¬ g3 = w.heap.size := by omega
          have n2 : ¬ w.heap.size = g3 := by omega
          go_region
          all_goals
            go_upto_region 13 with fail
            refine wp_world (F := fun W => Row W w.heap.size 47 (dcs x y v' i') ∧ Row W g2 47 (dcs 0 0 0 0) ∧ Below w.heap.size w W)
              ⟨by have := ((rd.put 0 (.int .i64 x)).put 1 (.int .i64 y)).drew; exact this, ((ro.far (by simp; omega) _).far (by simp; omega) _).drew, ((hb.setCell (Nat.le_refl _) _).setCell (Nat.le_refl _) _).drew⟩ ?_
            clear y0 y1 z0 z1 fz0 fz1 y0' y1' z0' z1' fz0' fz1' rd rc ro ri hS hb
            rintro W13 ⟨rd, ro, hb⟩
            have j0 := rd.drew.is (dcs_size _ _ _ _)
            have k0 := rd.drew.at
            have j2 := ro.drew.is (dcs_size _ _ _ _)
            have m1 : ¬ g2 = w.heap.size := by omega
            have m2 : ¬ w.heap.size = g2 := by omega
            go_region_law (fail)
            all_goals
              go_wp2
              refine bodyPost_ret (results_tmp_row Try.results50 _ _ _ g2 47 (dcs x y v' i') _ rfl rfl (Row.row ro.drew _) Try.underlying47 rfl (by rw [dcs_size]; exact cellsDc)) rfl ⟨rfl, ?_⟩
              exact blw_row hb.drew (by omega) _
        | some k =>
          obtain ⟨k1, k2, k3⟩ := tw_some (Nat.le_trans hxv hvy) hy ht
          rw [off_some ht, more_some ht]
          obtain ⟨hroom, hd, hs1, hs2⟩ := HN.out
          obtain ⟨g, rfl⟩ : ∃ g, f = g + 1 := by
            refine ⟨f - 1, ?_⟩
            have hf0 : f ≠ 0 := by
              rintro rfl
              rw [Nat.pow_zero, Nat.mul_one] at hroom
              obtain rfl : x = 0 := by omega
              obtain rfl : y = 65535 := by omega
              rw [tw_wide (by decide)] at ht
              cases ht
            omega
          rw [dbl_some ht] at hd
          have hsz : 2 * (y - 16384 * k) + 1 - 2 * (x - 16384 * k) + 1 = (y - x + 1) * 2 := by omega
          have hroom2 : 65536 ≤ (2 * (y - 16384 * k) + 1 - 2 * (x - 16384 * k) + 1) * 2 ^ g := by rw [hsz, Nat.mul_assoc, ← Nat.pow_succ']; exact hroom
          obtain ⟨t2, ht2, rfl⟩ : ∃ t2, dblN g (2 * (x - 16384 * k)) (2 * (y - 16384 * k) + 1) = (fL, fH, t2) ∧ s = k :: t2 := by
            refine ⟨(dblN g (2 * (x - 16384 * k)) (2 * (y - 16384 * k) + 1)).2.2, ?_, ?_⟩
            · injection hd with a1 a2
              injection a2 with a2 a3
              rw [← a1, ← a2]
            · injection hd with a1 a2
              injection a2 with a2 a3
              exact a3.symm
          rw [moveN] at hs1
          obtain ⟨X, hX⟩ : ∃ X, X = 2 * (x - 16384 * k) := ⟨_, rfl⟩
          obtain ⟨Y, hY⟩ : ∃ Y, Y = 2 * (y - 16384 * k) + 1 := ⟨_, rfl⟩
          have hbc := bool_lt (C i')
          obtain ⟨v2, hv2⟩ : ∃ v2, v2 = 2 * (v' - 16384 * k) + (C i').toNat := ⟨_, rfl⟩
          obtain ⟨vk, hvk⟩ : ∃ vk, vk = v' - 16384 * k := ⟨_, rfl⟩
          have HD := Lib.hid (fun w => idoubled_any x y (16384 * k) k2 (Nat.le_trans hxv hvy) hy X Y hX hY w)
          have hrd := HRD.out vk i' v2 (by omega) (by omega) (by rw [hv2, hvk])
          have hXv : X ≤ v2 := by omega
          have hvY : v2 ≤ Y := by omega
          have hYb : Y < 65536 := by omega
          have hvz : (v' : Int) - ((16384 * k : Nat) : Int) = (vk : Int) := by omega
          rw [← hX, ← hY] at hroom2 ht2
          rw [← hv2] at hs1
          have hlt : 65536 - ((Y : Int) - (X : Int)).toNat < 65536 - ((y : Int) - (x : Int)).toNat := by omega
          have HN2 := Lib.hid (And.intro hroom2 (And.intro ht2 (And.intro hs1 hs2)))
          have HOF := Lib.hid (ioffset_any X Y)
          obtain ⟨kz, hkz⟩ : ∃ z : Nat, z = 16384 * k := ⟨_, rfl⟩
          rw [← hkz] at HD hvz ⊢
          have hkb : kz ≤ 32768 := by omega
          have HVZ := Lib.hid hvz
          have HR := Lib.hid hrd
          have HC := Lib.hid hcnt
          have hv'b : v' < 65536 := by omega
          clear HN hroom hd hroom2 ht2 hs1 hs2 hsz hX hY ht k3 k2 k1 hbc hv2 hvk hrd hvz hkz hcnt hxv hvy hy
          go_upto_region 10 with (first
            | (refine wpList_load_row rfl 92 _ rfl g3 rfl 92 (ivs x y) (0, 0) _ ri Try.underlying92 rfl (by rw [ivs_size]; exact cellsIv) ?_)
            | (go_at_call 59; refine (HD.out _).mono ?_; rintro e w5 ⟨rfl, hb5⟩)
            | (refine wpList_store_row rfl 92 _ _ rfl g3 (ivs X Y) rfl rfl 92 (ivs x y) (ri.below hb5 ri.lt) (by rw [ivs_size]; exact cellsIv) rfl (all_one (ivs_one _ _)) ?_))
          have HMS := Lib.hid (msI_of ri)
          refine wp_world (F := fun W => Row W w.heap.size 47 (dcs L H v' i') ∧ Row W g1 26 (bcs A (pack l).length c n) ∧ Row W g2 47 (dcs 0 0 0 0) ∧ Row W g3 92 (ivs X Y) ∧ Sl W W.heap.size A (pack l).length (bl (pack l)) ∧ Below w.heap.size w W)
            ⟨(rd.below hb5 rd.lt).rowFar (by omega) _, (rc.below hb5 rc.lt).rowFar (by omega) _, (ro.below hb5 ro.lt).rowFar (by omega) _, Row.row (ri.below hb5 ri.lt) _, Sl.wider ((hS.up hb5).rowFar (ri.below hb5 ri.lt) (no_ivs _ _) _) (by simp), blw_row (up_call hb hb5) (by omega) _⟩ ?_
          clear rd rc ro ri hS hb hb5 HD
          rintro W10 ⟨rd, rc, ro, ri, hS, hb⟩
          have e2 : W10.cell? ⟨w.heap.size, 2, none⟩ = some (.int .i64 v') := (rd.cell 2).trans rfl
          have f2 := rd.free 2
          go_upto_region 11 with fail
          refine wp_world (F := fun W => Row W w.heap.size 47 (dcs L H vk i') ∧ Row W g1 26 (bcs A (pack l).length c n) ∧ Row W g2 47 (dcs 0 0 0 0) ∧ Row W g3 92 (ivs X Y) ∧ Sl W W.heap.size A (pack l).length (bl (pack l)) ∧ Below w.heap.size w W)
            ⟨by rw [← HVZ.out]; have := rd.put 2 (.int .i64 ((v' : Int) - (kz : Int))); exact this, rc.far (by simp; omega) _, ro.far (by simp; omega) _, ri.far (by simp; omega) _, hS.farCell rd (no_dcs _ _ _ _) _ _, hb.setCell (Nat.le_refl _) _⟩ ?_
          clear rd rc ro ri hS hb e2 f2 HVZ
          rintro W11 ⟨rd, rc, ro, ri, hS, hb⟩
          go_wp2_with (first
            | (refine wpList_load_row rfl 47 _ rfl w.heap.size rfl 47 (dcs L H vk i') (0, 0) _ rd Try.underlying47 rfl (by rw [dcs_size]; exact cellsDc) ?_)
            | (refine wpList_load_row rfl 26 _ rfl g1 rfl 26 (bcs A (pack l).length c n) (0, 0) _ rc Try.underlying26 rfl (by rw [bcs_size]; exact cellsB) ?_)
            | (go_at_call 48; refine (HR.out _ hS).mono ?_; rintro e w6 ⟨rfl, hb6⟩; have s1 := rc.below hb6 rc.lt; have s2 := ro.below hb6 ro.lt; have s3 := (ri.below hb6 ri.lt).rowFar (show g3 ≠ w.heap.size by omega) (dcs L H v2 (i' + 1 : Nat)); have sS := Sl.wider ((hS.up hb6).rowFar (rd.below hb6 rd.lt) (no_dcs _ _ _ _) (dcs L H v2 (i' + 1 : Nat))) (by simp : w6.heap.size ≤ (w6.setRow w.heap.size (dcs L H v2 (i' + 1 : Nat))).heap.size); have sd := Row.row (rd.below hb6 rd.lt) (dcs L H v2 (i' + 1 : Nat)); have sb := blw_row (up_call hb hb6) (Nat.le_refl _) (dcs L H v2 (i' + 1 : Nat)))
            | (refine wpList_store_row rfl 47 _ _ rfl w.heap.size (dcs L H v2 (i' + 1 : Nat)) rfl rfl 47 (dcs L H vk i') (rd.below hb6 rd.lt) (by rw [dcs_size]; exact cellsDc) rfl (all_one (dcs_one _ _ _ _)) ?_)
            | (refine wpList_load_row rfl 92 _ rfl g3 rfl 92 (ivs X Y) (0, 0) _ s3 Try.underlying92 rfl (by rw [ivs_size]; exact cellsIv) ?_)
            | (go_at_call 58; refine (HOF.out _).mono ?_; rintro e w7 ⟨rfl, hb7⟩))
          go_roundw
          case rel => exact ⟨X, Y, g, v2, i' + 1, t2, rfl, rfl, hXv, hvY, hYb, by have := HC.out; omega, Lib.hid ⟨HN2.out.1, HN2.out.2.1, HN2.out.2.2.1, by rw [← HN2.out.2.2.2, List.length_cons]; omega⟩, sd.below hb7 sd.lt, (s1.rowFar (by omega) _).below hb7 (s1.rowFar (by omega) (dcs L H v2 (i' + 1 : Nat))).lt, (s2.rowFar (by omega) _).below hb7 (s2.rowFar (by omega) (dcs L H v2 (i' + 1 : Nat))).lt, s3.below hb7 s3.lt, sS.up hb7, up_call sb hb7⟩
          case measure => rw [msI_of (s3.below hb7 s3.lt), HMS.out]; exact hlt
  · obtain rfl : b = false := by rw [hbd]; exact decide_eq_false hle
    have t0 : decide (v ≤ q) = false := decide_eq_false (by omega)
    rw [show (((false : Bool).toNat : Nat) : Int) = 0 from rfl] at hpa
    have HPA := Lib.hid hpa
    clear hle hbd hpa
    have x2 : W0.drew.cell? ⟨w.heap.size, 2, none⟩ = some (.int .i64 v) := (rd.drew.cell 2).trans rfl
    have i3 := ri.drew.is (ivs_size _ _)
    have a3 := ri.drew.at
    go_region_held3 (fun W => W.cell? ⟨w.heap.size, 2, none⟩ = some (.int .i64 v) ∧ IsRow W g3 2 ∧ rowAt W g3 = ivs L H)
      (first
        | exact ⟨x2, i3, a3⟩
        | exact ⟨((rd.drew.below hb3 rd.lt).cell 2).trans rfl, (ri.drew.below hb3 ri.lt).is (ivs_size _ _), (ri.drew.below hb3 ri.lt).at⟩)
      (first
        | (go_at_call 65; refine (HSP.out _).mono ?_; rintro e w3 ⟨rfl, hb3⟩))
    all_goals
      replace rd := rd.drew.below hb3 rd.lt
      replace rc := rc.drew.below hb3 rc.lt
      replace ro := ro.drew.below hb3 ro.lt
      replace ri := ri.drew.below hb3 ri.lt
      replace hS := hS.drew.up hb3
      replace hb := up_call hb.drew hb3
      clear x2 i3 a3 hb3 HSP
      go_upto_region 6 with (first
        | (refine wpList_load_row rfl 92 _ rfl g3 rfl 92 (ivs L H) (0, 0) _ ri Try.underlying92 rfl (by rw [ivs_size]; exact cellsIv) ?_)
        | (go_at_call 57; refine (HPA.out _).mono ?_; rintro e w4 ⟨rfl, hb4⟩)
        | (refine wpList_store_row rfl 92 _ _ rfl g3 (ivs px py) rfl rfl 92 (ivs L H) (ri.below hb4 ri.lt) (by rw [ivs_size]; exact cellsIv) rfl (all_one (ivs_one _ _)) ?_))
      refine wp_world (F := fun W => Row W w.heap.size 47 (dcs L H v i) ∧ Row W g1 26 (bcs A (pack l).length c n) ∧ Row W g2 47 (dcs 0 0 0 0) ∧ Row W g3 92 (ivs px py) ∧ Sl W W.heap.size A (pack l).length (bl (pack l)) ∧ Below w.heap.size w W)
        ⟨(rd.below hb4 rd.lt).rowFar (by omega) _, (rc.below hb4 rc.lt).rowFar (by omega) _, (ro.below hb4 ro.lt).rowFar (by omega) _, Row.row (ri.below hb4 ri.lt) _, Sl.wider ((hS.up hb4).rowFar (ri.below hb4 ri.lt) (no_ivs _ _) _) (by simp), blw_row (up_call hb hb4) (by omega) _⟩ ?_
      clear rd rc ro ri hS hb hb4 HPA t0
      rintro W7 ⟨rd, rc, ro, ri, hS, hb⟩
      go_upto_region 7 with (first
        | (refine wpList_load_row rfl 92 _ rfl g3 rfl 92 (ivs px py) (0, 0) _ ri Try.underlying92 rfl (by rw [ivs_size]; exact cellsIv) ?_)
        | (go_at_call 58; refine (ioffset_any px py _).mono ?_; rintro e w2 ⟨rfl, hb2⟩))
      go_loopw [10, 11] (fun z t wr => ∃ (x y f v' i' : Nat) (s : List Nat), z = .int .i64 (offZ x y) ∧ t = .bool (moreB x y) ∧ x ≤ v' ∧ v' ≤ y ∧ y < 65536 ∧ i' + f = i + 14 ∧ Hid (65536 ≤ (y - x + 1) * 2 ^ f ∧ dblN f x y = (fL, fH, s) ∧ moveN C v' i' s = V ∧ i' + s.length = I) ∧ Row wr w.heap.size 47 (dcs L H v' i') ∧ Row wr g1 26 (bcs A (pack l).length c n) ∧ Row wr g2 47 (dcs 0 0 0 0) ∧ Row wr g3 92 (ivs x y) ∧ Sl wr wr.heap.size A (pack l).length (bl (pack l)) ∧ Below w.heap.size w wr) (fun _ _ wr => msI wr g3)
      case atStart => exact ⟨px, py, 14, v, i, fs, rfl, rfl, po1, po2, r2, rfl, Lib.hid ⟨HST.out.1, HST.out.2.1, HST.out.2.2.1.symm, HST.out.2.2.2.symm⟩, rd.below hb2 rd.lt, rc.below hb2 rc.lt, ro.below hb2 ro.lt, ri.below hb2 ri.lt, hS.up hb2, up_call hb hb2⟩
      case round =>
        clear rd rc ro ri hS hb hb2 r1 r2 po1 po2 HST
        obtain ⟨x, y, f, v', i', s, rfl, rfl, hxv, hvy, hy, hcnt, HN, rd, rc, ro, ri, hS, hb⟩ := hrel
        cases ht : twN x y with
        | none =>
          rw [more_none ht]
          obtain ⟨_, hd, hs1, hs2⟩ := HN.out
          rw [dbl_wide (tw_none hy ht)] at hd
          obtain ⟨rfl, rfl, rfl⟩ : x = fL ∧ y = fH ∧ s = [] := by injection hd with a1 a2; injection a2 with a2 a3; exact ⟨a1, a2, a3.symm⟩
          obtain rfl : v' = V := hs1
          obtain rfl : i' = I := by simpa using hs2
          clear hd hs2 HN ht hcnt hxv hvy hy
          go_upto_region 12 with fail
          have y0 : wr.drew.cell? ⟨g3, 0, none⟩ = some (.int .i64 x) := (ri.drew.cell 0).trans rfl
          have y1 : wr.drew.cell? ⟨g3, 1, none⟩ = some (.int .i64 y) := (ri.drew.cell 1).trans rfl
          have z0 : wr.drew.cell? ⟨w.heap.size, 0, none⟩ = some (.int .i64 L) := (rd.drew.cell 0).trans rfl
          have z1 : wr.drew.cell? ⟨w.heap.size, 1, none⟩ = some (.int .i64 H) := (rd.drew.cell 1).trans rfl
          have fz0 := rd.drew.free 0
          have fz1 := rd.drew.free 1
          have y0' : wr.cell? ⟨g3, 0, none⟩ = some (.int .i64 x) := (ri.cell 0).trans rfl
          have y1' : wr.cell? ⟨g3, 1, none⟩ = some (.int .i64 y) := (ri.cell 1).trans rfl
          have z0' : wr.cell? ⟨w.heap.size, 0, none⟩ = some (.int .i64 L) := (rd.cell 0).trans rfl
          have z1' : wr.cell? ⟨w.heap.size, 1, none⟩ = some (.int .i64 H) := (rd.cell 1).trans rfl
          have fz0' := rd.free 0
          have fz1' := rd.free 1
          have n1 : ¬ g3 = w.heap.size := by omega
          have n2 : ¬ w.heap.size = g3 := by omega
          go_region
          all_goals
            go_upto_region 13 with fail
            refine wp_world (F := fun W => Row W w.heap.size 47 (dcs x y v' i') ∧ Row W g2 47 (dcs 0 0 0 0) ∧ Below w.heap.size w W)
              ⟨by have := ((rd.put 0 (.int .i64 x)).put 1 (.int .i64 y)).drew; exact this, ((ro.far (by simp; omega) _).far (by simp; omega) _).drew, ((hb.setCell (Nat.le_refl _) _).setCell (Nat.le_refl _) _).drew⟩ ?_
            clear y0 y1 z0 z1 fz0 fz1 y0' y1' z0' z1' fz0' fz1' rd rc ro ri hS hb
            rintro W13 ⟨rd, ro, hb⟩
            have j0 := rd.drew.is (dcs_size _ _ _ _)
            have k0 := rd.drew.at
            have j2 := ro.drew.is (dcs_size _ _ _ _)
            have m1 : ¬ g2 = w.heap.size := by omega
            have m2 : ¬ w.heap.size = g2 := by omega
            go_region_law (fail)
            all_goals
              go_wp2
              refine bodyPost_ret (results_tmp_row Try.results50 _ _ _ g2 47 (dcs x y v' i') _ rfl rfl (Row.row ro.drew _) Try.underlying47 rfl (by rw [dcs_size]; exact cellsDc)) rfl ⟨rfl, ?_⟩
              exact blw_row hb.drew (by omega) _
        | some k =>
          obtain ⟨k1, k2, k3⟩ := tw_some (Nat.le_trans hxv hvy) hy ht
          rw [off_some ht, more_some ht]
          obtain ⟨hroom, hd, hs1, hs2⟩ := HN.out
          obtain ⟨g, rfl⟩ : ∃ g, f = g + 1 := by
            refine ⟨f - 1, ?_⟩
            have hf0 : f ≠ 0 := by
              rintro rfl
              rw [Nat.pow_zero, Nat.mul_one] at hroom
              obtain rfl : x = 0 := by omega
              obtain rfl : y = 65535 := by omega
              rw [tw_wide (by decide)] at ht
              cases ht
            omega
          rw [dbl_some ht] at hd
          have hsz : 2 * (y - 16384 * k) + 1 - 2 * (x - 16384 * k) + 1 = (y - x + 1) * 2 := by omega
          have hroom2 : 65536 ≤ (2 * (y - 16384 * k) + 1 - 2 * (x - 16384 * k) + 1) * 2 ^ g := by rw [hsz, Nat.mul_assoc, ← Nat.pow_succ']; exact hroom
          obtain ⟨t2, ht2, rfl⟩ : ∃ t2, dblN g (2 * (x - 16384 * k)) (2 * (y - 16384 * k) + 1) = (fL, fH, t2) ∧ s = k :: t2 := by
            refine ⟨(dblN g (2 * (x - 16384 * k)) (2 * (y - 16384 * k) + 1)).2.2, ?_, ?_⟩
            · injection hd with a1 a2
              injection a2 with a2 a3
              rw [← a1, ← a2]
            · injection hd with a1 a2
              injection a2 with a2 a3
              exact a3.symm
          rw [moveN] at hs1
          obtain ⟨X, hX⟩ : ∃ X, X = 2 * (x - 16384 * k) := ⟨_, rfl⟩
          obtain ⟨Y, hY⟩ : ∃ Y, Y = 2 * (y - 16384 * k) + 1 := ⟨_, rfl⟩
          have hbc := bool_lt (C i')
          obtain ⟨v2, hv2⟩ : ∃ v2, v2 = 2 * (v' - 16384 * k) + (C i').toNat := ⟨_, rfl⟩
          obtain ⟨vk, hvk⟩ : ∃ vk, vk = v' - 16384 * k := ⟨_, rfl⟩
          have HD := Lib.hid (fun w => idoubled_any x y (16384 * k) k2 (Nat.le_trans hxv hvy) hy X Y hX hY w)
          have hrd := HRD.out vk i' v2 (by omega) (by omega) (by rw [hv2, hvk])
          have hXv : X ≤ v2 := by omega
          have hvY : v2 ≤ Y := by omega
          have hYb : Y < 65536 := by omega
          have hvz : (v' : Int) - ((16384 * k : Nat) : Int) = (vk : Int) := by omega
          rw [← hX, ← hY] at hroom2 ht2
          rw [← hv2] at hs1
          have hlt : 65536 - ((Y : Int) - (X : Int)).toNat < 65536 - ((y : Int) - (x : Int)).toNat := by omega
          have HN2 := Lib.hid (And.intro hroom2 (And.intro ht2 (And.intro hs1 hs2)))
          have HOF := Lib.hid (ioffset_any X Y)
          obtain ⟨kz, hkz⟩ : ∃ z : Nat, z = 16384 * k := ⟨_, rfl⟩
          rw [← hkz] at HD hvz ⊢
          have hkb : kz ≤ 32768 := by omega
          have HVZ := Lib.hid hvz
          have HR := Lib.hid hrd
          have HC := Lib.hid hcnt
          have hv'b : v' < 65536 := by omega
          clear HN hroom hd hroom2 ht2 hs1 hs2 hsz hX hY ht k3 k2 k1 hbc hv2 hvk hrd hvz hkz hcnt hxv hvy hy
          go_upto_region 10 with (first
            | (refine wpList_load_row rfl 92 _ rfl g3 rfl 92 (ivs x y) (0, 0) _ ri Try.underlying92 rfl (by rw [ivs_size]; exact cellsIv) ?_)
            | (go_at_call 59; refine (HD.out _).mono ?_; rintro e w5 ⟨rfl, hb5⟩)
            | (refine wpList_store_row rfl 92 _ _ rfl g3 (ivs X Y) rfl rfl 92 (ivs x y) (ri.below hb5 ri.lt) (by rw [ivs_size]; exact cellsIv) rfl (all_one (ivs_one _ _)) ?_))
          have HMS := Lib.hid (msI_of ri)
          refine wp_world (F := fun W => Row W w.heap.size 47 (dcs L H v' i') ∧ Row W g1 26 (bcs A (pack l).length c n) ∧ Row W g2 47 (dcs 0 0 0 0) ∧ Row W g3 92 (ivs X Y) ∧ Sl W W.heap.size A (pack l).length (bl (pack l)) ∧ Below w.heap.size w W)
            ⟨(rd.below hb5 rd.lt).rowFar (by omega) _, (rc.below hb5 rc.lt).rowFar (by omega) _, (ro.below hb5 ro.lt).rowFar (by omega) _, Row.row (ri.below hb5 ri.lt) _, Sl.wider ((hS.up hb5).rowFar (ri.below hb5 ri.lt) (no_ivs _ _) _) (by simp), blw_row (up_call hb hb5) (by omega) _⟩ ?_
          clear rd rc ro ri hS hb hb5 HD
          rintro W10 ⟨rd, rc, ro, ri, hS, hb⟩
          have e2 : W10.cell? ⟨w.heap.size, 2, none⟩ = some (.int .i64 v') := (rd.cell 2).trans rfl
          have f2 := rd.free 2
          go_upto_region 11 with fail
          refine wp_world (F := fun W => Row W w.heap.size 47 (dcs L H vk i') ∧ Row W g1 26 (bcs A (pack l).length c n) ∧ Row W g2 47 (dcs 0 0 0 0) ∧ Row W g3 92 (ivs X Y) ∧ Sl W W.heap.size A (pack l).length (bl (pack l)) ∧ Below w.heap.size w W)
            ⟨by rw [← HVZ.out]; have := rd.put 2 (.int .i64 ((v' : Int) - (kz : Int))); exact this, rc.far (by simp; omega) _, ro.far (by simp; omega) _, ri.far (by simp; omega) _, hS.farCell rd (no_dcs _ _ _ _) _ _, hb.setCell (Nat.le_refl _) _⟩ ?_
          clear rd rc ro ri hS hb e2 f2 HVZ
          rintro W11 ⟨rd, rc, ro, ri, hS, hb⟩
          go_wp2_with (first
            | (refine wpList_load_row rfl 47 _ rfl w.heap.size rfl 47 (dcs L H vk i') (0, 0) _ rd Try.underlying47 rfl (by rw [dcs_size]; exact cellsDc) ?_)
            | (refine wpList_load_row rfl 26 _ rfl g1 rfl 26 (bcs A (pack l).length c n) (0, 0) _ rc Try.underlying26 rfl (by rw [bcs_size]; exact cellsB) ?_)
            | (go_at_call 48; refine (HR.out _ hS).mono ?_; rintro e w6 ⟨rfl, hb6⟩; have s1 := rc.below hb6 rc.lt; have s2 := ro.below hb6 ro.lt; have s3 := (ri.below hb6 ri.lt).rowFar (show g3 ≠ w.heap.size by omega) (dcs L H v2 (i' + 1 : Nat)); have sS := Sl.wider ((hS.up hb6).rowFar (rd.below hb6 rd.lt) (no_dcs _ _ _ _) (dcs L H v2 (i' + 1 : Nat))) (by simp : w6.heap.size ≤ (w6.setRow w.heap.size (dcs L H v2 (i' + 1 : Nat))).heap.size); have sd := Row.row (rd.below hb6 rd.lt) (dcs L H v2 (i' + 1 : Nat)); have sb := blw_row (up_call hb hb6) (Nat.le_refl _) (dcs L H v2 (i' + 1 : Nat)))
            | (refine wpList_store_row rfl 47 _ _ rfl w.heap.size (dcs L H v2 (i' + 1 : Nat)) rfl rfl 47 (dcs L H vk i') (rd.below hb6 rd.lt) (by rw [dcs_size]; exact cellsDc) rfl (all_one (dcs_one _ _ _ _)) ?_)
            | (refine wpList_load_row rfl 92 _ rfl g3 rfl 92 (ivs X Y) (0, 0) _ s3 Try.underlying92 rfl (by rw [ivs_size]; exact cellsIv) ?_)
            | (go_at_call 58; refine (HOF.out _).mono ?_; rintro e w7 ⟨rfl, hb7⟩))
          go_roundw
          case rel => exact ⟨X, Y, g, v2, i' + 1, t2, rfl, rfl, hXv, hvY, hYb, by have := HC.out; omega, Lib.hid ⟨HN2.out.1, HN2.out.2.1, HN2.out.2.2.1, by rw [← HN2.out.2.2.2, List.length_cons]; omega⟩, sd.below hb7 sd.lt, (s1.rowFar (by omega) _).below hb7 (s1.rowFar (by omega) (dcs L H v2 (i' + 1 : Nat))).lt, (s2.rowFar (by omega) _).below hb7 (s2.rowFar (by omega) (dcs L H v2 (i' + 1 : Nat))).lt, s3.below hb7 s3.lt, sS.up hb7, up_call sb hb7⟩
          case measure => rw [msI_of (s3.below hb7 s3.lt), HMS.out]; exact hlt
end Go.Proofs.Ytcnokjiohbifeaa
