/-
  The contract of package arith's put: a bit is encoded, and the characters of the bits that are certain now are appended to a text of the caller's own.
-/
import Derived.Test.YtcnokjiohbifeaaASet
import Derived.Test.YtcnokjiohbifeaaRSteps
import Derived.Test.YtcnokjiohbifeaaRSub
import Derived.Test.YtcnokjiohbifeaaGNew
namespace Go.Proofs.Ytcnokjiohbifeaa
open Go.RowKit

/-- a result in a block and one in a slot -/
theorem results_row_tmp {P : Program} {fn : Func} {p q : Tmp} {t : TypeId} (h : fn.results = #[.cell p t, .tmp q]) (tmps : Array Value) (w : World)
    (x : Value) (g : Nat) (a : TypeId) (cs : Array Value) (d : TypeDesc)
    (hp : tmps.getD p undef = .pointer (some ⟨g, 0, none⟩)) (hq : tmps.getD q undef = x) (hg : Row w g a cs)
    (hu : P.underlying t = some d) (hd : (match d with | .struct _ | .array _ _ => true | _ => false) = true) (hi : (P.info? t).map (·.size) = some cs.size) :
    (results fn tmps).run P w = .ok (.tuple #[.agg cs, x]) w := by
  have hp' : tmps[p]?.getD undef = .pointer (some ⟨g, 0, none⟩) := by simpa using hp
  have hq' : tmps[q]?.getD undef = x := by simpa using hq
  simp [results, h, hp', hq', asAddr, run_loadVar_row w g a t cs (0, 0) d hg hu hd hi]
/-- how far a range is from the widest -/
def msI (w : World) (g : Nat) : Nat := 65536 - (intOf ((rowAt w g).getD 1 undef) - intOf ((rowAt w g).getD 0 undef)).toNat
theorem msI_of {w : World} {g : Nat} {t : TypeId} {a b : Int} (h : Row w g t (ivs a b)) : msI w g = 65536 - (b - a).toNat := by
  unfold msI
  rw [h.at]
  rfl
theorem off_some {L H k : Nat} (h : twN L H = some k) : offZ L H = ((16384 * k : Nat) : Int) := by unfold offZ; rw [h]
theorem more_some {L H k : Nat} (h : twN L H = some k) : moreB L H = true := by unfold moreB; rw [h]; rfl
theorem more_none {L H : Nat} (h : twN L H = none) : moreB L H = false := by unfold moreB; rw [h]; rfl
theorem settled (o : List Bool) (b : Bool) (P : Nat) (x : List Bool) : o ++ (b :: List.replicate P (!b) ++ x) = (o ++ b :: List.replicate P (!b)) ++ x := by simp

set_option maxRecDepth 100000 in
set_option maxHeartbeats 8000000 in
theorem aput_any (base : Nat) (v : Value) (o : List Bool) (m : Nat) (hm : m = o.length) (L H P p : Nat) (b : Bool) (h : WideR L H) (h1 : 1 ≤ p) (h2 : p ≤ 4095) (hl : m + P ≤ 900000) (w : World) (hown : w.ownsRow base 5 1 v m (bl (txL o))) (hbase : base ≤ w.heap.size) :
    Calls Try.prog 40 #[.agg (cds L H P), v, .int .i64 ((b.toNat : Nat) : Int), .int .i64 p] w fun e w' => ∃ v', e = .returned (.tuple #[.agg (cds ((stepN L H p b).1 : Nat) ((stepN L H p b).2.1 : Nat) ((sentN P (stepN L H p b).2.2).2 : Nat)), v']) ∧ w'.ownsRow base 5 1 v' (o ++ (sentN P (stepN L H p b).2.2).1).length (bl (txL (o ++ (sentN P (stepN L H p b).2.2).1))) ∧ Below base w w' ∧ KeepT 5 w w' := by
  have HPA := Lib.hid (ipart_any L H p b h h1 h2)
  obtain ⟨r1, r2, r3⟩ := part_room h h1 h2 b
  have hst : dblN 14 (partN L H p b).1 (partN L H p b).2 = stepN L H p b := rfl
  obtain ⟨fL, fH, fs, hf⟩ : ∃ fL fH fs, stepN L H p b = (fL, fH, fs) := ⟨_, _, _, rfl⟩
  rw [hf] at hst ⊢
  obtain ⟨px, py, hpart⟩ : ∃ px py, partN L H p b = (px, py) := ⟨_, _, rfl⟩
  rw [hpart] at HPA r1 r2 r3 hst
  obtain ⟨oF, PF, hsF⟩ : ∃ oF PF, sentN P fs = (oF, PF) := ⟨_, _, rfl⟩
  rw [hsF]
  simp only at r1 r2 r3 hst
  have hc2 : (cds L H P)[2]? = some (.int .i64 P) := rfl
  have HST := Lib.hid (And.intro r3 (And.intro hst hsF))
  have HM := Lib.hid hm
  have HO := Lib.hid hown
  obtain ⟨bz, hbz⟩ : ∃ z : Int, z = ((b.toNat : Nat) : Int) := ⟨_, rfl⟩
  rw [← hbz] at HPA ⊢
  clear r3 hst hf hpart hsF h h1 h2 hm hown hbz
  go_enter Try.func40, Try.ntmps40
  go_upto_region 1 with (fail)
  refine wp_world (F := fun W => Row W w.heap.size 23 (cds L H P) ∧ Row W (w.heap.size + 1) 23 (cds 0 0 0) ∧ Hid (W.ownsRow base 5 1 v m (bl (txL o))) ∧ base ≤ W.heap.size ∧ Below base w W ∧ Hid (KeepT 5 w W))
    ⟨(Row.newEq _ _ _ _ _ rfl rfl).alloc _, Row.newEq _ _ _ _ _ (by simp) rfl, Lib.hid ((HO.out.alloc _).alloc _), by simp; omega, ((Below.refl _ _).alloc hbase _).alloc (by simp; omega) _, Lib.hid (((KeepT.refl _ _).alloc _).alloc _)⟩ ?_
  clear HO
  rintro W0 ⟨rc, rr, HO, hbs, hb0, HK⟩
  have e0 : W0.cell? ⟨w.heap.size, 0, none⟩ = some (.int .i64 L) := (rc.cell 0).trans rfl
  have e1 : W0.cell? ⟨w.heap.size, 1, none⟩ = some (.int .i64 H) := (rc.cell 1).trans rfl
  go_upto_region 2 with (first
    | (go_at_call 57; refine (HPA.out _).mono ?_; rintro e w1 ⟨rfl, hb1⟩)
    | (refine wpList_store_row rfl 92 _ _ rfl w1.heap.size (ivs px py) rfl rfl 92 (ivs 0 0) (Row.newEq _ _ _ _ _ rfl rfl) (by rw [ivs_size]; exact cellsIv) rfl (all_one (ivs_one _ _)) ?_))
  clear e0 e1
  have hk1 := blw_new1 w1 (.cells #[.int .i64 0, .int .i64 0] 92) (ivs px py)
  have hk0 := up_call hb1 hk1
  refine wp_world (F := fun W => Row W w.heap.size 23 (cds L H P) ∧ Row W (w.heap.size + 1) 23 (cds 0 0 0) ∧ Row W w1.heap.size 92 (ivs px py) ∧ Hid (W.ownsRow base 5 1 v m (bl (txL o))) ∧ base ≤ W.heap.size ∧ Below base w W ∧ Hid (KeepT 5 w W))
    ⟨rc.below hk0 rc.lt, rr.below hk0 rr.lt, row_new1 _ _ _ _, Lib.hid (own_below HO.out hk0), Nat.le_trans hbs hk0.size, hb0.trans (hk0.mono hbs), Lib.hid (HK.out.below hk0)⟩ ?_
  have hgr : w.heap.size + 1 < w1.heap.size := Nat.lt_of_lt_of_le rr.lt hb1.size
  generalize w1.heap.size = gr at hgr
  clear hk1 hk0 hb1 rc rr HO hbs hb0 HK HPA W0 w1
  rintro W1 ⟨rc, rr, ri, HO, hbs, hb1, HK⟩
  have e2 := (rc.cell 2).trans hc2
  go_upto_region 3 with fail
  clear e2 rc hc2
  go_upto_region 4 with (first
    | (refine wpList_load_row rfl 92 _ rfl gr rfl 92 (ivs px py) (0, 0) _ ri Try.underlying92 rfl (by rw [ivs_size]; exact cellsIv) ?_)
    | (go_at_call 58; refine (ioffset_any px py _).mono ?_; rintro e w2 ⟨rfl, hb2⟩))
  have hb3 := hb1.trans (hb2.mono hbs)
  have rr3 := rr.below hb2 rr.lt
  have ri3 := ri.below hb2 ri.lt
  have HO3 := Lib.hid (own_below HO.out hb2)
  have HK3 := Lib.hid (HK.out.below hb2)
  have hbs3 := Nat.le_trans hbs hb2.size
  have hne : (23 : TypeId) ≠ 5 := by decide
  have hne2 : (92 : TypeId) ≠ 5 := by decide
  clear hb2 rr ri HO HK hbs hb1 W1
  go_loopw [1, 11, 12, 13] (fun v i z t wr => ∃ (x y f : Nat) (o' : List Bool) (q : Nat) (s : List Nat), i = .int .i64 (q : Int) ∧ z = .int .i64 (offZ x y) ∧ t = .bool (moreB x y) ∧ x ≤ y ∧ y < 65536 ∧ o'.length + q + f = m + P + 14 ∧ Hid (65536 ≤ (y - x + 1) * 2 ^ f ∧ dblN f x y = (fL, fH, s) ∧ o' ++ (sentN q s).1 = o ++ oF ∧ (sentN q s).2 = PF) ∧ Row wr (w.heap.size + 1) 23 (cds 0 0 0) ∧ Row wr gr 92 (ivs x y) ∧ Hid (wr.ownsRow base 5 1 v o'.length (bl (txL o'))) ∧ base ≤ wr.heap.size ∧ Below base w wr ∧ Hid (KeepT 5 w wr)) (fun _ _ _ _ wr => msI wr gr)
  case atStart => exact ⟨px, py, 14, o, P, fs, rfl, rfl, rfl, r1, r2, by rw [HM.out], Lib.hid ⟨HST.out.1, HST.out.2.1, by rw [HST.out.2.2], by rw [HST.out.2.2]⟩, rr3, ri3, by rw [← HM.out]; exact HO3, hbs3, hb3, HK3⟩
  case round =>
    clear hb3 rr3 ri3 HO3 HK3 hbs3 r1 r2 HST
    obtain ⟨x, y, f, o', q, s, rfl, rfl, rfl, hxy, hy, hcnt, HN, rr, ri, HO, hbs, hb, HK⟩ := hrel
    obtain ⟨n, hn⟩ : ∃ n, n = o'.length := ⟨_, rfl⟩
    rw [← hn] at hcnt HO
    have HNL := Lib.hid hn
    obtain ⟨A, c, hv, _, _⟩ := own_form HO.out
    subst hv
    clear hn
    cases ht : twN x y with
    | none =>
      rw [more_none ht]
      obtain ⟨_, hd, hs1, hs2⟩ := HN.out
      rw [dbl_wide (tw_none hy ht)] at hd
      obtain ⟨rfl, rfl, rfl⟩ : x = fL ∧ y = fH ∧ s = [] := by injection hd with a1 a2; injection a2 with a2 a3; exact ⟨a1, a2, a3.symm⟩
      have hoo : o' = o ++ oF := by rw [← hs1]; simp [sentN]
      obtain rfl : q = PF := by rw [← hs2]; rfl
      have HOO := Lib.hid hoo
      clear hd hs1 hs2 HN ht hoo
      have e0 : wr.cell? ⟨gr, 0, none⟩ = some (.int .i64 x) := (ri.cell 0).trans rfl
      have e1 : wr.cell? ⟨gr, 1, none⟩ = some (.int .i64 y) := (ri.cell 1).trans rfl
      go_wp2_with (first
        | (refine wpList_store_row rfl 23 _ _ rfl (w.heap.size + 1) (cds x y q) rfl rfl 23 (cds 0 0 0) rr (by rw [cds_size]; exact cellsCd) rfl (all_one (cds_one _ _ _)) ?_))
      refine bodyPost_ret (results_row_tmp Try.results40 _ _ _ (w.heap.size + 1) 23 (cds x y q) _ rfl rfl (Row.row rr _) Try.underlying23 rfl (by rw [cds_size]; exact cellsCd)) rfl ⟨_, rfl, ?_, ?_, ?_⟩
      · rw [← HOO.out, ← HNL.out]
        exact own_far HO.out (own_other HO.out rr hne) _
      · exact blw_row hb (by omega) _
      · exact KeepT.far HK.out (by omega) _
    | some k =>
      obtain ⟨k1, k2, k3⟩ := tw_some hxy hy ht
      rw [off_some ht, more_some ht]
      obtain ⟨hroom, hd, hs1, hs2⟩ := HN.out
      obtain ⟨g, rfl⟩ : ∃ g, f = g + 1 := by
        refine ⟨f - 1, ?_⟩
        have hf0 : f ≠ 0 := by
          rintro rfl
          rw [Nat.pow_zero, Nat.mul_one] at hroom
          obtain rfl : x = 0 := by omega
          obtain rfl : y = 65535 := by omega
          rw [tw_wide (by decide)] at ht
          cases ht
        omega
      rw [dbl_some ht] at hd
      have hsz : 2 * (y - 16384 * k) + 1 - 2 * (x - 16384 * k) + 1 = (y - x + 1) * 2 := by omega
      have hroom2 : 65536 ≤ (2 * (y - 16384 * k) + 1 - 2 * (x - 16384 * k) + 1) * 2 ^ g := by rw [hsz, Nat.mul_assoc, ← Nat.pow_succ']; exact hroom
      obtain ⟨t2, ht2, rfl⟩ : ∃ t2, dblN g (2 * (x - 16384 * k)) (2 * (y - 16384 * k) + 1) = (fL, fH, t2) ∧ s = k :: t2 := by
        refine ⟨(dblN g (2 * (x - 16384 * k)) (2 * (y - 16384 * k) + 1)).2.2, ?_, ?_⟩
        · injection hd with a1 a2
          injection a2 with a2 a3
          rw [← a1, ← a2]
        · injection hd with a1 a2
          injection a2 with a2 a3
          exact a3.symm
      obtain ⟨X, hX⟩ : ∃ X, X = 2 * (x - 16384 * k) := ⟨_, rfl⟩
      obtain ⟨Y, hY⟩ : ∃ Y, Y = 2 * (y - 16384 * k) + 1 := ⟨_, rfl⟩
      have HD := Lib.hid (fun w => idoubled_any x y (16384 * k) k2 hxy hy X Y hX hY w)
      rw [← hX, ← hY] at hroom2 ht2
      have hXY : X ≤ Y := by omega
      have hYb : Y < 65536 := by omega
      have hlt : 65536 - ((Y : Int) - (X : Int)).toNat < 65536 - ((y : Int) - (x : Int)).toNat := by omega
      have HN2 := Lib.hid (And.intro hroom2 ht2)
      have HOF := Lib.hid (ioffset_any X Y)
      have hq' : n + q ≤ 1000000 := by omega
      clear HN hroom hd hroom2 ht2 hsz hX hY ht k3 k2
      obtain ⟨kz, hkz⟩ : ∃ z : Nat, z = 16384 * k := ⟨_, rfl⟩
      rw [← hkz] at HD ⊢
      have HC := Lib.hid hcnt
      clear hxy hy hcnt
      obtain rfl | rfl | rfl : k = 1 ∨ k = 0 ∨ k = 2 := by omega
      · rw [sent_one] at hs1 hs2
        have HS := Lib.hid (And.intro hs1 hs2)
        obtain rfl : kz = 16384 := hkz
        clear hs1 hs2
        have hlow : w.heap.size < gr := by omega
        have hbg : base ≤ gr := by omega
        go_upto_region 7 with (first
          | (refine wpList_load_row rfl 92 _ rfl gr rfl 92 (ivs x y) (0, 0) _ ri Try.underlying92 rfl (by rw [ivs_size]; exact cellsIv) ?_)
          | (go_at_call 59; refine (HD.out _).mono ?_; rintro e w2 ⟨rfl, hb2⟩)
          | (refine wpList_store_row rfl 92 _ _ rfl gr (ivs X Y) rfl rfl 92 (ivs x y) (ri.below hb2 ri.lt) (by rw [ivs_size]; exact cellsIv) rfl (all_one (ivs_one _ _)) ?_))
        have HMS := Lib.hid (msI_of ri)
        refine wp_world (F := fun W => Row W (w.heap.size + 1) 23 (cds 0 0 0) ∧ Row W gr 92 (ivs X Y) ∧ Hid (W.ownsRow base 5 1 (.slice A n c) n (bl (txL o'))) ∧ base ≤ W.heap.size ∧ Below base w W ∧ Hid (KeepT 5 w W))
          ⟨(rr.below hb2 rr.lt).rowFar (by omega) _, Row.row (ri.below hb2 ri.lt) _, Lib.hid (own_far (own_below HO.out hb2) (own_other (own_below HO.out hb2) (ri.below hb2 ri.lt) hne2) _), Nat.le_trans hbs (Nat.le_trans hb2.size (by simp)), blw_row (hb.trans (hb2.mono hbs)) hbg _, Lib.hid (KeepT.far (HK.out.below hb2) (by omega) _)⟩ ?_
        clear rr ri HO hbs hb HK hb2 HD
        rintro W2 ⟨rr, ri, HO, hbs, hb, HK⟩
        go_wp2_with (first
          | (refine wpList_load_row rfl 92 _ rfl gr rfl 92 (ivs X Y) (0, 0) _ ri Try.underlying92 rfl (by rw [ivs_size]; exact cellsIv) ?_)
          | (go_at_call 58; refine (HOF.out _).mono ?_; rintro e w4 ⟨rfl, hb4⟩))
        have rr4 := rr.below hb4 rr.lt
        have ri4 := ri.below hb4 ri.lt
        have HO4 := Lib.hid (own_below HO.out hb4)
        have hbs4 := Nat.le_trans hbs hb4.size
        have hb4b := hb.trans (hb4.mono hbs)
        have HK4 := Lib.hid (HK.out.below hb4)
        go_roundw
        case rel => exact ⟨X, Y, g, o', q + 1, t2, by go_num, rfl, rfl, hXY, hYb, by rw [← HNL.out]; have := HC.out; omega, Lib.hid ⟨HN2.out.1, HN2.out.2, HS.out.1, HS.out.2⟩, rr4, ri4, by rw [← HNL.out]; exact HO4, hbs4, hb4b, HK4⟩
        case measure => rw [msI_of ri4, HMS.out]; exact hlt
      · rw [sent_low] at hs1 hs2
        have hs3 := (settled o' false q (sentN 0 t2).1).symm.trans hs1
        have HS := Lib.hid (And.intro hs3 hs2)
        have HSE := Lib.hid (fun w hown hbase => settle_any base (.slice A n c) o' n HNL.out false q (by omega) w hown hbase)
        have hln : (o' ++ false :: List.replicate q (!false)).length = n + 1 + q := by rw [HNL.out]; simp; omega
        have HLN := Lib.hid hln
        obtain rfl : kz = 0 := hkz
        clear hs1 hs2 hs3 hln
        have hlow : w.heap.size < gr := by omega
        have hbg : base ≤ gr := by omega
        go_upto_region 7 with (first
          | (refine wpList_load_row rfl 92 _ rfl gr rfl 92 (ivs x y) (0, 0) _ ri Try.underlying92 rfl (by rw [ivs_size]; exact cellsIv) ?_)
          | (go_at_call 59; refine (HD.out _).mono ?_; rintro e w2 ⟨rfl, hb2⟩)
          | (refine wpList_store_row rfl 92 _ _ rfl gr (ivs X Y) rfl rfl 92 (ivs x y) (ri.below hb2 ri.lt) (by rw [ivs_size]; exact cellsIv) rfl (all_one (ivs_one _ _)) ?_))
        have HMS := Lib.hid (msI_of ri)
        refine wp_world (F := fun W => Row W (w.heap.size + 1) 23 (cds 0 0 0) ∧ Row W gr 92 (ivs X Y) ∧ Hid (W.ownsRow base 5 1 (.slice A n c) n (bl (txL o'))) ∧ base ≤ W.heap.size ∧ Below base w W ∧ Hid (KeepT 5 w W))
          ⟨(rr.below hb2 rr.lt).rowFar (by omega) _, Row.row (ri.below hb2 ri.lt) _, Lib.hid (own_far (own_below HO.out hb2) (own_other (own_below HO.out hb2) (ri.below hb2 ri.lt) hne2) _), Nat.le_trans hbs (Nat.le_trans hb2.size (by simp)), blw_row (hb.trans (hb2.mono hbs)) hbg _, Lib.hid (KeepT.far (HK.out.below hb2) (by omega) _)⟩ ?_
        clear rr ri HO hbs hb HK hb2 HD
        rintro W2 ⟨rr, ri, HO, hbs, hb, HK⟩
        go_wp2_with (first
          | (go_at_call 60; refine (HSE.out _ HO.out hbs).mono ?_; rintro e w3 ⟨v3, rfl, ho3, hb3, hk3⟩; have rr3 := hk3 _ _ _ hne rr; have ri3 := hk3 _ _ _ hne2 ri; have HO3 := Lib.hid ho3; have hbs3 := Nat.le_trans hbs hb3.size; have hb3b := hb.trans hb3; have HK3 := Lib.hid (HK.out.trans hk3); clear ho3 hk3)
          | (refine wpList_load_row rfl 92 _ rfl gr rfl 92 (ivs X Y) (0, 0) _ ri3 Try.underlying92 rfl (by rw [ivs_size]; exact cellsIv) ?_)
          | (go_at_call 58; refine (HOF.out _).mono ?_; rintro e w4 ⟨rfl, hb4⟩))
        have rr4 := rr3.below hb4 rr3.lt
        have ri4 := ri3.below hb4 ri3.lt
        have HO4 := Lib.hid (own_below HO3.out hb4)
        have hbs4 := Nat.le_trans hbs3 hb4.size
        have hb4b := hb3b.trans (hb4.mono hbs3)
        have HK4 := Lib.hid (HK3.out.below hb4)
        go_roundw
        case rel => exact ⟨X, Y, g, o' ++ false :: List.replicate q (!false), 0, t2, by go_num, rfl, rfl, hXY, hYb, by rw [HLN.out]; have := HC.out; omega, Lib.hid ⟨HN2.out.1, HN2.out.2, HS.out.1, HS.out.2⟩, rr4, ri4, by rw [HLN.out]; exact HO4, hbs4, hb4b, HK4⟩
        case measure => rw [msI_of ri4, HMS.out]; exact hlt
      · rw [sent_high] at hs1 hs2
        have hs3 := (settled o' true q (sentN 0 t2).1).symm.trans hs1
        have HS := Lib.hid (And.intro hs3 hs2)
        have HSE := Lib.hid (fun w hown hbase => settle_any base (.slice A n c) o' n HNL.out true q (by omega) w hown hbase)
        have hln : (o' ++ true :: List.replicate q (!true)).length = n + 1 + q := by rw [HNL.out]; simp; omega
        have HLN := Lib.hid hln
        obtain rfl : kz = 32768 := hkz
        clear hs1 hs2 hs3 hln
        have hlow : w.heap.size < gr := by omega
        have hbg : base ≤ gr := by omega
        go_upto_region 7 with (first
          | (refine wpList_load_row rfl 92 _ rfl gr rfl 92 (ivs x y) (0, 0) _ ri Try.underlying92 rfl (by rw [ivs_size]; exact cellsIv) ?_)
          | (go_at_call 59; refine (HD.out _).mono ?_; rintro e w2 ⟨rfl, hb2⟩)
          | (refine wpList_store_row rfl 92 _ _ rfl gr (ivs X Y) rfl rfl 92 (ivs x y) (ri.below hb2 ri.lt) (by rw [ivs_size]; exact cellsIv) rfl (all_one (ivs_one _ _)) ?_))
        have HMS := Lib.hid (msI_of ri)
        refine wp_world (F := fun W => Row W (w.heap.size + 1) 23 (cds 0 0 0) ∧ Row W gr 92 (ivs X Y) ∧ Hid (W.ownsRow base 5 1 (.slice A n c) n (bl (txL o'))) ∧ base ≤ W.heap.size ∧ Below base w W ∧ Hid (KeepT 5 w W))
          ⟨(rr.below hb2 rr.lt).rowFar (by omega) _, Row.row (ri.below hb2 ri.lt) _, Lib.hid (own_far (own_below HO.out hb2) (own_other (own_below HO.out hb2) (ri.below hb2 ri.lt) hne2) _), Nat.le_trans hbs (Nat.le_trans hb2.size (by simp)), blw_row (hb.trans (hb2.mono hbs)) hbg _, Lib.hid (KeepT.far (HK.out.below hb2) (by omega) _)⟩ ?_
        clear rr ri HO hbs hb HK hb2 HD
        rintro W2 ⟨rr, ri, HO, hbs, hb, HK⟩
        go_wp2_with (first
          | (go_at_call 60; refine (HSE.out _ HO.out hbs).mono ?_; rintro e w3 ⟨v3, rfl, ho3, hb3, hk3⟩; have rr3 := hk3 _ _ _ hne rr; have ri3 := hk3 _ _ _ hne2 ri; have HO3 := Lib.hid ho3; have hbs3 := Nat.le_trans hbs hb3.size; have hb3b := hb.trans hb3; have HK3 := Lib.hid (HK.out.trans hk3); clear ho3 hk3)
          | (refine wpList_load_row rfl 92 _ rfl gr rfl 92 (ivs X Y) (0, 0) _ ri3 Try.underlying92 rfl (by rw [ivs_size]; exact cellsIv) ?_)
          | (go_at_call 58; refine (HOF.out _).mono ?_; rintro e w4 ⟨rfl, hb4⟩))
        have rr4 := rr3.below hb4 rr3.lt
        have ri4 := ri3.below hb4 ri3.lt
        have HO4 := Lib.hid (own_below HO3.out hb4)
        have hbs4 := Nat.le_trans hbs3 hb4.size
        have hb4b := hb3b.trans (hb4.mono hbs3)
        have HK4 := Lib.hid (HK3.out.below hb4)
        go_roundw
        case rel => exact ⟨X, Y, g, o' ++ true :: List.replicate q (!true), 0, t2, by go_num, rfl, rfl, hXY, hYb, by rw [HLN.out]; have := HC.out; omega, Lib.hid ⟨HN2.out.1, HN2.out.2, HS.out.1, HS.out.2⟩, rr4, ri4, by rw [HLN.out]; exact HO4, hbs4, hb4b, HK4⟩
        case measure => rw [msI_of ri4, HMS.out]; exact hlt
end Go.Proofs.Ytcnokjiohbifeaa
