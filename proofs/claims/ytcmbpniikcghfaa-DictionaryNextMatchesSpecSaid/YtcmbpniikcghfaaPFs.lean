/-
  The contract of the package's firstTokens.
-/
import Derived.Test.YtcmbpniikcghfaaPFt
import Derived.Test.YtcmbpniikcghfaaPCat
import Derived.Test.YtcmbpniikcghfaaRCheH
namespace Go.Proofs.Ytcmbpniikcghfaa
open Go.RowKit

theorem tkc_set3 (Z : List TokZ) (i : Nat) (d n : Int) (x : UInt8) (h : i < Z.length) : (((tkc Z).set (i * 3) (.int .i64 d)).set (i * 3 + 1) (.int .i64 n)).set (i * 3 + 2) (.int .u8 (x.toNat : Int)) = tkc (Z.set i (d, n, x)) := by
  induction Z generalizing i with
  | nil => exact absurd h (Nat.not_lt_zero _)
  | cons q Z ih =>
    cases i with
    | zero => rfl
    | succ i =>
      have := ih i (by simpa using h)
      have e1 : (i + 1) * 3 = i * 3 + 3 := by omega
      rw [e1]
      show Value.int .i64 q.1 :: Value.int .i64 q.2.1 :: Value.int .u8 (q.2.2.toNat : Int) :: (((tkc Z).set (i * 3) (.int .i64 d)).set (i * 3 + 1) (.int .i64 n)).set (i * 3 + 2) (.int .u8 (x.toNat : Int)) = Value.int .i64 q.1 :: Value.int .i64 q.2.1 :: Value.int .u8 (q.2.2.toNat : Int) :: tkc (Z.set i (d, n, x))
      rw [this]
theorem row_set3 {w : World} {g : Nat} {Z : List TokZ} (r : Row w g 55 (tkc Z).toArray) (i : Nat) (h : i < Z.length) (d n : Int) (x : UInt8) (z : Int) (hz : z = (x.toNat : Int)) :
    Row (((w.setCell ⟨g, i * 3, none⟩ (.int .i64 d)).setCell ⟨g, i * 3 + 1, none⟩ (.int .i64 n)).setCell ⟨g, i * 3 + 2, none⟩ (.int .u8 z)) g 55 (tkc (Z.set i (d, n, x))).toArray := by
  have h3 := ((r.put (i * 3) (.int .i64 d)).put (i * 3 + 1) (.int .i64 n)).put (i * 3 + 2) (.int .u8 z)
  rw [← tkc_set3 Z i d n x h, ← hz]
  simpa using h3

theorem tks_row {w : World} {g n : Nat} {Z : List TokZ} (hl : Z.length = n) (r : Row w g 55 (tkc Z).toArray) : Tks w w.heap.size (some ⟨g, 0, none⟩) n Z := by
  refine ⟨hl, fun _ => ⟨_, rfl, r.lt, fun i t hi => ?_⟩⟩
  have hil : i < Z.length := (List.getElem?_eq_some_iff.1 hi).1
  obtain ⟨k1, k2, k3⟩ := tok_row r i hil
  have e : Z.getD i (0, 0, 0) = t := by rw [List.getD_eq_getElem?_getD, hi]; rfl
  rw [e] at k1 k2 k3
  rw [add_lit0]
  exact ⟨k1, k2, k3⟩
set_option maxRecDepth 100000 in
set_option maxHeartbeats 32000000 in
theorem firsttoks_any (L E : List UInt8) (N D : Nat) (hN : N = L.length) (hD : D = E.length) (hN2 : N ≤ 1024) (hD2 : D ≤ 512) (A B : Option Addr) (cd ce : Nat) (w : World) (hA : Sl w w.heap.size A N (bl L)) (hB : Sl w w.heap.size B D (bl E)) :
    Calls Try.prog 29 #[.slice A N cd, .slice B D ce] w fun e w' => (∃ G c K t ts, Tab (E ++ L) D N K t 0 ∧ e = .returned (.slice G N c) ∧ Tks w' w'.heap.size G N ts ∧ ∀ j, j < N → ts.getD j (0, 0, 0) = (t j).z) ∧ Below w.heap.size w w' := by
  obtain ⟨T, hT⟩ : ∃ T, T = D + N := ⟨_, rfl⟩
  have hT2 : T ≤ 1536 := by omega
  have hmk : ∀ w : World, (Instr.makeSlice 63 (.int .i64 ((N : Int) + 1)) (.int .i64 ((N : Int) + 1))).run Try.prog w = .ok (.slice (some ⟨w.heap.size, 0, none⟩) (N + 1) (N + 1)) (w.alloc (.cells (nl (List.replicate (N + 1) 0)).toArray 3)) := by
    intro w
    have h := run_make_row' (P := Try.prog) 63 3 (.int .i64 0) 8 Try.underlying63 infoI rfl .i64 .i64 (N + 1) (by omega) (by omega) w
    rw [made_nats] at h
    exact h
  have hmk2 : ∀ w : World, (Instr.makeSlice 63 (.int .i64 (T : Int)) (.int .i64 (T : Int))).run Try.prog w = .ok (.slice (some ⟨w.heap.size, 0, none⟩) T T) (w.alloc (.cells (nl (List.replicate T 0)).toArray 3)) := by
    intro w
    have h := run_make_row' (P := Try.prog) 63 3 (.int .i64 0) 8 Try.underlying63 infoI rfl .i64 .i64 T (by omega) (by omega) w
    rw [made_nats] at h
    exact h
  have hmt := make_tks N (by omega)
  have HA := Lib.hid hA
  have HB := Lib.hid hB
  obtain ⟨X, hX⟩ : ∃ X, X = E ++ L := ⟨_, rfl⟩
  have hXl : X.length = D + N := by rw [hX, List.length_append, ← hN, ← hD]
  have hXd : ∀ p, p < N → X.getD (D + p) 0 = L.getD p 0 := by
    intro p hp
    rw [hX, List.getD_eq_getElem?_getD, List.getD_eq_getElem?_getD, List.getElem?_append_right (by omega), show D + p - E.length = p by omega]
  have HCC := Lib.hid (fun (g : Nat) (w : World) hA hB hr => concat_any E L D N (by omega) (by omega) B A ce cd g w hA hB hr)
  rw [← hX] at HCC ⊢
  rw [← hT] at HCC
  have HX := Lib.hid (And.intro hXl hXd)
  have HT := Lib.hid hT
  clear hA hB hX hXl hXd hN hD hT
  go_enter Try.func29, Try.ntmps29
  have ha : ∀ o, Below w.heap.size w (w.alloc o) := fun o => (Below.refl _ _).alloc (Nat.le_refl _) o
  go_upto_region 2 with (first
    | (go_at_call 27; refine (HCC.out w.heap.size _ (HB.out.up (ha _)) (HA.out.up (ha _)) (Row.new _ _ _)).mono ?_; rintro e w2 ⟨v2, rfl, hown2, hk2, hb2⟩))
  obtain ⟨A2, c2, hv2, _, _⟩ := own_form hown2
  subst hv2
  have hs2 := Sl.of_own hown2
  have hbw2 := up_call (ha _) hb2
  clear hown2 hk2 hb2 ha HCC
  go_upto_region 5 with (fail)
  have hg : ∀ x y z, Below w2.heap.size w2 (((w2.alloc x).alloc y).alloc z) := fun x y z => (((Below.refl _ _).alloc (Nat.le_refl _) _).alloc (by simp) _).alloc (by simp; omega) _
  refine wp_world (F := fun W => Row W w2.heap.size 55 (tkc (List.replicate N (0, 0, 0))).toArray ∧ Row W (w2.heap.size + 1) 3 (nl (List.replicate (N + 1) 0)).toArray ∧ Row W (w2.heap.size + 1 + 1) 3 (nl (List.replicate T 0)).toArray ∧ Sl W w2.heap.size A2 T (bl X) ∧ Sl W w2.heap.size A N (bl L) ∧ w.heap.size ≤ w2.heap.size ∧ Below w.heap.size w W)
    ⟨((Row.newEq _ _ _ _ _ rfl rfl).alloc _).alloc _, (Row.newEq _ _ _ _ _ (by simp) rfl).alloc _, Row.newEq _ _ _ _ _ (by simp) rfl, hs2.below (hg _ _ _), ((HA.out.below hbw2).wider hbw2.size).below (hg _ _ _), hbw2.size, up_call hbw2 (hg _ _ _)⟩ ?_
  generalize w2.heap.size = g
  clear hg hs2 hbw2 w2 HA HB hmk hmk2 hmt
  rintro W6 ⟨rb, rc, re, hX6, hL6, hwg, hb6⟩
  have HX6 := Lib.hid hX6
  have HL6 := Lib.hid hL6
  clear hX6 hL6
  go_upto_region 6 with (fail)
  go_loopw [28] (fun i wr => ∃ (k q : Nat) (C : List Nat) (Z : List TokZ) (F : List Nat) (t : Nat → Tk), k ≤ N ∧ q ≤ N ∧ i = .int .i64 k ∧ Hid (k + q = N) ∧ Hid (Done X D N q C Z t ∧ EqTab X (D + q) F) ∧ Row wr g 55 (tkc Z).toArray ∧ Row wr (g + 1) 3 (nl C).toArray ∧ Row wr (g + 1 + 1) 3 (nl F).toArray ∧ Below g W6 wr) (fun i _ => N - (intOf i).toNat)
  case atStart => exact ⟨0, N, List.replicate (N + 1) 0, List.replicate N (0, 0, 0), List.replicate T 0, fun _ => .lit 0, Nat.zero_le _, Nat.le_refl _, rfl, Lib.hid (Nat.zero_add _), Lib.hid ⟨⟨List.length_replicate, List.length_replicate, ⟨by unfold KF; simp [List.getD_eq_getElem?_getD], fun p hp hp2 => by omega⟩, fun j hj hj2 => by omega⟩, by have h := eq_start X; rw [HX.out.1] at h; rw [HT.out]; exact h⟩, rb, rc, re, Below.refl _ _⟩
  case round =>
    clear rb rc re
    obtain ⟨k, q, C, Z, F, t, hk, hq, rfl, HKQ, HD, rb, rc, re, hbr⟩ := hrel
    by_cases hlt : k < N
    · obtain ⟨p, hp⟩ : ∃ p, q = p + 1 := ⟨q - 1, by have := HKQ.out; omega⟩
      subst hp
      have hpN : p < N := by omega
      obtain ⟨h, hh⟩ : ∃ h, h = D + p := ⟨_, rfl⟩
      have hhT : h < T := by have := HT.out; omega
      have hw1 : IntKind.i64.wrap ((N : Int) - 1) = (N : Int) - 1 := pw _ (by omega)
      have hw2 : IntKind.i64.wrap ((N : Int) - 1 - (k : Int)) = (p : Int) := by have := HKQ.out; rw [pw _ (by omega)]; omega
      have hw3 : IntKind.i64.wrap ((D : Int) + (p : Int)) = (h : Int) := by rw [pw _ (by omega)]; omega
      have HH := Lib.hid hh
      have hlt6 := rb.lt
      have hce := counteq_any X (by rw [HX.out.1, ← HT.out]; exact hT2) T (by rw [HX.out.1, HT.out]) h hhT F (by rw [hh]; exact HD.out.2) (g + 1 + 1) T A2 c2 wr (((HX6.out.below hbr).wider (by omega))) re
      have HCE := Lib.hid hce
      clear hh hce
      go_upto_region 11 with (first
        | (go_at_call 38; refine HCE.out.mono ?_; rintro e w3 ⟨rfl, ⟨F2, hF2, re3⟩, hb3⟩))
      have rb3 := rb.below hb3 (by omega)
      have rc3 := rc.below hb3 (by omega)
      have hbr3 := hbr.trans (hb3.mono (by omega))
      have HF2 := Lib.hid hF2
      clear hF2 rb rc re hbr hb3 HCE hw1 hw2 hw3 hlt6
      obtain ⟨ad, rfl, hbl, k1⟩ := (HL6.out.below hbr3).byte hpN
      obtain ⟨y, hy⟩ : ∃ y, y = L.getD p 0 := ⟨_, rfl⟩
      obtain ⟨z, hz⟩ : ∃ z : Int, z = (y.toNat : Int) := ⟨_, rfl⟩
      rw [← hy, ← hz] at k1
      have HKB : Hid (∀ W, Below g W6 W → W.cell? (ad.add p) = some (.int .u8 z)) := Lib.hid (fun W hW => by
        obtain ⟨ad2, e2, _, k2⟩ := (HL6.out.below hW).byte hpN
        injection e2 with e2
        subst e2
        rw [← hy, ← hz] at k2
        exact k2)
      obtain ⟨Q, hQ⟩ : ∃ Q, Q = h + 1 := ⟨_, rfl⟩
      have hft : ∀ W, Below w3.heap.size w3 W → Calls Try.prog 39 #[.int .u8 z, .slice (some ⟨g + 1 + 1, 0, none⟩) Q T, .slice (some ⟨g + 1, p, none⟩) (N + 1 - p) (N + 1 - p)] W fun e w' =>
          (∃ (a : Tk) (x1 x2 z : Int) (s : Nat), fits X (D + p) a ∧ (∀ b, fits X (D + p) b → ahead (KF C) p a b) ∧ s = totalT (KF C) p a ∧ s ≤ 9225 ∧ (x1 = a.z.1 ∧ x2 = a.z.2.1 ∧ z = (a.z.2.2.toNat : Int)) ∧ e = .returned (.tuple #[.agg #[.int .i64 x1, .int .i64 x2, .int .u8 z], .int .i64 (s : Int)])) ∧ Below W.heap.size W w' := fun W hW =>
        firsttok_any X D N HX.out.1 hN2 hD2 p hpN F2 (by rw [← HH.out]; exact HF2.out) C HD.out.1.1 (KF C) (fun _ _ _ => rfl) (fun j h1 h2 => by
          have := tab_le HX.out.1 HD.out.1.2.2.1 (N - j) j (by omega) (by omega)
          omega) y (by rw [HX.out.2 p hpN]; exact hy) (g + 1 + 1) (g + 1) T (N + 1 - p) Q (N + 1 - p) (by rw [hQ, HH.out]) rfl W (re3.below hW re3.lt) (rc3.below hW rc3.lt) z hz
      have HFT := Lib.hid hft
      have ww : IntKind.i64.wrap ((h : Int) + 1) = (Q : Int) := by rw [pw _ (by omega)]; omega
      have hQT : Q ≤ T := by omega
      have hQi : (Q : Int) ≤ (T : Int) := by omega
      have hnp : ¬ N + 1 = p := by omega
      have hpi : (p : Int) < (N : Int) := by omega
      have hpi1 : (p : Int) < (N : Int) + 1 := by omega
      have hpi2 : (p : Int) ≤ (N : Int) + 1 := by omega
      have hpn1 : p < N + 1 := by omega
      have hpn2 : p ≤ N + 1 := by omega
      have ng1 : ¬ g = g + 1 := by omega
      have ng2 : ¬ g + 1 = g := by omega
      have hzl : p < Z.length := by rw [HD.out.1.2.1]; exact hpN
      have hcl : p < C.length := by rw [HD.out.1.1]; omega
      have HHY := Lib.hid (And.intro hQ (And.intro hy hz))
      clear hft hQ hy hz hbl k1
      have kk0 : Below g W6 w3.drew := hbr3.drew
      have kw0 : Below w3.heap.size w3 w3.drew := (Below.refl _ _).drew
      have hg3 : g ≤ w3.heap.size := by have := rb3.lt; omega
      go_region_held3 (fun W => W.cell? (ad.add p) = some (.int .u8 z))
        (first
          | exact HKB.out _ kk0
          | exact HKB.out _ kk5
          | exact HKB.out _ (((kk5.setCell (p := ⟨g, p * 3, none⟩) (Nat.le_refl g) _).setCell (p := ⟨g, p * 3 + 1, none⟩) (Nat.le_refl g) _).setCell (p := ⟨g, p * 3 + 2, none⟩) (Nat.le_refl g) _)
          | exact HKB.out _ ((((kk5.setCell (p := ⟨g, p * 3, none⟩) (Nat.le_refl g) _).setCell (p := ⟨g, p * 3 + 1, none⟩) (Nat.le_refl g) _).setCell (p := ⟨g, p * 3 + 2, none⟩) (Nat.le_refl g) _).setCell (p := ⟨g + 1, p, none⟩) (Nat.le_succ g) _))
        (first
          | (go_at_call 39; (with_reducible refine (HFT.out _ kw0).mono ?_); rintro e w5 ⟨⟨a, x1, x2, z9, s9, hfit, hah, hs, hs9, hxz, rfl⟩, hb5⟩; have kw5 := up_call kw0 hb5; have kk5 := blw_call kk0 hg3 hb5; have rb5 := rb3.below kw5 rb3.lt; have rc5 := rc3.below kw5 rc3.lt; have re5 := re3.below kw5 re3.lt; obtain ⟨d0, d1, d2⟩ := tok_row rb5 p hzl; have f0 := rb5.free (p * 3); have f1 := rb5.free (p * 3 + 1); have f2 := rb5.free (p * 3 + 2); have d3 := cost_row rc5 p hcl; have f3 := rc5.free p; have HA5 := Lib.hid (And.intro hfit (And.intro hah (And.intro hs hxz))); clear hfit hah hs hxz))
      have HDN := Lib.hid (show Done X D N p (C.set p s9) (Z.set p a.z) (fun j => if j = p then a else t j) from
        ⟨by rw [List.length_set]; exact HD.out.1.1, by rw [List.length_set]; exact HD.out.1.2.1,
          tab_more HD.out.1.2.2.1 hpN (fun q hq => KF_set C p s9 q (by omega)) (fun q hq => if_neg (by omega)) (by simp only [if_true]; exact HA5.out.1) (by simp only [if_true]; exact HA5.out.2.1) (by simp only [if_true]; rw [KF_at C p s9 hcl]; exact HA5.out.2.2.1),
          fun j hj hjN => by
            by_cases hjp : j = p
            · subst hjp
              rw [getZ_at Z j _ hzl]
              show a.z = (if j = j then a else t j).z
              rw [if_pos rfl]
            · rw [getZ_set Z p _ j hjp]
              show _ = (if j = p then a else t j).z
              rw [if_neg hjp]
              exact HD.out.1.2.2.2 j (by omega) hjN⟩)
      have hxz := HA5.out.2.2.2
      have hzz : a.z = (x1, x2, a.z.2.2) := by rw [hxz.1, hxz.2.1]
      have rb6 := (row_set3 rb5 p hzl x1 x2 a.z.2.2 z9 hxz.2.2).far (p := ⟨g + 1, p, none⟩) (by show g ≠ g + 1; omega) (.int .i64 (s9 : Int))
      rw [← hzz] at rb6
      have rc6 := (((rc5.far (p := ⟨g, p * 3, none⟩) (by show g + 1 ≠ g; omega) (.int .i64 x1)).far (p := ⟨g, p * 3 + 1, none⟩) (by show g + 1 ≠ g; omega) (.int .i64 x2)).far (p := ⟨g, p * 3 + 2, none⟩) (by show g + 1 ≠ g; omega) (.int .u8 z9)).put p (.int .i64 (s9 : Int))
      rw [nl_put] at rc6
      have re6 := (((re5.far (p := ⟨g, p * 3, none⟩) (by show g + 1 + 1 ≠ g; omega) (.int .i64 x1)).far (p := ⟨g, p * 3 + 1, none⟩) (by show g + 1 + 1 ≠ g; omega) (.int .i64 x2)).far (p := ⟨g, p * 3 + 2, none⟩) (by show g + 1 + 1 ≠ g; omega) (.int .u8 z9)).far (p := ⟨g + 1, p, none⟩) (by show g + 1 + 1 ≠ g + 1; omega) (.int .i64 (s9 : Int))
      have hb6' := (((kk5.setCell (p := ⟨g, p * 3, none⟩) (Nat.le_refl g) (.int .i64 x1)).setCell (p := ⟨g, p * 3 + 1, none⟩) (Nat.le_refl g) (.int .i64 x2)).setCell (p := ⟨g, p * 3 + 2, none⟩) (Nat.le_refl g) (.int .u8 z9)).setCell (p := ⟨g + 1, p, none⟩) (Nat.le_succ g) (.int .i64 (s9 : Int))
      clear hzz hxz d0 d1 d2 d3 f0 f1 f2 f3 ww
      go_wp2
      go_roundw
      case rel => exact ⟨k + 1, p, _, _, F2, _, by omega, by omega, by go_num, Lib.hid (by have := HKQ.out; omega), Lib.hid ⟨HDN.out, by rw [← HH.out]; exact HF2.out⟩, rb6, rc6, re6, hb6'⟩
      case measure => simp [intOf]; omega
    · obtain rfl : k = N := by omega
      obtain rfl : q = 0 := by have := HKQ.out; omega
      go_wp2
      go_ret
      exact ⟨⟨_, _, KF C, t, Z, HD.out.1.2.2.1, rfl, tks_row HD.out.1.2.1 rb, fun j hj => HD.out.1.2.2.2 j (Nat.zero_le _) hj⟩, hb6.trans (hbr.mono hwg)⟩
end Go.Proofs.Ytcmbpniikcghfaa

