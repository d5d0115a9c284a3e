/-
  The contract of the package's firstTokens: the first token of the best list for each position. The contract of the package's Decode: the tokens of bits. The contracts of the package's Cost and Encode. The contract of the package's Expand: the bytes for which tokens stand. The contract of the package's Parse; all the contracts of package lz together.
-/
import Derived.Test.YtahihgmlkcbfiaaPFt
import Derived.Test.YtahihgmlkcbfiaaPXp
import Derived.Test.YtahihgmlkcbfiaaRChe
import Derived.Test.YtahihgmlkcbfiaaPRd
import Derived.Test.YtahihgmlkcbfiaaLzK
import Derived.Test.YtahihgmlkcbfiaaPCode
import Derived.Test.YtahihgmlkcbfiaaPCost
import Derived.Test.YtahihgmlkcbfiaaRSub
import Derived.Test.YtahihgmlkcbfiaaPSm
import Derived.Test.YtahihgmlkcbfiaaGFlat
namespace Go.Proofs.Ytahihgmlkcbfiaa
open Go.RowKit

theorem tkc_set3 (Z : List TokZ) (i : Nat) (d n : Int) (x : UInt8) (h : i < Z.length) : (((tkc Z).set (i * 3) (.int .i64 d)).set (i * 3 + 1) (.int .i64 n)).set (i * 3 + 2) (.int .u8 (x.toNat : Int)) = tkc (Z.set i (d, n, x)) := by
  induction Z generalizing i with
  | nil => exact absurd h (Nat.not_lt_zero _)
  | cons q Z ih =>
    cases i with
    | zero => rfl
    | succ i =>
      have := ih i (by simpa using h)
      have e1 : (i + 1) * 3 = i * 3 + 3 := by omega
      rw [e1]
      show Value.int .i64 q.1 :: Value.int .i64 q.2.1 :: Value.int .u8 (q.2.2.toNat : Int) :: (((tkc Z).set (i * 3) (.int .i64 d)).set (i * 3 + 1) (.int .i64 n)).set (i * 3 + 2) (.int .u8 (x.toNat : Int)) = Value.int .i64 q.1 :: Value.int .i64 q.2.1 :: Value.int .u8 (q.2.2.toNat : Int) :: tkc (Z.set i (d, n, x))
      rw [this]
theorem row_set3 {w : World} {g : Nat} {Z : List TokZ} (r : Row w g 37 (tkc Z).toArray) (i : Nat) (h : i < Z.length) (d n : Int) (x : UInt8) (z : Int) (hz : z = (x.toNat : Int)) :
    Row (((w.setCell ⟨g, i * 3, none⟩ (.int .i64 d)).setCell ⟨g, i * 3 + 1, none⟩ (.int .i64 n)).setCell ⟨g, i * 3 + 2, none⟩ (.int .u8 z)) g 37 (tkc (Z.set i (d, n, x))).toArray := by
  have h3 := ((r.put (i * 3) (.int .i64 d)).put (i * 3 + 1) (.int .i64 n)).put (i * 3 + 2) (.int .u8 z)
  rw [← tkc_set3 Z i d n x h, ← hz]
  simpa using h3

theorem tks_row {w : World} {g n : Nat} {Z : List TokZ} (hl : Z.length = n) (r : Row w g 37 (tkc Z).toArray) : Tks w w.heap.size (some ⟨g, 0, none⟩) n Z := by
  refine ⟨hl, fun _ => ⟨_, rfl, r.lt, fun i t hi => ?_⟩⟩
  have hil : i < Z.length := (List.getElem?_eq_some_iff.1 hi).1
  obtain ⟨k1, k2, k3⟩ := tok_row r i hil
  have e : Z.getD i (0, 0, 0) = t := by rw [List.getD_eq_getElem?_getD, hi]; rfl
  rw [e] at k1 k2 k3
  rw [add_lit0]
  exact ⟨k1, k2, k3⟩
set_option maxRecDepth 100000 in
set_option maxHeartbeats 32000000 in
theorem firsttoks_any (L E : List UInt8) (N D : Nat) (hN : N = L.length) (hD : D = E.length) (hN2 : N ≤ 1024) (hD2 : D ≤ 512) (A B : Option Addr) (cd ce : Nat) (w : World) (hA : Sl w w.heap.size A N (bl L)) (hB : Sl w w.heap.size B D (bl E)) :
    Calls Try.prog 34 #[.slice A N cd, .slice B D ce] w fun e w' => (∃ G c K t ts, Tab (E ++ L) D N K t 0 ∧ e = .returned (.slice G N c) ∧ Tks w' w'.heap.size G N ts ∧ ∀ j, j < N → ts.getD j (0, 0, 0) = (t j).z) ∧ Below w.heap.size w w' := by
  obtain ⟨T, hT⟩ : ∃ T, T = D + N := ⟨_, rfl⟩
  have hT2 : T ≤ 1536 := by omega
  have hmk : ∀ w : World, (Instr.makeSlice 48 (.int .i64 ((N : Int) + 1)) (.int .i64 ((N : Int) + 1))).run Try.prog w = .ok (.slice (some ⟨w.heap.size, 0, none⟩) (N + 1) (N + 1)) (w.alloc (.cells (nl (List.replicate (N + 1) 0)).toArray 3)) := by
    intro w
    have h := run_make_row' (P := Try.prog) 48 3 (.int .i64 0) 8 Try.underlying48 infoI rfl .i64 .i64 (N + 1) (by omega) (by omega) w
    rw [made_nats] at h
    exact h
  have hmk2 : ∀ w : World, (Instr.makeSlice 48 (.int .i64 (T : Int)) (.int .i64 (T : Int))).run Try.prog w = .ok (.slice (some ⟨w.heap.size, 0, none⟩) T T) (w.alloc (.cells (nl (List.replicate T 0)).toArray 3)) := by
    intro w
    have h := run_make_row' (P := Try.prog) 48 3 (.int .i64 0) 8 Try.underlying48 infoI rfl .i64 .i64 T (by omega) (by omega) w
    rw [made_nats] at h
    exact h
  have hmt := make_tks N (by omega)
  have HA := Lib.hid hA
  have HB := Lib.hid hB
  obtain ⟨X, hX⟩ : ∃ X, X = E ++ L := ⟨_, rfl⟩
  have hXl : X.length = D + N := by rw [hX, List.length_append, ← hN, ← hD]
  have hXd : ∀ p, p < N → X.getD (D + p) 0 = L.getD p 0 := by
    intro p hp
    rw [hX, List.getD_eq_getElem?_getD, List.getD_eq_getElem?_getD, List.getElem?_append_right (by omega), show D + p - E.length = p by omega]
  have HCC := Lib.hid (fun (g : Nat) (w : World) hA hB hr => concat_any E L D N (by omega) (by omega) B A ce cd g w hA hB hr)
  rw [← hX] at HCC ⊢
  rw [← hT] at HCC
  have HX := Lib.hid (And.intro hXl hXd)
  have HT := Lib.hid hT
  clear hA hB hX hXl hXd hN hD hT
  go_enter Try.func34, Try.ntmps34
  have ha : ∀ o, Below w.heap.size w (w.alloc o) := fun o => (Below.refl _ _).alloc (Nat.le_refl _) o
  go_upto_region 2 with (first
    | (go_at_call 54; refine (HCC.out w.heap.size _ (HB.out.up (ha _)) (HA.out.up (ha _)) (Row.new _ _ _)).mono ?_; rintro e w2 ⟨v2, rfl, hown2, hk2, hb2⟩))
  obtain ⟨A2, c2, hv2, _, _⟩ := own_form hown2
  subst hv2
  have hs2 := Sl.of_own hown2
  have hbw2 := up_call (ha _) hb2
  clear hown2 hk2 hb2 ha HCC
  go_upto_region 5 with (fail)
  have hg : ∀ x y z, Below w2.heap.size w2 (((w2.alloc x).alloc y).alloc z) := fun x y z => (((Below.refl _ _).alloc (Nat.le_refl _) _).alloc (by simp) _).alloc (by simp; omega) _
  refine wp_world (F := fun W => Row W w2.heap.size 37 (tkc (List.replicate N (0, 0, 0))).toArray ∧ Row W (w2.heap.size + 1) 3 (nl (List.replicate (N + 1) 0)).toArray ∧ Row W (w2.heap.size + 1 + 1) 3 (nl (List.replicate T 0)).toArray ∧ Sl W w2.heap.size A2 T (bl X) ∧ Sl W w2.heap.size A N (bl L) ∧ w.heap.size ≤ w2.heap.size ∧ Below w.heap.size w W)
    ⟨((Row.newEq _ _ _ _ _ rfl rfl).alloc _).alloc _, (Row.newEq _ _ _ _ _ (by simp) rfl).alloc _, Row.newEq _ _ _ _ _ (by simp) rfl, hs2.below (hg _ _ _), ((HA.out.below hbw2).wider hbw2.size).below (hg _ _ _), hbw2.size, up_call hbw2 (hg _ _ _)⟩ ?_
  generalize w2.heap.size = g
  clear hg hs2 hbw2 w2 HA HB hmk hmk2 hmt
  rintro W6 ⟨rb, rc, re, hX6, hL6, hwg, hb6⟩
  have HX6 := Lib.hid hX6
  have HL6 := Lib.hid hL6
  clear hX6 hL6
  go_upto_region 6 with (fail)
  go_loopw [28] (fun i wr => ∃ (k q : Nat) (C : List Nat) (Z : List TokZ) (F : List Nat) (t : Nat → Tk), k ≤ N ∧ q ≤ N ∧ i = .int .i64 k ∧ Hid (k + q = N) ∧ Hid (Done X D N q C Z t ∧ EqTab X (D + q) F) ∧ Row wr g 37 (tkc Z).toArray ∧ Row wr (g + 1) 3 (nl C).toArray ∧ Row wr (g + 1 + 1) 3 (nl F).toArray ∧ Below g W6 wr) (fun i _ => N - (intOf i).toNat)
  case atStart => exact ⟨0, N, List.replicate (N + 1) 0, List.replicate N (0, 0, 0), List.replicate T 0, fun _ => .lit 0, Nat.zero_le _, Nat.le_refl _, rfl, Lib.hid (Nat.zero_add _), Lib.hid ⟨⟨List.length_replicate, List.length_replicate, ⟨by unfold KF; simp [List.getD_eq_getElem?_getD], fun p hp hp2 => by omega⟩, fun j hj hj2 => by omega⟩, by have h := eq_start X; rw [HX.out.1] at h; rw [HT.out]; exact h⟩, rb, rc, re, Below.refl _ _⟩
  case round =>
    clear rb rc re
    obtain ⟨k, q, C, Z, F, t, hk, hq, rfl, HKQ, HD, rb, rc, re, hbr⟩ := hrel
    by_cases hlt : k < N
    · obtain ⟨p, hp⟩ : ∃ p, q = p + 1 := ⟨q - 1, by have := HKQ.out; omega⟩
      subst hp
      have hpN : p < N := by omega
      obtain ⟨h, hh⟩ : ∃ h, h = D + p := ⟨_, rfl⟩
      have hhT : h < T := by have := HT.out; omega
      have hw1 : IntKind.i64.wrap ((N : Int) - 1) = (N : Int) - 1 := pw _ (by omega)
      have hw2 : IntKind.i64.wrap ((N : Int) - 1 - (k : Int)) = (p : Int) := by have := HKQ.out; rw [pw _ (by omega)]; omega
      have hw3 : IntKind.i64.wrap ((D : Int) + (p : Int)) = (h : Int) := by rw [pw _ (by omega)]; omega
      have HH := Lib.hid hh
      have hlt6 := rb.lt
      have hce := counteq_any X (by rw [HX.out.1, ← HT.out]; exact hT2) T (by rw [HX.out.1, HT.out]) h hhT F (by rw [hh]; exact HD.out.2) (g + 1 + 1) T A2 c2 wr (((HX6.out.below hbr).wider (by omega))) re
      have HCE := Lib.hid hce
      clear hh hce
      go_upto_region 11 with (first
        | (go_at_call 55; refine HCE.out.mono ?_; rintro e w3 ⟨rfl, ⟨F2, hF2, re3⟩, hb3⟩))
      have rb3 := rb.below hb3 (by omega)
      have rc3 := rc.below hb3 (by omega)
      have hbr3 := hbr.trans (hb3.mono (by omega))
      have HF2 := Lib.hid hF2
      clear hF2 rb rc re hbr hb3 HCE hw1 hw2 hw3 hlt6
      obtain ⟨ad, rfl, hbl, k1⟩ := (HL6.out.below hbr3).byte hpN
      obtain ⟨y, hy⟩ : ∃ y, y = L.getD p 0 := ⟨_, rfl⟩
      obtain ⟨z, hz⟩ : ∃ z : Int, z = (y.toNat : Int) := ⟨_, rfl⟩
      rw [← hy, ← hz] at k1
      have HKB : Hid (∀ W, Below g W6 W → W.cell? (ad.add p) = some (.int .u8 z)) := Lib.hid (fun W hW => by
        obtain ⟨ad2, e2, _, k2⟩ := (HL6.out.below hW).byte hpN
        injection e2 with e2
        subst e2
        rw [← hy, ← hz] at k2
        exact k2)
      obtain ⟨Q, hQ⟩ : ∃ Q, Q = h + 1 := ⟨_, rfl⟩
      have hft : ∀ W, Below w3.heap.size w3 W → Calls Try.prog 56 #[.int .u8 z, .slice (some ⟨g + 1 + 1, 0, none⟩) Q T, .slice (some ⟨g + 1, p, none⟩) (N + 1 - p) (N + 1 - p)] W fun e w' =>
          (∃ (a : Tk) (x1 x2 z : Int) (s : Nat), fits X (D + p) a ∧ (∀ b, fits X (D + p) b → ahead (KF C) p a b) ∧ s = totalT (KF C) p a ∧ s ≤ 9225 ∧ (x1 = a.z.1 ∧ x2 = a.z.2.1 ∧ z = (a.z.2.2.toNat : Int)) ∧ e = .returned (.tuple #[.agg #[.int .i64 x1, .int .i64 x2, .int .u8 z], .int .i64 (s : Int)])) ∧ Below W.heap.size W w' := fun W hW =>
        firsttok_any X D N HX.out.1 hN2 hD2 p hpN F2 (by rw [← HH.out]; exact HF2.out) C HD.out.1.1 (KF C) (fun _ _ _ => rfl) (fun j h1 h2 => by
          have := tab_le HX.out.1 HD.out.1.2.2.1 (N - j) j (by omega) (by omega)
          omega) y (by rw [HX.out.2 p hpN]; exact hy) (g + 1 + 1) (g + 1) T (N + 1 - p) Q (N + 1 - p) (by rw [hQ, HH.out]) rfl W (re3.below hW re3.lt) (rc3.below hW rc3.lt) z hz
      have HFT := Lib.hid hft
      have ww : IntKind.i64.wrap ((h : Int) + 1) = (Q : Int) := by rw [pw _ (by omega)]; omega
      have hQT : Q ≤ T := by omega
      have hQi : (Q : Int) ≤ (T : Int) := by omega
      have hnp : ¬ N + 1 = p := by omega
      have hpi : (p : Int) < (N : Int) := by omega
      have hpi1 : (p : Int) < (N : Int) + 1 := by omega
      have hpi2 : (p : Int) ≤ (N : Int) + 1 := by omega
      have hpn1 : p < N + 1 := by omega
      have hpn2 : p ≤ N + 1 := by omega
      have ng1 : ¬ g = g + 1 := by omega
      have ng2 : ¬ g + 1 = g := by omega
      have hzl : p < Z.length := by rw [HD.out.1.2.1]; exact hpN
      have hcl : p < C.length := by rw [HD.out.1.1]; omega
      have HHY := Lib.hid (And.intro hQ (And.intro hy hz))
      clear hft hQ hy hz hbl k1
      have kk0 : Below g W6 w3.drew := hbr3.drew
      have kw0 : Below w3.heap.size w3 w3.drew := (Below.refl _ _).drew
      have hg3 : g ≤ w3.heap.size := by have := rb3.lt; omega
      go_region_held3 (fun W => W.cell? (ad.add p) = some (.int .u8 z))
        (first
          | exact HKB.out _ kk0
          | exact HKB.out _ kk5
          | exact HKB.out _ (((kk5.setCell (p := ⟨g, p * 3, none⟩) (Nat.le_refl g) _).setCell (p := ⟨g, p * 3 + 1, none⟩) (Nat.le_refl g) _).setCell (p := ⟨g, p * 3 + 2, none⟩) (Nat.le_refl g) _)
          | exact HKB.out _ ((((kk5.setCell (p := ⟨g, p * 3, none⟩) (Nat.le_refl g) _).setCell (p := ⟨g, p * 3 + 1, none⟩) (Nat.le_refl g) _).setCell (p := ⟨g, p * 3 + 2, none⟩) (Nat.le_refl g) _).setCell (p := ⟨g + 1, p, none⟩) (Nat.le_succ g) _))
        (first
          | (go_at_call 56; (with_reducible refine (HFT.out _ kw0).mono ?_); rintro e w5 ⟨⟨a, x1, x2, z9, s9, hfit, hah, hs, hs9, hxz, rfl⟩, hb5⟩; have kw5 := up_call kw0 hb5; have kk5 := blw_call kk0 hg3 hb5; have rb5 := rb3.below kw5 rb3.lt; have rc5 := rc3.below kw5 rc3.lt; have re5 := re3.below kw5 re3.lt; obtain ⟨d0, d1, d2⟩ := tok_row rb5 p hzl; have f0 := rb5.free (p * 3); have f1 := rb5.free (p * 3 + 1); have f2 := rb5.free (p * 3 + 2); have d3 := cost_row rc5 p hcl; have f3 := rc5.free p; have HA5 := Lib.hid (And.intro hfit (And.intro hah (And.intro hs hxz))); clear hfit hah hs hxz))
      have HDN := Lib.hid (show Done X D N p (C.set p s9) (Z.set p a.z) (fun j => if j = p then a else t j) from
        ⟨by rw [List.length_set]; exact HD.out.1.1, by rw [List.length_set]; exact HD.out.1.2.1,
          tab_more HD.out.1.2.2.1 hpN (fun q hq => KF_set C p s9 q (by omega)) (fun q hq => if_neg (by omega)) (by simp only [if_true]; exact HA5.out.1) (by simp only [if_true]; exact HA5.out.2.1) (by simp only [if_true]; rw [KF_at C p s9 hcl]; exact HA5.out.2.2.1),
          fun j hj hjN => by
            by_cases hjp : j = p
            · subst hjp
              rw [getZ_at Z j _ hzl]
              show a.z = (if j = j then a else t j).z
              rw [if_pos rfl]
            · rw [getZ_set Z p _ j hjp]
              show _ = (if j = p then a else t j).z
              rw [if_neg hjp]
              exact HD.out.1.2.2.2 j (by omega) hjN⟩)
      have hxz := HA5.out.2.2.2
      have hzz : a.z = (x1, x2, a.z.2.2) := by rw [hxz.1, hxz.2.1]
      have rb6 := (row_set3 rb5 p hzl x1 x2 a.z.2.2 z9 hxz.2.2).far (p := ⟨g + 1, p, none⟩) (by show g ≠ g + 1; omega) (.int .i64 (s9 : Int))
      rw [← hzz] at rb6
      have rc6 := (((rc5.far (p := ⟨g, p * 3, none⟩) (by show g + 1 ≠ g; omega) (.int .i64 x1)).far (p := ⟨g, p * 3 + 1, none⟩) (by show g + 1 ≠ g; omega) (.int .i64 x2)).far (p := ⟨g, p * 3 + 2, none⟩) (by show g + 1 ≠ g; omega) (.int .u8 z9)).put p (.int .i64 (s9 : Int))
      rw [nl_put] at rc6
      have re6 := (((re5.far (p := ⟨g, p * 3, none⟩) (by show g + 1 + 1 ≠ g; omega) (.int .i64 x1)).far (p := ⟨g, p * 3 + 1, none⟩) (by show g + 1 + 1 ≠ g; omega) (.int .i64 x2)).far (p := ⟨g, p * 3 + 2, none⟩) (by show g + 1 + 1 ≠ g; omega) (.int .u8 z9)).far (p := ⟨g + 1, p, none⟩) (by show g + 1 + 1 ≠ g + 1; omega) (.int .i64 (s9 : Int))
      have hb6' := (((kk5.setCell (p := ⟨g, p * 3, none⟩) (Nat.le_refl g) (.int .i64 x1)).setCell (p := ⟨g, p * 3 + 1, none⟩) (Nat.le_refl g) (.int .i64 x2)).setCell (p := ⟨g, p * 3 + 2, none⟩) (Nat.le_refl g) (.int .u8 z9)).setCell (p := ⟨g + 1, p, none⟩) (Nat.le_succ g) (.int .i64 (s9 : Int))
      clear hzz hxz d0 d1 d2 d3 f0 f1 f2 f3 ww
      go_wp2
      go_roundw
      case rel => exact ⟨k + 1, p, _, _, F2, _, by omega, by omega, by go_num, Lib.hid (by have := HKQ.out; omega), Lib.hid ⟨HDN.out, by rw [← HH.out]; exact HF2.out⟩, rb6, rc6, re6, hb6'⟩
      case measure => simp [intOf]; omega
    · obtain rfl : k = N := by omega
      obtain rfl : q = 0 := by have := HKQ.out; omega
      go_wp2
      go_ret
      exact ⟨⟨_, _, KF C, t, Z, HD.out.1.2.2.1, rfl, tks_row HD.out.1.2.1 rb, fun j hj => HD.out.1.2.2.2 j (Nat.zero_le _) hj⟩, hb6.trans (hbr.mono hwg)⟩
end Go.Proofs.Ytahihgmlkcbfiaa

namespace Go.Proofs.Ytahihgmlkcbfiaa
open Go.RowKit

attribute [local go_sem ↓] wp_store_act wp_load_flat run_load_flat wp_store_flat
attribute [local go_sem] flat_litF blkOf_ptr cells_agg sizedF sizeTF aggF flat_flt sizedB sizeTB aggB flat_bcs isRow_set_eq rowAt_set_eq sizedTk sizeTTk aggTk flat_tk

theorem flat_pair (a b : Int) : Flat (.agg #[.int .i64 a, .int .i64 b]) 2 := flat_flt a b
attribute [local go_sem] flat_pair
theorem tokF_end (l : List Bool) (a c b : Nat) (t : Tk) (h : tokF l a c = .inl (t, b)) : b ≤ l.length := by
  unfold tokF at h
  split at h
  · cases h
  · split at h
    · split at h
      · cases h
      · injection h with h
        injection h with h1 h2
        omega
    · split at h
      · cases h
      · split at h
        · cases h
        · split at h
          · cases h
          · split at h
            · cases h
            · rename_i _ _ h3 _ h5 _
              injection h with h
              injection h with h1 h2
              have := gamF_end l (gamF l (a + 1)).2.1 (by simpa using h5)
              omega
theorem tokF_err (l : List Bool) (a c z : Nat) (h : tokF l a c = .inr z) : z ≠ 0 := by
  unfold tokF at h
  split at h
  · injection h with h; omega
  · split at h
    · split at h
      · injection h with h; omega
      · cases h
    · split at h
      · rename_i h3
        injection h with h
        rw [← h]; exact h3
      · split at h
        · injection h with h; omega
        · split at h
          · rename_i h3
            injection h with h
            rw [← h]; exact h3
          · split at h
            · injection h with h; omega
            · cases h

/-- append of one token: what else the world keeps -/
theorem wpList_app_tkg {ops : Array Oper} {rest : List Oper} {o : Oper} {a : Act} {w : World} {Q : Exit → Act → World → Prop} (hgd : o.guard = none) (s x : Operand)
    (ho : o.op = .call { callee := .builtin .append, args := #[s, x], argTypes := #[23, 23] })
    (base : Nat) (v : Value) (n : Nat) (ts : List TokZ) (hs : a.eval s = v) (hown : w.ownsRow base 37 3 v n (tkc ts)) (d m : Int) (z : Int) (t : TokZ) (ht : t = (d, m, t.2.2)) (hz : z = (t.2.2.toNat : Int))
    (gl c : Nat) (hx : a.eval x = .slice (some ⟨gl, 0, none⟩) 1 c) (hl : Row w gl 37 #[.int .i64 d, .int .i64 m, .int .u8 z]) (hn : n ≤ 100000) (hb : base ≤ w.heap.size)
    (h : ∀ v' w', w'.ownsRow base 37 3 v' (n + 1) (tkc (ts ++ [t])) → w.grownBy w' v.ownBlock → wpList Try.prog ops Q rest (a.put o.dst v') w') : wpList Try.prog ops Q (o :: rest) a w := by
  obtain ⟨i, hi, hi1, hi2, hi3⟩ : ∃ i, Try.prog.info? 37 = some i ∧ i.zero = some (.agg #[.int .i64 0, .int .i64 0, .int .u8 0]) ∧ i.size = 3 ∧ i.bytes = 24 := by
    cases hi : Try.prog.info? 37 with
    | none => have := infoT; rw [hi] at this; cases this
    | some i =>
      have := infoT
      rw [hi] at this
      simp only [Option.map_some, Option.some.injEq, Prod.mk.injEq] at this
      exact ⟨i, rfl, this.1, this.2.1, this.2.2⟩
  have hnews : ∀ j u, (tkc [t])[j]? = some u → w.cell? ((⟨gl, 0, none⟩ : Addr).add j) = some u := by
    intro j u hu
    have hadd : (⟨gl, 0, none⟩ : Addr).add j = ⟨gl, j, none⟩ := add_lit0 gl j
    have he : tkc [t] = #[Value.int .i64 d, Value.int .i64 m, Value.int .u8 z].toList := by rw [ht, hz]; rfl
    rw [hadd, hl.cell, ← hu, he, Array.getElem?_toList]
  have h1 : ∀ u ∈ tkc [t], u.oneCell' = true := by
    intro u hu
    simp only [tkc, List.mem_cons, List.not_mem_nil, or_false] at hu
    rcases hu with rfl | rfl | rfl <;> rfl
  obtain ⟨v', w', hrun, h2, h3, _⟩ := run_append_own (P := Try.prog) w base 23 o.type 37 i _ 3 24 Try.underlying23 hi hi1 hi2 hi3 rfl (by omega) v n (tkc ts) hown ⟨gl, 0, none⟩ 1 c (tkc [t]) rfl hnews h1 (by unfold maxLen; omega) (by omega) hb
  rw [← tkc_append] at h2
  exact Lib.wpList_append_run w hgd s x _ _ ho v _ hs hx v' w' hrun (h v' w' h2 h3)

set_option maxRecDepth 100000 in
set_option maxHeartbeats 4000000 in
theorem lzdec_form : PDecForm := by
  intro L k hG c A d w hS
  have HV := Lib.hid (fun w hS => valid_no L k hG A d w hS)
  go_enter Try.func27, Try.ntmps27
  go_upto_region 1 with (fail)
  have ha : ∀ x y, Below w.heap.size w ((w.alloc x).alloc y) := fun x y => ((Below.refl _ _).alloc (Nat.le_refl _) _).alloc (by simp) _
  refine wp_world (F := fun W => Row W w.heap.size 43 (bcs A L.length d k) ∧ Row W (w.heap.size + 1) 25 (flt 0 0) ∧ Sl W W.heap.size A L.length (bl L) ∧ Below w.heap.size w W)
    ⟨(Row.newEq _ _ _ _ _ rfl rfl).alloc _, Row.newEq _ _ _ _ _ (by simp) rfl, hS.up (ha _ _), ha _ _⟩ ?_
  clear ha hS
  rintro W0 ⟨r0, r1, hS, hb⟩
  go_wp2_with (first
    | (refine wpList_load_row rfl 43 _ rfl w.heap.size rfl 43 (bcs A L.length d k) (0, 0) _ r0 Try.underlying43 rfl (by rw [bcs_size]; exact cellsB) ?_)
    | (go_at_call 46; refine (HV.out _ hS).mono ?_; rintro e w1 ⟨rfl, hb1⟩; have q1 := r1.below hb1 r1.lt; have hba := up_call hb hb1)
    | (refine wpList_store_row rfl 25 _ _ rfl (w.heap.size + 1) (flt 6 (-1)) rfl rfl 25 (flt 0 0) q1 (by rw [flt_size]; exact cellsF) rfl (all_one (flt_one _ _)) ?_))
  refine bodyPost_ret (results_tmp2_row Try.results27 _ _ _ _ (w.heap.size + 1) 25 (flt 6 (-1)) _ rfl rfl rfl (Row.row q1 _) Try.underlying25 rfl (by rw [flt_size]; exact cellsF)) rfl ⟨⟨_, _, rfl⟩, ?_⟩
  exact blw_row hba (by omega) _

set_option maxRecDepth 100000 in
set_option maxHeartbeats 4000000 in
theorem lzdec_range : PDecRange := by
  intro l hl c hc A d w hS
  have HV := Lib.hid (fun w hS => valid_yes (pack l) l (pack_rep l) hl A d w hS)
  rcases hc with hc | hc
  · have s1 : decide (c < 0) = true := decide_eq_true hc
    go_enter Try.func27, Try.ntmps27
    go_upto_region 1 with (fail)
    have ha : ∀ x y, Below w.heap.size w ((w.alloc x).alloc y) := fun x y => ((Below.refl _ _).alloc (Nat.le_refl _) _).alloc (by simp) _
    refine wp_world (F := fun W => Row W w.heap.size 43 (bcs A (pack l).length d l.length) ∧ Row W (w.heap.size + 1) 25 (flt 0 0) ∧ Sl W W.heap.size A (pack l).length (bl (pack l)) ∧ Below w.heap.size w W)
      ⟨(Row.newEq _ _ _ _ _ rfl rfl).alloc _, Row.newEq _ _ _ _ _ (by simp) rfl, hS.up (ha _ _), ha _ _⟩ ?_
    clear ha hS
    rintro W0 ⟨r0, r1, hS, hb⟩
    go_wp2_with (first
      | (refine wpList_load_row rfl 43 _ rfl w.heap.size rfl 43 (bcs A (pack l).length d l.length) (0, 0) _ r0 Try.underlying43 rfl (by rw [bcs_size]; exact cellsB) ?_)
      | (go_at_call 46; refine (HV.out _ hS).mono ?_; rintro e w1 ⟨rfl, hb1⟩; have q1 := r1.below hb1 r1.lt; have hba := up_call hb hb1)
      | (refine wpList_store_row rfl 25 _ _ rfl (w.heap.size + 1) (flt 4 (-2)) rfl rfl 25 (flt 0 0) q1 (by rw [flt_size]; exact cellsF) rfl (all_one (flt_one _ _)) ?_))
    refine bodyPost_ret (results_tmp2_row Try.results27 _ _ _ _ (w.heap.size + 1) 25 (flt 4 (-2)) _ rfl rfl rfl (Row.row q1 _) Try.underlying25 rfl (by rw [flt_size]; exact cellsF)) rfl ⟨⟨_, _, rfl⟩, ?_⟩
    exact blw_row hba (by omega) _
  · have s1 : decide (c < 0) = false := decide_eq_false (by omega)
    have s2 : decide (1024 < c) = true := decide_eq_true hc
    go_enter Try.func27, Try.ntmps27
    go_upto_region 1 with (fail)
    have ha : ∀ x y, Below w.heap.size w ((w.alloc x).alloc y) := fun x y => ((Below.refl _ _).alloc (Nat.le_refl _) _).alloc (by simp) _
    refine wp_world (F := fun W => Row W w.heap.size 43 (bcs A (pack l).length d l.length) ∧ Row W (w.heap.size + 1) 25 (flt 0 0) ∧ Sl W W.heap.size A (pack l).length (bl (pack l)) ∧ Below w.heap.size w W)
      ⟨(Row.newEq _ _ _ _ _ rfl rfl).alloc _, Row.newEq _ _ _ _ _ (by simp) rfl, hS.up (ha _ _), ha _ _⟩ ?_
    clear ha hS
    rintro W0 ⟨r0, r1, hS, hb⟩
    go_wp2_with (first
      | (refine wpList_load_row rfl 43 _ rfl w.heap.size rfl 43 (bcs A (pack l).length d l.length) (0, 0) _ r0 Try.underlying43 rfl (by rw [bcs_size]; exact cellsB) ?_)
      | (go_at_call 46; refine (HV.out _ hS).mono ?_; rintro e w1 ⟨rfl, hb1⟩; have q1 := r1.below hb1 r1.lt; have hba := up_call hb hb1)
      | (refine wpList_store_row rfl 25 _ _ rfl (w.heap.size + 1) (flt 4 (-2)) rfl rfl 25 (flt 0 0) q1 (by rw [flt_size]; exact cellsF) rfl (all_one (flt_one _ _)) ?_))
    refine bodyPost_ret (results_tmp2_row Try.results27 _ _ _ _ (w.heap.size + 1) 25 (flt 4 (-2)) _ rfl rfl rfl (Row.row q1 _) Try.underlying25 rfl (by rw [flt_size]; exact cellsF)) rfl ⟨⟨_, _, rfl⟩, ?_⟩
    exact blw_row hba (by omega) _

set_option maxRecDepth 100000 in
set_option maxHeartbeats 16000000 in
theorem lzdec_any : PDec := by
  intro l hl c0 hc0 A d w hS
  obtain ⟨r, hr⟩ : ∃ r, r = decF l c0 0 c0 [] := ⟨_, rfl⟩
  rw [← hr]
  have s1 : decide ((c0 : Int) < 0) = false := decide_eq_false (by omega)
  have s2 : decide ((1024 : Int) < (c0 : Int)) = false := decide_eq_false (by omega)
  have HVA := Lib.hid (fun w hS => valid_yes (pack l) l (pack_rep l) hl A d w hS)
  have HR0 := Lib.hid hr
  have HRD := Lib.hid (fun a ha m hm w hS => read_any l hl a ha m hm A d w hS)
  clear hr
  go_enter Try.func27, Try.ntmps27
  go_upto_region 1 with (fail)
  have ha : ∀ x y, Below w.heap.size w ((w.alloc x).alloc y) := fun x y => ((Below.refl _ _).alloc (Nat.le_refl _) _).alloc (by simp) _
  refine wp_world (F := fun W => Row W w.heap.size 43 (bcs A (pack l).length d l.length) ∧ Row W (w.heap.size + 1) 25 (flt 0 0) ∧ Sl W W.heap.size A (pack l).length (bl (pack l)) ∧ Below w.heap.size w W)
    ⟨(Row.newEq _ _ _ _ _ rfl rfl).alloc _, Row.newEq _ _ _ _ _ (by simp) rfl, hS.up (ha _ _), ha _ _⟩ ?_
  have HS := Lib.hid hS
  clear ha hS
  rintro W0 ⟨r0, r1, hS, hb⟩
  go_upto_region 5 with (first
    | (refine wpList_load_row rfl 43 _ rfl w.heap.size rfl 43 (bcs A (pack l).length d l.length) (0, 0) _ r0 Try.underlying43 rfl (by rw [bcs_size]; exact cellsB) ?_)
    | (go_at_call 46; refine (HVA.out _ hS).mono ?_; rintro e w1 ⟨rfl, hb1⟩; have q0 := r0.below hb1 r0.lt; have q1 := r1.below hb1 r1.lt; have hba := up_call hb hb1))
  clear hS r0 r1 hb hb1 W0 s1 s2 HVA
  go_upto_region 8 with (fail)
  go_loopw [7, 8, 9] (fun v i x wr => ∃ (c a m f : Nat) (o : List Tk), c ≤ 1024 ∧ c ≤ f ∧ x = .int .i64 c ∧ i = .int .i64 a ∧ a ≤ l.length ∧ m + c ≤ 1024 ∧ Hid (r = decF l f a c o ∧ m = o.length) ∧ Hid (wr.ownsRow w.heap.size 37 3 v m (tkc (tz o))) ∧ Row wr w.heap.size 43 (bcs A (pack l).length d l.length) ∧ Row wr (w.heap.size + 1) 25 (flt 0 0) ∧ Below w.heap.size w wr) (fun _ _ x _ => (intOf x).toNat)
  case atStart => exact ⟨c0, 0, 0, c0, [], hc0, Nat.le_refl _, rfl, rfl, Nat.zero_le _, by omega, Lib.hid ⟨HR0.out, rfl⟩, Lib.hid (World.ownsRow_nil _ _ _ _), q0, q1, hba⟩
  case round =>
    clear q0 q1 hba
    obtain ⟨c, a, m, f, o, hc, hcf, rfl, rfl, han, hmc, HR, HV, r0, r1, hb1⟩ := hrel
    obtain ⟨A7, c7, hv7, _, _⟩ := own_form3 HV.out
    subst hv7
    by_cases hc1 : 1 ≤ c
    · obtain ⟨f, rfl⟩ : ∃ g, f = g + 1 := ⟨f - 1, by omega⟩
      have s0 : decide ((0 : Int) < (c : Int)) = true := decide_eq_true (by omega)
      have s0' : decide (0 < c) = true := decide_eq_true (by omega)
      have hrd := fun w hS => HRD.out a han c hc w hS
      obtain ⟨tf, htf⟩ : ∃ tf, tokF l a c = tf := ⟨_, rfl⟩
      rw [htf] at hrd
      have hr0 := HR.out.1
      cases tf with
      | inr z =>
        have hz := tokF_err l a c z htf
        rw [decF_err l f a c z o hc1 htf] at hr0
        have HRE := Lib.hid hr0
        have HRX := Lib.hid hrd
        have hnq := neq_badF (z : Int)
        clear hr0 htf hrd
        go_upto_region 10 with (first
          | (refine wpList_load_row rfl 43 _ rfl w.heap.size rfl 43 (bcs A (pack l).length d l.length) (0, 0) _ r0 Try.underlying43 rfl (by rw [bcs_size]; exact cellsB) ?_)
          | (go_at_call 47; refine (HRX.out _ (HS.out.up hb1)).mono ?_; rintro e w4 ⟨⟨td, tn, tx, tb, tk, ti, hq, rfl⟩, hb4⟩; have hq' : tk = (z : Int) := hq; subst hq')
          | (refine wpList_store_row rfl 37 _ _ rfl w4.heap.size #[.int .i64 td, .int .i64 tn, .int .u8 tx] rfl rfl 37 #[.int .i64 0, .int .i64 0, .int .u8 0] ((Row.newEq _ _ _ _ _ rfl rfl).alloc _) cellsT rfl (all_tk _ _ _) ?_)
          | (refine wpList_store_row rfl 25 _ _ rfl (w4.heap.size + 1) (flt (z : Int) ti) rfl rfl 25 (flt 0 0) (row_far_new2 _ _ _ _ _ _) (by rw [flt_size]; exact cellsF) rfl (all_one (flt_one _ _)) ?_))
        have hk2 := blw_new2 w4 (.cells #[.int .i64 0, .int .i64 0, .int .u8 0] 37) (.cells #[.int .i64 0, .int .i64 0] 25) #[.int .i64 td, .int .i64 tn, .int .u8 tx] (flt (z : Int) ti)
        have hk3 := up_call hb4 hk2
        refine wp_world (F := fun W => Row W (w.heap.size + 1) 25 (flt 0 0) ∧ Row W (w4.heap.size + 1) 25 (flt (z : Int) ti) ∧ Below w.heap.size w W)
          ⟨r1.below hk3 r1.lt, row_new2b _ _ _ _ _ _ _, up_call hb1 hk3⟩ ?_
        have hg8 : w.heap.size + 1 < w4.heap.size := Nat.lt_of_lt_of_le r1.lt hb4.size
        generalize w4.heap.size = g8 at hg8
        clear hk2 hk3 hb4 r0 r1 hb1 w4 HRX hq HV wr
        rintro W1 ⟨r1, r9, hb⟩
        have hnq2 := hnq ti (by omega)
        go_upto_region 11 with (first
          | (refine wpList_load_row rfl 25 _ rfl (g8 + 1) rfl 25 (flt (z : Int) ti) (0, 0) _ r9 Try.underlying25 rfl (by rw [flt_size]; exact cellsF) ?_))
        have e9 : W1.drew.cell? ⟨g8 + 1, 0, none⟩ = some (.int .i64 (z : Int)) := (r9.drew.cell 0).trans rfl
        have i9 := r9.drew.is (flt_size _ _)
        have a9 := r9.drew.at
        have i1 := r1.drew.is (flt_size _ _)
        have q1 := r1.drew
        have n1 : ¬ g8 + 1 = w.heap.size + 1 := by omega
        have n2 : ¬ w.heap.size + 1 = g8 + 1 := by omega
        go_region_law (fail)
        all_goals
          go_wp2
          refine bodyPost_ret (results_tmp2_row Try.results27 _ _ _ _ (w.heap.size + 1) 25 (flt (z : Int) a) _ rfl rfl rfl (Row.row q1 _) Try.underlying25 rfl (by rw [flt_size]; exact cellsF)) rfl ?_
          refine ⟨?_, blw_row hb.drew (by omega) _⟩
          rw [HRE.out]
          exact ⟨_, _, rfl⟩
      | inl tp =>
        obtain ⟨t, p⟩ := tp
        have hnx := decF_next l f a c p t o hc1 htf
        rw [hnx] at hr0
        have hend := tokF_end l a c p t htf
        obtain ⟨hl1, hl2⟩ := tokF_len l a c p t htf
        have hl3 := hl2 hc1
        have hsz := size_len t hl1
        obtain ⟨tl, htl⟩ : ∃ tl, tl = t.len := ⟨_, rfl⟩
        rw [← htl] at hl1 hl3 hsz hr0
        obtain ⟨x1, x2, x3, hz3⟩ : ∃ a b c, t.z = (a, b, c) := ⟨_, _, _, rfl⟩
        obtain ⟨z3, hzz3⟩ : ∃ z : Int, z = (x3.toNat : Int) := ⟨_, rfl⟩
        have HRX : Hid (∀ w, Sl w w.heap.size A (pack l).length (bl (pack l)) → Calls Try.prog 47 #[.agg (bcs A (pack l).length d l.length), .int .i64 (a : Int), .int .i64 (c : Int)] w fun e w' => e = .returned (.tuple #[.agg #[.int .i64 x1, .int .i64 x2, .int .u8 z3], .int .i64 (p : Int), .agg (flt 0 0)]) ∧ Below w.heap.size w w') := Lib.hid (fun w hS => (hrd w hS).mono fun e w' h => by
          obtain ⟨⟨d', n', x', b', k', i', ⟨h1, h2, h3, h4, h5, h6⟩, rfl⟩, hb⟩ := h
          rw [hz3] at h1 h2 h3
          simp only at h1 h2 h3
          subst h1 h2 h4 h5 h6
          rw [hzz3, ← h3]
          exact ⟨rfl, hb⟩)
        rw [hz3] at hsz
        simp only at hsz
        unfold tcs at hsz
        rw [← hzz3] at hsz
        have HZ3 := Lib.hid (And.intro hz3 hzz3)
        have HRE := Lib.hid hr0
        have HSZ := Lib.hid hsz
        have hnq : ∀ w : World, (binOp .neq 25 (.agg (flt 0 0)) (.agg #[.int .i64 0, .int .i64 0])).run Try.prog w = .ok (.bool false) w := fun w => neq_flt 0 0 0 0 w
        clear hr0 htf hrd hnx hl2 hz3 hzz3 hsz htl
        go_upto_region 10 with (first
          | (refine wpList_load_row rfl 43 _ rfl w.heap.size rfl 43 (bcs A (pack l).length d l.length) (0, 0) _ r0 Try.underlying43 rfl (by rw [bcs_size]; exact cellsB) ?_)
          | (go_at_call 47; refine (HRX.out _ (HS.out.up hb1)).mono ?_; rintro e w4 ⟨rfl, hb4⟩)
          | (refine wpList_store_row rfl 37 _ _ rfl w4.heap.size #[.int .i64 x1, .int .i64 x2, .int .u8 z3] rfl rfl 37 #[.int .i64 0, .int .i64 0, .int .u8 0] ((Row.newEq _ _ _ _ _ rfl rfl).alloc _) cellsT rfl (all_tk _ _ _) ?_)
          | (refine wpList_store_row rfl 25 _ _ rfl (w4.heap.size + 1) (flt 0 0) rfl rfl 25 (flt 0 0) (row_far_new2 _ _ _ _ _ _) (by rw [flt_size]; exact cellsF) rfl (all_one (flt_one _ _)) ?_))
        have hk2 := blw_new2 w4 (.cells #[.int .i64 0, .int .i64 0, .int .u8 0] 37) (.cells #[.int .i64 0, .int .i64 0] 25) #[.int .i64 x1, .int .i64 x2, .int .u8 z3] (flt 0 0)
        have hk3 := up_call hb4 hk2
        refine wp_world (F := fun W => Row W w.heap.size 43 (bcs A (pack l).length d l.length) ∧ Row W (w.heap.size + 1) 25 (flt 0 0) ∧ Row W w4.heap.size 37 #[.int .i64 x1, .int .i64 x2, .int .u8 z3] ∧ Row W (w4.heap.size + 1) 25 (flt 0 0) ∧ Hid (W.ownsRow w.heap.size 37 3 (.slice A7 m c7) m (tkc (tz o))) ∧ Below w.heap.size w W)
          ⟨r0.below hk3 r0.lt, r1.below hk3 r1.lt, row_new2a _ _ _ _ _ _ _, row_new2b _ _ _ _ _ _ _, Lib.hid (own_below3 HV.out hk3), up_call hb1 hk3⟩ ?_
        have hne : ∀ b, (Value.slice A7 m c7).ownBlock = some b → b < w4.heap.size := fun b hb => Nat.lt_of_lt_of_le (HV.out.lt b hb).2 hb4.size
        have HNE := Lib.hid hne
        clear hne
        generalize w4.heap.size = g8 at HNE
        clear hk2 hk3 hb4 r0 r1 hb1 w4 HRX HV wr
        rintro W1 ⟨r0, r1, rt, r9, HV, hb⟩
        have c0' := (rt.cell 0).trans rfl
        have c1' := (rt.cell 1).trans rfl
        have c2' := (rt.cell 2).trans rfl
        go_upto_region 14 with (first
          | (refine wpList_load_row rfl 25 _ rfl (g8 + 1) rfl 25 (flt 0 0) (0, 0) _ r9 Try.underlying25 rfl (by rw [flt_size]; exact cellsF) ?_)
          | (refine wpList_load_row rfl 37 _ rfl g8 rfl 37 #[.int .i64 x1, .int .i64 x2, .int .u8 z3] (0, 0) _ rt Try.underlying37 rfl cellsT ?_)
          | (refine wpList_tk rfl _ rfl x1 x2 z3 rfl ?_)
          | (at_builtin; refine wpList_app_tkg rfl _ _ rfl w.heap.size _ m (tz o) rfl (own_below3 HV.out ((Below.refl _ _).alloc (Nat.le_refl _) _)) x1 x2 z3 (x1, x2, x3) rfl HZ3.out.2 W1.heap.size 1 rfl (Row.new _ _ _) (by omega) (Nat.le_trans hb.size (by simp)) ?_; intro v8 w8 hown8 hg8))
        have howna := own_below3 HV.out ((Below.refl W1.heap.size W1).alloc (Nat.le_refl _) (.cells #[.int .i64 x1, .int .i64 x2, .int .u8 z3] 37))
        have hk8 := keep_grown3 howna hg8
        have hb8 := blw_grown3 (Below.refl _ _) hg8 (Nat.le_trans hb.size (by simp)) howna (Nat.le_refl _)
        have qt := (rt.alloc (.cells #[.int .i64 x1, .int .i64 x2, .int .u8 z3] 37)).grown hg8 (fun h => Nat.lt_irrefl _ (HNE.out _ h.symm))
        have q0 := hk8 _ _ _ (by decide) (r0.alloc (.cells #[.int .i64 x1, .int .i64 x2, .int .u8 z3] 37))
        have q1 := hk8 _ _ _ (by decide) (r1.alloc (.cells #[.int .i64 x1, .int .i64 x2, .int .u8 z3] 37))
        have hb9 := (up_alloc hb (.cells #[.int .i64 x1, .int .i64 x2, .int .u8 z3] 37)).trans hb8
        have HV8 := Lib.hid hown8
        have e0 := (qt.cell 0).trans rfl
        have e1 := (qt.cell 1).trans rfl
        have e2 := (qt.cell 2).trans rfl
        clear hown8 hg8 howna hk8 hb8 r0 r1 rt r9 HV hb c0' c1' c2'
        go_wp2_with (first
          | (refine wpList_load_row rfl 37 _ rfl g8 rfl 37 #[.int .i64 x1, .int .i64 x2, .int .u8 z3] (0, 0) _ qt Try.underlying37 rfl cellsT ?_)
          | (go_at_call 35; refine (HSZ.out _).mono ?_; rintro e w6 ⟨rfl, hb6⟩))
        go_roundw
        case rel => exact ⟨c - tl, p, m + 1, f, o ++ [t], by omega, by omega, by go_num, by go_num, hend, by omega, Lib.hid ⟨HRE.out, by rw [List.length_append, ← HR.out.2]; rfl⟩, Lib.hid (own_below3 (by rw [tz_append, show tz [t] = [(x1, x2, x3)] by rw [← HZ3.out.1]; rfl]; exact HV8.out) hb6), q0.below hb6 q0.lt, q1.below hb6 q1.lt, up_call hb9 hb6⟩
        case measure => simp [intOf]; omega
    · obtain rfl : c = 0 := by omega
      have HRE := Lib.hid (show r = .inl (o, a) by rw [HR.out.1, decF_done])
      have hml := HR.out.2
      go_wp2_with (first
        | (refine wpList_store_row rfl 25 _ _ rfl (w.heap.size + 1) (flt 0 0) rfl rfl 25 (flt 0 0) r1 (by rw [flt_size]; exact cellsF) rfl (all_one (flt_one _ _)) ?_))
      refine bodyPost_ret (results_tmp2_row Try.results27 _ _ _ _ (w.heap.size + 1) 25 (flt 0 0) _ rfl rfl rfl (Row.row r1 _) Try.underlying25 rfl (by rw [flt_size]; exact cellsF)) rfl ?_
      refine ⟨?_, blw_row hb1 (by omega) _⟩
      rw [HRE.out]
      show ∃ B d, _ ∧ _
      rw [← hml]
      exact ⟨_, _, rfl, Tks.of_own (by rw [tz_length, ← hml]) (own_row3 HV.out r1 (by decide) _)⟩
end Go.Proofs.Ytahihgmlkcbfiaa

namespace Go.Proofs.Ytahihgmlkcbfiaa
open Go.RowKit

attribute [local go_sem ↓] wp_store_act wp_load_flat run_load_flat wp_store_flat
attribute [local go_sem] flat_lit blkOf_ptr cells_agg sizedF sizeTF aggF flat_flt sizedB sizeTB aggB flat_bcs isRow_set_eq rowAt_set_eq

theorem flat_litB : Flat (.agg #[.slice none 0 0, .int .i64 0]) 2 := flat_bcs none 0 0 0
attribute [local go_sem] flat_litB
theorem neq_bad (k i : Int) (h : k ≠ 0) (w : World) : (binOp .neq 25 (.agg (flt k i)) (.agg #[.int .i64 0, .int .i64 0])).run Try.prog w = .ok (.bool true) w := by
  have h1 := neq_flt k i 0 0 w
  have h2 : (k == 0) = false := beq_eq_false_iff_ne.2 h
  rw [h2] at h1
  exact h1
set_option maxRecDepth 100000 in
set_option maxHeartbeats 4000000 in
theorem lzcost_bad : PCostBad := by
  intro ts k i h A c w hS
  have hnq := neq_bad k i h.ne
  have HF := Lib.hid (fun w hS => check_bad ts k i h A c w hS)
  have HS := Lib.hid hS
  clear hS h
  go_enter Try.func21, Try.ntmps21
  go_upto_region 1 with (fail)
  refine wp_world (F := fun W => Row W w.heap.size 25 (flt 0 0) ∧ Tks W W.heap.size A ts.length ts ∧ Below w.heap.size w W) ⟨Row.newEq _ _ _ _ _ rfl rfl, HS.out.up ((Below.refl _ _).alloc (Nat.le_refl _) _), (Below.refl _ _).alloc (Nat.le_refl _) _⟩ ?_
  clear HS
  rintro W0 ⟨r0, hS, hb⟩
  go_upto_region 2 with (first
    | (go_at_call 39; refine (HF.out _ hS).mono ?_; rintro e w2 ⟨rfl, hb2⟩)
    | (refine wpList_store_row rfl 25 _ _ rfl w2.heap.size (flt k i) rfl rfl 25 (flt 0 0) (Row.newEq _ _ _ _ _ rfl rfl) (by rw [flt_size]; exact cellsF) rfl (all_one (flt_one _ _)) ?_))
  refine wp_world (F := fun W => Row W w2.heap.size 25 (flt k i) ∧ Row W w.heap.size 25 (flt 0 0) ∧ w.heap.size < w2.heap.size ∧ Below w.heap.size w W)
    ⟨row_new1 _ _ _ _, r0.below (up_call hb2 (blw_new1 _ _ _)) r0.lt, Nat.lt_of_lt_of_le r0.lt hb2.size, up_call hb (up_call hb2 (blw_new1 _ _ _))⟩ ?_
  generalize w2.heap.size = g6
  clear hb2 r0 hS hb w2 W0
  rintro W2 ⟨r6, r0, hlt, hb⟩
  go_upto_region 3 with (first
    | (refine wpList_load_row rfl 25 _ rfl g6 rfl 25 (flt k i) (0, 0) _ r6 Try.underlying25 rfl (by rw [flt_size]; exact cellsF) ?_))
  have i6 := r6.drew.is (flt_size _ _)
  have a6 := r6.drew.at
  have q0 := r0.drew
  have i0 := r0.drew.is (flt_size _ _)
  have n3 : ¬ w.heap.size = g6 := by omega
  have n4 : ¬ g6 = w.heap.size := by omega
  go_region_law (fail)
  all_goals
    go_wp2
    refine bodyPost_ret (results_tmp_row Try.results21 _ _ _ w.heap.size 25 (flt k i) _ rfl rfl (Row.row q0 _) Try.underlying25 rfl (by rw [flt_size]; exact cellsF)) rfl ⟨rfl, ?_⟩
    exact blw_row hb.drew (Nat.le_refl _) _

set_option maxRecDepth 100000 in
set_option maxHeartbeats 8000000 in
theorem lzcost_any : PCost := by
  intro l hg n hn hl A c w hS
  have hnq : ∀ w : World, (binOp .neq 25 (.agg (flt 0 0)) (.agg #[.int .i64 0, .int .i64 0])).run Try.prog w = .ok (.bool false) w := fun w => neq_flt 0 0 0 0 w
  have HF := Lib.hid (fun w hS => check_ok l hg n hn hl A c w hS)
  have HS := Lib.hid hS
  have HL := Lib.hid (And.intro hn hg)
  clear hS hn hg
  go_enter Try.func21, Try.ntmps21
  go_upto_region 1 with (fail)
  have ha : Below w.heap.size w (w.alloc (.cells #[.int .i64 0, .int .i64 0] 25)) := (Below.refl _ _).alloc (Nat.le_refl _) _
  refine wp_world (F := fun W => Row W w.heap.size 25 (flt 0 0) ∧ Tks W W.heap.size A n (tz l) ∧ Below w.heap.size w W) ⟨Row.newEq _ _ _ _ _ rfl rfl, HS.out.up ha, ha⟩ ?_
  clear ha
  rintro W0 ⟨r0, hS0, hb⟩
  go_upto_region 2 with (first
    | (go_at_call 39; refine (HF.out _ hS0).mono ?_; rintro e w2 ⟨rfl, hb2⟩)
    | (refine wpList_store_row rfl 25 _ _ rfl w2.heap.size (flt 0 0) rfl rfl 25 (flt 0 0) (Row.newEq _ _ _ _ _ rfl rfl) (by rw [flt_size]; exact cellsF) rfl (all_one (flt_one _ _)) ?_))
  refine wp_world (F := fun W => Row W w2.heap.size 25 (flt 0 0) ∧ Row W w.heap.size 25 (flt 0 0) ∧ w.heap.size < w2.heap.size ∧ Below w.heap.size w W)
    ⟨row_new1 _ _ _ _, r0.below (up_call hb2 (blw_new1 _ _ _)) r0.lt, Nat.lt_of_lt_of_le r0.lt hb2.size, up_call hb (up_call hb2 (blw_new1 _ _ _))⟩ ?_
  generalize w2.heap.size = g6
  clear hb2 r0 hb hS0 w2 W0
  rintro W2 ⟨r6, r0, hlt6, hb⟩
  go_upto_region 6 with (first
    | (refine wpList_load_row rfl 25 _ rfl g6 rfl 25 (flt 0 0) (0, 0) _ r6 Try.underlying25 rfl (by rw [flt_size]; exact cellsF) ?_))
  clear r6 hlt6
  go_loopw [5, 16] (fun v i wr => ∃ j s : Nat, j ≤ n ∧ i = .int .i64 j ∧ v = .int .i64 s ∧ s ≤ 41 * j ∧ Hid (s = costT (l.take j)) ∧ Row wr w.heap.size 25 (flt 0 0) ∧ Below w.heap.size w wr) (fun _ i _ => n - (intOf i).toNat)
  case atStart => exact ⟨0, 0, Nat.zero_le _, rfl, rfl, Nat.le_refl _, Lib.hid rfl, r0, hb⟩
  case round =>
    clear r0 hb
    obtain ⟨j, s, hj, rfl, rfl, hs, HC, r1, hb1⟩ := hrel
    by_cases hlt : j < n
    · obtain ⟨ad, rfl, hbl, k1, k2, k3⟩ := (HS.out.below hb1).at_ hlt
      have hjl : j < l.length := by rw [← HL.out.1]; exact hlt
      rw [tz_getD l j hjl] at k1 k2 k3
      have hok := HL.out.2 l[j] (List.getElem_mem hjl)
      have hco := cost_any l[j] hok
      have hcl := cost_le l[j] hok
      have hnx : costT (l.take (j + 1)) = s + l[j].cost := by rw [List.take_succ_eq_append_getElem hjl, costT_append, HC.out]; simp [costT]
      obtain ⟨q, hq⟩ : ∃ q, q = l[j].cost := ⟨_, rfl⟩
      rw [← hq] at hco hcl hnx
      obtain ⟨x1, x2, x3, hz3⟩ : ∃ a b c, l[j].z = (a, b, c) := ⟨_, _, _, rfl⟩
      rw [hz3] at k1 k2 k3 hco
      simp only at k1 k2 k3 hco
      obtain ⟨z3, hzz3⟩ : ∃ z : Int, z = (x3.toNat : Int) := ⟨_, rfl⟩
      unfold tcs at hco
      rw [← hzz3] at k3 hco
      have HN := Lib.hid hnx
      have HCO := Lib.hid hco
      clear hnx hco hz3 hzz3 hq hok hjl hbl
      go_upto_region 8 with (fail)
      have hkk := (Below.refl wr.heap.size wr).alloc (Nat.le_refl _) (.cells #[.int .i64 x1, .int .i64 x2, .int .u8 z3] 37)
      refine wp_world (F := fun W' => Row W' wr.heap.size 37 #[.int .i64 x1, .int .i64 x2, .int .u8 z3] ∧ Row W' w.heap.size 25 (flt 0 0) ∧ Below w.heap.size w W') ⟨Row.new _ _ _, r1.below hkk r1.lt, up_call hb1 hkk⟩ ?_
      generalize wr.heap.size = gt
      clear k1 k2 k3 r1 hb1 hkk wr
      rintro W1 ⟨rt, r1, hb1⟩
      have c0 := (rt.cell 0).trans rfl
      have c1 := (rt.cell 1).trans rfl
      have c2 := (rt.cell 2).trans rfl
      go_wp2_with (first
        | (go_at_call 42; refine (HCO.out _).mono ?_; rintro e w3 ⟨rfl, hb3⟩))
      go_roundw
      case rel => exact ⟨j + 1, s + q, by omega, by go_num, by go_num, by omega, Lib.hid HN.out.symm, r1.below hb3 r1.lt, up_call hb1 hb3⟩
      case measure => simp [intOf]; omega
    · obtain rfl : n = j := by omega
      have htk : l.take n = l := List.take_of_length_le (by rw [← HL.out.1]; exact Nat.le_refl _)
      have hc := HC.out
      rw [htk] at hc
      have HCC := Lib.hid hc
      clear htk hc
      go_wp2_with (first
        | (refine wpList_store_row rfl 25 _ _ rfl w.heap.size (flt 0 0) rfl rfl 25 (flt 0 0) r1 (by rw [flt_size]; exact cellsF) rfl (all_one (flt_one _ _)) ?_))
      refine bodyPost_ret (results_tmp_row Try.results21 _ _ _ w.heap.size 25 (flt 0 0) _ rfl rfl (Row.row r1 _) Try.underlying25 rfl (by rw [flt_size]; exact cellsF)) rfl ⟨?_, blw_row hb1 (Nat.le_refl _) _⟩
      rw [← HCC.out]
      rfl
set_option maxRecDepth 100000 in
set_option maxHeartbeats 8000000 in
theorem lzenc_bad : PEncBad := by
  intro ts k i h A c w hS
  have hnq := neq_bad k i h.ne
  have HF := Lib.hid (fun w hS => check_bad ts k i h A c w hS)
  have HS := Lib.hid hS
  clear hS h
  go_enter Try.func22, Try.ntmps22
  go_upto_region 1 with (fail)
  have ha : ∀ a b, Below w.heap.size w ((w.alloc a).alloc b) := fun a b => ((Below.refl _ _).alloc (Nat.le_refl _) _).alloc (by simp) _
  refine wp_world (F := fun W => Row W w.heap.size 43 (bcs none 0 0 0) ∧ Row W (w.heap.size + 1) 25 (flt 0 0) ∧ Tks W W.heap.size A ts.length ts ∧ Below w.heap.size w W) ⟨(Row.newEq _ _ _ _ _ rfl rfl).alloc _, Row.newEq _ _ _ _ _ (by simp) rfl, HS.out.up (ha _ _), ha _ _⟩ ?_
  clear HS ha
  rintro W0 ⟨r0, r1, hS, hb⟩
  go_upto_region 2 with (first
    | (go_at_call 39; refine (HF.out _ hS).mono ?_; rintro e w2 ⟨rfl, hb2⟩)
    | (refine wpList_store_row rfl 25 _ _ rfl w2.heap.size (flt k i) rfl rfl 25 (flt 0 0) (Row.newEq _ _ _ _ _ rfl rfl) (by rw [flt_size]; exact cellsF) rfl (all_one (flt_one _ _)) ?_))
  refine wp_world (F := fun W => Row W w2.heap.size 25 (flt k i) ∧ Row W w.heap.size 43 (bcs none 0 0 0) ∧ Row W (w.heap.size + 1) 25 (flt 0 0) ∧ w.heap.size + 1 < w2.heap.size ∧ Below w.heap.size w W)
    ⟨row_new1 _ _ _ _, r0.below (up_call hb2 (blw_new1 _ _ _)) r0.lt, r1.below (up_call hb2 (blw_new1 _ _ _)) r1.lt, Nat.lt_of_lt_of_le r1.lt hb2.size, up_call hb (up_call hb2 (blw_new1 _ _ _))⟩ ?_
  generalize w2.heap.size = g6
  clear hb2 r0 r1 hS hb w2 W0
  rintro W2 ⟨r6, r0, r1, hlt, hb⟩
  go_upto_region 3 with (first
    | (refine wpList_load_row rfl 25 _ rfl g6 rfl 25 (flt k i) (0, 0) _ r6 Try.underlying25 rfl (by rw [flt_size]; exact cellsF) ?_))
  have i6 := r6.drew.is (flt_size _ _)
  have a6 := r6.drew.at
  have q0 := r0.drew
  have q1 := r1.drew
  have i0 := r0.drew.is (bcs_size _ _ _ _)
  have i1 := r1.drew.is (flt_size _ _)
  have n1 : ¬ w.heap.size + 1 = g6 := by omega
  have n2 : ¬ g6 = w.heap.size + 1 := by omega
  have n3 : ¬ w.heap.size = g6 := by omega
  have n4 : ¬ g6 = w.heap.size := by omega
  have n5 : ¬ w.heap.size = w.heap.size + 1 := by omega
  have n6 : ¬ w.heap.size + 1 = w.heap.size := by omega
  go_region_law (fail)
  all_goals
    go_wp2
    refine bodyPost_ret (results_rows Try.results22 _ _ w.heap.size (w.heap.size + 1) 43 25 (bcs none 0 0 0) (flt k i) _ _ rfl rfl (by first | exact (Row.row q0 _).rowFar (by omega) _ | exact Row.row (q0.rowFar (by omega) _) _) (by first | exact Row.row (q1.rowFar (by omega) _) _ | exact (Row.row q1 _).rowFar (by omega) _) Try.underlying43 rfl (by rw [bcs_size]; exact cellsB) Try.underlying25 rfl (by rw [flt_size]; exact cellsF)) rfl ⟨⟨_, _, rfl⟩, ?_⟩
    exact blw_row (blw_row hb.drew (by omega) _) (by omega) _

set_option maxRecDepth 100000 in
set_option maxHeartbeats 8000000 in
theorem lzenc_any : PEnc := by
  intro l hg n hn hl A c w hS
  obtain ⟨i0, hi, hz0, hz1, hz2⟩ := info_parts infoU8
  have hnq : ∀ w : World, (binOp .neq 25 (.agg (flt 0 0)) (.agg #[.int .i64 0, .int .i64 0])).run Try.prog w = .ok (.bool false) w := fun w => neq_flt 0 0 0 0 w
  have HF := Lib.hid (fun w hS => check_ok l hg n hn hl A c w hS)
  have HS := Lib.hid hS
  have hcl := costT_le l hg
  rw [← codeT_length] at hcl
  have HM := Lib.hid (fun w => make_text (codeT l) (by omega) w)
  have HL := Lib.hid (And.intro hn hg)
  clear hS hn hg hcl
  go_enter Try.func22, Try.ntmps22
  go_upto_region 1 with (fail)
  have ha : ∀ a b, Below w.heap.size w ((w.alloc a).alloc b) := fun a b => ((Below.refl _ _).alloc (Nat.le_refl _) _).alloc (by simp) _
  refine wp_world (F := fun W => Row W w.heap.size 43 (bcs none 0 0 0) ∧ Row W (w.heap.size + 1) 25 (flt 0 0) ∧ Tks W W.heap.size A n (tz l) ∧ Below w.heap.size w W) ⟨(Row.newEq _ _ _ _ _ rfl rfl).alloc _, Row.newEq _ _ _ _ _ (by simp) rfl, HS.out.up (ha _ _), ha _ _⟩ ?_
  clear ha
  rintro W0 ⟨r0, r1, hS, hb⟩
  go_upto_region 2 with (first
    | (go_at_call 39; refine (HF.out _ hS).mono ?_; rintro e w2 ⟨rfl, hb2⟩)
    | (refine wpList_store_row rfl 25 _ _ rfl w2.heap.size (flt 0 0) rfl rfl 25 (flt 0 0) (Row.newEq _ _ _ _ _ rfl rfl) (by rw [flt_size]; exact cellsF) rfl (all_one (flt_one _ _)) ?_))
  refine wp_world (F := fun W => Row W w2.heap.size 25 (flt 0 0) ∧ Row W w.heap.size 43 (bcs none 0 0 0) ∧ Row W (w.heap.size + 1) 25 (flt 0 0) ∧ w.heap.size + 1 < w2.heap.size ∧ Below w.heap.size w W)
    ⟨row_new1 _ _ _ _, r0.below (up_call hb2 (blw_new1 _ _ _)) r0.lt, r1.below (up_call hb2 (blw_new1 _ _ _)) r1.lt, Nat.lt_of_lt_of_le r1.lt hb2.size, up_call hb (up_call hb2 (blw_new1 _ _ _))⟩ ?_
  generalize w2.heap.size = g6
  clear hb2 r0 r1 hS hb w2 W0
  rintro W2 ⟨r6, r0, r1, hlt6, hb⟩
  go_upto_region 6 with (first
    | (refine wpList_load_row rfl 25 _ rfl g6 rfl 25 (flt 0 0) (0, 0) _ r6 Try.underlying25 rfl (by rw [flt_size]; exact cellsF) ?_))
  clear r6 hlt6
  go_loopw [5, 17] (fun v i wr => ∃ (j m : Nat) (o : List Bool), j ≤ n ∧ i = .int .i64 j ∧ m ≤ 41 * j ∧ Hid (o = codeT (l.take j) ∧ m = o.length) ∧ Hid (wr.ownsRow w.heap.size 5 1 v m (bl (txL o))) ∧ Row wr w.heap.size 43 (bcs none 0 0 0) ∧ Row wr (w.heap.size + 1) 25 (flt 0 0) ∧ Below w.heap.size w wr) (fun _ i _ => n - (intOf i).toNat)
  case atStart => exact ⟨0, 0, [], Nat.zero_le _, rfl, Nat.zero_le _, Lib.hid ⟨by rw [List.take_zero]; rfl, rfl⟩, Lib.hid (by rw [show txL [] = [] from rfl, bl_nil]; exact World.ownsRow_nil _ _ _ _), r0, r1, hb⟩
  case round =>
    clear r0 r1 hb
    obtain ⟨j, m, o, hj, rfl, hm, HO, HV, r0, r1, hb⟩ := hrel
    obtain ⟨A3, c3, hv3, _, _⟩ := own_form HV.out
    subst hv3
    by_cases hlt : j < n
    · obtain ⟨ad, rfl, hbl, k1, k2, k3⟩ := (HS.out.below hb).at_ hlt
      have hjl : j < l.length := by rw [← HL.out.1]; exact hlt
      rw [tz_getD l j hjl] at k1 k2 k3
      have hok := HL.out.2 l[j] (List.getElem_mem hjl)
      have htb := code_any l[j] hok
      have hcl := cost_le l[j] hok
      rw [← code_cost] at hcl
      have hcd : codeT (l.take (j + 1)) = o ++ l[j].code := by rw [List.take_succ_eq_append_getElem hjl, codeT_append, codeT_one, HO.out.1]
      obtain ⟨q, hq⟩ : ∃ q, q = l[j].code.length := ⟨_, rfl⟩
      obtain ⟨p, hp⟩ : ∃ p, p = l[j].code := ⟨_, rfl⟩
      have hml : m + q = (o ++ p).length := by rw [List.length_append, hq, hp, HO.out.2]
      rw [← hp] at hcd htb
      have hps : (txS p).size = q := by rw [txS_len, hq, hp]
      have hoc : bl (txL o) ++ Lib.strCells (txS p) = bl (txL (o ++ p)) := by rw [str_cells, txL_append, bl_append]
      rw [← hq] at hcl
      obtain ⟨x1, x2, x3, ht⟩ : ∃ x y z, l[j].z = (x, y, z) := ⟨_, _, _, rfl⟩
      rw [ht] at k1 k2 k3 htb
      simp only at k1 k2 k3 htb
      unfold tcs at htb
      obtain ⟨z3, hzz⟩ : ∃ zz : Int, zz = (x3.toNat : Int) := ⟨_, rfl⟩
      rw [← hzz] at k3 htb
      obtain ⟨ps, hpps⟩ : ∃ ps, ps = txS p := ⟨_, rfl⟩
      rw [← hpps] at htb hps hoc
      have HC := Lib.hid (And.intro hcd hml)
      have HT := Lib.hid htb
      have HOC := Lib.hid hoc
      have HPS := Lib.hid hps
      clear hok hcd hml hq hp ht hzz hjl hbl htb hoc hps hpps
      go_upto_region 8 with (fail)
      have hkk := (Below.refl wr.heap.size wr).alloc (Nat.le_refl _) (.cells #[.int .i64 x1, .int .i64 x2, .int .u8 z3] 37)
      have HVK := own_below HV.out hkk
      refine wp_world (F := fun W' => Row W' wr.heap.size 37 #[.int .i64 x1, .int .i64 x2, .int .u8 z3] ∧ Row W' w.heap.size 43 (bcs none 0 0 0) ∧ Row W' (w.heap.size + 1) 25 (flt 0 0) ∧ Hid (W'.ownsRow w.heap.size 5 1 (.slice A3 m c3) m (bl (txL o))) ∧ Below w.heap.size w W') ⟨Row.new _ _ _, r0.below hkk r0.lt, r1.below hkk r1.lt, Lib.hid HVK, up_call hb hkk⟩ ?_
      generalize wr.heap.size = gt
      clear k1 k2 k3 r0 r1 hb hkk HVK HV wr
      rintro W1 ⟨rt, r0, r1, HV, hb⟩
      have c0 := (rt.cell 0).trans rfl
      have c1 := (rt.cell 1).trans rfl
      have c2 := (rt.cell 2).trans rfl
      go_wp2_with (first
        | (go_at_call 43; refine (HT.out _).mono ?_; rintro e w5 ⟨rfl, hb5⟩; have hob := own_below HV.out hb5; have q0 := r0.below hb5 r0.lt; have q1 := r1.below hb5 r1.lt; have hbb := up_call hb hb5)
        | (at_builtin; refine Lib.wpList_append_own_string _ rfl _ _ _ _ rfl w.heap.size 5 i0 Try.underlying22 Try.underlying9 hi hz0 hz1 hz2 _ m _ rfl hob ps rfl (by rw [HPS.out]; unfold maxLen; omega) (by rw [HPS.out]; omega) hbb.size ?_; intro v6 w6 hown6 hg6 _))
      have hb6 := blw_grown hbb hg6 hbb.size hob (Nat.le_refl _)
      have hk6 := keep_grown hob hg6
      have q0 := hk6 _ _ _ (by decide) q0
      have q1 := hk6 _ _ _ (by decide) q1
      rw [HOC.out, HPS.out] at hown6
      have HV6 := Lib.hid hown6
      clear hown6 hg6 hob hb5 hk6
      go_roundw
      case rel => exact ⟨j + 1, m + q, o ++ p, by omega, by go_num, by omega, Lib.hid ⟨HC.out.1.symm, HC.out.2⟩, HV6, q0, q1, hb6⟩
      case measure => simp [intOf]; omega
    · obtain rfl : n = j := by omega
      have htk : l.take n = l := List.take_of_length_le (by rw [← HL.out.1]; exact Nat.le_refl _)
      have ho := HO.out.1
      rw [htk] at ho
      have hcv := own_string (P := Try.prog) HV.out Try.underlying22 Try.underlying5 Try.underlying9
      have hts : (⟨(txL o).toArray⟩ : ByteArray) = txS (codeT l) := by rw [← ho]; rfl
      rw [hts] at hcv
      clear htk ho hts
      obtain ⟨s, hs⟩ : ∃ s, s = txS (codeT l) := ⟨_, rfl⟩
      rw [← hs] at hcv HM
      obtain ⟨cl, hcl⟩ : ∃ cl, cl = codeT l := ⟨_, rfl⟩
      rw [← hcl] at HM
      have HCL := Lib.hid hcl
      clear hs hcl
      go_wp2_with (first
        | (go_at_call 44; refine (HM.out _).mono ?_; rintro e w7 ⟨A7, c7, rfl, hS7, hb7⟩; have q0 := r0.below hb7 r0.lt; have q1 := r1.below hb7 r1.lt; have hbb := up_call hb hb7)
        | (refine wpList_store_row rfl 43 _ _ rfl w.heap.size (bcs A7 (pack cl).length c7 cl.length) rfl rfl 43 (bcs none 0 0 0) q0 (by rw [bcs_size]; exact cellsB) rfl (all_one (bcs_one _ _ _ _)) ?_)
        | (refine wpList_store_row rfl 25 _ _ rfl (w.heap.size + 1) (flt 0 0) rfl rfl 25 (flt 0 0) (q1.rowFar (by omega) _) (by rw [flt_size]; exact cellsF) rfl (all_one (flt_one _ _)) ?_))
      refine bodyPost_ret (results_rows Try.results22 _ _ w.heap.size (w.heap.size + 1) 43 25 (bcs A7 (pack cl).length c7 cl.length) (flt 0 0) _ _ rfl rfl ((Row.row q0 _).rowFar (by omega) _) (Row.row (q1.rowFar (by omega) _) _) Try.underlying43 rfl (by rw [bcs_size]; exact cellsB) Try.underlying25 rfl (by rw [flt_size]; exact cellsF)) rfl ?_
      rw [← HCL.out]
      refine ⟨_, _, rfl, ?_, blw_row (blw_row hbb (by omega) _) (by omega) _⟩
      have h1 := (hS7.rowFar q0 (no_bcs _ _ _ _) (bcs A7 (pack cl).length c7 cl.length)).rowFar (q1.rowFar (by omega) _) (no_flt _ _) (flt 0 0)
      simpa using h1
end Go.Proofs.Ytahihgmlkcbfiaa

namespace Go.Proofs.Ytahihgmlkcbfiaa
open Go.RowKit

attribute [local go_sem ↓] wp_store_act wp_load_flat run_load_flat wp_store_flat
attribute [local go_sem] flat_lit blkOf_ptr cells_agg sizedF sizeTF aggF flat_flt isRow_set_eq rowAt_set_eq

set_option maxRecDepth 100000 in
set_option maxHeartbeats 4000000 in
theorem lzexpand_bad : PExpandBad := by
  intro ts k i h A B c d m w hS
  have hnq : ∀ w : World, (binOp .neq 25 (.agg (flt k i)) (.agg #[.int .i64 0, .int .i64 0])).run Try.prog w = .ok (.bool true) w := fun w => by
    have h1 := neq_flt k i 0 0 w
    have h2 : (k == 0) = false := beq_eq_false_iff_ne.2 h.ne
    rw [h2] at h1
    exact h1
  have HF := Lib.hid (fun w hS => check_bad ts k i h A c w hS)
  have HS := Lib.hid hS
  clear hS h
  go_enter Try.func16, Try.ntmps16
  go_upto_region 1 with (fail)
  refine wp_world (F := fun W => Row W w.heap.size 25 (flt 0 0) ∧ Tks W W.heap.size A ts.length ts ∧ Below w.heap.size w W) ⟨Row.newEq _ _ _ _ _ rfl rfl, HS.out.up ((Below.refl _ _).alloc (Nat.le_refl _) _), (Below.refl _ _).alloc (Nat.le_refl _) _⟩ ?_
  clear HS
  rintro W0 ⟨r0, hS, hb⟩
  go_upto_region 2 with (first
    | (go_at_call 39; refine (HF.out _ hS).mono ?_; rintro e w2 ⟨rfl, hb2⟩)
    | (refine wpList_store_row rfl 25 _ _ rfl w2.heap.size (flt k i) rfl rfl 25 (flt 0 0) (Row.newEq _ _ _ _ _ rfl rfl) (by rw [flt_size]; exact cellsF) rfl (all_one (flt_one _ _)) ?_))
  refine wp_world (F := fun W => Row W w2.heap.size 25 (flt k i) ∧ Row W w.heap.size 25 (flt 0 0) ∧ w.heap.size < w2.heap.size ∧ Below w.heap.size w W)
    ⟨row_new1 _ _ _ _, r0.below (up_call hb2 (blw_new1 _ _ _)) r0.lt, Nat.lt_of_lt_of_le r0.lt hb2.size, up_call hb (up_call hb2 (blw_new1 _ _ _))⟩ ?_
  generalize w2.heap.size = g6
  clear hb2 r0 hS hb w2 W0
  rintro W2 ⟨r6, r0, hlt, hb⟩
  go_upto_region 3 with (first
    | (refine wpList_load_row rfl 25 _ rfl g6 rfl 25 (flt k i) (0, 0) _ r6 Try.underlying25 rfl (by rw [flt_size]; exact cellsF) ?_))
  have i6 := r6.drew.is (flt_size _ _)
  have a6 := r6.drew.at
  have q0 := r0.drew
  have i0 := r0.drew.is (flt_size _ _)
  have n3 : ¬ w.heap.size = g6 := by omega
  have n4 : ¬ g6 = w.heap.size := by omega
  go_region_law (fail)
  all_goals
    go_wp2
    refine bodyPost_ret (results_tmp_row Try.results16 _ _ _ w.heap.size 25 (flt k i) _ rfl rfl (Row.row q0 _) Try.underlying25 rfl (by rw [flt_size]; exact cellsF)) rfl ⟨⟨_, _, rfl⟩, ?_⟩
    exact blw_row hb.drew (Nat.le_refl _) _

set_option maxRecDepth 100000 in
set_option maxHeartbeats 4000000 in
theorem lzexpand_long : PExpandLong := by
  intro l hg n hn hl A B c d m hm w hS
  have t1 : decide ((512 : Int) < (m : Int)) = true := decide_eq_true (by omega)
  have t2 : decide (512 < m) = true := decide_eq_true hm
  have hnq : ∀ w : World, (binOp .neq 25 (.agg (flt 0 0)) (.agg #[.int .i64 0, .int .i64 0])).run Try.prog w = .ok (.bool false) w := fun w => neq_flt 0 0 0 0 w
  have HF := Lib.hid (fun w hS => check_ok l hg n hn hl A c w hS)
  have HS := Lib.hid hS
  clear hS hn hg
  go_enter Try.func16, Try.ntmps16
  go_upto_region 1 with (fail)
  refine wp_world (F := fun W => Row W w.heap.size 25 (flt 0 0) ∧ Tks W W.heap.size A n (tz l) ∧ Below w.heap.size w W) ⟨Row.newEq _ _ _ _ _ rfl rfl, HS.out.up ((Below.refl _ _).alloc (Nat.le_refl _) _), (Below.refl _ _).alloc (Nat.le_refl _) _⟩ ?_
  clear HS
  rintro W0 ⟨r0, hS, hb⟩
  go_upto_region 2 with (first
    | (go_at_call 39; refine (HF.out _ hS).mono ?_; rintro e w2 ⟨rfl, hb2⟩)
    | (refine wpList_store_row rfl 25 _ _ rfl w2.heap.size (flt 0 0) rfl rfl 25 (flt 0 0) (Row.newEq _ _ _ _ _ rfl rfl) (by rw [flt_size]; exact cellsF) rfl (all_one (flt_one _ _)) ?_))
  refine wp_world (F := fun W => Row W w2.heap.size 25 (flt 0 0) ∧ Row W w.heap.size 25 (flt 0 0) ∧ w.heap.size < w2.heap.size ∧ Below w.heap.size w W)
    ⟨row_new1 _ _ _ _, r0.below (up_call hb2 (blw_new1 _ _ _)) r0.lt, Nat.lt_of_lt_of_le r0.lt hb2.size, up_call hb (up_call hb2 (blw_new1 _ _ _))⟩ ?_
  generalize w2.heap.size = g6
  clear hb2 r0 hS hb w2 W0
  rintro W2 ⟨r6, r0, hlt, hb⟩
  go_wp2_with (first
    | (refine wpList_load_row rfl 25 _ rfl g6 rfl 25 (flt 0 0) (0, 0) _ r6 Try.underlying25 rfl (by rw [flt_size]; exact cellsF) ?_)
    | (refine wpList_store_row rfl 25 _ _ rfl w.heap.size (flt 3 (-2)) rfl rfl 25 (flt 0 0) r0 (by rw [flt_size]; exact cellsF) rfl (all_one (flt_one _ _)) ?_))
  refine bodyPost_ret (results_tmp_row Try.results16 _ _ _ w.heap.size 25 (flt 3 (-2)) _ rfl rfl (Row.row r0 _) Try.underlying25 rfl (by rw [flt_size]; exact cellsF)) rfl ⟨⟨_, _, rfl⟩, ?_⟩
  exact blw_row hb (Nat.le_refl _) _

set_option maxRecDepth 100000 in
set_option maxHeartbeats 16000000 in
theorem lzexpand_any : PExpand := by
  intro l hg n hn hl L Dn hd hd5 A B c cd w hS hB
  obtain ⟨r, hr⟩ : ∃ r, r = runT Dn l L 0 := ⟨_, rfl⟩
  rw [← hr]
  have t1 : decide ((512 : Int) < (Dn : Int)) = false := decide_eq_false (by omega)
  have t2 : decide (512 < Dn) = false := decide_eq_false (by omega)
  have hnq : ∀ w : World, (binOp .neq 25 (.agg (flt 0 0)) (.agg #[.int .i64 0, .int .i64 0])).run Try.prog w = .ok (.bool false) w := fun w => neq_flt 0 0 0 0 w
  have HF := Lib.hid (fun w hS => check_ok l hg n hn hl A c w hS)
  have HS := Lib.hid hS
  have HB := Lib.hid hB
  have HL := Lib.hid (And.intro hn (And.intro hg (And.intro hd hr)))
  clear hS hn hg hd hr hB
  go_enter Try.func16, Try.ntmps16
  go_upto_region 1 with (fail)
  have ha : Below w.heap.size w (w.alloc (.cells #[.int .i64 0, .int .i64 0] 25)) := (Below.refl _ _).alloc (Nat.le_refl _) _
  refine wp_world (F := fun W => Row W w.heap.size 25 (flt 0 0) ∧ Tks W W.heap.size A n (tz l) ∧ Below w.heap.size w W) ⟨Row.newEq _ _ _ _ _ rfl rfl, HS.out.up ha, ha⟩ ?_
  clear ha
  rintro W0 ⟨r0, hS0, hb⟩
  go_upto_region 2 with (first
    | (go_at_call 39; refine (HF.out _ hS0).mono ?_; rintro e w2 ⟨rfl, hb2⟩)
    | (refine wpList_store_row rfl 25 _ _ rfl w2.heap.size (flt 0 0) rfl rfl 25 (flt 0 0) (Row.newEq _ _ _ _ _ rfl rfl) (by rw [flt_size]; exact cellsF) rfl (all_one (flt_one _ _)) ?_))
  refine wp_world (F := fun W => Row W w2.heap.size 25 (flt 0 0) ∧ Row W w.heap.size 25 (flt 0 0) ∧ w.heap.size < w2.heap.size ∧ Below w.heap.size w W)
    ⟨row_new1 _ _ _ _, r0.below (up_call hb2 (blw_new1 _ _ _)) r0.lt, Nat.lt_of_lt_of_le r0.lt hb2.size, up_call hb (up_call hb2 (blw_new1 _ _ _))⟩ ?_
  generalize w2.heap.size = g6
  clear hb2 r0 hb hS0 w2 W0
  rintro W2 ⟨r6, r0, hlt6, hb⟩
  go_upto_region 7 with (first
    | (refine wpList_load_row rfl 25 _ rfl g6 rfl 25 (flt 0 0) (0, 0) _ r6 Try.underlying25 rfl (by rw [flt_size]; exact cellsF) ?_)
    | (go_at_call 40; refine (clone_any L Dn (by omega) B cd _ ((HB.out.below hb).wider hb.size)).mono ?_; rintro e w7 ⟨v7, rfl, hown7, hk7, hb7⟩))
  clear t1 t2
  have r7 := r0.below hb7 r0.lt
  have hb8 := up_call hb hb7
  have HV7 := Lib.hid (own_base hown7 hb.size)
  clear hown7 hk7 hb7 r6 r0 hb hlt6
  go_upto_region 8 with (fail)
  go_loopw [7, 24] (fun v i wr => ∃ (j m : Nat) (W : List UInt8), j ≤ n ∧ i = .int .i64 j ∧ Dn ≤ m ∧ m ≤ Dn + 1024 ∧ Hid (m = W.length ∧ r = runT Dn (l.drop j) W j) ∧ Hid (wr.ownsRow w.heap.size 5 1 v m (bl W)) ∧ Row wr w.heap.size 25 (flt 0 0) ∧ Below w.heap.size w wr) (fun _ i _ => n - (intOf i).toNat)
  case atStart => exact ⟨0, Dn, L, Nat.zero_le _, rfl, Nat.le_refl _, by omega, Lib.hid ⟨HL.out.2.2.1, by rw [List.drop_zero]; exact HL.out.2.2.2⟩, HV7, r7, hb8⟩
  case round =>
    clear r7 hb8 HV7
    obtain ⟨j, m, W, hj, rfl, hm1, hm2, HW, HV, r1, hb1⟩ := hrel
    obtain ⟨A5, c5, hv5, hc5, _⟩ := own_form HV.out
    subst hv5
    by_cases hlt : j < n
    · obtain ⟨ad, rfl, hbl, k1, k2, k3⟩ := (HS.out.below hb1).at_ hlt
      have hjl : j < l.length := by rw [← HL.out.1]; exact hlt
      have hzz := tz_getD l j hjl
      have hok := HL.out.2.1 l[j] (List.getElem_mem hjl)
      have hrr := HW.out.2
      rw [drop_at l j hjl] at hrr
      obtain ⟨t, ht⟩ : ∃ t, t = l[j] := ⟨_, rfl⟩
      rw [← ht] at hzz hok hrr
      rw [hzz] at k1 k2 k3
      have hlen := size_any t hok
      clear ht hjl hbl
      have hdl : (t.z).1 = (t.dist : Int) := by cases t <;> rfl
      obtain ⟨x1, x2, x3, hz3⟩ : ∃ a b c, t.z = (a, b, c) := ⟨_, _, _, rfl⟩
      have hxp := fun hm2 hdm A c w hb hown => expand_any t hok w.heap.size m W HW.out.1 hm2 hdm A c w hb hown
      have HXP : Hid (m ≤ 10000 → t.dist ≤ m → ∀ (A : Option Addr) (c : Nat) (w1 : World), w.heap.size ≤ w1.heap.size → w1.ownsRow w.heap.size 5 1 (.slice A m c) m (bl W) → Calls Try.prog 41 #[.slice A m c, .agg (tcs x1 x2 x3)] w1 (XpOut w.heap.size (m + t.len) (t.put W) w1)) := Lib.hid (fun hm2 hdm A c w1 hb hown => by
        have h := expand_any t hok w.heap.size m W HW.out.1 hm2 hdm A c w1 hb hown
        rw [hz3] at h
        exact h)
      clear hxp
      rw [hz3] at k1 k2 k3 hlen hdl
      simp only at k1 k2 k3 hlen hdl
      obtain ⟨z3, hzz3⟩ : ∃ z : Int, z = (x3.toNat : Int) := ⟨_, rfl⟩
      unfold tcs at hlen HXP
      rw [← hzz3] at k3 hlen HXP
      have HZ3 := Lib.hid (And.intro hz3 (And.intro hzz3 hzz))
      clear hz3 hzz3 hzz
      obtain ⟨td, htd⟩ : ∃ td, td = t.dist := ⟨_, rfl⟩
      rw [← htd] at hdl
      subst hdl
      have HTD := Lib.hid htd
      clear htd
      go_upto_region 10 with (fail)
      have hkk := (Below.refl wr.heap.size wr).alloc (Nat.le_refl _) (.cells #[.int .i64 td, .int .i64 x2, .int .u8 z3] 37)
      have HVK := own_below HV.out hkk
      refine wp_world (F := fun W' => Row W' wr.heap.size 37 #[.int .i64 td, .int .i64 x2, .int .u8 z3] ∧ Row W' w.heap.size 25 (flt 0 0) ∧ Hid (W'.ownsRow w.heap.size 5 1 (.slice A5 m c5) m (bl W)) ∧ Below w.heap.size w W') ⟨Row.new _ _ _, r1.below hkk r1.lt, Lib.hid HVK, up_call hb1 hkk⟩ ?_
      generalize wr.heap.size = gt
      clear k1 k2 k3 r1 hb1 hkk HVK HV wr
      rintro W1 ⟨rt, r1, HV, hb1⟩
      have c0 := (rt.cell 0).trans rfl
      have c1 := (rt.cell 1).trans rfl
      have c2 := (rt.cell 2).trans rfl
      by_cases hrange : m < td
      · have hre : r = .inr (4, (j : Int)) := by rw [hrr]; exact runT_range Dn _ _ W j (by rw [← HW.out.1, ← HTD.out]; exact hrange)
        have HRE := Lib.hid hre
        have s1 : decide ((m : Int) < (td : Int)) = true := decide_eq_true (by omega)
        have s2 : decide (m < td) = true := decide_eq_true hrange
        clear hre hrr hok hlen HXP
        go_wp2_with (first
          | (refine wpList_store_row rfl 25 _ _ rfl w.heap.size (flt 4 j) rfl rfl 25 (flt 0 0) r1 (by rw [flt_size]; exact cellsF) rfl (all_one (flt_one _ _)) ?_))
        refine bodyPost_ret (results_tmp_row Try.results16 _ _ _ w.heap.size 25 (flt 4 j) _ rfl rfl (Row.row r1 _) Try.underlying25 rfl (by rw [flt_size]; exact cellsF)) rfl ?_
        refine ⟨?_, blw_row hb1 (Nat.le_refl _) _⟩
        rw [HRE.out]
        exact ⟨_, _, rfl⟩
      · have s1 : decide ((m : Int) < (td : Int)) = false := decide_eq_false (by omega)
        have s2 : decide (m < td) = false := decide_eq_false hrange
        obtain ⟨tl, htl⟩ : ∃ tl, tl = t.len := ⟨_, rfl⟩
        have htl2 : 1 ≤ tl ∧ tl ≤ 1024 := by
          rw [htl]
          cases t with
          | lit x => exact ⟨Nat.le_refl _, by show 1 ≤ 1024; omega⟩
          | mat d n => exact ⟨by have := hok.2.2.1; show 1 ≤ n; omega, hok.2.2.2⟩
        rw [← htl] at hlen
        by_cases hlarge : 1024 < m - Dn + tl
        · have hre : r = .inr (14, (j : Int)) := by rw [hrr]; exact runT_large Dn _ _ W j (by rw [← HW.out.1, ← HTD.out]; exact hrange) (by rw [← HW.out.1, ← htl]; exact hlarge)
          have HRE := Lib.hid hre
          have s3 : decide ((1024 : Int) < (m : Int) - (Dn : Int) + (tl : Int)) = true := decide_eq_true (by omega)
          clear hre hrr hok HXP htl
          go_wp2_with (first
            | (go_at_call 35; refine (hlen _).mono ?_; rintro e w3 ⟨rfl, hb3⟩; have q1 := r1.below hb3 r1.lt)
            | (refine wpList_store_row rfl 25 _ _ rfl w.heap.size (flt 14 j) rfl rfl 25 (flt 0 0) q1 (by rw [flt_size]; exact cellsF) rfl (all_one (flt_one _ _)) ?_))
          refine bodyPost_ret (results_tmp_row Try.results16 _ _ _ w.heap.size 25 (flt 14 j) _ rfl rfl (Row.row q1 _) Try.underlying25 rfl (by rw [flt_size]; exact cellsF)) rfl ?_
          refine ⟨?_, blw_row (up_call hb1 hb3) (Nat.le_refl _) _⟩
          rw [HRE.out]
          exact ⟨_, _, rfl⟩
        · have hnx : r = runT Dn (l.drop (j + 1)) (t.put W) (j + 1) := by rw [hrr]; exact runT_next Dn _ _ W j (by rw [← HW.out.1, ← HTD.out]; exact hrange) (by rw [← HW.out.1, ← htl]; exact hlarge)
          have hpl : m + tl = (t.put W).length := by rw [put_length, ← HW.out.1, htl]
          have HNX := Lib.hid (And.intro hpl hnx)
          have s3 : decide ((1024 : Int) < (m : Int) - (Dn : Int) + (tl : Int)) = false := decide_eq_false (by omega)
          have hxp := HXP.out (by omega) (by rw [← HTD.out]; omega)
          rw [← htl] at hxp
          obtain ⟨PW, hPW⟩ : ∃ PW, PW = t.put W := ⟨_, rfl⟩
          rw [← hPW] at HNX hxp
          have HX := Lib.hid hxp
          clear hnx hrr hok HXP htl hpl hxp hPW
          go_wp2_with (first
            | (go_at_call 35; refine (hlen _).mono ?_; rintro e w3 ⟨rfl, hb3⟩; have q1 := r1.below hb3 r1.lt; have qt := rt.below hb3 rt.lt; have d0 := (qt.cell 0).trans rfl; have d1 := (qt.cell 1).trans rfl; have d2 := (qt.cell 2).trans rfl; have own3 := own_below HV.out hb3; have hb4 := up_call hb1 hb3)
            | (go_at_call 41; refine (HX.out _ _ _ hb4.size own3).mono ?_; rintro e w5 ⟨v5, rfl, hown5, hb5, hk5⟩))
          have r5 := hk5 _ _ _ (by decide) q1
          have hb6 := hb4.trans hb5
          have HV5 := Lib.hid hown5
          clear hown5 hb5 hk5
          go_roundw
          case rel => exact ⟨j + 1, m + tl, PW, by omega, by go_num, by omega, by omega, HNX, HV5, r5, hb6⟩
          case measure => simp [intOf]; omega
    · obtain rfl : n = j := by omega
      have hrr := HW.out.2
      have hl0 := HL.out.1
      rw [hl0, drop_end] at hrr
      have HRE := Lib.hid (show r = .inl W from hrr)
      have HML := Lib.hid HW.out.1
      clear hrr hl0
      have hsl := (Sl.of_own HV.out).cut hm1 hc5
      rw [bl_drop] at hsl
      have hsl2 := hsl.rowFar r1 (no_flt _ _) (flt 0 0)
      have hsz : (wr.setRow w.heap.size (flt 0 0)).heap.size = wr.heap.size := by simp
      by_cases hcD : c5 = Dn
      · subst hcD
        rw [if_pos rfl] at hsl2
        go_wp2_with (first
          | (refine wpList_store_row rfl 25 _ _ rfl w.heap.size (flt 0 0) rfl rfl 25 (flt 0 0) r1 (by rw [flt_size]; exact cellsF) rfl (all_one (flt_one _ _)) ?_))
        refine bodyPost_ret (results_tmp_row Try.results16 _ _ _ w.heap.size 25 (flt 0 0) _ rfl rfl (Row.row r1 _) Try.underlying25 rfl (by rw [flt_size]; exact cellsF)) rfl ?_
        refine ⟨?_, blw_row hb1 (Nat.le_refl _) _⟩
        rw [HRE.out]
        show ∃ A c, _ ∧ _
        rw [← HML.out, hsz]
        have h0 : m - c5 = 0 := by omega
        rw [h0] at hsl2 ⊢
        exact ⟨_, _, rfl, hsl2⟩
      · rw [if_neg hcD] at hsl2
        go_wp2_with (first
          | (refine wpList_store_row rfl 25 _ _ rfl w.heap.size (flt 0 0) rfl rfl 25 (flt 0 0) r1 (by rw [flt_size]; exact cellsF) rfl (all_one (flt_one _ _)) ?_))
        refine bodyPost_ret (results_tmp_row Try.results16 _ _ _ w.heap.size 25 (flt 0 0) _ rfl rfl (Row.row r1 _) Try.underlying25 rfl (by rw [flt_size]; exact cellsF)) rfl ?_
        refine ⟨?_, blw_row hb1 (Nat.le_refl _) _⟩
        rw [HRE.out]
        show ∃ A c, _ ∧ _
        rw [← HML.out, hsz]
        exact ⟨_, _, rfl, hsl2⟩
end Go.Proofs.Ytahihgmlkcbfiaa

namespace Go.Proofs.Ytahihgmlkcbfiaa
open Go.RowKit

set_option maxRecDepth 100000 in
set_option maxHeartbeats 4000000 in
theorem lzparse_bad : PParseBad := by
  intro N D A B cd ce w h
  have ha : Below w.heap.size w (w.alloc (.cells #[.int .i64 0, .int .i64 0] 25)) := (Below.refl _ _).alloc (Nat.le_refl _) _
  by_cases h1 : 1024 < N
  · have t1 : decide ((1024 : Int) < (N : Int)) = true := decide_eq_true (by omega)
    have t2 : decide (1024 < N) = true := decide_eq_true h1
    rw [show szF N 1024 D = (3, -1) from if_pos h1]
    clear h1 h
    go_enter Try.func11, Try.ntmps11
    go_upto_region 1 with (fail)
    refine wp_world (F := fun W => Row W w.heap.size 25 (flt 0 0) ∧ Below w.heap.size w W) ⟨Row.newEq _ _ _ _ _ rfl rfl, ha⟩ ?_
    rintro W0 ⟨r0, hb⟩
    go_wp2_with (first
      | (refine wpList_store_row rfl 25 _ _ rfl w.heap.size (flt 3 (-1)) rfl rfl 25 (flt 0 0) r0 (by rw [flt_size]; exact cellsF) rfl (all_one (flt_one _ _)) ?_))
    refine bodyPost_ret (results_tmp_row Try.results11 _ _ _ w.heap.size 25 (flt 3 (-1)) _ rfl rfl (Row.row r0 _) Try.underlying25 rfl (by rw [flt_size]; exact cellsF)) rfl ⟨⟨_, _, rfl⟩, ?_⟩
    exact blw_row hb (Nat.le_refl _) _
  · have h2 : 512 < D := by
      by_cases h2 : 512 < D
      · exact h2
      · exfalso
        apply h
        unfold szF
        rw [if_neg h1, if_neg h2]
    have t1 : decide ((1024 : Int) < (N : Int)) = false := decide_eq_false (by omega)
    have t2 : decide (1024 < N) = false := decide_eq_false h1
    have t3 : decide ((512 : Int) < (D : Int)) = true := decide_eq_true (by omega)
    have t4 : decide (512 < D) = true := decide_eq_true h2
    rw [show szF N 1024 D = (3, -2) by unfold szF; rw [if_neg h1, if_pos h2]]
    clear h1 h2 h
    go_enter Try.func11, Try.ntmps11
    go_upto_region 1 with (fail)
    refine wp_world (F := fun W => Row W w.heap.size 25 (flt 0 0) ∧ Below w.heap.size w W) ⟨Row.newEq _ _ _ _ _ rfl rfl, ha⟩ ?_
    rintro W0 ⟨r0, hb⟩
    go_wp2_with (first
      | (refine wpList_store_row rfl 25 _ _ rfl w.heap.size (flt 3 (-2)) rfl rfl 25 (flt 0 0) r0 (by rw [flt_size]; exact cellsF) rfl (all_one (flt_one _ _)) ?_))
    refine bodyPost_ret (results_tmp_row Try.results11 _ _ _ w.heap.size 25 (flt 3 (-2)) _ rfl rfl (Row.row r0 _) Try.underlying25 rfl (by rw [flt_size]; exact cellsF)) rfl ⟨⟨_, _, rfl⟩, ?_⟩
    exact blw_row hb (Nat.le_refl _) _

set_option maxRecDepth 100000 in
set_option maxHeartbeats 16000000 in
theorem lzparse_any : PParse := by
  intro L E N D hN hD hN2 hD2 A B cd ce w hA hB
  have t1 : decide ((1024 : Int) < (N : Int)) = false := decide_eq_false (by omega)
  have t2 : decide (1024 < N) = false := decide_eq_false (by omega)
  have t3 : decide ((512 : Int) < (D : Int)) = false := decide_eq_false (by omega)
  have t4 : decide (512 < D) = false := decide_eq_false (by omega)
  have HF := Lib.hid (fun w hA hB => firsttoks_any L E N D hN hD hN2 hD2 A B cd ce w hA hB)
  have HA := Lib.hid hA
  have HB := Lib.hid hB
  obtain ⟨X, hX⟩ : ∃ X, X = E ++ L := ⟨_, rfl⟩
  have hXl : X.length = D + N := by rw [hX, List.length_append, ← hN, ← hD]
  rw [← hX] at HF ⊢
  have HX := Lib.hid hXl
  clear hA hB hN hD hX hXl
  go_enter Try.func11, Try.ntmps11
  go_upto_region 1 with (fail)
  have ha : Below w.heap.size w (w.alloc (.cells #[.int .i64 0, .int .i64 0] 25)) := (Below.refl _ _).alloc (Nat.le_refl _) _
  refine wp_world (F := fun W => Row W w.heap.size 25 (flt 0 0) ∧ Sl W W.heap.size A N (bl L) ∧ Sl W W.heap.size B D (bl E) ∧ Below w.heap.size w W) ⟨Row.newEq _ _ _ _ _ rfl rfl, HA.out.up ha, HB.out.up ha, ha⟩ ?_
  clear ha HA HB
  rintro W0 ⟨r0, hA, hB, hb⟩
  go_upto_region 6 with (first
    | (go_at_call 34; refine (HF.out _ hA hB).mono ?_; rintro e w1 ⟨⟨G, cg, K, t, ts, hTab, rfl, hTk, hts⟩, hb1⟩))
  have r1 := r0.below hb1 r0.lt
  have hbw := up_call hb hb1
  have HTK := Lib.hid hTk
  have HTB := Lib.hid (And.intro hTab hts)
  have hrl := r1.lt
  have hgw : w.heap.size ≤ w1.heap.size := hbw.size
  clear hTk hTab hts hb hb1 r0 hA hB t1 t2 t3 t4 HF W0
  go_upto_region 8 with (fail)
  go_loopw [7, 8] (fun v i wr => ∃ (x f m : Nat) (o : List Tk), i = .int .i64 x ∧ N ≤ x + f ∧ x ≤ N ∧ m ≤ x ∧ Hid (o ++ pathT t N f x = pathT t N N 0 ∧ m = o.length) ∧ Hid (wr.ownsRow w1.heap.size 37 3 v m (tkc (tz o))) ∧ Below w1.heap.size w1 wr) (fun _ i _ => N - (intOf i).toNat)
  case atStart => exact ⟨0, N, 0, [], rfl, by omega, Nat.zero_le _, Nat.le_refl _, Lib.hid ⟨rfl, rfl⟩, Lib.hid (World.ownsRow_nil _ _ _ _), Below.refl _ _⟩
  case round =>
    obtain ⟨x, f, m, o, rfl, hxf, hxN, hmx, HO, HV, hbr⟩ := hrel
    obtain ⟨A9, c9, hv9, _, _⟩ := own_form3 HV.out
    subst hv9
    by_cases hlt : x < N
    · obtain ⟨f, rfl⟩ : ∃ g, f = g + 1 := ⟨f - 1, by omega⟩
      have hpath := HO.out.1
      rw [pathT, if_pos hlt] at hpath
      obtain ⟨hfit, _, _⟩ := HTB.out.1.2 x (Nat.zero_le _) hlt
      have hok := ok_fits hfit (by rw [HX.out]; omega) (by rw [HX.out]; omega)
      have hla := size_any (t x) hok
      have hfl := fits_len hfit
      rw [HX.out] at hfl
      obtain ⟨ad, rfl, hadb, c1a, c2a, c3a⟩ := (HTK.out.below hbr).at_ hlt
      have hzx := HTB.out.2 x hlt
      obtain ⟨tx, htx⟩ : ∃ tx, tx = t x := ⟨_, rfl⟩
      rw [← htx] at hpath hla hfl hzx
      rw [hzx] at c1a c2a c3a
      obtain ⟨x1, x2, x3, hz3⟩ : ∃ a b c, tx.z = (a, b, c) := ⟨_, _, _, rfl⟩
      rw [hz3] at c1a c2a c3a hla
      simp only at c1a c2a c3a hla
      obtain ⟨z3, hzz⟩ : ∃ z : Int, z = (x3.toNat : Int) := ⟨_, rfl⟩
      unfold tcs at hla
      rw [← hzz] at c3a hla
      obtain ⟨tl, htl⟩ : ∃ y, y = tx.len := ⟨_, rfl⟩
      rw [← htl] at hpath hla hfl
      have HPT := Lib.hid hpath
      have HLA := Lib.hid hla
      have HZ3 := Lib.hid (And.intro hz3 hzz)
      have hadw : (ad.add (x * 3)).block < w1.heap.size := by rw [add_block]; exact hadb
      have HKC : Hid (∀ W, Below w1.heap.size wr W → W.cell? (ad.add (x * 3)) = some (.int .i64 x1) ∧ W.cell? ⟨(ad.add (x * 3)).block, (ad.add (x * 3)).off + 1, none⟩ = some (.int .i64 x2) ∧ W.cell? ⟨(ad.add (x * 3)).block, (ad.add (x * 3)).off + 2, none⟩ = some (.int .u8 z3)) := Lib.hid (fun W hW => ⟨(hW.cell hadw).trans c1a, (hW.cell (p := ⟨(ad.add (x * 3)).block, (ad.add (x * 3)).off + 1, none⟩) hadw).trans c2a, (hW.cell (p := ⟨(ad.add (x * 3)).block, (ad.add (x * 3)).off + 2, none⟩) hadw).trans c3a⟩)
      clear hpath hla hfit hok hzx htx hz3 hzz htl
      have hsz : w1.heap.size ≤ wr.heap.size := hbr.size
      go_upto_region 9 with (first
        | (refine wpList_tk rfl _ rfl x1 x2 z3 rfl ?_)
        | (at_builtin; refine wpList_app_tk rfl _ _ rfl w1.heap.size _ m (tz o) rfl (own_below3 HV.out ((Below.refl _ _).alloc (Nat.le_refl _) _)) x1 x2 z3 (x1, x2, x3) rfl HZ3.out.2 wr.heap.size 1 rfl (Row.new _ _ _) (by omega) (by simp; omega) ?_; intro v8 w8 hown8 hb8 hk8))
      have hba := ((Below.refl w1.heap.size wr).alloc hsz (.cells #[.int .i64 x1, .int .i64 x2, .int .u8 z3] 37)).trans hb8
      have hbr8 := hbr.trans hba
      obtain ⟨d1a, d2a, d3a⟩ := HKC.out _ hba
      clear c1a c2a c3a
      go_wp2_with (first
        | (go_at_call 35; refine (HLA.out _).mono ?_; rintro e w9 ⟨rfl, hb9⟩))
      have hbr9 := blw_call hbr8 (Nat.le_trans hbr8.size (Nat.le_refl _)) hb9
      have HV9 := Lib.hid (own_below3 hown8 hb9)
      clear hown8 hb8 hk8 d1a d2a d3a hb9
      go_roundw
      case rel => exact ⟨x + tl, f, m + 1, o ++ [tx], by go_num, by omega, by omega, by omega, Lib.hid ⟨by rw [List.append_assoc]; exact HPT.out, by rw [List.length_append, ← HO.out.2]; rfl⟩, Lib.hid (by rw [tz_append, show tz [tx] = [(x1, x2, x3)] by rw [← HZ3.out.1]; rfl]; exact HV9.out), hbr9⟩
      case measure => simp [intOf]; omega
    · obtain rfl : x = N := by omega
      have hend : pathT t x f x = [] := by cases f with | zero => rfl | succ f => rw [pathT, if_neg (Nat.lt_irrefl _)]
      have ho := HO.out.1
      rw [hend, List.append_nil] at ho
      have HOO := Lib.hid ho
      have r2 := r1.below hbr hrl
      have hb2 := blw_call hbw hgw hbr
      clear ho hend
      go_wp2_with (first
        | (refine wpList_store_row rfl 25 _ _ rfl w.heap.size (flt 0 0) rfl rfl 25 (flt 0 0) r2 (by rw [flt_size]; exact cellsF) rfl (all_one (flt_one _ _)) ?_))
      refine bodyPost_ret (results_tmp_row Try.results11 _ _ _ w.heap.size 25 (flt 0 0) _ rfl rfl (Row.row r2 _) Try.underlying25 rfl (by rw [flt_size]; exact cellsF)) rfl ?_
      have hl9 : (pathT t x x 0).length = m := by rw [← HOO.out]; exact HO.out.2.symm
      refine ⟨⟨A9, c9, _, t, HTB.out.1, ?_, ?_⟩, blw_row hb2 (Nat.le_refl _) _⟩
      · rw [hl9]
        rfl
      · rw [hl9, ← HOO.out]
        exact Tks.of_own (by rw [tz_length, ← HO.out.2]) (own_row3 HV.out r2 (by decide) _)
/-- all that the statements ask of package lz -/
theorem lz_all : LZ where
  valid := fun d n x w => lzvalid_any d n x w
  parseBad := lzparse_bad
  parse := lzparse_any
  expandBad := lzexpand_bad
  expandLong := lzexpand_long
  expand := lzexpand_any
  costBad := lzcost_bad
  cost := lzcost_any
  encBad := lzenc_bad
  enc := lzenc_any
  decForm := lzdec_form
  decRange := lzdec_range
  dec := lzdec_any
end Go.Proofs.Ytahihgmlkcbfiaa
