/-
  The contract of the reference's Cheapest: the cheapest tokens.
-/
import Derived.Test.YtahihgmlkcbfiaaRCheK
namespace Go.Proofs.Ytahihgmlkcbfiaa
open Go.RowKit

/-- the list of numbers as a function -/
def KF (C : List Nat) : Nat → Nat := fun j => C.getD j 0
theorem KF_set (C : List Nat) (i v j : Nat) (h : j ≠ i) : KF (C.set i v) j = KF C j := by
  unfold KF
  rw [List.getD_eq_getElem?_getD, List.getD_eq_getElem?_getD, List.getElem?_set_ne (Ne.symm h)]
theorem KF_at (C : List Nat) (i v : Nat) (h : i < C.length) : KF (C.set i v) i = v := by
  unfold KF
  rw [List.getD_eq_getElem?_getD, List.getElem?_set_self h]
  rfl
theorem getZ_set (T : List TokZ) (i : Nat) (v : TokZ) (j : Nat) (h : j ≠ i) : (T.set i v).getD j (0, 0, 0) = T.getD j (0, 0, 0) := by
  rw [List.getD_eq_getElem?_getD, List.getD_eq_getElem?_getD, List.getElem?_set_ne (Ne.symm h)]
theorem getZ_at (T : List TokZ) (i : Nat) (v : TokZ) (h : i < T.length) : (T.set i v).getD i (0, 0, 0) = v := by
  rw [List.getD_eq_getElem?_getD, List.getElem?_set_self h]
  rfl
/-- what is known behind the rounds from q on -/
def Done (X : List UInt8) (D N q : Nat) (C : List Nat) (Z : List TokZ) (t : Nat → Tk) : Prop :=
  C.length = N + 1 ∧ Z.length = N ∧ Tab X D N (KF C) t q ∧ ∀ j, q ≤ j → j < N → Z.getD j (0, 0, 0) = (t j).z
theorem cost_row {w : World} {g : Nat} {C : List Nat} (r : Row w g 3 (nl C).toArray) (i : Nat) (h : i < C.length) : w.cell? ⟨g, i, none⟩ = some (.int .i64 ((KF C i : Nat) : Int)) := by
  rw [r.cell, List.getElem?_toArray, nl_get C i h]
  rfl
theorem tok_row {w : World} {g : Nat} {Z : List TokZ} (r : Row w g 37 (tkc Z).toArray) (i : Nat) (h : i < Z.length) : w.cell? ⟨g, i * 3, none⟩ = some (.int .i64 (Z.getD i (0, 0, 0)).1) ∧ w.cell? ⟨g, i * 3 + 1, none⟩ = some (.int .i64 (Z.getD i (0, 0, 0)).2.1) ∧ w.cell? ⟨g, i * 3 + 2, none⟩ = some (.int .u8 ((Z.getD i (0, 0, 0)).2.2.toNat : Int)) := by
  obtain ⟨k1, k2, k3⟩ := tkc_get Z i Z[i] (List.getElem?_eq_getElem h)
  have e : Z.getD i (0, 0, 0) = Z[i] := by simp [List.getD_eq_getElem?_getD, h]
  rw [e]
  exact ⟨by rw [r.cell, List.getElem?_toArray, k1], by rw [r.cell, List.getElem?_toArray, k2], by rw [r.cell, List.getElem?_toArray, k3]⟩

set_option maxRecDepth 100000 in
set_option maxHeartbeats 32000000 in
theorem cheapest_any (L E : List UInt8) (N D : Nat) (hN : N = L.length) (hD : D = E.length) (hN2 : N ≤ 1024) (hD2 : D ≤ 512) (A B : Option Addr) (cd ce : Nat) (w : World) (hA : Sl w w.heap.size A N (bl L)) (hB : Sl w w.heap.size B D (bl E)) :
    Calls Try.prog 15 #[.slice A N cd, .slice B D ce] w fun e w' => (∃ G c K t, Tab (E ++ L) D N K t 0 ∧ e = .returned (.slice G (pathT t N N 0).length c) ∧ Tks w' w'.heap.size G (pathT t N N 0).length (tz (pathT t N N 0))) ∧ Below w.heap.size w w' := by
  obtain ⟨i0, hi, hz0, hz1, hz2⟩ := info_parts infoU8
  have hmk : ∀ w : World, (Instr.makeSlice 48 (.int .i64 ((N : Int) + 1)) (.int .i64 ((N : Int) + 1))).run Try.prog w = .ok (.slice (some ⟨w.heap.size, 0, none⟩) (N + 1) (N + 1)) (w.alloc (.cells (nl (List.replicate (N + 1) 0)).toArray 3)) := by
    intro w
    have h := run_make_row' (P := Try.prog) 48 3 (.int .i64 0) 8 Try.underlying48 infoI rfl .i64 .i64 (N + 1) (by omega) (by omega) w
    rw [made_nats] at h
    exact h
  have hmt := make_tks N (by omega)
  have HA := Lib.hid hA
  have HB := Lib.hid hB
  obtain ⟨X, hX⟩ : ∃ X, X = E ++ L := ⟨_, rfl⟩
  have hXl : X.length = D + N := by rw [hX, List.length_append, ← hN, ← hD]
  have hXd : ∀ p, p < N → X.getD (D + p) 0 = L.getD p 0 := by
    intro p hp
    rw [hX, List.getD_eq_getElem?_getD, List.getD_eq_getElem?_getD, List.getElem?_append_right (by omega), show D + p - E.length = p by omega]
  have hbX : bl E ++ bl L = bl X := by rw [hX, bl_append]
  rw [← hX]
  have HX := Lib.hid (And.intro hXl (And.intro hXd hbX))
  clear hA hB hX hXl hXd hbX hN hD
  go_enter Try.func15, Try.ntmps15
  go_upto_region 3 with (first
    | (at_builtin; refine wpList_app _ rfl _ _ _ rfl w.heap.size 5 i0 (.int .u8 0) 1 Try.underlying22 hi hz0 hz1 hz2 rfl _ 0 _ rfl (World.ownsRow_nil _ _ _ _) _ _ D _ _ rfl HB.out (fun u hu => bl_one _ u hu) (by unfold maxLen; omega) (by omega) (Nat.le_refl _) ?_; intro v1 w1 hown1 hg1))
  have hb1 := blw_grown (Below.refl w.heap.size w) hg1 (Nat.le_refl _) (World.ownsRow_nil w w.heap.size 5 1) (Nat.le_refl _)
  rw [List.nil_append, Nat.zero_add] at hown1
  have HV1 := Lib.hid hown1
  clear hown1 hg1
  obtain ⟨A1, c1, hv1, _, _⟩ := own_form HV1.out
  subst hv1
  go_upto_region 4 with (first
    | (at_builtin; refine wpList_app _ rfl _ _ _ rfl w.heap.size 5 i0 (.int .u8 0) 1 Try.underlying22 hi hz0 hz1 hz2 rfl _ D _ rfl HV1.out _ _ N _ _ rfl (HA.out.below hb1) (fun u hu => bl_one _ u hu) (by unfold maxLen; omega) (by omega) hb1.size ?_; intro v2 w2 hown2 hg2))
  have hb2 := blw_grown hb1 hg2 hb1.size HV1.out (Nat.le_refl _)
  rw [HX.out.2.2] at hown2
  obtain ⟨A2, c2, hv2, _, _⟩ := own_form hown2
  subst hv2
  have hs2 := Sl.of_own hown2
  clear hown2 hg2 HV1 hb1
  go_upto_region 6 with (fail)
  have hg : ∀ x y, Below w2.heap.size w2 ((w2.alloc x).alloc y) := fun x y => ((Below.refl _ _).alloc (Nat.le_refl _) _).alloc (by simp) _
  refine wp_world (F := fun W => Row W w2.heap.size 3 (nl (List.replicate (N + 1) 0)).toArray ∧ Row W (w2.heap.size + 1) 37 (tkc (List.replicate N (0, 0, 0))).toArray ∧ Sl W w2.heap.size A2 (D + N) (bl X) ∧ Sl W w2.heap.size A N (bl L) ∧ w.heap.size ≤ w2.heap.size ∧ Below w.heap.size w W)
    ⟨(Row.new _ _ _).alloc _, Row.newAt _ _ _ _ (by simp), hs2.below (hg _ _), ((HA.out.below hb2).wider hb2.size).below (hg _ _), hb2.size, up_call hb2 (hg _ _)⟩ ?_
  generalize w2.heap.size = gC
  clear hg hs2 hb2 w2 HA HB hmk hmt
  rintro W6 ⟨rc, rb, hX6, hL6, hwg, hb6⟩
  have HX6 := Lib.hid hX6
  have HL6 := Lib.hid hL6
  clear hX6 hL6
  go_upto_region 7 with (fail)
  go_loopw [8] (fun i wr => ∃ (q : Nat) (C : List Nat) (Z : List TokZ) (t : Nat → Tk), q ≤ N ∧ i = .int .i64 ((q : Int) - 1) ∧ Hid (Done X D N q C Z t) ∧ Row wr gC 3 (nl C).toArray ∧ Row wr (gC + 1) 37 (tkc Z).toArray ∧ Below gC W6 wr) (fun i _ => (intOf i + 1).toNat)
  case atStart => exact ⟨N, List.replicate (N + 1) 0, List.replicate N (0, 0, 0), fun _ => .lit 0, Nat.le_refl _, by go_num, Lib.hid ⟨List.length_replicate, List.length_replicate, ⟨by unfold KF; simp [List.getD_eq_getElem?_getD], fun p hp hp2 => by omega⟩, fun j hj hj2 => by omega⟩, rc, rb, Below.refl _ _⟩
  case round =>
    clear rc rb
    obtain ⟨q, C, Z, t, hq, rfl, HD, rc, rb, hbr⟩ := hrel
    by_cases hq0 : q = 0
    · subst hq0
      have hpe : (((0 : Nat) : Int) - 1) = -1 := rfl
      rw [hpe]
      have hgl := rb.lt
      go_upto_region 25 with (fail)
      go_loopw [14, 15] (fun v i wr => ∃ (x f m : Nat) (o : List Tk), i = .int .i64 x ∧ N ≤ x + f ∧ x ≤ N ∧ m ≤ x ∧ Hid (o ++ pathT t N f x = pathT t N N 0 ∧ m = o.length) ∧ Hid (wr.ownsRow (gC + 2) 37 3 v m (tkc (tz o))) ∧ Row wr (gC + 1) 37 (tkc Z).toArray ∧ Below gC W6 wr) (fun _ i _ => N - (intOf i).toNat)
      case atStart => exact ⟨0, N, 0, [], rfl, by omega, Nat.zero_le _, Nat.le_refl _, Lib.hid ⟨rfl, rfl⟩, Lib.hid (World.ownsRow_nil _ _ _ _), rb, hbr⟩
      case round =>
        clear rc rb hbr hgl hpe
        obtain ⟨x, f, m, o, rfl, hxf, hxN, hmx, HO, HV, rb, hbr⟩ := hrel
        obtain ⟨A9, c9, hv9, _, _⟩ := own_form3 HV.out
        subst hv9
        have hgl := rb.lt
        by_cases hlt : x < N
        · obtain ⟨f, rfl⟩ : ∃ g, f = g + 1 := ⟨f - 1, by omega⟩
          have hpath := HO.out.1
          rw [pathT, if_pos hlt] at hpath
          obtain ⟨hfit, _, _⟩ := HD.out.2.2.1.2 x (Nat.zero_le _) hlt
          have hok := ok_fits hfit (by rw [HX.out.1]; omega) (by rw [HX.out.1]; omega)
          have hla := length_any (t x) hok
          have hfl := fits_len hfit
          rw [HX.out.1] at hfl
          obtain ⟨c1a, c2a, c3a⟩ := tok_row rb x (by rw [HD.out.2.1]; exact hlt)
          have hzx := HD.out.2.2.2 x (Nat.zero_le _) hlt
          obtain ⟨tx, htx⟩ : ∃ tx, tx = t x := ⟨_, rfl⟩
          rw [← htx] at hpath hla hfl hzx
          rw [hzx] at c1a c2a c3a
          obtain ⟨x1, x2, x3, hz3⟩ : ∃ a b c, tx.z = (a, b, c) := ⟨_, _, _, rfl⟩
          rw [hz3] at c1a c2a c3a hla
          simp only at c1a c2a c3a hla
          obtain ⟨z3, hzz⟩ : ∃ z : Int, z = (x3.toNat : Int) := ⟨_, rfl⟩
          unfold tcs at hla
          rw [← hzz] at c3a hla
          obtain ⟨tl, htl⟩ : ∃ y, y = tx.len := ⟨_, rfl⟩
          rw [← htl] at hpath hla hfl
          have HPT := Lib.hid hpath
          have HLA := Lib.hid hla
          have HZ3 := Lib.hid (And.intro hz3 hzz)
          clear hpath hla hfit hok hzx htx hz3 hzz htl
          go_wp2_with (first
            | (refine wpList_tk rfl _ rfl x1 x2 z3 rfl ?_)
            | (at_builtin; refine wpList_app_tk rfl _ _ rfl (gC + 2) _ m (tz o) rfl (own_below3 HV.out ((Below.refl _ _).alloc (Nat.le_refl _) _)) x1 x2 z3 (x1, x2, x3) rfl HZ3.out.2 wr.heap.size 1 rfl (Row.new _ _ _) (by omega) (by simp; omega) ?_; intro v8 w8 hown8 hb8 hk8; have rb8 := (rb.alloc (.cells #[.int .i64 x1, .int .i64 x2, .int .u8 z3] 37)).below hb8 (Nat.lt_succ_self _); have d1a := (rb8.cell (x * 3)).trans ((rb.cell (x * 3)).symm.trans c1a); have d2a := (rb8.cell (x * 3 + 1)).trans ((rb.cell (x * 3 + 1)).symm.trans c2a); have d3a := (rb8.cell (x * 3 + 2)).trans ((rb.cell (x * 3 + 2)).symm.trans c3a))
            | (go_at_call 38; refine (HLA.out _).mono ?_; rintro e w9 ⟨rfl, hb9⟩))
          have hbr8 := ((hbr.alloc (by omega) (.cells #[.int .i64 x1, .int .i64 x2, .int .u8 z3] 37)).trans (hb8.mono (by omega)))
          have hgl8 := rb8.lt
          have hbr9 := blw_call hbr8 (by omega) hb9
          have rb9 := rb8.below hb9 rb8.lt
          have HV9 := Lib.hid (own_below3 hown8 hb9)
          clear hown8 hb8 hk8 d1a d2a d3a hb9
          go_roundw
          case rel => exact ⟨x + tl, f, m + 1, o ++ [tx], by go_num, by omega, by omega, by omega, Lib.hid ⟨by rw [List.append_assoc]; exact HPT.out, by rw [List.length_append, ← HO.out.2]; rfl⟩, Lib.hid (by rw [tz_append, show tz [tx] = [(x1, x2, x3)] by rw [← HZ3.out.1]; rfl]; exact HV9.out), rb9, hbr9⟩
          case measure => simp [intOf]; omega
        · obtain rfl : x = N := by omega
          have hend : pathT t x f x = [] := by cases f with | zero => rfl | succ f => rw [pathT, if_neg (Nat.lt_irrefl _)]
          have ho := HO.out.1
          rw [hend, List.append_nil] at ho
          have HOO := Lib.hid ho
          clear ho hend
          go_wp2
          go_ret
          have hl9 : (pathT t x x 0).length = m := by rw [← HOO.out]; exact HO.out.2.symm
          refine ⟨⟨A9, c9, _, t, HD.out.2.2.1, ?_, ?_⟩, hb6.trans (hbr.mono hwg)⟩
          · rw [hl9]
            rfl
          · rw [hl9, ← HOO.out]
            exact Tks.of_own (by rw [tz_length, ← HO.out.2]) HV.out
    · obtain ⟨p, rfl⟩ : ∃ p, q = p + 1 := ⟨q - 1, by omega⟩
      have hpe : ((p + 1 : Nat) : Int) - 1 = (p : Int) := by omega
      rw [hpe]
      have hpN : p < N := by omega
      have hcl := HD.out.1
      have hzl := HD.out.2.1
      obtain ⟨ad, rfl, _, k1⟩ := (HL6.out.below hbr).byte hpN
      have k2 := cost_row rc (p + 1) (by omega)
      obtain ⟨y, hy⟩ : ∃ y, y = L.getD p 0 := ⟨_, rfl⟩
      obtain ⟨v, hv⟩ : ∃ v, v = KF C (p + 1) := ⟨_, rfl⟩
      rw [← hy] at k1
      rw [← hv] at k2
      obtain ⟨z, hz⟩ : ∃ z : Int, z = (y.toNat : Int) := ⟨_, rfl⟩
      rw [← hz] at k1
      have hvl : v ≤ 9216 := by
        rw [hv]
        have := tab_le HX.out.1 HD.out.2.2.1 (N - (p + 1)) (p + 1) (by omega) (Nat.le_refl _)
        omega
      have HZ := Lib.hid (And.intro hy (And.intro hv hz))
      clear hy hv hz hpe
      go_upto_region 11 with (first
        | (refine wpList_store_tk rfl _ _ rfl (gC + 1) p rfl 0 0 z rfl Z rb (by omega) (0, 0, y) rfl HZ.out.2.2 ?_))
      have hnb : gC ≠ gC + 1 := by omega
      refine wp_world (F := fun W => Row W gC 3 (nl C).toArray ∧ Row W (gC + 1) 37 (tkc (Z.set p (0, 0, y))).toArray ∧ Below gC W6 W) ⟨rc.rowFar hnb _, Row.row rb _, blw_row hbr (by omega) _⟩ ?_
      clear rc rb hbr k1 k2
      rintro W1 ⟨rc, rb, hbr⟩
      have k2 := cost_row rc (p + 1) (by omega)
      rw [← HZ.out.2.1] at k2
      have fr := rc.free p
      have k3 := cost_row rc p (by omega)
      go_upto_region 12 with (fail)
      have rc2 := rc.put p (.int .i64 ((9 + v : Nat) : Int))
      rw [nl_put] at rc2
      have rb2 := rb.far (p := ⟨gC, p, none⟩) (by show gC + 1 ≠ gC; omega) (.int .i64 ((9 + v : Nat) : Int))
      have hb2 := hbr.setCell (p := ⟨gC, p, none⟩) (Nat.le_refl _) (.int .i64 ((9 + v : Nat) : Int))
      refine wp_world (F := fun W => Row W gC 3 (nl (C.set p (9 + v))).toArray ∧ Row W (gC + 1) 37 (tkc (Z.set p (0, 0, y))).toArray ∧ Below gC W6 W) ⟨rc2, rb2, hb2⟩ ?_
      clear rc rb hbr k2 k3 fr rc2 rb2 hb2 W1
      rintro W2 ⟨rc, rb, hbr⟩
      go_upto_region 13 with (fail)
      have hlead : Lead X D (KF C) p (D + p) 0 (.lit y) := by
        have h := lead_start X D (KF C) p (by rw [HX.out.1]; omega)
        rw [HX.out.2.1 p hpN, ← HZ.out.1] at h
        exact h
      have HLD := Lib.hid (And.intro hlead (show 9 + v = totalT (KF C) p (.lit y) by rw [HZ.out.2.1]; rfl))
      clear hlead
      go_loopw [10] (fun i wr => ∃ (d cc : Nat) (a : Tk), d ≤ D + p ∧ i = .int .i64 d ∧ Hid (Lead X D (KF C) p d 0 a ∧ cc = totalT (KF C) p a) ∧ cc ≤ 9225 ∧ Row wr gC 3 (nl (C.set p cc)).toArray ∧ Row wr (gC + 1) 37 (tkc (Z.set p a.z)).toArray ∧ Below gC W6 wr) (fun i _ => (intOf i).toNat)
      case atStart => exact ⟨D + p, 9 + v, .lit y, Nat.le_refl _, by go_num, HLD, by omega, rc, rb, hbr⟩
      case round =>
        clear rc rb hbr HLD
        obtain ⟨d, cc, a, hd, rfl, HLD, hcc, rc, rb, hbr⟩ := hrel
        by_cases hd0 : d = 0
        · subst hd0
          have hend := lead_end HLD.out.1
          have HDN := Lib.hid (show Done X D N p (C.set p cc) (Z.set p a.z) (fun j => if j = p then a else t j) from
            ⟨by rw [List.length_set]; exact hcl, by rw [List.length_set]; exact hzl,
              tab_more HD.out.2.2.1 hpN (fun q hq => KF_set C p cc q (by omega)) (fun q hq => if_neg (by omega)) (by simp only [if_true]; exact HLD.out.1.1) (by simp only [if_true]; exact hend) (by simp only [if_true]; rw [KF_at C p cc (by omega)]; exact HLD.out.2),
              fun j hj hjN => by
                by_cases hjp : j = p
                · subst hjp
                  rw [getZ_at Z j _ (by omega)]
                  show a.z = (if j = j then a else t j).z
                  rw [if_pos rfl]
                · rw [getZ_set Z p _ j hjp]
                  show _ = (if j = p then a else t j).z
                  rw [if_neg hjp]
                  exact HD.out.2.2.2 j (by omega) hjN⟩)
          clear hend
          go_wp2
          go_roundw
          case rel => exact ⟨p, _, _, _, by omega, rfl, HDN, rc, rb, hbr⟩
          case measure => (first | (simp [intOf]; done) | (simp [intOf]; omega))
        · have hd1 : 1 ≤ d := by omega
          have hgl := rb.lt
          have hrep := repeats_any X (D + N) (by rw [HX.out.1]) (by omega) (D + p) d (by omega) hd1 hd A2 c2 wr ((HX6.out.below hbr).wider (by omega))
          rw [show ((D + p : Nat) : Int) = (D : Int) + (p : Int) from rfl] at hrep
          have s1 : decide ((1 : Int) ≤ (d : Int)) = true := decide_eq_true (by omega)
          have s2 : decide (1 ≤ d) = true := decide_eq_true hd1
          go_upto_region 17 with (first
            | (go_at_call 36; refine hrep.mono ?_; rintro e w3 ⟨⟨m, rfl, hm⟩, hb3⟩))
          have rc3 := rc.below hb3 rc.lt
          have rb3 := rb.below hb3 rb.lt
          have hbr3 := blw_call hbr (Nat.le_of_lt rc.lt) hb3
          have hmN : D + p + m ≤ D + N := by rw [← HX.out.1]; exact hm.1
          have HM := Lib.hid (fun n => rep_fits hm ⟨hd1, hd⟩ n)
          have HL3 := Lib.hid (And.intro (lead_low HLD.out.1 (Nat.le_refl 3)) HLD.out.2)
          clear hrep rc rb hbr hb3 hm hgl s1 s2 HLD
          go_loopw [12] (fun i wr => ∃ (n cc : Nat) (a : Tk), 3 ≤ n ∧ n ≤ N + 3 ∧ i = .int .i64 n ∧ Hid (Lead X D (KF C) p d n a ∧ cc = totalT (KF C) p a) ∧ cc ≤ 9225 ∧ Row wr gC 3 (nl (C.set p cc)).toArray ∧ Row wr (gC + 1) 37 (tkc (Z.set p a.z)).toArray ∧ Below gC W6 wr) (fun i _ => N + 4 - (intOf i).toNat)
          case atStart => exact ⟨3, cc, a, Nat.le_refl _, by omega, rfl, HL3, hcc, rc3, rb3, hbr3⟩
          case round =>
            clear rc3 rb3 hbr3 HL3 hcc
            obtain ⟨n, cc, a, hn3, hnN, rfl, HLN, hcc, rc, rb, hbr⟩ := hrel
            by_cases hnm : n ≤ m
            · have hpn : p + n ≤ N := by omega
              have hfit := (HM.out n).2 ⟨hn3, hnm⟩
              have hgd := rgamma_any d _ hd1 (by omega) rfl
              have hgn := rgamma_any (n - 2) _ (by omega) (by omega) rfl
              have bd := log2_small d 11 hd1 (by omega)
              have bn := log2_small (n - 2) 11 (by omega) (by omega)
              obtain ⟨zd, hzd⟩ : ∃ z, z = Nat.log2 d := ⟨_, rfl⟩
              obtain ⟨zn, hzn⟩ : ∃ z, z = Nat.log2 (n - 2) := ⟨_, rfl⟩
              rw [← hzd] at hgd bd
              rw [← hzn] at hgn bn
              have hn2 : ((n - 2 : Nat) : Int) = (n : Int) - 2 := by omega
              rw [hn2] at hgn
              have k1 := cost_row rc (p + n) (by rw [List.length_set]; omega)
              rw [KF_set C p cc (p + n) (by omega)] at k1
              obtain ⟨u, hu⟩ : ∃ u, u = KF C (p + n) := ⟨_, rfl⟩
              rw [← hu] at k1
              have hul : u ≤ 9216 := by
                rw [hu]
                have := tab_le HX.out.1 HD.out.2.2.1 (N - (p + n)) (p + n) (by omega) (by omega)
                omega
              obtain ⟨g1, hg1⟩ : ∃ g, g = zd + (zd + 1) := ⟨_, rfl⟩
              obtain ⟨g2, hg2⟩ : ∃ g, g = zn + (zn + 1) := ⟨_, rfl⟩
              rw [← hg1] at hgd
              rw [← hg2] at hgn
              have hgl1 : g1 ≤ 25 := by omega
              have hgl2 : g2 ≤ 25 := by omega
              obtain ⟨cn, hcn⟩ : ∃ cn, cn = 1 + g1 + g2 + u := ⟨_, rfl⟩
              have htot : cn = totalT (KF C) p (.mat d n) := by
                rw [hcn, hg1, hg2, hzd, hzn, hu]
                show _ = 1 + (2 * Nat.log2 d + 1) + (2 * Nat.log2 (n - 2) + 1) + KF C (p + n)
                omega
              have HCN := Lib.hid (And.intro htot hfit)
              have HG1 := Lib.hid hgd
              have HG2 := Lib.hid hgn
              have hcni : (1 : Int) + (g1 : Int) + (g2 : Int) + (u : Int) = (cn : Int) := by omega
              have hcl9 : cn ≤ 9300 := by omega
              have hw1 : IntKind.i64.wrap ((n : Int) - 2) = (n : Int) - 2 := iw _ (by omega)
              obtain ⟨pn, hpn2⟩ : ∃ x, x = p + n := ⟨_, rfl⟩
              have hw2 : IntKind.i64.wrap ((p : Int) + (n : Int)) = (pn : Int) := by rw [iw _ (by omega)]; omega
              have hw3 : IntKind.i64.wrap (1 + (g1 : Int)) = 1 + (g1 : Int) := iw _ (by omega)
              have hw4 : IntKind.i64.wrap (1 + (g1 : Int) + (g2 : Int)) = 1 + (g1 : Int) + (g2 : Int) := iw _ (by omega)
              have hw5 : IntKind.i64.wrap (1 + (g1 : Int) + (g2 : Int) + (u : Int)) = (cn : Int) := by rw [hcni]; exact iw _ (by omega)
              have hpi : pn < N + 1 := by omega
              have hpi2 : (pn : Int) < (N : Int) + 1 := by omega
              rw [← hpn2] at k1
              clear hpn2
              clear htot hfit hzd hzn hu hgd hgn hn2 hcn hg1 hg2 bd bn hcni
              have hkeep : ∀ W, Below wr.heap.size wr W → W.cell? ⟨gC, pn, none⟩ = some (.int .i64 (u : Int)) := fun W h => (h.cell (p := ⟨gC, pn, none⟩) rc.lt).trans k1
              have HK := Lib.hid hkeep
              clear hkeep k1
              go_upto_region 19 with (fail)
              have kk0 : Below wr.heap.size wr wr.drew := (Below.refl wr.heap.size wr).drew
              go_region_held3 (fun W => W.cell? ⟨gC, pn, none⟩ = some (.int .i64 (u : Int)))
                (first
                  | exact HK.out _ kk0
                  | exact HK.out _ (up_call kk0 hb4)
                  | exact HK.out _ (up_call (up_call kk0 hb4) hb5))
                (first
                  | (go_at_call 37; (with_reducible refine (HG1.out _).mono ?_); rintro e w4 ⟨u4, rfl, ho4, hb4⟩; obtain ⟨A4, c4, hv4, _, _⟩ := own_form ho4; subst hv4)
                  | (go_at_call 37; (with_reducible refine (HG2.out _).mono ?_); rintro e w5 ⟨u5, rfl, ho5, hb5⟩; obtain ⟨A5, c5, hv5, _, _⟩ := own_form ho5; subst hv5))
              all_goals
                have kk := up_call (up_call kk0 hb4) hb5
                go_upto_region 20 with (fail)
                refine wp_world (F := fun W => Row W gC 3 (nl (C.set p cc)).toArray ∧ Row W (gC + 1) 37 (tkc (Z.set p a.z)).toArray ∧ Below gC W6 W) ⟨rc.below kk rc.lt, rb.below kk rb.lt, blw_call hbr (Nat.le_of_lt rc.lt) kk⟩ ?_
                clear rc rb hbr kk hb4 hb5 ho4 ho5 kk0 HK hw1 hw2 hw3 hw4 hw5
                rintro W7 ⟨rc, rb, hbr⟩
                have hcs : p < (C.set p cc).length := by rw [List.length_set]; omega
                have hzs : p < (Z.set p a.z).length := by rw [List.length_set]; omega
                have k5 := cost_row rc p hcs
                rw [KF_at C p cc (by omega)] at k5
                have k5a := rc.free p
                have hok := ok_fits HLN.out.1.1 (by rw [HX.out.1]; omega) (by rw [HX.out.1]; omega)
                have hla := length_any a hok
                obtain ⟨c1a, c2a, c3a⟩ := tok_row rb p hzs
                rw [getZ_at Z p a.z (by omega)] at c1a c2a c3a
                obtain ⟨x1, hx1⟩ : ∃ x, x = a.z.1 := ⟨_, rfl⟩
                obtain ⟨x2, hx2⟩ : ∃ x, x = a.z.2.1 := ⟨_, rfl⟩
                obtain ⟨x3, hx3⟩ : ∃ x : Int, x = (a.z.2.2.toNat : Int) := ⟨_, rfl⟩
                obtain ⟨al, hal⟩ : ∃ x, x = a.len := ⟨_, rfl⟩
                unfold tcs at hla
                rw [← hx1] at c1a hla
                rw [← hx2] at c2a hla
                rw [← hx3] at c3a hla
                rw [← hal] at hla
                have HLA := Lib.hid hla
                have HAL := Lib.hid hal
                have hal2 : al ≤ 1024 := by
                  have h1 := fits_len HLN.out.1.1
                  rw [HX.out.1, ← hal] at h1
                  omega
                clear hla hx1 hx2 hx3 hok hal
                by_cases h1 : cn < cc
                · have s1 : decide ((cn : Int) < (cc : Int)) = true := decide_eq_true (by omega)
                  have s2 : decide (cn < cc) = true := decide_eq_true h1
                  have HTK := Lib.hid (lead_take HLN.out.1 HCN.out.2 (.inl (by rw [← HCN.out.1, ← HLN.out.2]; exact h1)))
                  go_upto_region 22 with (first
                    | (go_at_call 38; refine (HLA.out _).mono ?_; rintro e w7 ⟨rfl, hb7⟩; have qc := rc.below hb7 rc.lt; have qb := rb.below hb7 rb.lt; have hbq := blw_call hbr (Nat.le_of_lt rc.lt) hb7; have k9 := cost_row qc p hcs; have k9a := qc.free p))
                  have rc2 := rc.put p (.int .i64 (cn : Int))
                  rw [nl_put, List.set_set] at rc2
                  have rb2 := rb.far (p := ⟨gC, p, none⟩) (by show gC + 1 ≠ gC; omega) (.int .i64 (cn : Int))
                  have hb2 := hbr.setCell (p := ⟨gC, p, none⟩) (Nat.le_refl _) (.int .i64 (cn : Int))
                  refine wp_world (F := fun W => Row W gC 3 (nl (C.set p cn)).toArray ∧ Row W (gC + 1) 37 (tkc (Z.set p a.z)).toArray ∧ Below gC W6 W) ⟨rc2, rb2, hb2⟩ ?_
                  clear rc2 rb2 hb2 rc rb hbr k5 k5a c1a c2a c3a
                  rintro W9 ⟨rc, rb, hbr⟩
                  go_wp2_with (first
                    | (refine wpList_store_tk rfl _ _ rfl (gC + 1) p rfl (d : Int) (n : Int) 0 rfl _ rb hzs ((d : Int), (n : Int), 0) rfl rfl ?_))
                  have hnb2 : gC ≠ gC + 1 := by omega
                  have rb3 := Row.row rb (tkc ((Z.set p a.z).set p ((d : Int), (n : Int), 0))).toArray
                  rw [List.set_set] at rb3
                  have rc3 := rc.rowFar hnb2 (tkc (Z.set p ((d : Int), (n : Int), 0))).toArray
                  have hb3 := blw_row hbr (Nat.le_succ gC) (tkc (Z.set p ((d : Int), (n : Int), 0))).toArray
                  go_roundw
                  case rel => exact ⟨n + 1, cn, .mat d n, by omega, by omega, by go_num, Lib.hid ⟨HTK.out, HCN.out.1⟩, by omega, rc3, rb3, hb3⟩
                  case measure => simp [intOf]; omega
                · have s1 : decide ((cn : Int) < (cc : Int)) = false := decide_eq_false (by omega)
                  have s2 : decide (cn < cc) = false := decide_eq_false h1
                  by_cases h2 : cn = cc
                  · subst h2
                    have s3 : ((cn : Int) == (cn : Int)) = true := beq_self_eq_true _
                    by_cases h3 : al ≤ n
                    · have s4 : decide ((al : Int) ≤ (n : Int)) = true := decide_eq_true (by omega)
                      have s5 : decide (al ≤ n) = true := decide_eq_true h3
                      have HTK := Lib.hid (lead_take HLN.out.1 HCN.out.2 (.inr ⟨by rw [← HCN.out.1, ← HLN.out.2], by rw [← HAL.out]; exact h3⟩))
                      go_upto_region 22 with (first
                        | (go_at_call 38; refine (HLA.out _).mono ?_; rintro e w7 ⟨rfl, hb7⟩; have qc := rc.below hb7 rc.lt; have qb := rb.below hb7 rb.lt; have hbq := blw_call hbr (Nat.le_of_lt rc.lt) hb7; have k9 := cost_row qc p hcs; have k9a := qc.free p))
                      have rc2 := qc.put p (.int .i64 (cn : Int))
                      rw [nl_put, List.set_set] at rc2
                      have rb2 := qb.far (p := ⟨gC, p, none⟩) (by show gC + 1 ≠ gC; omega) (.int .i64 (cn : Int))
                      have hb2 := hbq.setCell (p := ⟨gC, p, none⟩) (Nat.le_refl _) (.int .i64 (cn : Int))
                      refine wp_world (F := fun W => Row W gC 3 (nl (C.set p cn)).toArray ∧ Row W (gC + 1) 37 (tkc (Z.set p a.z)).toArray ∧ Below gC W6 W) ⟨rc2, rb2, hb2⟩ ?_
                      clear rc2 rb2 hb2 rc rb hbr k5 k5a c1a c2a c3a qc qb hbq k9 k9a hb7
                      rintro W9 ⟨rc, rb, hbr⟩
                      go_wp2_with (first
                        | (refine wpList_store_tk rfl _ _ rfl (gC + 1) p rfl (d : Int) (n : Int) 0 rfl _ rb hzs ((d : Int), (n : Int), 0) rfl rfl ?_))
                      have hnb2 : gC ≠ gC + 1 := by omega
                      have rb3 := Row.row rb (tkc ((Z.set p a.z).set p ((d : Int), (n : Int), 0))).toArray
                      rw [List.set_set] at rb3
                      have rc3 := rc.rowFar hnb2 (tkc (Z.set p ((d : Int), (n : Int), 0))).toArray
                      have hb3 := blw_row hbr (Nat.le_succ gC) (tkc (Z.set p ((d : Int), (n : Int), 0))).toArray
                      go_roundw
                      case rel => exact ⟨n + 1, cn, .mat d n, by omega, by omega, by go_num, Lib.hid ⟨HTK.out, HCN.out.1⟩, by omega, rc3, rb3, hb3⟩
                      case measure => simp [intOf]; omega
                    · have s4 : decide ((al : Int) ≤ (n : Int)) = false := decide_eq_false (by omega)
                      have s5 : decide (al ≤ n) = false := decide_eq_false h3
                      have HKP := Lib.hid (lead_keep HLN.out.1 (show ¬ (_ ∨ _) by rw [← HCN.out.1, ← HLN.out.2, ← HAL.out]; omega))
                      go_wp2_with (first
                        | (go_at_call 38; refine (HLA.out _).mono ?_; rintro e w7 ⟨rfl, hb7⟩; have qc := rc.below hb7 rc.lt; have qb := rb.below hb7 rb.lt; have hbq := blw_call hbr (Nat.le_of_lt rc.lt) hb7; have k9 := cost_row qc p hcs; have k9a := qc.free p))
                      go_roundw
                      case rel => exact ⟨n + 1, cn, a, by omega, by omega, by go_num, Lib.hid ⟨HKP.out, HLN.out.2⟩, by omega, qc, qb, hbq⟩
                      case measure => simp [intOf]; omega
                  · have s3 : ((cn : Int) == (cc : Int)) = false := beq_eq_false_iff_ne.2 (by omega)
                    have s3' : (cn == cc) = false := beq_eq_false_iff_ne.2 h2
                    have HKP := Lib.hid (lead_keep HLN.out.1 (show ¬ (_ ∨ _) by rw [← HCN.out.1, ← HLN.out.2, ← HAL.out]; omega))
                    go_wp2
                    go_roundw
                    case rel => exact ⟨n + 1, cc, a, by omega, by omega, by go_num, Lib.hid ⟨HKP.out, HLN.out.2⟩, by omega, rc, rb, hbr⟩
                    case measure => simp [intOf]; omega
            · have s1 : decide ((n : Int) ≤ (m : Int)) = false := decide_eq_false (by omega)
              have s2 : decide (n ≤ m) = false := decide_eq_false hnm
              have HDW := Lib.hid (lead_down HLN.out.1 hd1 (fun q hq => ((HM.out q).1 hq).2) (by omega))
              go_wp2
              go_roundw
              case rel => exact ⟨d - 1, cc, a, by omega, by go_num, Lib.hid ⟨HDW.out, HLN.out.2⟩, by omega, rc, rb, hbr⟩
              case measure => simp [intOf]; omega
end Go.Proofs.Ytahihgmlkcbfiaa
