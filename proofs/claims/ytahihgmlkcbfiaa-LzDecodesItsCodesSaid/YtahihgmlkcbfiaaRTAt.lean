/-
  The contract of the reference's TokensAt: the tokens of bits.
-/
import Derived.Test.YtahihgmlkcbfiaaRGam
import Derived.Test.YtahihgmlkcbfiaaTkOwn
import Derived.Test.YtahihgmlkcbfiaaRNum
import Derived.Test.YtahihgmlkcbfiaaRTokF
namespace Go.Proofs.Ytahihgmlkcbfiaa
open Go.RowKit

/-- what TokensAt answers -/
def DcOut (r : (List Tk × Nat) ⊕ (Nat × Nat)) (w : World) (e : Ending) (w' : World) : Prop :=
  (match r with
    | .inl (o, b) => ∃ B d, e = .returned (.tuple #[.slice B o.length d, .int .i64 (b : Nat), .agg (flt 0 0)]) ∧ Tks w' w'.heap.size B o.length (tz o)
    | .inr (z, a) => e = .returned (.tuple #[.slice none 0 0, .int .i64 0, .agg (flt (z : Nat) (a : Nat))])) ∧ Below w.heap.size w w'

theorem own_row3 {w : World} {base g : Nat} {e t : TypeId} {v : Value} {n : Nat} {xs : List Value} {cs : Array Value} (h : w.ownsRow base e 3 v n xs) (r : Row w g t cs) (ht : t ≠ e) (ds : Array Value) : (w.setRow g ds).ownsRow base e 3 v n xs := by
  refine ⟨h.1, ?_⟩
  rcases h.2 with h0 | ⟨k, cap, cur, h1, h2, h3, h4⟩
  · exact .inl h0
  · refine .inr ⟨k, cap, cur, h1, h2, Row.rowFar (t := e) h3 (fun hk => ?_) ds, h4⟩
    subst hk
    have := r.symm.trans h3
    simp only [Option.some.injEq, Obj.cells.injEq] at this
    exact ht this.2.1

set_option maxRecDepth 100000 in
set_option maxHeartbeats 16000000 in
theorem tokensat_any (l : List Bool) (n : Nat) (hn : n = l.length) (hl : n ≤ 131072) (c0 : Nat) (hc0 : c0 ≤ 1024) (A : Option Addr) (cp : Nat) (hcp : n ≤ cp) (w : World) (hS : Sl w w.heap.size A n (il l)) :
    Calls Try.prog 31 #[.slice A n cp, .int .i64 c0] w (DcOut (decF l c0 0 c0 []) w) := by
  obtain ⟨r, hr⟩ : ∃ r, r = decF l c0 0 c0 [] := ⟨_, rfl⟩
  rw [← hr]
  have HS := Lib.hid hS
  have HL := Lib.hid (And.intro hn hr)
  clear hS hn hr
  go_enter Try.func31, Try.ntmps31
  go_upto_region 1 with (fail)
  have ha : Below w.heap.size w (w.alloc (.cells #[.int .i64 0, .int .i64 0] 25)) := (Below.refl _ _).alloc (Nat.le_refl _) _
  refine wp_world (F := fun W => Row W w.heap.size 25 (flt 0 0) ∧ Below w.heap.size w W) ⟨Row.newEq _ _ _ _ _ rfl rfl, ha⟩ ?_
  clear ha
  rintro W0 ⟨r0, hb⟩
  go_upto_region 3 with (fail)
  go_loopw [1, 7, 8] (fun x v i wr => ∃ (c a m f : Nat) (o : List Tk), c ≤ 1024 ∧ c ≤ f ∧ x = .int .i64 c ∧ i = .int .i64 a ∧ a ≤ n ∧ m + c ≤ 1024 ∧ Hid (r = decF l f a c o ∧ m = o.length) ∧ Hid (wr.ownsRow w.heap.size 37 3 v m (tkc (tz o))) ∧ Row wr w.heap.size 25 (flt 0 0) ∧ Below w.heap.size w wr) (fun x _ _ _ => (intOf x).toNat)
  case atStart => exact ⟨c0, 0, 0, c0, [], hc0, Nat.le_refl _, rfl, rfl, Nat.zero_le _, by omega, Lib.hid ⟨HL.out.2, rfl⟩, Lib.hid (World.ownsRow_nil _ _ _ _), r0, hb⟩
  case round =>
    clear r0 hb
    obtain ⟨c, a, m, f, o, hc, hcf, rfl, rfl, han, hmc, HR, HV, r1, hb1⟩ := hrel
    obtain ⟨A7, c7, hv7, _, _⟩ := own_form3 HV.out
    subst hv7
    have hnl : n = l.length := HL.out.1
    by_cases hc1 : 1 ≤ c
    · obtain ⟨f, rfl⟩ : ∃ g, f = g + 1 := ⟨f - 1, by omega⟩
      have hr0 := HR.out.1
      have hcr := hc1
      have s0 : decide ((0 : Int) < (c : Int)) = true := decide_eq_true (by omega)
      have s0' : decide (0 < c) = true := decide_eq_true (by omega)
      obtain ⟨tf, htf⟩ : ∃ tf, tf = tokF l a c := ⟨_, rfl⟩
      have hr : tokF l a c = tf := htf.symm
      unfold tokF at htf
      by_cases h1 : n ≤ a
      · have s1 : decide ((n : Int) ≤ (a : Int)) = true := decide_eq_true (by omega)
        have s2 : decide (n ≤ a) = true := decide_eq_true h1
        rw [if_pos (by rw [← hnl]; exact h1)] at htf
        subst htf
        clear hnl hcr
        have HRE := Lib.hid (show r = .inr (15, a) by rw [hr0]; exact decF_err l f a c 15 o hc1 hr)
        clear hr0 hr
        go_wp2_with (first
          | (go_at_call 29; refine (at_any (15) a _).mono ?_; rintro e w9 ⟨rfl, hb9⟩; have q1 := r1.below hb9 r1.lt)
          | (refine wpList_store_row rfl 25 _ _ rfl w.heap.size (flt (15) a) rfl rfl 25 (flt 0 0) (q1) (by rw [flt_size]; exact cellsF) rfl (all_one (flt_one _ _)) ?_))
        refine bodyPost_ret (results_tmp2_row Try.results31 _ _ _ _ w.heap.size 25 (flt (15) a) _ rfl rfl rfl (Row.row (q1) _) Try.underlying25 rfl (by rw [flt_size]; exact cellsF)) rfl ?_
        refine ⟨?_, blw_row (up_call hb1 hb9) (Nat.le_refl _) _⟩
        rw [HRE.out]
        exact rfl
      · have s1 : decide ((n : Int) ≤ (a : Int)) = false := decide_eq_false (by omega)
        have s2 : decide (n ≤ a) = false := decide_eq_false h1
        rw [if_neg (by rw [← hnl]; exact h1)] at htf
        obtain ⟨ad, rfl, hbl, k1⟩ := (HS.out.below hb1).bit (k := a) (by omega)
        by_cases h2 : l.getD a false = false
        · rw [if_pos h2] at htf
          rw [h2] at k1
          have k1' : wr.cell? (ad.add a) = some (.int .i64 0) := k1
          clear k1 h2
          by_cases h3 : n < a + 9
          · have s3 : decide ((n : Int) < (a : Int) + 9) = true := decide_eq_true (by omega)
            rw [if_pos (by rw [← hnl]; exact h3)] at htf
            subst htf
            clear hnl hcr
            have HRE := Lib.hid (show r = .inr (15, a) by rw [hr0]; exact decF_err l f a c 15 o hc1 hr)
            clear hr0 hr
            go_wp2_with (first
              | (go_at_call 29; refine (at_any (15) a _).mono ?_; rintro e w9 ⟨rfl, hb9⟩; have q1 := r1.below hb9 r1.lt)
              | (refine wpList_store_row rfl 25 _ _ rfl w.heap.size (flt (15) a) rfl rfl 25 (flt 0 0) (q1) (by rw [flt_size]; exact cellsF) rfl (all_one (flt_one _ _)) ?_))
            refine bodyPost_ret (results_tmp2_row Try.results31 _ _ _ _ w.heap.size 25 (flt (15) a) _ rfl rfl rfl (Row.row (q1) _) Try.underlying25 rfl (by rw [flt_size]; exact cellsF)) rfl ?_
            refine ⟨?_, blw_row (up_call hb1 hb9) (Nat.le_refl _) _⟩
            rw [HRE.out]
            exact rfl
          · have s3 : decide ((n : Int) < (a : Int) + 9) = false := decide_eq_false (by omega)
            rw [if_neg (by rw [← hnl]; exact h3)] at htf
            subst htf
            have hnx := decF_next l f a c _ _ o hc1 hr
            rw [← hr0] at hnx
            have hpart := (HS.out.up hb1).part (c := cp) (a + 1) (a + 9) (by omega) (by omega) hcp
            rw [show a + 9 - (a + 1) = 8 by omega] at hpart
            obtain ⟨p, hp⟩ : ∃ p, p = (l.drop (a + 1)).take 8 := ⟨_, rfl⟩
            have hpl : p.length = 8 := by rw [hp, List.length_take, List.length_drop]; omega
            have hpv := valB_lt p
            rw [hpl] at hpv
            rw [← hp] at hnx hpart
            have hnum := rnumber_any p (by omega) (some (ad.add (a + 1))) (cp - (a + 1)) 8 hpl.symm
            obtain ⟨y, hy⟩ : ∃ y, y = valB p := ⟨_, rfl⟩
            rw [← hy] at hnum hpv hnx
            have hu : (y : Int) = ((UInt8.ofNat y).toNat : Int) := by
              rw [UInt8.toNat_ofNat']
              omega
            have hcpa : ¬ cp = a + 1 := by omega
            have HNX := Lib.hid hnx
            have HNUM := Lib.hid hnum
            have HU := Lib.hid hu
            have HPA := Lib.hid hpart
            clear hnl hcr hr hnx hr0 hp hpl hy hu hnum hpart
            go_wp2_with (first
              | (go_at_call 49; refine (HNUM.out _ HPA.out).mono ?_; rintro e w3 ⟨rfl, h3⟩; subst w3)
              | (refine wpList_tk rfl _ rfl 0 0 (y : Int) rfl ?_)
              | (at_builtin; refine wpList_app_tk rfl _ _ rfl w.heap.size _ m (tz o) rfl (own_below3 HV.out ((Below.refl _ _).alloc (Nat.le_refl _) _)) 0 0 (y : Int) (0, 0, UInt8.ofNat y) rfl HU.out wr.heap.size 1 rfl (Row.new _ _ _) (by omega) (Nat.le_trans hb1.size (by simp)) ?_; intro v8 w8 hown8 hb8 hk8))
            have r8 := hk8 _ _ _ (by decide) (r1.alloc (.cells #[.int .i64 0, .int .i64 0, .int .u8 (y : Int)] 37))
            have hb8' := (up_alloc hb1 (.cells #[.int .i64 0, .int .i64 0, .int .u8 (y : Int)] 37)).trans hb8
            have HV8 := Lib.hid hown8
            clear hown8 hb8 hk8
            go_roundw
            case rel => exact ⟨c - 1, a + 9, m + 1, f, o ++ [Tk.lit (UInt8.ofNat y)], by omega, by omega, by go_num, by go_num, by omega, by omega, Lib.hid ⟨by exact HNX.out, by rw [List.length_append, ← HR.out.2]; rfl⟩, Lib.hid (by rw [tz_append]; exact HV8.out), r8, hb8'⟩
            case measure => simp [intOf]; omega
        · rw [if_neg h2] at htf
          have hb2 : l.getD a false = true := by cases h : l.getD a false with | true => rfl | false => exact absurd h h2
          rw [hb2] at k1
          have k1' : wr.cell? (ad.add a) = some (.int .i64 1) := k1
          clear k1 h2 hb2
          have hg1 := fun w hS => rgat_is l (by omega) (a + 1) (by omega) (some ad) cp n hnl hcp w hS
          rw [show ((a + 1 : Nat) : Int) = (a : Int) + 1 from rfl] at hg1
          have hge := gamF_end l (a + 1)
          have hgr := gamF_err l (a + 1)
          obtain ⟨x1, y1, z1, hG⟩ : ∃ x y z, gamF l (a + 1) = (x, y, z) := ⟨_, _, _, rfl⟩
          rw [hG] at htf hg1 hge hgr
          simp only at htf hg1 hge hgr
          by_cases h3 : z1 = 0
          · rw [if_neg (by simp [h3])] at htf
            obtain ⟨e1, e2, e3⟩ := hge h3
            subst h3
            by_cases h4 : 1536 < x1
            · have s4 : decide ((1536 : Int) < (x1 : Int)) = true := decide_eq_true (by omega)
              have s5 : decide (1536 < x1) = true := decide_eq_true h4
              rw [if_pos h4] at htf
              subst htf
              clear hnl hcr hge hgr hG
              have HRE := Lib.hid (show r = .inr (16, a) by rw [hr0]; exact decF_err l f a c 16 o hc1 hr)
              clear hr0 hr
              go_wp2_with (first
                | (go_at_call 50; (with_reducible refine (hg1 _ (HS.out.up hb1)).mono ?_); rintro e w3 ⟨rfl, h3⟩; subst w3)
                | (go_at_call 29; refine (at_any (16) a _).mono ?_; rintro e w9 ⟨rfl, hb9⟩; have q1 := r1.below hb9 r1.lt)
                | (refine wpList_store_row rfl 25 _ _ rfl w.heap.size (flt (16) a) rfl rfl 25 (flt 0 0) (q1) (by rw [flt_size]; exact cellsF) rfl (all_one (flt_one _ _)) ?_))
              refine bodyPost_ret (results_tmp2_row Try.results31 _ _ _ _ w.heap.size 25 (flt (16) a) _ rfl rfl rfl (Row.row (q1) _) Try.underlying25 rfl (by rw [flt_size]; exact cellsF)) rfl ?_
              refine ⟨?_, blw_row (up_call hb1 hb9) (Nat.le_refl _) _⟩
              rw [HRE.out]
              exact rfl
            · have s4 : decide ((1536 : Int) < (x1 : Int)) = false := decide_eq_false (by omega)
              have s5 : decide (1536 < x1) = false := decide_eq_false h4
              rw [if_neg h4] at htf
              have hg2 := fun w hS => rgat_is l (by omega) y1 (by omega) (some ad) cp n hnl hcp w hS
              have hge2 := gamF_end l y1
              have hgr2 := gamF_err l y1
              obtain ⟨x2, y2, z2, hG2⟩ : ∃ x y z, gamF l y1 = (x, y, z) := ⟨_, _, _, rfl⟩
              rw [hG2] at htf hg2 hge2 hgr2
              simp only at htf hg2 hge2 hgr2
              by_cases h5 : z2 = 0
              · rw [if_neg (by simp [h5])] at htf
                obtain ⟨b1, b2, b3⟩ := hge2 h5
                subst h5
                by_cases h6 : c < x2 + 2
                · have s6 : decide ((c : Int) < (x2 : Int) + 2) = true := decide_eq_true (by omega)
                  have s7 : decide (c < x2 + 2) = true := decide_eq_true h6
                  rw [if_pos h6] at htf
                  subst htf
                  clear hnl hcr hge hgr hG hge2 hgr2 hG2
                  have HRE := Lib.hid (show r = .inr (16, a) by rw [hr0]; exact decF_err l f a c 16 o hc1 hr)
                  clear hr0 hr
                  go_wp2_with (first
                    | (go_at_call 50; (with_reducible refine (hg1 _ (HS.out.up hb1)).mono ?_); rintro e w3 ⟨rfl, h3⟩; subst w3)
                    | (go_at_call 50; (with_reducible refine (hg2 _ (HS.out.up hb1)).mono ?_); rintro e w4 ⟨rfl, h4⟩; subst w4)
                    | (go_at_call 29; refine (at_any (16) a _).mono ?_; rintro e w9 ⟨rfl, hb9⟩; have q1 := r1.below hb9 r1.lt)
                    | (refine wpList_store_row rfl 25 _ _ rfl w.heap.size (flt (16) a) rfl rfl 25 (flt 0 0) (q1) (by rw [flt_size]; exact cellsF) rfl (all_one (flt_one _ _)) ?_))
                  refine bodyPost_ret (results_tmp2_row Try.results31 _ _ _ _ w.heap.size 25 (flt (16) a) _ rfl rfl rfl (Row.row (q1) _) Try.underlying25 rfl (by rw [flt_size]; exact cellsF)) rfl ?_
                  refine ⟨?_, blw_row (up_call hb1 hb9) (Nat.le_refl _) _⟩
                  rw [HRE.out]
                  exact rfl
                · have s6 : decide ((c : Int) < (x2 : Int) + 2) = false := decide_eq_false (by omega)
                  have s7 : decide (c < x2 + 2) = false := decide_eq_false h6
                  rw [if_neg h6] at htf
                  subst htf
                  have hnx := decF_next l f a c _ _ o hc1 hr
                  rw [← hr0] at hnx
                  have HNX := Lib.hid hnx
                  have b4 : y2 ≤ n := by omega
                  clear hnl hcr hge hgr hG hge2 hgr2 hG2 hr hr0 hnx
                  go_wp2_with (first
                    | (go_at_call 50; (with_reducible refine (hg1 _ (HS.out.up hb1)).mono ?_); rintro e w3 ⟨rfl, h3⟩; subst w3)
                    | (go_at_call 50; (with_reducible refine (hg2 _ (HS.out.up hb1)).mono ?_); rintro e w4 ⟨rfl, h4⟩; subst w4)
                    | (refine wpList_tk rfl _ rfl (x1 : Int) ((x2 : Int) + 2) 0 rfl ?_)
                    | (at_builtin; refine wpList_app_tk rfl _ _ rfl w.heap.size _ m (tz o) rfl (own_below3 HV.out ((Below.refl _ _).alloc (Nat.le_refl _) _)) (x1 : Int) ((x2 : Int) + 2) 0 ((x1 : Int), (x2 : Int) + 2, 0) rfl rfl wr.heap.size 1 rfl (Row.new _ _ _) (by omega) (Nat.le_trans hb1.size (by simp)) ?_; intro v8 w8 hown8 hb8 hk8))
                  have r8 := hk8 _ _ _ (by decide) (r1.alloc (.cells #[.int .i64 (x1 : Int), .int .i64 ((x2 : Int) + 2), .int .u8 0] 37))
                  have hb8' := (up_alloc hb1 (.cells #[.int .i64 (x1 : Int), .int .i64 ((x2 : Int) + 2), .int .u8 0] 37)).trans hb8
                  have HV8 := Lib.hid hown8
                  clear hown8 hb8 hk8
                  go_roundw
                  case rel => exact ⟨c - (x2 + 2), y2, m + 1, f, o ++ [Tk.mat x1 (x2 + 2)], by omega, by omega, by go_num, rfl, by omega, by omega, Lib.hid ⟨by exact HNX.out, by rw [List.length_append, ← HR.out.2]; rfl⟩, Lib.hid (by rw [tz_append]; exact HV8.out), r8, hb8'⟩
                  case measure => simp [intOf]; omega
              · rw [if_pos h5] at htf
                subst htf
                have s6 : ((z2 : Int) == 0) = false := beq_eq_false_iff_ne.2 (by omega)
                have s6' : (z2 == 0) = false := beq_eq_false_iff_ne.2 h5
                have s7 : ((z2 : Int) != 0) = true := bne_iff_ne.2 (by omega)
                have s7' : (z2 != 0) = true := bne_iff_ne.2 h5
                clear hnl hcr hge hgr hG hge2 hgr2 hG2
                have HRE := Lib.hid (show r = .inr (z2, a) by rw [hr0]; exact decF_err l f a c z2 o hc1 hr)
                clear hr0 hr
                go_wp2_with (first
                  | (go_at_call 50; (with_reducible refine (hg1 _ (HS.out.up hb1)).mono ?_); rintro e w3 ⟨rfl, h3⟩; subst w3)
                  | (go_at_call 50; (with_reducible refine (hg2 _ (HS.out.up hb1)).mono ?_); rintro e w4 ⟨rfl, h4⟩; subst w4)
                  | (go_at_call 29; refine (at_any ((z2 : Int)) a _).mono ?_; rintro e w9 ⟨rfl, hb9⟩; have q1 := r1.below hb9 r1.lt)
                  | (refine wpList_store_row rfl 25 _ _ rfl w.heap.size (flt ((z2 : Int)) a) rfl rfl 25 (flt 0 0) (q1) (by rw [flt_size]; exact cellsF) rfl (all_one (flt_one _ _)) ?_))
                refine bodyPost_ret (results_tmp2_row Try.results31 _ _ _ _ w.heap.size 25 (flt ((z2 : Int)) a) _ rfl rfl rfl (Row.row (q1) _) Try.underlying25 rfl (by rw [flt_size]; exact cellsF)) rfl ?_
                refine ⟨?_, blw_row (up_call hb1 hb9) (Nat.le_refl _) _⟩
                rw [HRE.out]
                exact rfl
          · rw [if_pos h3] at htf
            subst htf
            have s6 : ((z1 : Int) == 0) = false := beq_eq_false_iff_ne.2 (by omega)
            have s6' : (z1 == 0) = false := beq_eq_false_iff_ne.2 h3
            have s7 : ((z1 : Int) != 0) = true := bne_iff_ne.2 (by omega)
            have s7' : (z1 != 0) = true := bne_iff_ne.2 h3
            clear hnl hcr hge hgr hG
            have HRE := Lib.hid (show r = .inr (z1, a) by rw [hr0]; exact decF_err l f a c z1 o hc1 hr)
            clear hr0 hr
            go_wp2_with (first
              | (go_at_call 50; (with_reducible refine (hg1 _ (HS.out.up hb1)).mono ?_); rintro e w3 ⟨rfl, h3⟩; subst w3)
              | (go_at_call 29; refine (at_any ((z1 : Int)) a _).mono ?_; rintro e w9 ⟨rfl, hb9⟩; have q1 := r1.below hb9 r1.lt)
              | (refine wpList_store_row rfl 25 _ _ rfl w.heap.size (flt ((z1 : Int)) a) rfl rfl 25 (flt 0 0) (q1) (by rw [flt_size]; exact cellsF) rfl (all_one (flt_one _ _)) ?_))
            refine bodyPost_ret (results_tmp2_row Try.results31 _ _ _ _ w.heap.size 25 (flt ((z1 : Int)) a) _ rfl rfl rfl (Row.row (q1) _) Try.underlying25 rfl (by rw [flt_size]; exact cellsF)) rfl ?_
            refine ⟨?_, blw_row (up_call hb1 hb9) (Nat.le_refl _) _⟩
            rw [HRE.out]
            exact rfl
    · obtain rfl : c = 0 := by omega
      have HRE := Lib.hid (show r = .inl (o, a) by rw [HR.out.1, decF_done])
      have hml := HR.out.2
      go_wp2_with (first
        | (refine wpList_store_row rfl 25 _ _ rfl w.heap.size (flt 0 0) rfl rfl 25 (flt 0 0) (r1) (by rw [flt_size]; exact cellsF) rfl (all_one (flt_one _ _)) ?_))
      refine bodyPost_ret (results_tmp2_row Try.results31 _ _ _ _ w.heap.size 25 (flt 0 0) _ rfl rfl rfl (Row.row (r1) _) Try.underlying25 rfl (by rw [flt_size]; exact cellsF)) rfl ?_
      refine ⟨?_, blw_row hb1 (Nat.le_refl _) _⟩
      rw [HRE.out]
      show ∃ B d, _ ∧ _
      rw [← hml]
      exact ⟨_, _, rfl, Tks.of_own (by rw [tz_length, ← hml]) (own_row3 HV.out r1 (by decide) _)⟩
end Go.Proofs.Ytahihgmlkcbfiaa
