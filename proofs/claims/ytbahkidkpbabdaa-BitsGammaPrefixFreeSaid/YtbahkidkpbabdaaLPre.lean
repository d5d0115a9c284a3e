/-
  The walks of BitsGammaPrefixFree.
-/
import Derived.Test.YtbahkidkpbabdaaBSpec
namespace Go.Proofs.Ytbahkidkpbabdaa.lawPrefix
open Go.RowKit

theorem log2_one (x : Nat) (h1 : 1 ≤ x) : x.testBit (Nat.log2 x) = true := by
  have h2 := Nat.log2_self_le (n := x) (by omega)
  have h3 := Nat.lt_log2_self (n := x)
  have h4 : x / 2 ^ Nat.log2 x = 1 := by
    have hp : 0 < 2 ^ Nat.log2 x := Nat.two_pow_pos _
    have a : 1 ≤ x / 2 ^ Nat.log2 x := (Nat.le_div_iff_mul_le hp).2 (by omega)
    have b : x / 2 ^ Nat.log2 x < 2 := (Nat.div_lt_iff_lt_mul hp).2 (by rw [Nat.pow_succ] at h3; omega)
    omega
  rw [Nat.testBit_eq_decide_div_mod_eq, h4]
  rfl
theorem log2_lt_pow (x k : Nat) (h : Nat.log2 x < k) : x < 2 ^ k := Nat.lt_of_lt_of_le Nat.lt_log2_self (Nat.pow_le_pow_right (by omega) h)
theorem log2_mono (a b : Nat) (h1 : 1 ≤ a) (h : a ≤ b) : Nat.log2 a ≤ Nat.log2 b := by
  by_cases hc : Nat.log2 a ≤ Nat.log2 b
  · exact hc
  · have h2 := log2_lt_pow b (Nat.log2 a) (by omega)
    have h3 := Nat.log2_self_le (n := a) (by omega)
    omega
/-- no gamma code begins another one -/
theorem no_prefix (m n q r : Nat) (hm : 1 ≤ m) (hn : 1 ≤ n) (hne : m ≠ n) (hq : q = gsz m) (hr : r = gsz n) (hqr : q ≤ r) : digB m q ≠ (digB n r).take q := by
  rw [gsz_nat m hm] at hq
  rw [gsz_nat n hn] at hr
  intro h
  by_cases hz : Nat.log2 m = Nat.log2 n
  · have hqr2 : q = r := by omega
    subst hqr2
    rw [List.take_of_length_le (by rw [digB_length]; omega)] at h
    have h1 := congrArg valB h
    rw [valB_digB _ _ (log2_lt_pow _ _ (by omega)), valB_digB _ _ (log2_lt_pow _ _ (by omega))] at h1
    exact hne h1
  · have h1 : (digB m q).getD (Nat.log2 m) false = ((digB n r).take q).getD (Nat.log2 m) false := by rw [h]
    rw [List.getD_eq_getElem?_getD (l := List.take _ _), List.getElem?_take, if_pos (by omega), ← List.getD_eq_getElem?_getD, digB_getD, digB_getD] at h1
    rw [decide_eq_true (by omega : Nat.log2 m < q), decide_eq_true (by omega : Nat.log2 m < r), show q - 1 - Nat.log2 m = Nat.log2 m by omega, log2_one m hm, Nat.testBit_lt_two_pow (log2_lt_pow n _ (by omega))] at h1
    cases h1
theorem gamma_new (v : Nat) (h0 : 1 ≤ v) (h : v ≤ 2147483647) (l : List Bool) (hl : l = digB v (gsz v)) (w : World) :
    Calls Try.prog 27 #[.agg #[.slice none 0 0, .int .i64 0], .int .i64 v] w (BitsOut w l) := by
  subst hl
  have h31 := log2_lt v 31 h0 (by omega)
  exact gamma_ok [] [] Rep.nil (by decide) v h0 h (gsz v) rfl (by rw [gsz_nat v h0]; simp; omega) none 0 w (by rw [bl_nil]; exact Sl.nil _ _ _)
theorem slice_take (l : List Bool) (k : Nat) (hk : k ≤ l.length) (hl : l.length ≤ 131072) (l2 : List Bool) (h2 : l2 = l.take k) (A : Option Addr) (cp : Nat) (w : World) (hS : Sl w w.heap.size A (pack l).length (bl (pack l))) :
    Calls Try.prog 26 #[.agg (bcs A (pack l).length cp l.length), .int .i64 0, .int .i64 k] w (BitsOut w l2) := by
  have h := slice_ok (pack l) l (pack_rep l) hl 0 k (Nat.zero_le _) hk A cp w hS
  rw [List.drop_zero, Nat.sub_zero, ← h2] at h
  exact h
theorem pack_ne (l m : List Bool) (h : l ≠ m) : (l.length : Int) = (m.length : Int) → pack l ≠ pack m := fun hl hp => h (Rep.inj (pack_rep l) (hp ▸ pack_rep m) (by omega))

set_option maxRecDepth 100000 in
set_option maxHeartbeats 4000000 in
theorem walk_out (m n : Int) (h : (m < 1 ∨ 2147483647 < m) ∨ (n < 1 ∨ 2147483647 < n) ∨ m = n) (w : World) :
    Calls Try.prog 8 #[.int .i64 m, .int .i64 n] w fun e w' => e = .returned (.bool true) ∧ Below w.heap.size w w' := by
  by_cases h1 : m < 1 ∨ 2147483647 < m
  · have H1 := Lib.hid h1
    clear h1 h
    go_enter Try.func8, Try.ntmps8
    go_wp2_with (first
      | (go_at_call 14; refine (strings_any _).mono ?_; rintro e w1 ⟨rfl, hb1⟩)
      | (go_at_call 31; refine (in_no m 1 2147483647 H1.out _).mono ?_; rintro e w2 ⟨rfl, rfl⟩))
    go_ret
    exact ⟨rfl, hb1⟩
  · by_cases h2 : n < 1 ∨ 2147483647 < n
    · have H2 := Lib.hid h2
      have h3 : 1 ≤ m := by omega
      have h4 : m ≤ 2147483647 := by omega
      clear h1 h2 h
      go_enter Try.func8, Try.ntmps8
      go_wp2_with (first
        | (go_at_call 14; refine (strings_any _).mono ?_; rintro e w1 ⟨rfl, hb1⟩)
        | (go_at_call 31; (with_reducible refine (in_yes m 1 2147483647 h3 h4 _).mono ?_); rintro e w2 ⟨rfl, rfl⟩)
        | (go_at_call 31; (with_reducible refine (in_no n 1 2147483647 H2.out _).mono ?_); rintro e w3 ⟨rfl, rfl⟩))
      go_ret
      exact ⟨rfl, hb1⟩
    · obtain rfl : m = n := by omega
      have h3 : 1 ≤ m := by omega
      have h4 : m ≤ 2147483647 := by omega
      clear h1 h2 h
      go_enter Try.func8, Try.ntmps8
      go_wp2_with (first
        | (go_at_call 14; refine (strings_any _).mono ?_; rintro e w1 ⟨rfl, hb1⟩)
        | (go_at_call 31; (with_reducible refine (in_yes m 1 2147483647 h3 h4 _).mono ?_); rintro e w2 ⟨rfl, rfl⟩))
      go_ret
      exact ⟨rfl, hb1⟩

set_option maxRecDepth 100000 in
set_option maxHeartbeats 4000000 in
theorem walk_less (m n : Nat) (hm : 1 ≤ m) (hm2 : m ≤ 2147483647) (hn : 1 ≤ n) (hn2 : n ≤ 2147483647) (h : m < n) (w : World) :
    Calls Try.prog 8 #[.int .i64 m, .int .i64 n] w fun e w' => e = .returned (.bool true) ∧ Below w.heap.size w w' := by
  obtain ⟨q, hq⟩ : ∃ q, q = gsz m := ⟨_, rfl⟩
  obtain ⟨r, hr⟩ : ∃ r, r = gsz n := ⟨_, rfl⟩
  obtain ⟨la, hla⟩ : ∃ l, l = digB m q := ⟨_, rfl⟩
  obtain ⟨lb, hlb⟩ : ∃ l, l = digB n r := ⟨_, rfl⟩
  have hqa : la.length = q := by rw [hla, digB_length]
  have hrb : lb.length = r := by rw [hlb, digB_length]
  have hq63 : q ≤ 63 := by rw [hq, gsz_nat m hm]; have := log2_lt m 31 hm (by omega); omega
  have hr63 : r ≤ 63 := by rw [hr, gsz_nat n hn]; have := log2_lt n 31 hn (by omega); omega
  have hnp := no_prefix m n q r hm hn (by omega) hq hr
  have hqr : q ≤ r := by
    rw [hq, hr, gsz_nat m hm, gsz_nat n hn]
    have := log2_mono m n hm (by omega)
    omega
  have t1 : decide (m < n) = true := decide_eq_true h
  have t2 : decide (r < q) = false := decide_eq_false (by omega)
  have HQ := Lib.hid hq
  have HR := Lib.hid hr
  have HLA := Lib.hid (show la = digB m (gsz m) by rw [← hq]; exact hla)
  have HLB := Lib.hid (show lb = digB n (gsz n) by rw [← hr]; exact hlb)
  have HNP := Lib.hid (show q ≤ r → la ≠ lb.take q by rw [hla, hlb]; exact hnp)
  have HQA := Lib.hid hqa
  have HRB := Lib.hid hrb
  have hne : ((m : Int) == (n : Int)) = false := beq_eq_false_iff_ne.2 (by omega)
  have hmi : (1 : Int) ≤ (m : Int) ∧ (m : Int) ≤ 2147483647 := by omega
  have hni : (1 : Int) ≤ (n : Int) ∧ (n : Int) ≤ 2147483647 := by omega
  obtain ⟨m1, m2⟩ := hmi
  obtain ⟨n1, n2⟩ := hni
  have hb : Below w.heap.size w w := Below.refl _ _
  clear hq hr hla hlb hqa hrb hnp
  go_enter Try.func8, Try.ntmps8
  go_upto_region 7 with (first
    | (go_at_call 14; refine (strings_any _).mono ?_; rintro e w1 ⟨rfl, hb1⟩)
    | (go_at_call 31; (with_reducible refine (in_yes (m : Int) 1 2147483647 m1 m2 _).mono ?_); rintro e w2 ⟨rfl, rfl⟩)
    | (go_at_call 31; (with_reducible refine (in_yes (n : Int) 1 2147483647 n1 n2 _).mono ?_); rintro e w3 ⟨rfl, rfl⟩)
    | (go_at_call 29; (with_reducible refine (gammaSize_is (m : Int) (by omega) q HQ.out _).mono ?_); rintro e w4 ⟨rfl, rfl⟩)
    | (go_at_call 29; (with_reducible refine (gammaSize_is (n : Int) (by omega) r HR.out _).mono ?_); rintro e w5 ⟨rfl, rfl⟩))
  clear hb
  refine wp_world (F := fun W => Below w.heap.size w W) hb1 ?_
  rintro W0 hb
  go_upto_region 8 with (first
    | (go_at_call 27; refine (gamma_new m hm hm2 la HLA.out _).mono ?_; rintro e wc0 ⟨A1, c1, rfl, s1, hbc⟩)
    | (refine wpList_store_row rfl 24 _ _ rfl wc0.heap.size (bcs A1 (pack la).length c1 la.length) rfl rfl 24 (bcs none 0 0 0) ((Row.newEq _ _ _ _ _ rfl rfl).alloc _) (by rw [bcs_size]; exact cellsB) rfl (all_one (bcs_one _ _ _ _)) ?_)
    | (refine wpList_store_row rfl 26 _ _ rfl (wc0.heap.size + 1) (flt 0 0) rfl rfl 26 (flt 0 0) (Row.rowFar (Row.newEq _ _ _ _ _ (by simp) rfl) (by omega) _) (by rw [flt_size]; exact cellsF) rfl (all_one (flt_one _ _)) ?_))
  have hkk := fun o1 o2 x y => up_call hbc (blw_new2 wc0 o1 o2 x y)
  refine wp_world (F := fun W => Row W wc0.heap.size 24 (bcs A1 (pack la).length c1 la.length) ∧ Row W (wc0.heap.size + 1) 26 (flt 0 0) ∧ Sl W W.heap.size A1 (pack la).length (bl (pack la)) ∧ Below w.heap.size w W) ⟨row_new2a _ _ _ _ _ _ _, row_new2b _ _ _ _ _ _ _, s1.up (blw_new2 _ _ _ _ _), up_call hb (hkk _ _ _ _)⟩ ?_
  generalize wc0.heap.size = g0
  clear hkk hbc hb s1 wc0  W0
  rintro Wg0 ⟨r1, f1, s1, hb⟩
  go_upto_region 9 with (first
    | (go_at_call 27; refine (gamma_new n hn hn2 lb HLB.out _).mono ?_; rintro e wc1 ⟨A2, c2, rfl, s2, hbc⟩)
    | (refine wpList_store_row rfl 24 _ _ rfl wc1.heap.size (bcs A2 (pack lb).length c2 lb.length) rfl rfl 24 (bcs none 0 0 0) ((Row.newEq _ _ _ _ _ rfl rfl).alloc _) (by rw [bcs_size]; exact cellsB) rfl (all_one (bcs_one _ _ _ _)) ?_)
    | (refine wpList_store_row rfl 26 _ _ rfl (wc1.heap.size + 1) (flt 0 0) rfl rfl 26 (flt 0 0) (Row.rowFar (Row.newEq _ _ _ _ _ (by simp) rfl) (by omega) _) (by rw [flt_size]; exact cellsF) rfl (all_one (flt_one _ _)) ?_))
  have hkk := fun o1 o2 x y => up_call hbc (blw_new2 wc1 o1 o2 x y)
  refine wp_world (F := fun W => Row W g0 24 (bcs A1 (pack la).length c1 la.length) ∧ Row W (g0 + 1) 26 (flt 0 0) ∧ Sl W W.heap.size A1 (pack la).length (bl (pack la)) ∧ Row W wc1.heap.size 24 (bcs A2 (pack lb).length c2 lb.length) ∧ Row W (wc1.heap.size + 1) 26 (flt 0 0) ∧ Sl W W.heap.size A2 (pack lb).length (bl (pack lb)) ∧ Below w.heap.size w W) ⟨r1.below (hkk _ _ _ _) r1.lt, f1.below (hkk _ _ _ _) f1.lt, s1.up (hkk _ _ _ _), row_new2a _ _ _ _ _ _ _, row_new2b _ _ _ _ _ _ _, s2.up (blw_new2 _ _ _ _ _), up_call hb (hkk _ _ _ _)⟩ ?_
  generalize wc1.heap.size = g1
  clear hkk hbc hb r1 f1 s1 s2 wc1  Wg0
  rintro Wg1 ⟨r1, f1, s1, r2, f2, s2, hb⟩
  have a1 : Wg1.cell? ⟨g0 + 1, 0, none⟩ = some (.int .i64 0) := (f1.cell 0).trans rfl
  have a2 : Wg1.cell? ⟨g1 + 1, 0, none⟩ = some (.int .i64 0) := (f2.cell 0).trans rfl
  have b1 : Wg1.cell? ⟨g0, 1, none⟩ = some (.int .i64 (la.length : Int)) := (r1.cell 1).trans rfl
  have b2 : Wg1.cell? ⟨g1, 1, none⟩ = some (.int .i64 (lb.length : Int)) := (r2.cell 1).trans rfl
  by_cases hcnt : lb.length < la.length
  · have t5 : decide (lb.length < la.length) = true := decide_eq_true hcnt
    go_wp2
    go_ret
    exact ⟨rfl, hb⟩
  · have t5 : decide (lb.length < la.length) = false := decide_eq_false hcnt
    obtain ⟨lc, hlc⟩ : ∃ l, l = lb.take la.length := ⟨_, rfl⟩
    have hac : la ≠ lc := by
      have h1 := HNP.out (by rw [← HQA.out, ← HRB.out]; omega)
      rw [← HQA.out] at h1
      rw [hlc]
      exact h1
    have HLC := Lib.hid hlc
    have HPN := Lib.hid (pack_ne la lc hac)
    have hlb63 : lb.length ≤ 131072 := by rw [HRB.out]; omega
    have hab : la.length ≤ lb.length := by omega
    clear hlc hac
    go_upto_region 14 with (first
      | (refine wpList_load_row rfl 24 _ rfl g1 rfl 24 (bcs A2 (pack lb).length c2 lb.length) (0, 0) _ r2 Try.underlying24 rfl (by rw [bcs_size]; exact cellsB) ?_)
      | (go_at_call 26; refine (slice_take lb la.length hab hlb63 lc HLC.out A2 c2 _ s2).mono ?_; rintro e wc2 ⟨A3, c3, rfl, s3, hbc⟩)
      | (refine wpList_store_row rfl 24 _ _ rfl wc2.heap.size (bcs A3 (pack lc).length c3 lc.length) rfl rfl 24 (bcs none 0 0 0) ((Row.newEq _ _ _ _ _ rfl rfl).alloc _) (by rw [bcs_size]; exact cellsB) rfl (all_one (bcs_one _ _ _ _)) ?_)
      | (refine wpList_store_row rfl 26 _ _ rfl (wc2.heap.size + 1) (flt 0 0) rfl rfl 26 (flt 0 0) (Row.rowFar (Row.newEq _ _ _ _ _ (by simp) rfl) (by omega) _) (by rw [flt_size]; exact cellsF) rfl (all_one (flt_one _ _)) ?_))
    have hkk := fun o1 o2 x y => up_call hbc (blw_new2 wc2 o1 o2 x y)
    refine wp_world (F := fun W => Row W g0 24 (bcs A1 (pack la).length c1 la.length) ∧ Row W (g0 + 1) 26 (flt 0 0) ∧ Row W g1 24 (bcs A2 (pack lb).length c2 lb.length) ∧ Row W (g1 + 1) 26 (flt 0 0) ∧ Sl W W.heap.size A1 (pack la).length (bl (pack la)) ∧ Sl W W.heap.size A2 (pack lb).length (bl (pack lb)) ∧ Row W wc2.heap.size 24 (bcs A3 (pack lc).length c3 lc.length) ∧ Row W (wc2.heap.size + 1) 26 (flt 0 0) ∧ Sl W W.heap.size A3 (pack lc).length (bl (pack lc)) ∧ Below w.heap.size w W) ⟨r1.below (hkk _ _ _ _) r1.lt, f1.below (hkk _ _ _ _) f1.lt, r2.below (hkk _ _ _ _) r2.lt, f2.below (hkk _ _ _ _) f2.lt, s1.up (hkk _ _ _ _), s2.up (hkk _ _ _ _), row_new2a _ _ _ _ _ _ _, row_new2b _ _ _ _ _ _ _, s3.up (blw_new2 _ _ _ _ _), up_call hb (hkk _ _ _ _)⟩ ?_
    generalize wc2.heap.size = g2
    clear hkk hbc hb r1 f1 r2 f2 s1 s2 s3 wc2 a1 a2 b1 b2 Wg1
    rintro Wg2 ⟨r1, f1, r2, f2, s1, s2, r3, f3, s3, hb⟩
    have a3 : Wg2.cell? ⟨g2 + 1, 0, none⟩ = some (.int .i64 0) := (f3.cell 0).trans rfl
    go_wp2_with (first
      | (refine wpList_load_rowG (by simp [Region.wanted, yielded, Act.put]) 24 _ rfl g0 rfl 24 (bcs A1 (pack la).length c1 la.length) (0, 0) _ r1 Try.underlying24 rfl (by rw [bcs_size]; exact cellsB) ?_)
      | (refine wpList_load_rowG (by simp [Region.wanted, yielded, Act.put]) 24 _ rfl g2 rfl 24 (bcs A3 (pack lc).length c3 lc.length) (0, 0) _ r3 Try.underlying24 rfl (by rw [bcs_size]; exact cellsB) ?_)
      | (go_at_call 17; refine (sameb_no (pack la) (pack lc) _ _ A1 A3 _ _ c1 c3 HPN.out _ s1 s3).mono ?_; rintro e w6 ⟨rfl, hb6⟩; have hb7 := up_call hb hb6))
    go_ret
    exact ⟨rfl, hb7⟩

set_option maxRecDepth 100000 in
set_option maxHeartbeats 4000000 in
theorem walk_more (m n : Nat) (hm : 1 ≤ m) (hm2 : m ≤ 2147483647) (hn : 1 ≤ n) (hn2 : n ≤ 2147483647) (h : n < m) (w : World) :
    Calls Try.prog 8 #[.int .i64 m, .int .i64 n] w fun e w' => e = .returned (.bool true) ∧ Below w.heap.size w w' := by
  obtain ⟨q, hq⟩ : ∃ q, q = gsz m := ⟨_, rfl⟩
  obtain ⟨r, hr⟩ : ∃ r, r = gsz n := ⟨_, rfl⟩
  obtain ⟨la, hla⟩ : ∃ l, l = digB m q := ⟨_, rfl⟩
  obtain ⟨lb, hlb⟩ : ∃ l, l = digB n r := ⟨_, rfl⟩
  have hqa : la.length = q := by rw [hla, digB_length]
  have hrb : lb.length = r := by rw [hlb, digB_length]
  have hq63 : q ≤ 63 := by rw [hq, gsz_nat m hm]; have := log2_lt m 31 hm (by omega); omega
  have hr63 : r ≤ 63 := by rw [hr, gsz_nat n hn]; have := log2_lt n 31 hn (by omega); omega
  have hnp := no_prefix m n q r hm hn (by omega) hq hr
  have t1 : decide (m < n) = false := decide_eq_false (by omega)
  have HQ := Lib.hid hq
  have HR := Lib.hid hr
  have HLA := Lib.hid (show la = digB m (gsz m) by rw [← hq]; exact hla)
  have HLB := Lib.hid (show lb = digB n (gsz n) by rw [← hr]; exact hlb)
  have HNP := Lib.hid (show q ≤ r → la ≠ lb.take q by rw [hla, hlb]; exact hnp)
  have HQA := Lib.hid hqa
  have HRB := Lib.hid hrb
  have hne : ((m : Int) == (n : Int)) = false := beq_eq_false_iff_ne.2 (by omega)
  have hmi : (1 : Int) ≤ (m : Int) ∧ (m : Int) ≤ 2147483647 := by omega
  have hni : (1 : Int) ≤ (n : Int) ∧ (n : Int) ≤ 2147483647 := by omega
  obtain ⟨m1, m2⟩ := hmi
  obtain ⟨n1, n2⟩ := hni
  have hb : Below w.heap.size w w := Below.refl _ _
  clear hq hr hla hlb hqa hrb hnp
  go_enter Try.func8, Try.ntmps8
  go_upto_region 7 with (first
    | (go_at_call 14; refine (strings_any _).mono ?_; rintro e w1 ⟨rfl, hb1⟩)
    | (go_at_call 31; (with_reducible refine (in_yes (m : Int) 1 2147483647 m1 m2 _).mono ?_); rintro e w2 ⟨rfl, rfl⟩)
    | (go_at_call 31; (with_reducible refine (in_yes (n : Int) 1 2147483647 n1 n2 _).mono ?_); rintro e w3 ⟨rfl, rfl⟩)
    | (go_at_call 29; (with_reducible refine (gammaSize_is (m : Int) (by omega) q HQ.out _).mono ?_); rintro e w4 ⟨rfl, rfl⟩)
    | (go_at_call 29; (with_reducible refine (gammaSize_is (n : Int) (by omega) r HR.out _).mono ?_); rintro e w5 ⟨rfl, rfl⟩))
  clear hb
  refine wp_world (F := fun W => Below w.heap.size w W) hb1 ?_
  rintro W0 hb
  go_upto_region 8 with (first
    | (go_at_call 27; refine (gamma_new m hm hm2 la HLA.out _).mono ?_; rintro e wc0 ⟨A1, c1, rfl, s1, hbc⟩)
    | (refine wpList_store_row rfl 24 _ _ rfl wc0.heap.size (bcs A1 (pack la).length c1 la.length) rfl rfl 24 (bcs none 0 0 0) ((Row.newEq _ _ _ _ _ rfl rfl).alloc _) (by rw [bcs_size]; exact cellsB) rfl (all_one (bcs_one _ _ _ _)) ?_)
    | (refine wpList_store_row rfl 26 _ _ rfl (wc0.heap.size + 1) (flt 0 0) rfl rfl 26 (flt 0 0) (Row.rowFar (Row.newEq _ _ _ _ _ (by simp) rfl) (by omega) _) (by rw [flt_size]; exact cellsF) rfl (all_one (flt_one _ _)) ?_))
  have hkk := fun o1 o2 x y => up_call hbc (blw_new2 wc0 o1 o2 x y)
  refine wp_world (F := fun W => Row W wc0.heap.size 24 (bcs A1 (pack la).length c1 la.length) ∧ Row W (wc0.heap.size + 1) 26 (flt 0 0) ∧ Sl W W.heap.size A1 (pack la).length (bl (pack la)) ∧ Below w.heap.size w W) ⟨row_new2a _ _ _ _ _ _ _, row_new2b _ _ _ _ _ _ _, s1.up (blw_new2 _ _ _ _ _), up_call hb (hkk _ _ _ _)⟩ ?_
  generalize wc0.heap.size = g0
  clear hkk hbc hb s1 wc0  W0
  rintro Wg0 ⟨r1, f1, s1, hb⟩
  go_upto_region 9 with (first
    | (go_at_call 27; refine (gamma_new n hn hn2 lb HLB.out _).mono ?_; rintro e wc1 ⟨A2, c2, rfl, s2, hbc⟩)
    | (refine wpList_store_row rfl 24 _ _ rfl wc1.heap.size (bcs A2 (pack lb).length c2 lb.length) rfl rfl 24 (bcs none 0 0 0) ((Row.newEq _ _ _ _ _ rfl rfl).alloc _) (by rw [bcs_size]; exact cellsB) rfl (all_one (bcs_one _ _ _ _)) ?_)
    | (refine wpList_store_row rfl 26 _ _ rfl (wc1.heap.size + 1) (flt 0 0) rfl rfl 26 (flt 0 0) (Row.rowFar (Row.newEq _ _ _ _ _ (by simp) rfl) (by omega) _) (by rw [flt_size]; exact cellsF) rfl (all_one (flt_one _ _)) ?_))
  have hkk := fun o1 o2 x y => up_call hbc (blw_new2 wc1 o1 o2 x y)
  refine wp_world (F := fun W => Row W g0 24 (bcs A1 (pack la).length c1 la.length) ∧ Row W (g0 + 1) 26 (flt 0 0) ∧ Sl W W.heap.size A1 (pack la).length (bl (pack la)) ∧ Row W wc1.heap.size 24 (bcs A2 (pack lb).length c2 lb.length) ∧ Row W (wc1.heap.size + 1) 26 (flt 0 0) ∧ Sl W W.heap.size A2 (pack lb).length (bl (pack lb)) ∧ Below w.heap.size w W) ⟨r1.below (hkk _ _ _ _) r1.lt, f1.below (hkk _ _ _ _) f1.lt, s1.up (hkk _ _ _ _), row_new2a _ _ _ _ _ _ _, row_new2b _ _ _ _ _ _ _, s2.up (blw_new2 _ _ _ _ _), up_call hb (hkk _ _ _ _)⟩ ?_
  generalize wc1.heap.size = g1
  clear hkk hbc hb r1 f1 s1 s2 wc1  Wg0
  rintro Wg1 ⟨r1, f1, s1, r2, f2, s2, hb⟩
  have a1 : Wg1.cell? ⟨g0 + 1, 0, none⟩ = some (.int .i64 0) := (f1.cell 0).trans rfl
  have a2 : Wg1.cell? ⟨g1 + 1, 0, none⟩ = some (.int .i64 0) := (f2.cell 0).trans rfl
  have b1 : Wg1.cell? ⟨g0, 1, none⟩ = some (.int .i64 (la.length : Int)) := (r1.cell 1).trans rfl
  have b2 : Wg1.cell? ⟨g1, 1, none⟩ = some (.int .i64 (lb.length : Int)) := (r2.cell 1).trans rfl
  by_cases hcnt : lb.length < la.length
  · have t5 : decide (lb.length < la.length) = true := decide_eq_true hcnt
    go_wp2
    go_ret
    exact ⟨rfl, hb⟩
  · have t5 : decide (lb.length < la.length) = false := decide_eq_false hcnt
    obtain ⟨lc, hlc⟩ : ∃ l, l = lb.take la.length := ⟨_, rfl⟩
    have hac : la ≠ lc := by
      have h1 := HNP.out (by rw [← HQA.out, ← HRB.out]; omega)
      rw [← HQA.out] at h1
      rw [hlc]
      exact h1
    have HLC := Lib.hid hlc
    have HPN := Lib.hid (pack_ne la lc hac)
    have hlb63 : lb.length ≤ 131072 := by rw [HRB.out]; omega
    have hab : la.length ≤ lb.length := by omega
    clear hlc hac
    go_upto_region 14 with (first
      | (refine wpList_load_row rfl 24 _ rfl g1 rfl 24 (bcs A2 (pack lb).length c2 lb.length) (0, 0) _ r2 Try.underlying24 rfl (by rw [bcs_size]; exact cellsB) ?_)
      | (go_at_call 26; refine (slice_take lb la.length hab hlb63 lc HLC.out A2 c2 _ s2).mono ?_; rintro e wc2 ⟨A3, c3, rfl, s3, hbc⟩)
      | (refine wpList_store_row rfl 24 _ _ rfl wc2.heap.size (bcs A3 (pack lc).length c3 lc.length) rfl rfl 24 (bcs none 0 0 0) ((Row.newEq _ _ _ _ _ rfl rfl).alloc _) (by rw [bcs_size]; exact cellsB) rfl (all_one (bcs_one _ _ _ _)) ?_)
      | (refine wpList_store_row rfl 26 _ _ rfl (wc2.heap.size + 1) (flt 0 0) rfl rfl 26 (flt 0 0) (Row.rowFar (Row.newEq _ _ _ _ _ (by simp) rfl) (by omega) _) (by rw [flt_size]; exact cellsF) rfl (all_one (flt_one _ _)) ?_))
    have hkk := fun o1 o2 x y => up_call hbc (blw_new2 wc2 o1 o2 x y)
    refine wp_world (F := fun W => Row W g0 24 (bcs A1 (pack la).length c1 la.length) ∧ Row W (g0 + 1) 26 (flt 0 0) ∧ Row W g1 24 (bcs A2 (pack lb).length c2 lb.length) ∧ Row W (g1 + 1) 26 (flt 0 0) ∧ Sl W W.heap.size A1 (pack la).length (bl (pack la)) ∧ Sl W W.heap.size A2 (pack lb).length (bl (pack lb)) ∧ Row W wc2.heap.size 24 (bcs A3 (pack lc).length c3 lc.length) ∧ Row W (wc2.heap.size + 1) 26 (flt 0 0) ∧ Sl W W.heap.size A3 (pack lc).length (bl (pack lc)) ∧ Below w.heap.size w W) ⟨r1.below (hkk _ _ _ _) r1.lt, f1.below (hkk _ _ _ _) f1.lt, r2.below (hkk _ _ _ _) r2.lt, f2.below (hkk _ _ _ _) f2.lt, s1.up (hkk _ _ _ _), s2.up (hkk _ _ _ _), row_new2a _ _ _ _ _ _ _, row_new2b _ _ _ _ _ _ _, s3.up (blw_new2 _ _ _ _ _), up_call hb (hkk _ _ _ _)⟩ ?_
    generalize wc2.heap.size = g2
    clear hkk hbc hb r1 f1 r2 f2 s1 s2 s3 wc2 a1 a2 b1 b2 Wg1
    rintro Wg2 ⟨r1, f1, r2, f2, s1, s2, r3, f3, s3, hb⟩
    have a3 : Wg2.cell? ⟨g2 + 1, 0, none⟩ = some (.int .i64 0) := (f3.cell 0).trans rfl
    go_wp2_with (first
      | (refine wpList_load_rowG (by simp [Region.wanted, yielded, Act.put]) 24 _ rfl g0 rfl 24 (bcs A1 (pack la).length c1 la.length) (0, 0) _ r1 Try.underlying24 rfl (by rw [bcs_size]; exact cellsB) ?_)
      | (refine wpList_load_rowG (by simp [Region.wanted, yielded, Act.put]) 24 _ rfl g2 rfl 24 (bcs A3 (pack lc).length c3 lc.length) (0, 0) _ r3 Try.underlying24 rfl (by rw [bcs_size]; exact cellsB) ?_)
      | (go_at_call 17; refine (sameb_no (pack la) (pack lc) _ _ A1 A3 _ _ c1 c3 HPN.out _ s1 s3).mono ?_; rintro e w6 ⟨rfl, hb6⟩; have hb7 := up_call hb hb6))
    go_ret
    exact ⟨rfl, hb7⟩
end Go.Proofs.Ytbahkidkpbabdaa.lawPrefix
