/-
  The contracts of bits.GammaSize and bits.AppendGamma.
-/
import Derived.Test.YtahihgmlkcbfiaaBApp
import Derived.Test.YtahihgmlkcbfiaaBRead
import Derived.Test.YtahihgmlkcbfiaaGLen
namespace Go.Proofs.Ytahihgmlkcbfiaa
open Go.RowKit

/-- the number of binary digits -/
theorem bitLen_log (x : Nat) (h1 : 1 ≤ x) (hx : x < 18446744073709551616) : Lib.bitLen x = Nat.log2 x + 1 := by
  have h2 := Nat.log2_self_le (n := x) (by omega)
  have h3 := Nat.lt_log2_self (n := x)
  have h4 : x / 2 ^ Nat.log2 x = 1 := by
    have hp : 0 < 2 ^ Nat.log2 x := Nat.two_pow_pos _
    have a : 1 ≤ x / 2 ^ Nat.log2 x := (Nat.le_div_iff_mul_le hp).2 (by omega)
    have b : x / 2 ^ Nat.log2 x < 2 := (Nat.div_lt_iff_lt_mul hp).2 (by rw [Nat.pow_succ] at h3; omega)
    omega
  rw [Lib.bitLen_shift (Nat.log2 x) x h2 hx, h4]
  rfl
/-- the size of the gamma code of a number -/
def gsz (n : Int) : Nat := if n < 1 then 0 else 2 * Nat.log2 n.toNat + 1
theorem gsz_low (n : Int) (h : n < 1) : gsz n = 0 := if_pos h
theorem gsz_nat (n : Nat) (h : 1 ≤ n) : gsz (n : Int) = 2 * Nat.log2 n + 1 := by
  unfold gsz
  rw [if_neg (by omega), Int.toNat_natCast]

theorem gammaSize_any (n : Int) (hn : -9223372036854775808 ≤ n ∧ n ≤ 9223372036854775807) (w : World) :
    Calls Try.prog 59 #[.int .i64 n] w fun e w' => e = .returned (.int .i64 (gsz n)) ∧ w = w' := by
  by_cases h : n < 1
  · have hg := Lib.hid (gsz_low n h)
    have hd : decide (n < 1) = true := decide_eq_true h
    go_enter Try.func59, Try.ntmps59
    go_wp2
    go_ret
    exact ⟨by rw [hg.out]; rfl, rfl⟩
  · obtain ⟨m, rfl⟩ : ∃ m : Nat, n = m := ⟨n.toNat, by omega⟩
    have hm : 1 ≤ m := by omega
    have hlt := log2_lt m 63 hm (by omega)
    have hg := Lib.hid (gsz_nat m hm)
    have hl := bitLen_log m hm (by omega)
    have hd : decide ((m : Int) < 1) = false := decide_eq_false h
    obtain ⟨q, hq⟩ : ∃ q, q = Nat.log2 m := ⟨_, rfl⟩
    rw [← hq] at hl hlt
    have HQ := Lib.hid hq
    have HL := Lib.hid hl
    have h0 : (0 : Int) ≤ m := by omega
    have h1 : (m : Int) ≤ 18446744073709551615 := by omega
    clear hq hl
    go_enter Try.func59, Try.ntmps59
    go_wp2_with (go_at_call 70; refine (len_any m h0 h1 _).mono ?_; rintro e w' ⟨rfl, rfl⟩; rw [Int.toNat_natCast, HL.out])
    go_ret
    exact ⟨ret_int (by rw [hg.out, ← HQ.out]; omega), rfl⟩
theorem gammaSize_is (n : Int) (hn : -9223372036854775808 ≤ n ∧ n ≤ 9223372036854775807) (m : Nat) (hm : m = gsz n) (w : World) :
    Calls Try.prog 59 #[.int .i64 n] w fun e w' => e = .returned (.int .i64 m) ∧ w = w' := by
  subst hm
  exact gammaSize_any n hn w

set_option maxRecDepth 100000 in
set_option maxHeartbeats 4000000 in
theorem gamma_form (L : List UInt8) (k : Int) (hG : ¬ Good L k) (n : Int) (hn : -9223372036854775808 ≤ n ∧ n ≤ 9223372036854775807)  (A : Option Addr) (c : Nat) (w : World) (hS : Sl w w.heap.size A L.length (bl L)) :
    Calls Try.prog 61 #[.agg (bcs A L.length c k), .int .i64 n] w fun e w' => e = .returned (.tuple #[.agg (bcs none 0 0 0), .agg (flt 6 (-1))]) ∧ Below w.heap.size w w' := by
  have HB := Lib.hid hn
  obtain ⟨q, hq⟩ : ∃ q, q = gsz n := ⟨_, rfl⟩
  have HQ := Lib.hid hq
  skip
  clear hq hn
  go_enter Try.func61, Try.ntmps61
  go_upto_region 1 with (fail)
  refine wp_world (F := fun W => Row W w.heap.size 43 (bcs A L.length c k) ∧ Row W (w.heap.size + 1) 43 (bcs none 0 0 0) ∧ Row W (w.heap.size + 1 + 1) 25 (flt 0 0) ∧ Below w.heap.size w W)
    ⟨((Row.new _ _ _).alloc _).alloc _, (Row.newEq _ _ _ _ _ (by simp) rfl).alloc _, Row.newEq _ _ _ _ _ (by simp) rfl, (((Below.refl _ _).alloc (Nat.le_refl _) _).alloc (by simp) _).alloc (by simp; omega) _⟩ ?_
  rintro W0 ⟨r0, r1, r2, hb0⟩
  have hS0 := (hS.below hb0).wider hb0.size
  clear hS
  go_wp2_with (first
      | (refine wpList_load_row rfl 43 _ rfl w.heap.size rfl 43 (bcs A L.length c k) (0, 0) _ r0a Try.underlying43 rfl (by rw [bcs_size]; exact cellsB) ?_)
      | (refine wpList_load_row rfl 43 _ rfl w.heap.size rfl 43 (bcs A L.length c k) (0, 0) _ r0 Try.underlying43 rfl (by rw [bcs_size]; exact cellsB) ?_)
      | (go_at_call 59; refine (gammaSize_is n HB.out q HQ.out _).mono ?_; rintro e w1 ⟨rfl, rfl⟩)
      | (go_at_call 46; refine (valid_no L k hG A c _ hS0).mono ?_; rintro e w1 ⟨rfl, hb1⟩; have r0a := r0.below hb1 r0.lt; have r1a := r1.below hb1 r1.lt; have r2a := r2.below hb1 r2.lt; have hba := up_call hb0 hb1; have hSa := hS0.up hb1; have c1 : w1.cell? ⟨w.heap.size, 1, none⟩ = some (.int .i64 (k)) := (r0a.cell 1).trans rfl; clear hb1)
      | (go_at_call 51; refine (bfail_any 6 (-1) _).mono ?_; rintro e w2 ⟨rfl, hb2⟩; have r1b := r1a.below hb2 r1a.lt; have r2b := r2a.below hb2 r2a.lt; have hbb := up_call hba hb2; clear hb2)
      | (refine wpList_store_row rfl 43 _ _ rfl (w.heap.size + 1) (bcs none 0 0 0) rfl rfl 43 (bcs none 0 0 0) r1b (by rw [bcs_size]; exact cellsB) rfl (all_one (bcs_one _ _ _ _)) ?_)
      | (refine wpList_store_row rfl 25 _ _ rfl (w.heap.size + 1 + 1) (flt 6 (-1)) rfl rfl 25 (flt 0 0) (r2b.rowFar (by omega) _) (by rw [flt_size]; exact cellsF) rfl (all_one (flt_one _ _)) ?_))
  refine bodyPost_ret (results_rows Try.results61 _ _ (w.heap.size + 1) (w.heap.size + 1 + 1) 43 25 (bcs none 0 0 0) (flt 6 (-1)) _ _ rfl rfl ((Row.row r1b _).rowFar (by omega) _) (Row.row (r2b.rowFar (by omega) _) _) Try.underlying43 rfl (by rw [bcs_size]; exact cellsB) Try.underlying25 rfl (by rw [flt_size]; exact cellsF)) rfl ⟨rfl, ?_⟩
  exact blw_row (blw_row hbb (by omega) _) (by omega) _

set_option maxRecDepth 100000 in
set_option maxHeartbeats 4000000 in
theorem gamma_low (L : List UInt8) (l : List Bool) (hR : Rep L l) (hl : l.length ≤ 131072) (n : Int) (hn : -9223372036854775808 ≤ n ∧ n ≤ 9223372036854775807) (h : n < 1) (A : Option Addr) (c : Nat) (w : World) (hS : Sl w w.heap.size A L.length (bl L)) :
    Calls Try.prog 61 #[.agg (bcs A L.length c (l.length : Int)), .int .i64 n] w fun e w' => e = .returned (.tuple #[.agg (bcs none 0 0 0), .agg (flt 4 (-2))]) ∧ Below w.heap.size w w' := by
  have HB := Lib.hid hn
  obtain ⟨q, hq⟩ : ∃ q, q = gsz n := ⟨_, rfl⟩
  have HQ := Lib.hid hq
  have h1 : decide (n < 1) = true := decide_eq_true h
  clear hq hn
  go_enter Try.func61, Try.ntmps61
  go_upto_region 1 with (fail)
  refine wp_world (F := fun W => Row W w.heap.size 43 (bcs A L.length c (l.length : Int)) ∧ Row W (w.heap.size + 1) 43 (bcs none 0 0 0) ∧ Row W (w.heap.size + 1 + 1) 25 (flt 0 0) ∧ Below w.heap.size w W)
    ⟨((Row.new _ _ _).alloc _).alloc _, (Row.newEq _ _ _ _ _ (by simp) rfl).alloc _, Row.newEq _ _ _ _ _ (by simp) rfl, (((Below.refl _ _).alloc (Nat.le_refl _) _).alloc (by simp) _).alloc (by simp; omega) _⟩ ?_
  rintro W0 ⟨r0, r1, r2, hb0⟩
  have hS0 := (hS.below hb0).wider hb0.size
  clear hS
  go_wp2_with (first
      | (refine wpList_load_row rfl 43 _ rfl w.heap.size rfl 43 (bcs A L.length c (l.length : Int)) (0, 0) _ r0a Try.underlying43 rfl (by rw [bcs_size]; exact cellsB) ?_)
      | (refine wpList_load_row rfl 43 _ rfl w.heap.size rfl 43 (bcs A L.length c (l.length : Int)) (0, 0) _ r0 Try.underlying43 rfl (by rw [bcs_size]; exact cellsB) ?_)
      | (go_at_call 59; refine (gammaSize_is n HB.out q HQ.out _).mono ?_; rintro e w1 ⟨rfl, rfl⟩)
      | (go_at_call 46; refine (valid_yes L l hR hl A c _ hS0).mono ?_; rintro e w1 ⟨rfl, hb1⟩; have r0a := r0.below hb1 r0.lt; have r1a := r1.below hb1 r1.lt; have r2a := r2.below hb1 r2.lt; have hba := up_call hb0 hb1; have hSa := hS0.up hb1; have c1 : w1.cell? ⟨w.heap.size, 1, none⟩ = some (.int .i64 ((l.length : Int))) := (r0a.cell 1).trans rfl; clear hb1)
      | (go_at_call 51; refine (bfail_any 4 (-2) _).mono ?_; rintro e w2 ⟨rfl, hb2⟩; have r1b := r1a.below hb2 r1a.lt; have r2b := r2a.below hb2 r2a.lt; have hbb := up_call hba hb2; clear hb2)
      | (refine wpList_store_row rfl 43 _ _ rfl (w.heap.size + 1) (bcs none 0 0 0) rfl rfl 43 (bcs none 0 0 0) r1b (by rw [bcs_size]; exact cellsB) rfl (all_one (bcs_one _ _ _ _)) ?_)
      | (refine wpList_store_row rfl 25 _ _ rfl (w.heap.size + 1 + 1) (flt 4 (-2)) rfl rfl 25 (flt 0 0) (r2b.rowFar (by omega) _) (by rw [flt_size]; exact cellsF) rfl (all_one (flt_one _ _)) ?_))
  refine bodyPost_ret (results_rows Try.results61 _ _ (w.heap.size + 1) (w.heap.size + 1 + 1) 43 25 (bcs none 0 0 0) (flt 4 (-2)) _ _ rfl rfl ((Row.row r1b _).rowFar (by omega) _) (Row.row (r2b.rowFar (by omega) _) _) Try.underlying43 rfl (by rw [bcs_size]; exact cellsB) Try.underlying25 rfl (by rw [flt_size]; exact cellsF)) rfl ⟨rfl, ?_⟩
  exact blw_row (blw_row hbb (by omega) _) (by omega) _

set_option maxRecDepth 100000 in
set_option maxHeartbeats 4000000 in
theorem gamma_great (L : List UInt8) (l : List Bool) (hR : Rep L l) (hl : l.length ≤ 131072) (n : Int) (hn : -9223372036854775808 ≤ n ∧ n ≤ 9223372036854775807) (h : 2147483647 < n) (A : Option Addr) (c : Nat) (w : World) (hS : Sl w w.heap.size A L.length (bl L)) :
    Calls Try.prog 61 #[.agg (bcs A L.length c (l.length : Int)), .int .i64 n] w fun e w' => e = .returned (.tuple #[.agg (bcs none 0 0 0), .agg (flt 4 (-2))]) ∧ Below w.heap.size w w' := by
  have HB := Lib.hid hn
  obtain ⟨q, hq⟩ : ∃ q, q = gsz n := ⟨_, rfl⟩
  have HQ := Lib.hid hq
  have h1 : decide (n < 1) = false := decide_eq_false (by omega)
  have h2 : decide (2147483647 < n) = true := decide_eq_true h
  clear hq hn
  go_enter Try.func61, Try.ntmps61
  go_upto_region 1 with (fail)
  refine wp_world (F := fun W => Row W w.heap.size 43 (bcs A L.length c (l.length : Int)) ∧ Row W (w.heap.size + 1) 43 (bcs none 0 0 0) ∧ Row W (w.heap.size + 1 + 1) 25 (flt 0 0) ∧ Below w.heap.size w W)
    ⟨((Row.new _ _ _).alloc _).alloc _, (Row.newEq _ _ _ _ _ (by simp) rfl).alloc _, Row.newEq _ _ _ _ _ (by simp) rfl, (((Below.refl _ _).alloc (Nat.le_refl _) _).alloc (by simp) _).alloc (by simp; omega) _⟩ ?_
  rintro W0 ⟨r0, r1, r2, hb0⟩
  have hS0 := (hS.below hb0).wider hb0.size
  clear hS
  go_wp2_with (first
      | (refine wpList_load_row rfl 43 _ rfl w.heap.size rfl 43 (bcs A L.length c (l.length : Int)) (0, 0) _ r0a Try.underlying43 rfl (by rw [bcs_size]; exact cellsB) ?_)
      | (refine wpList_load_row rfl 43 _ rfl w.heap.size rfl 43 (bcs A L.length c (l.length : Int)) (0, 0) _ r0 Try.underlying43 rfl (by rw [bcs_size]; exact cellsB) ?_)
      | (go_at_call 59; refine (gammaSize_is n HB.out q HQ.out _).mono ?_; rintro e w1 ⟨rfl, rfl⟩)
      | (go_at_call 46; refine (valid_yes L l hR hl A c _ hS0).mono ?_; rintro e w1 ⟨rfl, hb1⟩; have r0a := r0.below hb1 r0.lt; have r1a := r1.below hb1 r1.lt; have r2a := r2.below hb1 r2.lt; have hba := up_call hb0 hb1; have hSa := hS0.up hb1; have c1 : w1.cell? ⟨w.heap.size, 1, none⟩ = some (.int .i64 ((l.length : Int))) := (r0a.cell 1).trans rfl; clear hb1)
      | (go_at_call 51; refine (bfail_any 4 (-2) _).mono ?_; rintro e w2 ⟨rfl, hb2⟩; have r1b := r1a.below hb2 r1a.lt; have r2b := r2a.below hb2 r2a.lt; have hbb := up_call hba hb2; clear hb2)
      | (refine wpList_store_row rfl 43 _ _ rfl (w.heap.size + 1) (bcs none 0 0 0) rfl rfl 43 (bcs none 0 0 0) r1b (by rw [bcs_size]; exact cellsB) rfl (all_one (bcs_one _ _ _ _)) ?_)
      | (refine wpList_store_row rfl 25 _ _ rfl (w.heap.size + 1 + 1) (flt 4 (-2)) rfl rfl 25 (flt 0 0) (r2b.rowFar (by omega) _) (by rw [flt_size]; exact cellsF) rfl (all_one (flt_one _ _)) ?_))
  refine bodyPost_ret (results_rows Try.results61 _ _ (w.heap.size + 1) (w.heap.size + 1 + 1) 43 25 (bcs none 0 0 0) (flt 4 (-2)) _ _ rfl rfl ((Row.row r1b _).rowFar (by omega) _) (Row.row (r2b.rowFar (by omega) _) _) Try.underlying43 rfl (by rw [bcs_size]; exact cellsB) Try.underlying25 rfl (by rw [flt_size]; exact cellsF)) rfl ⟨rfl, ?_⟩
  exact blw_row (blw_row hbb (by omega) _) (by omega) _

set_option maxRecDepth 100000 in
set_option maxHeartbeats 4000000 in
theorem gamma_large (L : List UInt8) (l : List Bool) (hR : Rep L l) (hl : l.length ≤ 131072) (n : Int) (hn : -9223372036854775808 ≤ n ∧ n ≤ 9223372036854775807) (h0 : 1 ≤ n) (h : n ≤ 2147483647) (hx : 131072 < l.length + gsz n) (A : Option Addr) (c : Nat) (w : World) (hS : Sl w w.heap.size A L.length (bl L)) :
    Calls Try.prog 61 #[.agg (bcs A L.length c (l.length : Int)), .int .i64 n] w fun e w' => e = .returned (.tuple #[.agg (bcs none 0 0 0), .agg (flt 14 (-1))]) ∧ Below w.heap.size w w' := by
  have HB := Lib.hid hn
  obtain ⟨q, hq⟩ : ∃ q, q = gsz n := ⟨_, rfl⟩
  have HQ := Lib.hid hq
  rw [← hq] at hx
  have hql : q ≤ 63 := by
    obtain ⟨m, rfl⟩ : ∃ m : Nat, n = m := ⟨n.toNat, by omega⟩
    rw [hq, gsz_nat m (by omega)]
    have := log2_lt m 31 (by omega) (by omega)
    omega
  have h1 : decide (n < 1) = false := decide_eq_false (by omega)
  have h2 : decide (2147483647 < n) = false := decide_eq_false (by omega)
  have h3 : decide ((131072 : Int) < (l.length : Int) + (q : Int)) = true := decide_eq_true (by omega)
  clear hq hn
  go_enter Try.func61, Try.ntmps61
  go_upto_region 1 with (fail)
  refine wp_world (F := fun W => Row W w.heap.size 43 (bcs A L.length c (l.length : Int)) ∧ Row W (w.heap.size + 1) 43 (bcs none 0 0 0) ∧ Row W (w.heap.size + 1 + 1) 25 (flt 0 0) ∧ Below w.heap.size w W)
    ⟨((Row.new _ _ _).alloc _).alloc _, (Row.newEq _ _ _ _ _ (by simp) rfl).alloc _, Row.newEq _ _ _ _ _ (by simp) rfl, (((Below.refl _ _).alloc (Nat.le_refl _) _).alloc (by simp) _).alloc (by simp; omega) _⟩ ?_
  rintro W0 ⟨r0, r1, r2, hb0⟩
  have hS0 := (hS.below hb0).wider hb0.size
  clear hS
  go_wp2_with (first
      | (refine wpList_load_row rfl 43 _ rfl w.heap.size rfl 43 (bcs A L.length c (l.length : Int)) (0, 0) _ r0a Try.underlying43 rfl (by rw [bcs_size]; exact cellsB) ?_)
      | (refine wpList_load_row rfl 43 _ rfl w.heap.size rfl 43 (bcs A L.length c (l.length : Int)) (0, 0) _ r0 Try.underlying43 rfl (by rw [bcs_size]; exact cellsB) ?_)
      | (go_at_call 59; refine (gammaSize_is n HB.out q HQ.out _).mono ?_; rintro e w1 ⟨rfl, rfl⟩)
      | (go_at_call 46; refine (valid_yes L l hR hl A c _ hS0).mono ?_; rintro e w1 ⟨rfl, hb1⟩; have r0a := r0.below hb1 r0.lt; have r1a := r1.below hb1 r1.lt; have r2a := r2.below hb1 r2.lt; have hba := up_call hb0 hb1; have hSa := hS0.up hb1; have c1 : w1.cell? ⟨w.heap.size, 1, none⟩ = some (.int .i64 ((l.length : Int))) := (r0a.cell 1).trans rfl; clear hb1)
      | (go_at_call 51; refine (bfail_any 14 (-1) _).mono ?_; rintro e w2 ⟨rfl, hb2⟩; have r1b := r1a.below hb2 r1a.lt; have r2b := r2a.below hb2 r2a.lt; have hbb := up_call hba hb2; clear hb2)
      | (refine wpList_store_row rfl 43 _ _ rfl (w.heap.size + 1) (bcs none 0 0 0) rfl rfl 43 (bcs none 0 0 0) r1b (by rw [bcs_size]; exact cellsB) rfl (all_one (bcs_one _ _ _ _)) ?_)
      | (refine wpList_store_row rfl 25 _ _ rfl (w.heap.size + 1 + 1) (flt 14 (-1)) rfl rfl 25 (flt 0 0) (r2b.rowFar (by omega) _) (by rw [flt_size]; exact cellsF) rfl (all_one (flt_one _ _)) ?_))
  refine bodyPost_ret (results_rows Try.results61 _ _ (w.heap.size + 1) (w.heap.size + 1 + 1) 43 25 (bcs none 0 0 0) (flt 14 (-1)) _ _ rfl rfl ((Row.row r1b _).rowFar (by omega) _) (Row.row (r2b.rowFar (by omega) _) _) Try.underlying43 rfl (by rw [bcs_size]; exact cellsB) Try.underlying25 rfl (by rw [flt_size]; exact cellsF)) rfl ⟨rfl, ?_⟩
  exact blw_row (blw_row hbb (by omega) _) (by omega) _

set_option maxRecDepth 100000 in
set_option maxHeartbeats 4000000 in
theorem gamma_ok (L : List UInt8) (l : List Bool) (hR : Rep L l) (hl : l.length ≤ 131072) (v : Nat) (h0 : 1 ≤ v) (h : v ≤ 2147483647) (s : Nat) (hs : s = gsz v) (hx : l.length + s ≤ 131072) (A : Option Addr) (c : Nat) (w : World) (hS : Sl w w.heap.size A L.length (bl L)) :
    Calls Try.prog 61 #[.agg (bcs A L.length c l.length), .int .i64 v] w (BitsOut w (l ++ digB v s)) := by
  have hz := hs
  rw [gsz_nat v h0] at hz
  have hlt := log2_lt v 31 h0 (by omega)
  have hvm : v < 2 ^ (s / 2 + 1) := by
    rw [show s / 2 = Nat.log2 v by omega]
    exact Nat.lt_log2_self
  have HV := Lib.hid hvm
  have HQ := Lib.hid hs
  have hs1 : s ≤ 61 := by omega
  have hs2 : s % 2 = 1 := by omega
  have hs3 : 1 ≤ s ∧ s / 2 + (s / 2 + 1) ≤ s ∧ s - (s / 2 + 1) ≤ s / 2 := by omega
  obtain ⟨hs4, hs5, hs6⟩ := hs3
  have HS := Lib.hid (show s - (s / 2 + 1) = s / 2 by omega)
  clear hz hlt hvm hs hs2 hs6
  have h1 : decide ((v : Int) < 1) = false := decide_eq_false (by omega)
  have h2 : decide ((2147483647 : Int) < (v : Int)) = false := decide_eq_false (by omega)
  have h3 : decide ((131072 : Int) < (l.length : Int) + (s : Int)) = false := decide_eq_false (by omega)
  have hvs : v < 9223372036854775808 := by omega
  have HVS := Lib.hid hvs
  clear hvs
  go_enter Try.func61, Try.ntmps61
  go_upto_region 1 with (fail)
  refine wp_world (F := fun W => Row W w.heap.size 43 (bcs A L.length c l.length) ∧ Row W (w.heap.size + 1) 43 (bcs none 0 0 0) ∧ Row W (w.heap.size + 1 + 1) 25 (flt 0 0) ∧ Below w.heap.size w W)
    ⟨((Row.new _ _ _).alloc _).alloc _, (Row.newEq _ _ _ _ _ (by simp) rfl).alloc _, Row.newEq _ _ _ _ _ (by simp) rfl, (((Below.refl _ _).alloc (Nat.le_refl _) _).alloc (by simp) _).alloc (by simp; omega) _⟩ ?_
  rintro W0 ⟨r0, r1, r2, hb0⟩
  have hS0 := (hS.below hb0).wider hb0.size
  clear hS
  have HT := Lib.hid hR
  go_upto_region 8 with (first
      | (refine wpList_load_row rfl 43 _ rfl w.heap.size rfl 43 (bcs A L.length c l.length) (0, 0) _ r0a Try.underlying43 rfl (by rw [bcs_size]; exact cellsB) ?_)
      | (refine wpList_load_row rfl 43 _ rfl w.heap.size rfl 43 (bcs A L.length c l.length) (0, 0) _ r0 Try.underlying43 rfl (by rw [bcs_size]; exact cellsB) ?_)
      | (go_at_call 59; refine (gammaSize_is v (by omega) s HQ.out _).mono ?_; rintro e w1 ⟨rfl, rfl⟩)
      | (go_at_call 46; refine (valid_yes L l HT.out hl A c _ hS0).mono ?_; rintro e w1 ⟨rfl, hb1⟩; have r0a := r0.below hb1 r0.lt; have r1a := r1.below hb1 r1.lt; have r2a := r2.below hb1 r2.lt; have hba := up_call hb0 hb1; have hSa := hS0.up hb1; have c1 : w1.cell? ⟨w.heap.size, 1, none⟩ = some (.int .i64 (l.length)) := (r0a.cell 1).trans rfl; clear hb1))
  have hLn := hR.len
  have hLm : L.length ≤ (l.length + s + 7) / 8 := by omega
  clear c1 hLn hR
  go_upto_region 9 with (first
      | (refine wpList_load_row rfl 43 _ rfl w.heap.size rfl 43 (bcs A L.length c l.length) (0, 0) _ r0a Try.underlying43 rfl (by rw [bcs_size]; exact cellsB) ?_)
      | (go_at_call 52; refine (extended_any L A c l.length s hx hLm _ hSa).mono ?_; rintro e w2 ⟨g, rfl, hg, rg, hb2⟩; have r0b := r0a.below hb2 r0a.lt; have r1b := r1a.below hb2 r1a.lt; have r2b := r2a.below hb2 r2a.lt; have hbb := up_call hba hb2; have h2g := r2a.lt; have hgl := rg.lt; clear hb2)
      | (refine wpList_store_row rfl 43 _ _ rfl w2.heap.size (bcs (some ⟨g, 0, none⟩) ((l.length + s + 7) / 8) ((l.length + s + 7) / 8) ((l.length + s : Nat) : Int)) rfl rfl 43 (bcs none 0 0 0) (Row.newEq _ _ _ _ _ rfl rfl) (by rw [bcs_size]; exact cellsB) rfl (all_one (bcs_one _ _ _ _)) ?_))
  refine wp_world (F := fun W => Row W w.heap.size 43 (bcs A L.length c l.length) ∧ Row W (w.heap.size + 1) 43 (bcs none 0 0 0) ∧ Row W (w.heap.size + 1 + 1) 25 (flt 0 0) ∧ Row W w2.heap.size 43 (bcs (some ⟨g, 0, none⟩) ((l.length + s + 7) / 8) ((l.length + s + 7) / 8) ((l.length + s : Nat) : Int)) ∧ Row W g 5 (bl (L ++ List.replicate (((l.length + s + 7) / 8) - L.length) 0)).toArray ∧ Below w.heap.size w W)
    ⟨(r0b.alloc _).rowFar (Nat.ne_of_lt r0b.lt) _, (r1b.alloc _).rowFar (Nat.ne_of_lt r1b.lt) _, (r2b.alloc _).rowFar (Nat.ne_of_lt r2b.lt) _, Row.row (Row.newEq _ _ _ (bcs none 0 0 0) _ rfl rfl) _, (rg.alloc _).rowFar (Nat.ne_of_lt hgl) _, blw_row (hbb.alloc hbb.size _) hbb.size _⟩ ?_
  generalize w2.heap.size = g5 at hgl ⊢
  have hga : w.heap.size + 1 + 1 < g := Nat.lt_of_lt_of_le h2g hg
  clear hbb r0b r1b r2b rg w2 r0a r1a r2a hSa hba h2g hg w1 r0 r1 r2 hb0 hS0 W0
  rintro W3 ⟨r0, r1, r2, r5, rg, hb⟩
  have c1 : W3.cell? ⟨w.heap.size, 1, none⟩ = some (.int .i64 (l.length : Int)) := (r0.cell 1).trans rfl
  have hln : (L ++ List.replicate (((l.length + s + 7) / 8) - L.length) 0).length = ((l.length + s + 7) / 8) := by
    rw [List.length_append, List.length_replicate]
    omega
  have HLN := Lib.hid hln
  clear hln
  go_upto_region 11 with (first
      | (refine wpList_load_row rfl 43 _ rfl g5 rfl 43 (bcs (some ⟨g, 0, none⟩) ((l.length + s + 7) / 8) ((l.length + s + 7) / 8) ((l.length + s : Nat) : Int)) (0, 0) _ r5 Try.underlying43 rfl (by rw [bcs_size]; exact cellsB) ?_)
      | (go_at_call 63; refine (put_is _ ((l.length + s + 7) / 8) HLN.out g _ _ (l.length + s / 2) v (s / 2 + 1) (by omega) (by omega) (by omega) HVS.out _ rg).mono ?_; rintro e w4 ⟨rfl, ⟨M, hM, rM⟩, hgr⟩))
  have r1b := r1.grown hgr (by simp; omega)
  have r2b := r2.grown hgr (by simp; omega)
  have r5b := r5.grown hgr (by simp; omega)
  have hbb := gr_below hb hgr hb.size (by omega)
  have HM := Lib.hid hM
  clear hM
  go_wp2_with (first
      | (refine wpList_load_row rfl 43 _ rfl g5 rfl 43 (bcs (some ⟨g, 0, none⟩) ((l.length + s + 7) / 8) ((l.length + s + 7) / 8) ((l.length + s : Nat) : Int)) (0, 0) _ r5b Try.underlying43 rfl (by rw [bcs_size]; exact cellsB) ?_)
      | (refine wpList_store_row rfl 43 _ _ rfl (w.heap.size + 1) (bcs (some ⟨g, 0, none⟩) ((l.length + s + 7) / 8) ((l.length + s + 7) / 8) ((l.length + s : Nat) : Int)) rfl rfl 43 (bcs none 0 0 0) r1b (by rw [bcs_size]; exact cellsB) rfl (all_one (bcs_one _ _ _ _)) ?_)
      | (refine wpList_store_row rfl 25 _ _ rfl (w.heap.size + 1 + 1) (flt 0 0) rfl rfl 25 (flt 0 0) (r2b.rowFar (by omega) _) (by rw [flt_size]; exact cellsF) rfl (all_one (flt_one _ _)) ?_))
  refine bodyPost_ret (results_rows Try.results61 _ _ (w.heap.size + 1) (w.heap.size + 1 + 1) 43 25 (bcs (some ⟨g, 0, none⟩) ((l.length + s + 7) / 8) ((l.length + s + 7) / 8) ((l.length + s : Nat) : Int)) (flt 0 0) _ _ rfl rfl ((Row.row r1b _).rowFar (by omega) _) (Row.row (r2b.rowFar (by omega) _) _) Try.underlying43 rfl (by rw [bcs_size]; exact cellsB) Try.underlying25 rfl (by rw [flt_size]; exact cellsF)) rfl ?_
  refine bitsOut_row (append_rep HT.out HV.out (by omega) (by rw [HS.out]; exact HM.out)) rfl ?_ ?_ ((rM.rowFar (by omega) _).rowFar (by omega) _) (blw_row (blw_row hbb (by omega) _) (by omega) _)
  · rw [HM.out.1, HLN.out]
  · rw [List.length_append, digB_length]
end Go.Proofs.Ytahihgmlkcbfiaa
