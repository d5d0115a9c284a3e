/-
  The contract of bits.Append: a number is added to the bits, or the fault is told. The contract of bits.Append where the number is added.
-/
import Derived.Test.YtahihgmlkcbfiaaBValid
import Derived.Test.YtahihgmlkcbfiaaBOut
import Derived.Deep.DeepCutAuto
namespace Go.Proofs.Ytahihgmlkcbfiaa
open Go.RowKit

/-- new bytes with a number written at their end -/
theorem append_rep {L M : List UInt8} {l : List Bool} {v m s : Nat} (hR : Rep L l) (hv : v < 2 ^ m) (hms : m ≤ s)
    (hM : PutTo (L ++ List.replicate ((l.length + s + 7) / 8 - L.length) 0) (l.length + (s - m)) v m m M) : Rep M (l ++ digB v s) := by
  have hl := hR.len
  refine ⟨by rw [hM.1, List.length_append, List.length_append, List.length_replicate, digB_length]; omega, fun i => ?_⟩
  rw [hM.2, bt_more, hR.2, List.getD_eq_getElem?_getD, List.getD_eq_getElem?_getD]
  by_cases h1 : i < l.length
  · rw [List.getElem?_append_left h1, decide_eq_false (by omega)]
    simp
  · rw [List.getElem?_append_right (by omega), show l[i]? = none from List.getElem?_eq_none (by omega), ← List.getD_eq_getElem?_getD, digB_getD]
    simp only [Option.getD_none, Bool.false_or]
    by_cases h2 : l.length + (s - m) ≤ i ∧ i < l.length + (s - m) + m
    · rw [decide_eq_true h2, decide_eq_true (by omega), show m - 1 - (i - (l.length + (s - m))) = s - 1 - (i - l.length) by omega]
    · rw [decide_eq_false h2]
      by_cases h3 : i - l.length < s
      · have hb : v < 2 ^ (s - 1 - (i - l.length)) := Nat.lt_of_lt_of_le hv (Nat.pow_le_pow_right (by omega) (by omega))
        rw [decide_eq_true h3, Nat.testBit_lt_two_pow hb]
        simp
      · rw [decide_eq_false h3]
        simp

/-- the fault of adding a number v in m bits to n bits -/
def appF (n : Nat) (v m : Int) : Option (Int × Int) :=
  if v < 0 ∨ (0 ≤ m ∧ m ≤ 32 ∧ 2 ^ m.toNat ≤ v) then some (4, -2)
  else if ¬ (0 ≤ m ∧ m ≤ 32) then some (4, -3)
  else if 131072 < (n : Int) + m then some (14, -1) else none

/-- the blocks of Append (and its kin) behind the boxes: b, the bits, the fault -/
def Fr3 (w : World) (V : Array Value) (a b : Nat) (W : World) : Prop :=
  Row W w.heap.size 43 V ∧ Row W a 43 (bcs none 0 0 0) ∧ Row W b 25 (flt 0 0) ∧ Below w.heap.size w W

set_option maxRecDepth 100000 in
set_option maxHeartbeats 4000000 in
theorem append_form (L : List UInt8) (k : Int) (hG : ¬ Good L k) (v m : Int) (A : Option Addr) (c : Nat) (w : World) (hS : Sl w w.heap.size A L.length (bl L)) :
    Calls Try.prog 60 #[.agg (bcs A L.length c k), .int .i64 v, .int .i64 m] w fun e w' => e = .returned (.tuple #[.agg (bcs none 0 0 0), .agg (flt 6 (-1))]) ∧ Below w.heap.size w w' := by
  go_enter Try.func60, Try.ntmps60
  go_upto_region 1 with (fail)
  refine wp_world (F := fun W => Row W w.heap.size 43 (bcs A L.length c k) ∧ Row W (w.heap.size + 1) 43 (bcs none 0 0 0) ∧ Row W (w.heap.size + 1 + 1) 25 (flt 0 0) ∧ Below w.heap.size w W)
    ⟨((Row.new _ _ _).alloc _).alloc _, (Row.newEq _ _ _ _ _ (by simp) rfl).alloc _, Row.newEq _ _ _ _ _ (by simp) rfl, (((Below.refl _ _).alloc (Nat.le_refl _) _).alloc (by simp) _).alloc (by simp; omega) _⟩ ?_
  rintro W0 ⟨r0, r1, r2, hb0⟩
  have hS0 := (hS.below hb0).wider hb0.size
  clear hS
  by_cases h0 : 0 ≤ m
  all_goals
    go_wp2_with (first
      | (refine wpList_load_row rfl 43 _ rfl w.heap.size rfl 43 (bcs A L.length c k) (0, 0) _ r0 Try.underlying43 rfl (by rw [bcs_size]; exact cellsB) ?_)
      | (go_at_call 46; refine (valid_no L k hG A c _ hS0).mono ?_; rintro e w1 ⟨rfl, hb1⟩; have r1a := r1.below hb1 r1.lt; have r2a := r2.below hb1 r2.lt; have hba := up_call hb0 hb1; clear hb1)
      | (go_at_call 51; refine (bfail_any 6 (-1) _).mono ?_; rintro e w2 ⟨rfl, hb2⟩; have r1b := r1a.below hb2 r1a.lt; have r2b := r2a.below hb2 r2a.lt; have hbb := up_call hba hb2; clear hb2)
      | (refine wpList_store_row rfl 43 _ _ rfl (w.heap.size + 1) (bcs none 0 0 0) rfl rfl 43 (bcs none 0 0 0) r1b (by rw [bcs_size]; exact cellsB) rfl (all_one (bcs_one _ _ _ _)) ?_)
      | (refine wpList_store_row rfl 25 _ _ rfl (w.heap.size + 1 + 1) (flt 6 (-1)) rfl rfl 25 (flt 0 0) (r2b.rowFar (by omega) _) (by rw [flt_size]; exact cellsF) rfl (all_one (flt_one _ _)) ?_))
    refine bodyPost_ret (results_rows Try.results60 _ _ (w.heap.size + 1) (w.heap.size + 1 + 1) 43 25 (bcs none 0 0 0) (flt 6 (-1)) _ _ rfl rfl ((Row.row r1b _).rowFar (by omega) _) (Row.row (r2b.rowFar (by omega) _) _) Try.underlying43 rfl (by rw [bcs_size]; exact cellsB) Try.underlying25 rfl (by rw [flt_size]; exact cellsF)) rfl ⟨rfl, ?_⟩
    exact blw_row (blw_row hbb (by omega) _) (by omega) _

set_option maxRecDepth 100000 in
set_option maxHeartbeats 4000000 in
theorem append_neg (L : List UInt8) (l : List Bool) (hR : Rep L l) (hl : l.length ≤ 131072) (v m : Int) (hv : v < 0) (A : Option Addr) (c : Nat) (w : World) (hS : Sl w w.heap.size A L.length (bl L)) :
    Calls Try.prog 60 #[.agg (bcs A L.length c l.length), .int .i64 v, .int .i64 m] w fun e w' => e = .returned (.tuple #[.agg (bcs none 0 0 0), .agg (flt 4 (-2))]) ∧ Below w.heap.size w w' := by
  have hd : decide (v < 0) = true := decide_eq_true hv
  go_enter Try.func60, Try.ntmps60
  go_upto_region 1 with (fail)
  refine wp_world (F := fun W => Row W w.heap.size 43 (bcs A L.length c l.length) ∧ Row W (w.heap.size + 1) 43 (bcs none 0 0 0) ∧ Row W (w.heap.size + 1 + 1) 25 (flt 0 0) ∧ Below w.heap.size w W)
    ⟨((Row.new _ _ _).alloc _).alloc _, (Row.newEq _ _ _ _ _ (by simp) rfl).alloc _, Row.newEq _ _ _ _ _ (by simp) rfl, (((Below.refl _ _).alloc (Nat.le_refl _) _).alloc (by simp) _).alloc (by simp; omega) _⟩ ?_
  rintro W0 ⟨r0, r1, r2, hb0⟩
  have hS0 := (hS.below hb0).wider hb0.size
  clear hS
  by_cases h0 : 0 ≤ m
  all_goals
    go_wp2_with (first
      | (refine wpList_load_row rfl 43 _ rfl w.heap.size rfl 43 (bcs A L.length c l.length) (0, 0) _ r0 Try.underlying43 rfl (by rw [bcs_size]; exact cellsB) ?_)
      | (go_at_call 46; refine (valid_yes L l hR hl A c _ hS0).mono ?_; rintro e w1 ⟨rfl, hb1⟩; have r0a := r0.below hb1 r0.lt; have r1a := r1.below hb1 r1.lt; have r2a := r2.below hb1 r2.lt; have hba := up_call hb0 hb1; have c1 : w1.cell? ⟨w.heap.size, 1, none⟩ = some (.int .i64 (l.length : Int)) := (r0a.cell 1).trans rfl; clear hb1)
      | (go_at_call 51; refine (bfail_any 4 (-2) _).mono ?_; rintro e w2 ⟨rfl, hb2⟩; have r1b := r1a.below hb2 r1a.lt; have r2b := r2a.below hb2 r2a.lt; have hbb := up_call hba hb2; clear hb2)
      | (refine wpList_store_row rfl 43 _ _ rfl (w.heap.size + 1) (bcs none 0 0 0) rfl rfl 43 (bcs none 0 0 0) r1b (by rw [bcs_size]; exact cellsB) rfl (all_one (bcs_one _ _ _ _)) ?_)
      | (refine wpList_store_row rfl 25 _ _ rfl (w.heap.size + 1 + 1) (flt 4 (-2)) rfl rfl 25 (flt 0 0) (r2b.rowFar (by omega) _) (by rw [flt_size]; exact cellsF) rfl (all_one (flt_one _ _)) ?_))
    refine bodyPost_ret (results_rows Try.results60 _ _ (w.heap.size + 1) (w.heap.size + 1 + 1) 43 25 (bcs none 0 0 0) (flt 4 (-2)) _ _ rfl rfl ((Row.row r1b _).rowFar (by omega) _) (Row.row (r2b.rowFar (by omega) _) _) Try.underlying43 rfl (by rw [bcs_size]; exact cellsB) Try.underlying25 rfl (by rw [flt_size]; exact cellsF)) rfl ⟨rfl, ?_⟩
    exact blw_row (blw_row hbb (by omega) _) (by omega) _

set_option maxRecDepth 100000 in
set_option maxHeartbeats 4000000 in
theorem append_narrow (L : List UInt8) (l : List Bool) (hR : Rep L l) (hl : l.length ≤ 131072) (v m : Int) (hv : 0 ≤ v) (hm : m < 0) (A : Option Addr) (c : Nat) (w : World) (hS : Sl w w.heap.size A L.length (bl L)) :
    Calls Try.prog 60 #[.agg (bcs A L.length c l.length), .int .i64 v, .int .i64 m] w fun e w' => e = .returned (.tuple #[.agg (bcs none 0 0 0), .agg (flt 4 (-3))]) ∧ Below w.heap.size w w' := by
  have hd : decide (v < 0) = false := decide_eq_false (by omega)
  go_enter Try.func60, Try.ntmps60
  go_upto_region 1 with (fail)
  refine wp_world (F := fun W => Row W w.heap.size 43 (bcs A L.length c l.length) ∧ Row W (w.heap.size + 1) 43 (bcs none 0 0 0) ∧ Row W (w.heap.size + 1 + 1) 25 (flt 0 0) ∧ Below w.heap.size w W)
    ⟨((Row.new _ _ _).alloc _).alloc _, (Row.newEq _ _ _ _ _ (by simp) rfl).alloc _, Row.newEq _ _ _ _ _ (by simp) rfl, (((Below.refl _ _).alloc (Nat.le_refl _) _).alloc (by simp) _).alloc (by simp; omega) _⟩ ?_
  rintro W0 ⟨r0, r1, r2, hb0⟩
  have hS0 := (hS.below hb0).wider hb0.size
  clear hS
  have h0 : decide (0 ≤ m) = false := decide_eq_false (by omega)
  all_goals
    go_wp2_with (first
      | (refine wpList_load_row rfl 43 _ rfl w.heap.size rfl 43 (bcs A L.length c l.length) (0, 0) _ r0 Try.underlying43 rfl (by rw [bcs_size]; exact cellsB) ?_)
      | (go_at_call 46; refine (valid_yes L l hR hl A c _ hS0).mono ?_; rintro e w1 ⟨rfl, hb1⟩; have r0a := r0.below hb1 r0.lt; have r1a := r1.below hb1 r1.lt; have r2a := r2.below hb1 r2.lt; have hba := up_call hb0 hb1; have c1 : w1.cell? ⟨w.heap.size, 1, none⟩ = some (.int .i64 (l.length : Int)) := (r0a.cell 1).trans rfl; clear hb1)
      | (go_at_call 51; refine (bfail_any 4 (-3) _).mono ?_; rintro e w2 ⟨rfl, hb2⟩; have r1b := r1a.below hb2 r1a.lt; have r2b := r2a.below hb2 r2a.lt; have hbb := up_call hba hb2; clear hb2)
      | (refine wpList_store_row rfl 43 _ _ rfl (w.heap.size + 1) (bcs none 0 0 0) rfl rfl 43 (bcs none 0 0 0) r1b (by rw [bcs_size]; exact cellsB) rfl (all_one (bcs_one _ _ _ _)) ?_)
      | (refine wpList_store_row rfl 25 _ _ rfl (w.heap.size + 1 + 1) (flt 4 (-3)) rfl rfl 25 (flt 0 0) (r2b.rowFar (by omega) _) (by rw [flt_size]; exact cellsF) rfl (all_one (flt_one _ _)) ?_))
    refine bodyPost_ret (results_rows Try.results60 _ _ (w.heap.size + 1) (w.heap.size + 1 + 1) 43 25 (bcs none 0 0 0) (flt 4 (-3)) _ _ rfl rfl ((Row.row r1b _).rowFar (by omega) _) (Row.row (r2b.rowFar (by omega) _) _) Try.underlying43 rfl (by rw [bcs_size]; exact cellsB) Try.underlying25 rfl (by rw [flt_size]; exact cellsF)) rfl ⟨rfl, ?_⟩
    exact blw_row (blw_row hbb (by omega) _) (by omega) _

set_option maxRecDepth 100000 in
set_option maxHeartbeats 4000000 in
theorem append_wide (L : List UInt8) (l : List Bool) (hR : Rep L l) (hl : l.length ≤ 131072) (v m : Int) (hv : 0 ≤ v) (hm : 32 < m) (A : Option Addr) (c : Nat) (w : World) (hS : Sl w w.heap.size A L.length (bl L)) :
    Calls Try.prog 60 #[.agg (bcs A L.length c l.length), .int .i64 v, .int .i64 m] w fun e w' => e = .returned (.tuple #[.agg (bcs none 0 0 0), .agg (flt 4 (-3))]) ∧ Below w.heap.size w w' := by
  have hd : decide (v < 0) = false := decide_eq_false (by omega)
  go_enter Try.func60, Try.ntmps60
  go_upto_region 1 with (fail)
  refine wp_world (F := fun W => Row W w.heap.size 43 (bcs A L.length c l.length) ∧ Row W (w.heap.size + 1) 43 (bcs none 0 0 0) ∧ Row W (w.heap.size + 1 + 1) 25 (flt 0 0) ∧ Below w.heap.size w W)
    ⟨((Row.new _ _ _).alloc _).alloc _, (Row.newEq _ _ _ _ _ (by simp) rfl).alloc _, Row.newEq _ _ _ _ _ (by simp) rfl, (((Below.refl _ _).alloc (Nat.le_refl _) _).alloc (by simp) _).alloc (by simp; omega) _⟩ ?_
  rintro W0 ⟨r0, r1, r2, hb0⟩
  have hS0 := (hS.below hb0).wider hb0.size
  clear hS
  have h0 : decide (0 ≤ m) = true := decide_eq_true (by omega)
  have h1 : decide (m ≤ 32) = false := decide_eq_false (by omega)
  all_goals
    go_wp2_with (first
      | (refine wpList_load_row rfl 43 _ rfl w.heap.size rfl 43 (bcs A L.length c l.length) (0, 0) _ r0 Try.underlying43 rfl (by rw [bcs_size]; exact cellsB) ?_)
      | (go_at_call 46; refine (valid_yes L l hR hl A c _ hS0).mono ?_; rintro e w1 ⟨rfl, hb1⟩; have r0a := r0.below hb1 r0.lt; have r1a := r1.below hb1 r1.lt; have r2a := r2.below hb1 r2.lt; have hba := up_call hb0 hb1; have c1 : w1.cell? ⟨w.heap.size, 1, none⟩ = some (.int .i64 (l.length : Int)) := (r0a.cell 1).trans rfl; clear hb1)
      | (go_at_call 51; refine (bfail_any 4 (-3) _).mono ?_; rintro e w2 ⟨rfl, hb2⟩; have r1b := r1a.below hb2 r1a.lt; have r2b := r2a.below hb2 r2a.lt; have hbb := up_call hba hb2; clear hb2)
      | (refine wpList_store_row rfl 43 _ _ rfl (w.heap.size + 1) (bcs none 0 0 0) rfl rfl 43 (bcs none 0 0 0) r1b (by rw [bcs_size]; exact cellsB) rfl (all_one (bcs_one _ _ _ _)) ?_)
      | (refine wpList_store_row rfl 25 _ _ rfl (w.heap.size + 1 + 1) (flt 4 (-3)) rfl rfl 25 (flt 0 0) (r2b.rowFar (by omega) _) (by rw [flt_size]; exact cellsF) rfl (all_one (flt_one _ _)) ?_))
    refine bodyPost_ret (results_rows Try.results60 _ _ (w.heap.size + 1) (w.heap.size + 1 + 1) 43 25 (bcs none 0 0 0) (flt 4 (-3)) _ _ rfl rfl ((Row.row r1b _).rowFar (by omega) _) (Row.row (r2b.rowFar (by omega) _) _) Try.underlying43 rfl (by rw [bcs_size]; exact cellsB) Try.underlying25 rfl (by rw [flt_size]; exact cellsF)) rfl ⟨rfl, ?_⟩
    exact blw_row (blw_row hbb (by omega) _) (by omega) _

set_option maxRecDepth 100000 in
set_option maxHeartbeats 4000000 in
theorem append_great (L : List UInt8) (l : List Bool) (hR : Rep L l) (hl : l.length ≤ 131072) (v : Int) (m : Nat) (hv : 0 ≤ v) (hm : m ≤ 32) (hvm : ((2 ^ m : Nat) : Int) ≤ v) (A : Option Addr) (c : Nat) (w : World) (hS : Sl w w.heap.size A L.length (bl L)) :
    Calls Try.prog 60 #[.agg (bcs A L.length c l.length), .int .i64 v, .int .i64 m] w fun e w' => e = .returned (.tuple #[.agg (bcs none 0 0 0), .agg (flt 4 (-2))]) ∧ Below w.heap.size w w' := by
  have hd : decide (v < 0) = false := decide_eq_false (by omega)
  have hq : (2 : Nat) ^ m ≤ 2 ^ 32 := Nat.pow_le_pow_right (by omega) hm
  have hw : wrap64 ((2 : Int) ^ m) = ((2 ^ m : Nat) : Int) := by
    rw [show (2 : Int) ^ m = ((2 ^ m : Nat) : Int) by rw [Int.natCast_pow]; rfl]
    exact wrap_small _ (by omega)
  obtain ⟨p, hp⟩ : ∃ p, p = (2 : Nat) ^ m := ⟨_, rfl⟩
  rw [← hp] at hw hq hvm
  clear hp
  have hd2 : decide ((p : Int) ≤ v) = true := decide_eq_true hvm
  go_enter Try.func60, Try.ntmps60
  go_upto_region 1 with (fail)
  refine wp_world (F := fun W => Row W w.heap.size 43 (bcs A L.length c l.length) ∧ Row W (w.heap.size + 1) 43 (bcs none 0 0 0) ∧ Row W (w.heap.size + 1 + 1) 25 (flt 0 0) ∧ Below w.heap.size w W)
    ⟨((Row.new _ _ _).alloc _).alloc _, (Row.newEq _ _ _ _ _ (by simp) rfl).alloc _, Row.newEq _ _ _ _ _ (by simp) rfl, (((Below.refl _ _).alloc (Nat.le_refl _) _).alloc (by simp) _).alloc (by simp; omega) _⟩ ?_
  rintro W0 ⟨r0, r1, r2, hb0⟩
  have hS0 := (hS.below hb0).wider hb0.size
  clear hS
  all_goals
    go_wp2_with (first
      | (refine wpList_load_row rfl 43 _ rfl w.heap.size rfl 43 (bcs A L.length c l.length) (0, 0) _ r0 Try.underlying43 rfl (by rw [bcs_size]; exact cellsB) ?_)
      | (go_at_call 46; refine (valid_yes L l hR hl A c _ hS0).mono ?_; rintro e w1 ⟨rfl, hb1⟩; have r0a := r0.below hb1 r0.lt; have r1a := r1.below hb1 r1.lt; have r2a := r2.below hb1 r2.lt; have hba := up_call hb0 hb1; have c1 : w1.cell? ⟨w.heap.size, 1, none⟩ = some (.int .i64 (l.length : Int)) := (r0a.cell 1).trans rfl; clear hb1)
      | (go_at_call 51; refine (bfail_any 4 (-2) _).mono ?_; rintro e w2 ⟨rfl, hb2⟩; have r1b := r1a.below hb2 r1a.lt; have r2b := r2a.below hb2 r2a.lt; have hbb := up_call hba hb2; clear hb2)
      | (refine wpList_store_row rfl 43 _ _ rfl (w.heap.size + 1) (bcs none 0 0 0) rfl rfl 43 (bcs none 0 0 0) r1b (by rw [bcs_size]; exact cellsB) rfl (all_one (bcs_one _ _ _ _)) ?_)
      | (refine wpList_store_row rfl 25 _ _ rfl (w.heap.size + 1 + 1) (flt 4 (-2)) rfl rfl 25 (flt 0 0) (r2b.rowFar (by omega) _) (by rw [flt_size]; exact cellsF) rfl (all_one (flt_one _ _)) ?_))
    refine bodyPost_ret (results_rows Try.results60 _ _ (w.heap.size + 1) (w.heap.size + 1 + 1) 43 25 (bcs none 0 0 0) (flt 4 (-2)) _ _ rfl rfl ((Row.row r1b _).rowFar (by omega) _) (Row.row (r2b.rowFar (by omega) _) _) Try.underlying43 rfl (by rw [bcs_size]; exact cellsB) Try.underlying25 rfl (by rw [flt_size]; exact cellsF)) rfl ⟨rfl, ?_⟩
    exact blw_row (blw_row hbb (by omega) _) (by omega) _

set_option maxRecDepth 100000 in
set_option maxHeartbeats 4000000 in
theorem append_large (L : List UInt8) (l : List Bool) (hR : Rep L l) (hl : l.length ≤ 131072) (v m : Nat) (hm : m ≤ 32) (hvm : v < 2 ^ m) (hx : 131072 < l.length + m) (A : Option Addr) (c : Nat) (w : World) (hS : Sl w w.heap.size A L.length (bl L)) :
    Calls Try.prog 60 #[.agg (bcs A L.length c l.length), .int .i64 v, .int .i64 m] w fun e w' => e = .returned (.tuple #[.agg (bcs none 0 0 0), .agg (flt 14 (-1))]) ∧ Below w.heap.size w w' := by
  have hd : decide ((v : Int) < 0) = false := decide_eq_false (by omega)
  have hq : (2 : Nat) ^ m ≤ 2 ^ 32 := Nat.pow_le_pow_right (by omega) hm
  have hw : wrap64 ((2 : Int) ^ m) = ((2 ^ m : Nat) : Int) := by
    rw [show (2 : Int) ^ m = ((2 ^ m : Nat) : Int) by rw [Int.natCast_pow]; rfl]
    exact wrap_small _ (by omega)
  obtain ⟨p, hp⟩ : ∃ p, p = (2 : Nat) ^ m := ⟨_, rfl⟩
  rw [← hp] at hw hq hvm
  clear hp
  have hd2 : decide (p ≤ v) = false := decide_eq_false (by omega)
  have hd3 : decide ((131072 : Int) < (l.length : Int) + (m : Int)) = true := decide_eq_true (by omega)
  go_enter Try.func60, Try.ntmps60
  go_upto_region 1 with (fail)
  refine wp_world (F := fun W => Row W w.heap.size 43 (bcs A L.length c l.length) ∧ Row W (w.heap.size + 1) 43 (bcs none 0 0 0) ∧ Row W (w.heap.size + 1 + 1) 25 (flt 0 0) ∧ Below w.heap.size w W)
    ⟨((Row.new _ _ _).alloc _).alloc _, (Row.newEq _ _ _ _ _ (by simp) rfl).alloc _, Row.newEq _ _ _ _ _ (by simp) rfl, (((Below.refl _ _).alloc (Nat.le_refl _) _).alloc (by simp) _).alloc (by simp; omega) _⟩ ?_
  rintro W0 ⟨r0, r1, r2, hb0⟩
  have hS0 := (hS.below hb0).wider hb0.size
  clear hS
  all_goals
    go_wp2_with (first
      | (refine wpList_load_row rfl 43 _ rfl w.heap.size rfl 43 (bcs A L.length c l.length) (0, 0) _ r0 Try.underlying43 rfl (by rw [bcs_size]; exact cellsB) ?_)
      | (go_at_call 46; refine (valid_yes L l hR hl A c _ hS0).mono ?_; rintro e w1 ⟨rfl, hb1⟩; have r0a := r0.below hb1 r0.lt; have r1a := r1.below hb1 r1.lt; have r2a := r2.below hb1 r2.lt; have hba := up_call hb0 hb1; have c1 : w1.cell? ⟨w.heap.size, 1, none⟩ = some (.int .i64 (l.length : Int)) := (r0a.cell 1).trans rfl; clear hb1)
      | (go_at_call 51; refine (bfail_any 14 (-1) _).mono ?_; rintro e w2 ⟨rfl, hb2⟩; have r1b := r1a.below hb2 r1a.lt; have r2b := r2a.below hb2 r2a.lt; have hbb := up_call hba hb2; clear hb2)
      | (refine wpList_store_row rfl 43 _ _ rfl (w.heap.size + 1) (bcs none 0 0 0) rfl rfl 43 (bcs none 0 0 0) r1b (by rw [bcs_size]; exact cellsB) rfl (all_one (bcs_one _ _ _ _)) ?_)
      | (refine wpList_store_row rfl 25 _ _ rfl (w.heap.size + 1 + 1) (flt 14 (-1)) rfl rfl 25 (flt 0 0) (r2b.rowFar (by omega) _) (by rw [flt_size]; exact cellsF) rfl (all_one (flt_one _ _)) ?_))
    refine bodyPost_ret (results_rows Try.results60 _ _ (w.heap.size + 1) (w.heap.size + 1 + 1) 43 25 (bcs none 0 0 0) (flt 14 (-1)) _ _ rfl rfl ((Row.row r1b _).rowFar (by omega) _) (Row.row (r2b.rowFar (by omega) _) _) Try.underlying43 rfl (by rw [bcs_size]; exact cellsB) Try.underlying25 rfl (by rw [flt_size]; exact cellsF)) rfl ⟨rfl, ?_⟩
    exact blw_row (blw_row hbb (by omega) _) (by omega) _
end Go.Proofs.Ytahihgmlkcbfiaa

namespace Go.Proofs.Ytahihgmlkcbfiaa
open Go.RowKit

set_option maxRecDepth 100000 in
set_option maxHeartbeats 4000000 in
theorem append_ok (L : List UInt8) (l : List Bool) (hR : Rep L l) (hl : l.length ≤ 131072) (v m : Nat) (hm : m ≤ 32) (hvm : v < 2 ^ m) (hx : l.length + m ≤ 131072) (A : Option Addr) (c : Nat) (w : World) (hS : Sl w w.heap.size A L.length (bl L)) :
    Calls Try.prog 60 #[.agg (bcs A L.length c l.length), .int .i64 v, .int .i64 m] w (BitsOut w (l ++ digB v m)) := by
  have HV := Lib.hid hvm
  have hd : decide ((v : Int) < 0) = false := decide_eq_false (by omega)
  have hq : (2 : Nat) ^ m ≤ 2 ^ 32 := Nat.pow_le_pow_right (by omega) hm
  have hw : wrap64 ((2 : Int) ^ m) = ((2 ^ m : Nat) : Int) := by
    rw [show (2 : Int) ^ m = ((2 ^ m : Nat) : Int) by rw [Int.natCast_pow]; rfl]
    exact wrap_small _ (by omega)
  obtain ⟨p, hp⟩ : ∃ p, p = (2 : Nat) ^ m := ⟨_, rfl⟩
  rw [← hp] at hw hq hvm
  clear hp
  have hd2 : decide (p ≤ v) = false := decide_eq_false (by omega)
  have hd3 : decide ((131072 : Int) < (l.length : Int) + (m : Int)) = false := decide_eq_false (by omega)
  have hvs : v < 9223372036854775808 := by omega
  go_enter Try.func60, Try.ntmps60
  go_upto_region 1 with (fail)
  refine wp_world (F := fun W => Row W w.heap.size 43 (bcs A L.length c l.length) ∧ Row W (w.heap.size + 1) 43 (bcs none 0 0 0) ∧ Row W (w.heap.size + 1 + 1) 25 (flt 0 0) ∧ Below w.heap.size w W)
    ⟨((Row.new _ _ _).alloc _).alloc _, (Row.newEq _ _ _ _ _ (by simp) rfl).alloc _, Row.newEq _ _ _ _ _ (by simp) rfl, (((Below.refl _ _).alloc (Nat.le_refl _) _).alloc (by simp) _).alloc (by simp; omega) _⟩ ?_
  rintro W0 ⟨r0, r1, r2, hb0⟩
  have hS0 := (hS.below hb0).wider hb0.size
  clear hS
  go_upto_region 10 with (first
      | (refine wpList_load_row rfl 43 _ rfl w.heap.size rfl 43 (bcs A L.length c l.length) (0, 0) _ r0 Try.underlying43 rfl (by rw [bcs_size]; exact cellsB) ?_)
      | (go_at_call 46; refine (valid_yes L l hR hl A c _ hS0).mono ?_; rintro e w1 ⟨rfl, hb1⟩; have r0a := r0.below hb1 r0.lt; have r1a := r1.below hb1 r1.lt; have r2a := r2.below hb1 r2.lt; have hba := up_call hb0 hb1; have hSa := hS0.up hb1; have c1 : w1.cell? ⟨w.heap.size, 1, none⟩ = some (.int .i64 (l.length : Int)) := (r0a.cell 1).trans rfl; clear hb1))
  have hLn := hR.len
  have HLn := Lib.hid hLn
  have hLm : L.length ≤ (l.length + m + 7) / 8 := by omega
  clear c1 hLn
  go_upto_region 11 with (first
      | (refine wpList_load_row rfl 43 _ rfl w.heap.size rfl 43 (bcs A L.length c l.length) (0, 0) _ r0a Try.underlying43 rfl (by rw [bcs_size]; exact cellsB) ?_)
      | (go_at_call 52; refine (extended_any L A c l.length m hx hLm _ hSa).mono ?_; rintro e w2 ⟨g, rfl, hg, rg, hb2⟩; have r0b := r0a.below hb2 r0a.lt; have r1b := r1a.below hb2 r1a.lt; have r2b := r2a.below hb2 r2a.lt; have hbb := up_call hba hb2; have h2g := r2a.lt; have hgl := rg.lt; clear hb2)
      | (refine wpList_store_row rfl 43 _ _ rfl w2.heap.size (bcs (some ⟨g, 0, none⟩) ((l.length + m + 7) / 8) ((l.length + m + 7) / 8) ((l.length + m : Nat) : Int)) rfl rfl 43 (bcs none 0 0 0) (Row.newEq _ _ _ _ _ rfl rfl) (by rw [bcs_size]; exact cellsB) rfl (all_one (bcs_one _ _ _ _)) ?_))
  have hT := hR
  have HT := Lib.hid hT
  clear hT
  refine wp_world (F := fun W => Row W w.heap.size 43 (bcs A L.length c l.length) ∧ Row W (w.heap.size + 1) 43 (bcs none 0 0 0) ∧ Row W (w.heap.size + 1 + 1) 25 (flt 0 0) ∧ Row W w2.heap.size 43 (bcs (some ⟨g, 0, none⟩) ((l.length + m + 7) / 8) ((l.length + m + 7) / 8) ((l.length + m : Nat) : Int)) ∧ Row W g 5 (bl (L ++ List.replicate ((l.length + m + 7) / 8 - L.length) 0)).toArray ∧ Below w.heap.size w W)
    ⟨(r0b.alloc _).rowFar (Nat.ne_of_lt r0b.lt) _, (r1b.alloc _).rowFar (Nat.ne_of_lt r1b.lt) _, (r2b.alloc _).rowFar (Nat.ne_of_lt r2b.lt) _, Row.row (Row.newEq _ _ _ (bcs none 0 0 0) _ rfl rfl) _, (rg.alloc _).rowFar (Nat.ne_of_lt hgl) _, blw_row (hbb.alloc hbb.size _) hbb.size _⟩ ?_
  generalize w2.heap.size = g5 at hgl ⊢
  have hga : w.heap.size + 1 + 1 < g := Nat.lt_of_lt_of_le h2g hg
  clear hbb r0b r1b r2b rg w2 r0a r1a r2a hSa hba h2g hg w1 r0 r1 r2 hb0 hS0 W0
  rintro W3 ⟨r0, r1, r2, r5, rg, hb⟩
  have c1 : W3.cell? ⟨w.heap.size, 1, none⟩ = some (.int .i64 (l.length : Int)) := (r0.cell 1).trans rfl
  have hln : (L ++ List.replicate ((l.length + m + 7) / 8 - L.length) 0).length = (l.length + m + 7) / 8 := by
    rw [List.length_append, List.length_replicate]
    omega
  have HLN := Lib.hid hln
  clear hln
  go_upto_region 12 with (first
      | (refine wpList_load_row rfl 43 _ rfl g5 rfl 43 (bcs (some ⟨g, 0, none⟩) ((l.length + m + 7) / 8) ((l.length + m + 7) / 8) ((l.length + m : Nat) : Int)) (0, 0) _ r5 Try.underlying43 rfl (by rw [bcs_size]; exact cellsB) ?_)
      | (go_at_call 63; refine (put_is _ ((l.length + m + 7) / 8) HLN.out g _ _ l.length v m (by omega) (by omega) (by omega) hvs _ rg).mono ?_; rintro e w4 ⟨rfl, ⟨M, hM, rM⟩, hgr⟩))
  have r1b := r1.grown hgr (by simp; omega)
  have r2b := r2.grown hgr (by simp; omega)
  have r5b := r5.grown hgr (by simp; omega)
  have hbb := gr_below hb hgr hb.size (by omega)
  have HM := Lib.hid hM
  clear hM
  go_wp2_with (first
      | (refine wpList_load_row rfl 43 _ rfl g5 rfl 43 (bcs (some ⟨g, 0, none⟩) ((l.length + m + 7) / 8) ((l.length + m + 7) / 8) ((l.length + m : Nat) : Int)) (0, 0) _ r5b Try.underlying43 rfl (by rw [bcs_size]; exact cellsB) ?_)
      | (refine wpList_store_row rfl 43 _ _ rfl (w.heap.size + 1) (bcs (some ⟨g, 0, none⟩) ((l.length + m + 7) / 8) ((l.length + m + 7) / 8) ((l.length + m : Nat) : Int)) rfl rfl 43 (bcs none 0 0 0) r1b (by rw [bcs_size]; exact cellsB) rfl (all_one (bcs_one _ _ _ _)) ?_)
      | (refine wpList_store_row rfl 25 _ _ rfl (w.heap.size + 1 + 1) (flt 0 0) rfl rfl 25 (flt 0 0) (r2b.rowFar (by omega) _) (by rw [flt_size]; exact cellsF) rfl (all_one (flt_one _ _)) ?_))
  refine bodyPost_ret (results_rows Try.results60 _ _ (w.heap.size + 1) (w.heap.size + 1 + 1) 43 25 (bcs (some ⟨g, 0, none⟩) ((l.length + m + 7) / 8) ((l.length + m + 7) / 8) ((l.length + m : Nat) : Int)) (flt 0 0) _ _ rfl rfl ((Row.row r1b _).rowFar (by omega) _) (Row.row (r2b.rowFar (by omega) _) _) Try.underlying43 rfl (by rw [bcs_size]; exact cellsB) Try.underlying25 rfl (by rw [flt_size]; exact cellsF)) rfl ?_
  refine bitsOut_row (append_rep HT.out HV.out (Nat.le_refl _) (by rw [Nat.sub_self]; exact HM.out)) rfl ?_ ?_ ((rM.rowFar (by omega) _).rowFar (by omega) _) (blw_row (blw_row hbb (by omega) _) (by omega) _)
  · rw [HM.out.1, HLN.out]
  · rw [List.length_append, digB_length]
end Go.Proofs.Ytahihgmlkcbfiaa
