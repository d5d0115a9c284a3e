/-
  The contracts of bits.Read: the number in a part of the bits, or the fault.
-/
import Derived.Test.YtahihgmlkcbfiaaBOut
namespace Go.Proofs.Ytahihgmlkcbfiaa
open Go.RowKit

set_option maxRecDepth 100000 in
set_option maxHeartbeats 4000000 in
theorem read_form (L : List UInt8) (k : Int) (hG : ¬ Good L k) (f m : Int) (A : Option Addr) (c : Nat) (w : World) (hS : Sl w w.heap.size A L.length (bl L)) :
    Calls Try.prog 65 #[.agg (bcs A L.length c k), .int .i64 f, .int .i64 m] w fun e w' => e = .returned (.tuple #[.int .i64 0, .agg (flt 6 (-1))]) ∧ Below w.heap.size w w' := by
  skip
  go_enter Try.func65, Try.ntmps65
  go_upto_region 1 with (fail)
  refine wp_world (F := fun W => Row W w.heap.size 43 (bcs A L.length c k) ∧ Row W (w.heap.size + 1) 25 (flt 0 0) ∧ Below w.heap.size w W)
    ⟨(Row.new _ _ _).alloc _, Row.newEq _ _ _ _ _ (by simp) rfl, ((Below.refl _ _).alloc (Nat.le_refl _) _).alloc (by simp) _⟩ ?_
  rintro W0 ⟨r0, r2, hb0⟩
  have hS0 := (hS.below hb0).wider hb0.size
  clear hS
  go_wp2_with (first
    | (refine wpList_load_row rfl 43 _ rfl w.heap.size rfl 43 (bcs A L.length c k) (0, 0) _ r0 Try.underlying43 rfl (by rw [bcs_size]; exact cellsB) ?_)
    | (refine wpList_load_row rfl 43 _ rfl w.heap.size rfl 43 (bcs A L.length c k) (0, 0) _ r0a Try.underlying43 rfl (by rw [bcs_size]; exact cellsB) ?_)
    | (go_at_call 46; refine (valid_no L k hG A c _ hS0).mono ?_; rintro e w1 ⟨rfl, hb1⟩; have r0a := r0.below hb1 r0.lt; have r2a := r2.below hb1 r2.lt; have hba := up_call hb0 hb1; have hSa := hS0.up hb1; have c1 : w1.cell? ⟨w.heap.size, 1, none⟩ = some (.int .i64 (k)) := (r0a.cell 1).trans rfl; clear hb1)
    | (refine wpList_store_row rfl 25 _ _ rfl (w.heap.size + 1) (flt 6 (-1)) rfl rfl 25 (flt 0 0) r2a (by rw [flt_size]; exact cellsF) rfl (all_one (flt_one _ _)) ?_))
  refine bodyPost_ret (results_tmp_row Try.results65 _ _ _ (w.heap.size + 1) 25 (flt 6 (-1)) _ rfl rfl (Row.row r2a _) Try.underlying25 rfl (by rw [flt_size]; exact cellsF)) rfl ⟨rfl, ?_⟩
  exact blw_row hba (by omega) _

set_option maxRecDepth 100000 in
set_option maxHeartbeats 4000000 in
theorem read_neg (L : List UInt8) (l : List Bool) (hR : Rep L l) (hl : l.length ≤ 131072) (f m : Int) (hf : f < 0) (A : Option Addr) (c : Nat) (w : World) (hS : Sl w w.heap.size A L.length (bl L)) :
    Calls Try.prog 65 #[.agg (bcs A L.length c (l.length : Int)), .int .i64 f, .int .i64 m] w fun e w' => e = .returned (.tuple #[.int .i64 0, .agg (flt 4 (-2))]) ∧ Below w.heap.size w w' := by
  have h1 : decide (f < 0) = true := decide_eq_true hf
  go_enter Try.func65, Try.ntmps65
  go_upto_region 1 with (fail)
  refine wp_world (F := fun W => Row W w.heap.size 43 (bcs A L.length c (l.length : Int)) ∧ Row W (w.heap.size + 1) 25 (flt 0 0) ∧ Below w.heap.size w W)
    ⟨(Row.new _ _ _).alloc _, Row.newEq _ _ _ _ _ (by simp) rfl, ((Below.refl _ _).alloc (Nat.le_refl _) _).alloc (by simp) _⟩ ?_
  rintro W0 ⟨r0, r2, hb0⟩
  have hS0 := (hS.below hb0).wider hb0.size
  clear hS
  go_wp2_with (first
    | (refine wpList_load_row rfl 43 _ rfl w.heap.size rfl 43 (bcs A L.length c (l.length : Int)) (0, 0) _ r0 Try.underlying43 rfl (by rw [bcs_size]; exact cellsB) ?_)
    | (refine wpList_load_row rfl 43 _ rfl w.heap.size rfl 43 (bcs A L.length c (l.length : Int)) (0, 0) _ r0a Try.underlying43 rfl (by rw [bcs_size]; exact cellsB) ?_)
    | (go_at_call 46; refine (valid_yes L l hR hl A c _ hS0).mono ?_; rintro e w1 ⟨rfl, hb1⟩; have r0a := r0.below hb1 r0.lt; have r2a := r2.below hb1 r2.lt; have hba := up_call hb0 hb1; have hSa := hS0.up hb1; have c1 : w1.cell? ⟨w.heap.size, 1, none⟩ = some (.int .i64 ((l.length : Int))) := (r0a.cell 1).trans rfl; clear hb1)
    | (refine wpList_store_row rfl 25 _ _ rfl (w.heap.size + 1) (flt 4 (-2)) rfl rfl 25 (flt 0 0) r2a (by rw [flt_size]; exact cellsF) rfl (all_one (flt_one _ _)) ?_))
  refine bodyPost_ret (results_tmp_row Try.results65 _ _ _ (w.heap.size + 1) 25 (flt 4 (-2)) _ rfl rfl (Row.row r2a _) Try.underlying25 rfl (by rw [flt_size]; exact cellsF)) rfl ⟨rfl, ?_⟩
  exact blw_row hba (by omega) _

set_option maxRecDepth 100000 in
set_option maxHeartbeats 4000000 in
theorem read_far (L : List UInt8) (l : List Bool) (hR : Rep L l) (hl : l.length ≤ 131072) (f m : Int) (hf : (l.length : Int) < f) (A : Option Addr) (c : Nat) (w : World) (hS : Sl w w.heap.size A L.length (bl L)) :
    Calls Try.prog 65 #[.agg (bcs A L.length c (l.length : Int)), .int .i64 f, .int .i64 m] w fun e w' => e = .returned (.tuple #[.int .i64 0, .agg (flt 4 (-2))]) ∧ Below w.heap.size w w' := by
  have h1 : decide (f < 0) = false := decide_eq_false (by omega)
  have h2 : decide ((l.length : Int) < f) = true := decide_eq_true hf
  go_enter Try.func65, Try.ntmps65
  go_upto_region 1 with (fail)
  refine wp_world (F := fun W => Row W w.heap.size 43 (bcs A L.length c (l.length : Int)) ∧ Row W (w.heap.size + 1) 25 (flt 0 0) ∧ Below w.heap.size w W)
    ⟨(Row.new _ _ _).alloc _, Row.newEq _ _ _ _ _ (by simp) rfl, ((Below.refl _ _).alloc (Nat.le_refl _) _).alloc (by simp) _⟩ ?_
  rintro W0 ⟨r0, r2, hb0⟩
  have hS0 := (hS.below hb0).wider hb0.size
  clear hS
  go_wp2_with (first
    | (refine wpList_load_row rfl 43 _ rfl w.heap.size rfl 43 (bcs A L.length c (l.length : Int)) (0, 0) _ r0 Try.underlying43 rfl (by rw [bcs_size]; exact cellsB) ?_)
    | (refine wpList_load_row rfl 43 _ rfl w.heap.size rfl 43 (bcs A L.length c (l.length : Int)) (0, 0) _ r0a Try.underlying43 rfl (by rw [bcs_size]; exact cellsB) ?_)
    | (go_at_call 46; refine (valid_yes L l hR hl A c _ hS0).mono ?_; rintro e w1 ⟨rfl, hb1⟩; have r0a := r0.below hb1 r0.lt; have r2a := r2.below hb1 r2.lt; have hba := up_call hb0 hb1; have hSa := hS0.up hb1; have c1 : w1.cell? ⟨w.heap.size, 1, none⟩ = some (.int .i64 ((l.length : Int))) := (r0a.cell 1).trans rfl; clear hb1)
    | (refine wpList_store_row rfl 25 _ _ rfl (w.heap.size + 1) (flt 4 (-2)) rfl rfl 25 (flt 0 0) r2a (by rw [flt_size]; exact cellsF) rfl (all_one (flt_one _ _)) ?_))
  refine bodyPost_ret (results_tmp_row Try.results65 _ _ _ (w.heap.size + 1) 25 (flt 4 (-2)) _ rfl rfl (Row.row r2a _) Try.underlying25 rfl (by rw [flt_size]; exact cellsF)) rfl ⟨rfl, ?_⟩
  exact blw_row hba (by omega) _

set_option maxRecDepth 100000 in
set_option maxHeartbeats 4000000 in
theorem read_narrow (L : List UInt8) (l : List Bool) (hR : Rep L l) (hl : l.length ≤ 131072) (f : Nat) (m : Int) (hf : f ≤ l.length) (hm : m < 0) (A : Option Addr) (c : Nat) (w : World) (hS : Sl w w.heap.size A L.length (bl L)) :
    Calls Try.prog 65 #[.agg (bcs A L.length c (l.length : Int)), .int .i64 f, .int .i64 m] w fun e w' => e = .returned (.tuple #[.int .i64 0, .agg (flt 4 (-3))]) ∧ Below w.heap.size w w' := by
  have h1 : decide ((f : Int) < 0) = false := decide_eq_false (by omega)
  have h2 : decide (l.length < f) = false := decide_eq_false (by omega)
  have h3 : decide (m < 0) = true := decide_eq_true hm
  go_enter Try.func65, Try.ntmps65
  go_upto_region 1 with (fail)
  refine wp_world (F := fun W => Row W w.heap.size 43 (bcs A L.length c (l.length : Int)) ∧ Row W (w.heap.size + 1) 25 (flt 0 0) ∧ Below w.heap.size w W)
    ⟨(Row.new _ _ _).alloc _, Row.newEq _ _ _ _ _ (by simp) rfl, ((Below.refl _ _).alloc (Nat.le_refl _) _).alloc (by simp) _⟩ ?_
  rintro W0 ⟨r0, r2, hb0⟩
  have hS0 := (hS.below hb0).wider hb0.size
  clear hS
  go_wp2_with (first
    | (refine wpList_load_row rfl 43 _ rfl w.heap.size rfl 43 (bcs A L.length c (l.length : Int)) (0, 0) _ r0 Try.underlying43 rfl (by rw [bcs_size]; exact cellsB) ?_)
    | (refine wpList_load_row rfl 43 _ rfl w.heap.size rfl 43 (bcs A L.length c (l.length : Int)) (0, 0) _ r0a Try.underlying43 rfl (by rw [bcs_size]; exact cellsB) ?_)
    | (go_at_call 46; refine (valid_yes L l hR hl A c _ hS0).mono ?_; rintro e w1 ⟨rfl, hb1⟩; have r0a := r0.below hb1 r0.lt; have r2a := r2.below hb1 r2.lt; have hba := up_call hb0 hb1; have hSa := hS0.up hb1; have c1 : w1.cell? ⟨w.heap.size, 1, none⟩ = some (.int .i64 ((l.length : Int))) := (r0a.cell 1).trans rfl; clear hb1)
    | (refine wpList_store_row rfl 25 _ _ rfl (w.heap.size + 1) (flt 4 (-3)) rfl rfl 25 (flt 0 0) r2a (by rw [flt_size]; exact cellsF) rfl (all_one (flt_one _ _)) ?_))
  refine bodyPost_ret (results_tmp_row Try.results65 _ _ _ (w.heap.size + 1) 25 (flt 4 (-3)) _ rfl rfl (Row.row r2a _) Try.underlying25 rfl (by rw [flt_size]; exact cellsF)) rfl ⟨rfl, ?_⟩
  exact blw_row hba (by omega) _

set_option maxRecDepth 100000 in
set_option maxHeartbeats 4000000 in
theorem read_wide (L : List UInt8) (l : List Bool) (hR : Rep L l) (hl : l.length ≤ 131072) (f : Nat) (m : Int) (hf : f ≤ l.length) (hm : 32 < m) (A : Option Addr) (c : Nat) (w : World) (hS : Sl w w.heap.size A L.length (bl L)) :
    Calls Try.prog 65 #[.agg (bcs A L.length c (l.length : Int)), .int .i64 f, .int .i64 m] w fun e w' => e = .returned (.tuple #[.int .i64 0, .agg (flt 4 (-3))]) ∧ Below w.heap.size w w' := by
  have h1 : decide ((f : Int) < 0) = false := decide_eq_false (by omega)
  have h2 : decide (l.length < f) = false := decide_eq_false (by omega)
  have h3 : decide (m < 0) = false := decide_eq_false (by omega)
  have h4 : decide (32 < m) = true := decide_eq_true hm
  go_enter Try.func65, Try.ntmps65
  go_upto_region 1 with (fail)
  refine wp_world (F := fun W => Row W w.heap.size 43 (bcs A L.length c (l.length : Int)) ∧ Row W (w.heap.size + 1) 25 (flt 0 0) ∧ Below w.heap.size w W)
    ⟨(Row.new _ _ _).alloc _, Row.newEq _ _ _ _ _ (by simp) rfl, ((Below.refl _ _).alloc (Nat.le_refl _) _).alloc (by simp) _⟩ ?_
  rintro W0 ⟨r0, r2, hb0⟩
  have hS0 := (hS.below hb0).wider hb0.size
  clear hS
  go_wp2_with (first
    | (refine wpList_load_row rfl 43 _ rfl w.heap.size rfl 43 (bcs A L.length c (l.length : Int)) (0, 0) _ r0 Try.underlying43 rfl (by rw [bcs_size]; exact cellsB) ?_)
    | (refine wpList_load_row rfl 43 _ rfl w.heap.size rfl 43 (bcs A L.length c (l.length : Int)) (0, 0) _ r0a Try.underlying43 rfl (by rw [bcs_size]; exact cellsB) ?_)
    | (go_at_call 46; refine (valid_yes L l hR hl A c _ hS0).mono ?_; rintro e w1 ⟨rfl, hb1⟩; have r0a := r0.below hb1 r0.lt; have r2a := r2.below hb1 r2.lt; have hba := up_call hb0 hb1; have hSa := hS0.up hb1; have c1 : w1.cell? ⟨w.heap.size, 1, none⟩ = some (.int .i64 ((l.length : Int))) := (r0a.cell 1).trans rfl; clear hb1)
    | (refine wpList_store_row rfl 25 _ _ rfl (w.heap.size + 1) (flt 4 (-3)) rfl rfl 25 (flt 0 0) r2a (by rw [flt_size]; exact cellsF) rfl (all_one (flt_one _ _)) ?_))
  refine bodyPost_ret (results_tmp_row Try.results65 _ _ _ (w.heap.size + 1) 25 (flt 4 (-3)) _ rfl rfl (Row.row r2a _) Try.underlying25 rfl (by rw [flt_size]; exact cellsF)) rfl ⟨rfl, ?_⟩
  exact blw_row hba (by omega) _

set_option maxRecDepth 100000 in
set_option maxHeartbeats 4000000 in
theorem read_short (L : List UInt8) (l : List Bool) (hR : Rep L l) (hl : l.length ≤ 131072) (f m : Nat) (hf : f ≤ l.length) (hm : m ≤ 32) (hx : l.length < f + m) (A : Option Addr) (c : Nat) (w : World) (hS : Sl w w.heap.size A L.length (bl L)) :
    Calls Try.prog 65 #[.agg (bcs A L.length c (l.length : Int)), .int .i64 f, .int .i64 m] w fun e w' => e = .returned (.tuple #[.int .i64 0, .agg (flt 15 (-2))]) ∧ Below w.heap.size w w' := by
  have h1 : decide ((f : Int) < 0) = false := decide_eq_false (by omega)
  have h2 : decide (l.length < f) = false := decide_eq_false (by omega)
  have h3 : decide ((m : Int) < 0) = false := decide_eq_false (by omega)
  have h4 : decide ((32 : Int) < (m : Int)) = false := decide_eq_false (by omega)
  have h5 : decide ((l.length : Int) - (f : Int) < (m : Int)) = true := decide_eq_true (by omega)
  go_enter Try.func65, Try.ntmps65
  go_upto_region 1 with (fail)
  refine wp_world (F := fun W => Row W w.heap.size 43 (bcs A L.length c (l.length : Int)) ∧ Row W (w.heap.size + 1) 25 (flt 0 0) ∧ Below w.heap.size w W)
    ⟨(Row.new _ _ _).alloc _, Row.newEq _ _ _ _ _ (by simp) rfl, ((Below.refl _ _).alloc (Nat.le_refl _) _).alloc (by simp) _⟩ ?_
  rintro W0 ⟨r0, r2, hb0⟩
  have hS0 := (hS.below hb0).wider hb0.size
  clear hS
  go_wp2_with (first
    | (refine wpList_load_row rfl 43 _ rfl w.heap.size rfl 43 (bcs A L.length c (l.length : Int)) (0, 0) _ r0 Try.underlying43 rfl (by rw [bcs_size]; exact cellsB) ?_)
    | (refine wpList_load_row rfl 43 _ rfl w.heap.size rfl 43 (bcs A L.length c (l.length : Int)) (0, 0) _ r0a Try.underlying43 rfl (by rw [bcs_size]; exact cellsB) ?_)
    | (go_at_call 46; refine (valid_yes L l hR hl A c _ hS0).mono ?_; rintro e w1 ⟨rfl, hb1⟩; have r0a := r0.below hb1 r0.lt; have r2a := r2.below hb1 r2.lt; have hba := up_call hb0 hb1; have hSa := hS0.up hb1; have c1 : w1.cell? ⟨w.heap.size, 1, none⟩ = some (.int .i64 ((l.length : Int))) := (r0a.cell 1).trans rfl; clear hb1)
    | (refine wpList_store_row rfl 25 _ _ rfl (w.heap.size + 1) (flt 15 (-2)) rfl rfl 25 (flt 0 0) r2a (by rw [flt_size]; exact cellsF) rfl (all_one (flt_one _ _)) ?_))
  refine bodyPost_ret (results_tmp_row Try.results65 _ _ _ (w.heap.size + 1) 25 (flt 15 (-2)) _ rfl rfl (Row.row r2a _) Try.underlying25 rfl (by rw [flt_size]; exact cellsF)) rfl ⟨rfl, ?_⟩
  exact blw_row hba (by omega) _

set_option maxRecDepth 100000 in
set_option maxHeartbeats 4000000 in
theorem read_ok (L : List UInt8) (l : List Bool) (hR : Rep L l) (hl : l.length ≤ 131072) (f m : Nat) (hm : m ≤ 32) (hx : f + m ≤ l.length) (A : Option Addr) (c : Nat) (w : World) (hS : Sl w w.heap.size A L.length (bl L)) :
    Calls Try.prog 65 #[.agg (bcs A L.length c (l.length : Int)), .int .i64 f, .int .i64 m] w fun e w' => e = .returned (.tuple #[.int .i64 (numF (fun i => l.getD (f + i) false) m), .agg (flt 0 0)]) ∧ Below w.heap.size w w' := by
  have h1 : decide ((f : Int) < 0) = false := decide_eq_false (by omega)
  have h2 : decide (l.length < f) = false := decide_eq_false (by omega)
  have h3 : decide ((m : Int) < 0) = false := decide_eq_false (by omega)
  have h4 : decide ((32 : Int) < (m : Int)) = false := decide_eq_false (by omega)
  have h5 : decide ((l.length : Int) - (f : Int) < (m : Int)) = false := decide_eq_false (by omega)
  have hln : f + m ≤ 8 * L.length ∧ L.length ≤ 16384 := by have := hR.len; omega
  obtain ⟨hln1, hln2⟩ := hln
  have HT := Lib.hid hR
  go_enter Try.func65, Try.ntmps65
  go_upto_region 1 with (fail)
  refine wp_world (F := fun W => Row W w.heap.size 43 (bcs A L.length c (l.length : Int)) ∧ Row W (w.heap.size + 1) 25 (flt 0 0) ∧ Below w.heap.size w W)
    ⟨(Row.new _ _ _).alloc _, Row.newEq _ _ _ _ _ (by simp) rfl, ((Below.refl _ _).alloc (Nat.le_refl _) _).alloc (by simp) _⟩ ?_
  rintro W0 ⟨r0, r2, hb0⟩
  have hS0 := (hS.below hb0).wider hb0.size
  clear hS
  go_wp2_with (first
    | (refine wpList_load_row rfl 43 _ rfl w.heap.size rfl 43 (bcs A L.length c (l.length : Int)) (0, 0) _ r0 Try.underlying43 rfl (by rw [bcs_size]; exact cellsB) ?_)
    | (refine wpList_load_row rfl 43 _ rfl w.heap.size rfl 43 (bcs A L.length c (l.length : Int)) (0, 0) _ r0a Try.underlying43 rfl (by rw [bcs_size]; exact cellsB) ?_)
    | (go_at_call 46; refine (valid_yes L l HT.out hl A c _ hS0).mono ?_; rintro e w1 ⟨rfl, hb1⟩; have r0a := r0.below hb1 r0.lt; have r2a := r2.below hb1 r2.lt; have hba := up_call hb0 hb1; have hSa := hS0.up hb1; have c1 : w1.cell? ⟨w.heap.size, 1, none⟩ = some (.int .i64 ((l.length : Int))) := (r0a.cell 1).trans rfl; clear hb1)
    | (go_at_call 71; refine (number_any L A c _ f m (by omega) (by omega) (by omega) _ hSa).mono ?_; rintro e w2 ⟨rfl, hb2⟩; have r2b := r2a.below hb2 r2a.lt; have hbb := up_call hba hb2; clear hb2)
    | (refine wpList_store_row rfl 25 _ _ rfl (w.heap.size + 1) (flt 0 0) rfl rfl 25 (flt 0 0) r2b (by rw [flt_size]; exact cellsF) rfl (all_one (flt_one _ _)) ?_))
  refine bodyPost_ret (results_tmp_row Try.results65 _ _ _ (w.heap.size + 1) 25 (flt 0 0) _ rfl rfl (Row.row r2b _) Try.underlying25 rfl (by rw [flt_size]; exact cellsF)) rfl ⟨?_, ?_⟩
  · rw [numF_congr fun i _ => HT.out.2 (f + i)]
    rfl
  · exact blw_row hbb (by omega) _
end Go.Proofs.Ytahihgmlkcbfiaa
