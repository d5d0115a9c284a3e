/-
  The contracts of the reference's AppendFault and ReadFault.
-/
import Derived.Test.YtbahkidkpbabdaaBSpec
namespace Go.Proofs.Ytbahkidkpbabdaa
open Go.RowKit

set_option maxRecDepth 100000 in
set_option maxHeartbeats 2000000 in
theorem raf_form (L : List UInt8) (k : Int) (hG : ¬ Good L k) (v m : Int) (A : Option Addr) (cp : Nat) (w : World) (hS : Sl w w.heap.size A L.length (bl L)) :
    Calls Try.prog 21 #[.agg (bcs A L.length cp k), .int .i64 v, .int .i64 m] w fun e w' => e = .returned (.agg (flt 6 (-1))) ∧ Below w.heap.size w w' := by
  skip
  go_enter Try.func21, Try.ntmps21
  go_upto_region 1 with (fail)
  refine wp_world (F := fun W => Row W w.heap.size 24 (bcs A L.length cp k) ∧ Row W (w.heap.size + 1) 26 (flt 0 0) ∧ Sl W W.heap.size A L.length (bl L) ∧ Below w.heap.size w W) ⟨(Row.new _ _ _).alloc _, Row.newEq _ _ _ _ _ (by simp) rfl, hS.up (((Below.refl _ _).alloc (Nat.le_refl _) _).alloc (by simp) _), ((Below.refl _ _).alloc (Nat.le_refl _) _).alloc (by simp) _⟩ ?_
  clear hS
  rintro W0 ⟨r0, r2, hS0, hb0⟩
  go_wp2_with (first
    | (refine wpList_load_row rfl 24 _ rfl w.heap.size rfl 24 (bcs A L.length cp k) (0, 0) _ r0 Try.underlying24 rfl (by rw [bcs_size]; exact cellsB) ?_)
    | (go_at_call 13; refine (ok_no L k hG A cp _ hS0).mono ?_; rintro e w1 ⟨rfl, hb1⟩; have r0a := r0.below hb1 r0.lt; have r2a := r2.below hb1 r2.lt; have hba := up_call hb0 hb1; have c1 : w1.cell? ⟨w.heap.size, 1, none⟩ = some (.int .i64 (k)) := (r0a.cell 1).trans rfl)
    | (go_at_call 16; refine (at_any 6 (-1) _).mono ?_; rintro e w9 ⟨rfl, hb9⟩; have r2b := r2a.below hb9 r2a.lt; have hbb := up_call hba hb9)
    | (refine wpList_store_row rfl 26 _ _ rfl (w.heap.size + 1) (flt 6 (-1)) rfl rfl 26 (flt 0 0) r2b (by rw [flt_size]; exact cellsF) rfl (all_one (flt_one _ _)) ?_))
  refine bodyPost_ret (results_row Try.results21 _ _ (w.heap.size + 1) 26 (flt 6 (-1)) _ rfl (Row.row r2b _) Try.underlying26 rfl (by rw [flt_size]; exact cellsF)) rfl ⟨rfl, ?_⟩
  exact blw_row hbb (by omega) _

set_option maxRecDepth 100000 in
set_option maxHeartbeats 2000000 in
theorem raf_neg (l : List Bool) (hl : l.length ≤ 131072) (v m : Int) (hv : v < 0) (A : Option Addr) (cp : Nat) (w : World) (hS : Sl w w.heap.size A (pack l).length (bl (pack l))) :
    Calls Try.prog 21 #[.agg (bcs A (pack l).length cp l.length), .int .i64 v, .int .i64 m] w fun e w' => e = .returned (.agg (flt 4 (-2))) ∧ Below w.heap.size w w' := by
  have h1 : decide (v < 0) = true := decide_eq_true hv
  go_enter Try.func21, Try.ntmps21
  go_upto_region 1 with (fail)
  refine wp_world (F := fun W => Row W w.heap.size 24 (bcs A (pack l).length cp l.length) ∧ Row W (w.heap.size + 1) 26 (flt 0 0) ∧ Sl W W.heap.size A (pack l).length (bl (pack l)) ∧ Below w.heap.size w W) ⟨(Row.new _ _ _).alloc _, Row.newEq _ _ _ _ _ (by simp) rfl, hS.up (((Below.refl _ _).alloc (Nat.le_refl _) _).alloc (by simp) _), ((Below.refl _ _).alloc (Nat.le_refl _) _).alloc (by simp) _⟩ ?_
  clear hS
  rintro W0 ⟨r0, r2, hS0, hb0⟩
  go_wp2_with (first
    | (refine wpList_load_row rfl 24 _ rfl w.heap.size rfl 24 (bcs A (pack l).length cp l.length) (0, 0) _ r0 Try.underlying24 rfl (by rw [bcs_size]; exact cellsB) ?_)
    | (go_at_call 13; refine (ok_yes (pack l) l (pack_rep l) hl A cp _ hS0).mono ?_; rintro e w1 ⟨rfl, hb1⟩; have r0a := r0.below hb1 r0.lt; have r2a := r2.below hb1 r2.lt; have hba := up_call hb0 hb1; have c1 : w1.cell? ⟨w.heap.size, 1, none⟩ = some (.int .i64 ((l.length : Int))) := (r0a.cell 1).trans rfl)
    | (go_at_call 16; refine (at_any 4 (-2) _).mono ?_; rintro e w9 ⟨rfl, hb9⟩; have r2b := r2a.below hb9 r2a.lt; have hbb := up_call hba hb9)
    | (refine wpList_store_row rfl 26 _ _ rfl (w.heap.size + 1) (flt 4 (-2)) rfl rfl 26 (flt 0 0) r2b (by rw [flt_size]; exact cellsF) rfl (all_one (flt_one _ _)) ?_))
  refine bodyPost_ret (results_row Try.results21 _ _ (w.heap.size + 1) 26 (flt 4 (-2)) _ rfl (Row.row r2b _) Try.underlying26 rfl (by rw [flt_size]; exact cellsF)) rfl ⟨rfl, ?_⟩
  exact blw_row hbb (by omega) _

set_option maxRecDepth 100000 in
set_option maxHeartbeats 2000000 in
theorem raf_great (l : List Bool) (hl : l.length ≤ 131072) (v : Int) (m : Nat) (hv : 0 ≤ v) (hm : m ≤ 32) (hvm : ((2 ^ m : Nat) : Int) ≤ v) (A : Option Addr) (cp : Nat) (w : World) (hS : Sl w w.heap.size A (pack l).length (bl (pack l))) :
    Calls Try.prog 21 #[.agg (bcs A (pack l).length cp l.length), .int .i64 v, .int .i64 m] w fun e w' => e = .returned (.agg (flt 4 (-2))) ∧ Below w.heap.size w w' := by
  have h1 : decide (v < 0) = false := decide_eq_false (by omega)
  obtain ⟨p, hp⟩ : ∃ p, p = (2 : Nat) ^ m := ⟨_, rfl⟩
  rw [← hp] at hvm
  have HP := Lib.hid hp
  have m0 : (0 : Int) ≤ (m : Int) := by omega
  have m1 : (m : Int) ≤ 32 := by omega
  clear hp
  have h2 : decide ((p : Int) ≤ v) = true := decide_eq_true hvm
  go_enter Try.func21, Try.ntmps21
  go_upto_region 1 with (fail)
  refine wp_world (F := fun W => Row W w.heap.size 24 (bcs A (pack l).length cp l.length) ∧ Row W (w.heap.size + 1) 26 (flt 0 0) ∧ Sl W W.heap.size A (pack l).length (bl (pack l)) ∧ Below w.heap.size w W) ⟨(Row.new _ _ _).alloc _, Row.newEq _ _ _ _ _ (by simp) rfl, hS.up (((Below.refl _ _).alloc (Nat.le_refl _) _).alloc (by simp) _), ((Below.refl _ _).alloc (Nat.le_refl _) _).alloc (by simp) _⟩ ?_
  clear hS
  rintro W0 ⟨r0, r2, hS0, hb0⟩
  go_wp2_with (first
    | (refine wpList_load_row rfl 24 _ rfl w.heap.size rfl 24 (bcs A (pack l).length cp l.length) (0, 0) _ r0 Try.underlying24 rfl (by rw [bcs_size]; exact cellsB) ?_)
    | (go_at_call 13; refine (ok_yes (pack l) l (pack_rep l) hl A cp _ hS0).mono ?_; rintro e w1 ⟨rfl, hb1⟩; have r0a := r0.below hb1 r0.lt; have r2a := r2.below hb1 r2.lt; have hba := up_call hb0 hb1; have c1 : w1.cell? ⟨w.heap.size, 1, none⟩ = some (.int .i64 ((l.length : Int))) := (r0a.cell 1).trans rfl)
    | (go_at_call 31; (with_reducible refine (in_yes m 0 32 m0 m1 _).mono ?_); rintro e w2 ⟨rfl, rfl⟩)
    | (go_at_call 43; refine (power_any m (by omega) p HP.out _).mono ?_; rintro e w3 ⟨rfl, rfl⟩)
    | (go_at_call 16; refine (at_any 4 (-2) _).mono ?_; rintro e w9 ⟨rfl, hb9⟩; have r2b := r2a.below hb9 r2a.lt; have hbb := up_call hba hb9)
    | (refine wpList_store_row rfl 26 _ _ rfl (w.heap.size + 1) (flt 4 (-2)) rfl rfl 26 (flt 0 0) r2b (by rw [flt_size]; exact cellsF) rfl (all_one (flt_one _ _)) ?_))
  refine bodyPost_ret (results_row Try.results21 _ _ (w.heap.size + 1) 26 (flt 4 (-2)) _ rfl (Row.row r2b _) Try.underlying26 rfl (by rw [flt_size]; exact cellsF)) rfl ⟨rfl, ?_⟩
  exact blw_row hbb (by omega) _

set_option maxRecDepth 100000 in
set_option maxHeartbeats 2000000 in
theorem raf_width (l : List Bool) (hl : l.length ≤ 131072) (v m : Int) (hv : 0 ≤ v) (hm : m < 0 ∨ 32 < m) (A : Option Addr) (cp : Nat) (w : World) (hS : Sl w w.heap.size A (pack l).length (bl (pack l))) :
    Calls Try.prog 21 #[.agg (bcs A (pack l).length cp l.length), .int .i64 v, .int .i64 m] w fun e w' => e = .returned (.agg (flt 4 (-3))) ∧ Below w.heap.size w w' := by
  have h1 : decide (v < 0) = false := decide_eq_false (by omega)
  have HM := Lib.hid hm
  clear hm
  go_enter Try.func21, Try.ntmps21
  go_upto_region 1 with (fail)
  refine wp_world (F := fun W => Row W w.heap.size 24 (bcs A (pack l).length cp l.length) ∧ Row W (w.heap.size + 1) 26 (flt 0 0) ∧ Sl W W.heap.size A (pack l).length (bl (pack l)) ∧ Below w.heap.size w W) ⟨(Row.new _ _ _).alloc _, Row.newEq _ _ _ _ _ (by simp) rfl, hS.up (((Below.refl _ _).alloc (Nat.le_refl _) _).alloc (by simp) _), ((Below.refl _ _).alloc (Nat.le_refl _) _).alloc (by simp) _⟩ ?_
  clear hS
  rintro W0 ⟨r0, r2, hS0, hb0⟩
  go_wp2_with (first
    | (refine wpList_load_row rfl 24 _ rfl w.heap.size rfl 24 (bcs A (pack l).length cp l.length) (0, 0) _ r0 Try.underlying24 rfl (by rw [bcs_size]; exact cellsB) ?_)
    | (go_at_call 13; refine (ok_yes (pack l) l (pack_rep l) hl A cp _ hS0).mono ?_; rintro e w1 ⟨rfl, hb1⟩; have r0a := r0.below hb1 r0.lt; have r2a := r2.below hb1 r2.lt; have hba := up_call hb0 hb1; have c1 : w1.cell? ⟨w.heap.size, 1, none⟩ = some (.int .i64 ((l.length : Int))) := (r0a.cell 1).trans rfl)
    | (go_at_call 31; (with_reducible refine (in_no m 0 32 HM.out _).mono ?_); rintro e w2 ⟨rfl, rfl⟩)
    | (go_at_call 16; refine (at_any 4 (-3) _).mono ?_; rintro e w9 ⟨rfl, hb9⟩; have r2b := r2a.below hb9 r2a.lt; have hbb := up_call hba hb9)
    | (refine wpList_store_row rfl 26 _ _ rfl (w.heap.size + 1) (flt 4 (-3)) rfl rfl 26 (flt 0 0) r2b (by rw [flt_size]; exact cellsF) rfl (all_one (flt_one _ _)) ?_))
  refine bodyPost_ret (results_row Try.results21 _ _ (w.heap.size + 1) 26 (flt 4 (-3)) _ rfl (Row.row r2b _) Try.underlying26 rfl (by rw [flt_size]; exact cellsF)) rfl ⟨rfl, ?_⟩
  exact blw_row hbb (by omega) _

set_option maxRecDepth 100000 in
set_option maxHeartbeats 2000000 in
theorem raf_large (l : List Bool) (hl : l.length ≤ 131072) (v m : Nat) (hm : m ≤ 32) (hvm : v < 2 ^ m) (hx : 131072 < l.length + m) (A : Option Addr) (cp : Nat) (w : World) (hS : Sl w w.heap.size A (pack l).length (bl (pack l))) :
    Calls Try.prog 21 #[.agg (bcs A (pack l).length cp l.length), .int .i64 v, .int .i64 m] w fun e w' => e = .returned (.agg (flt 14 (-1))) ∧ Below w.heap.size w w' := by
  have h1 : decide ((v : Int) < 0) = false := decide_eq_false (by omega)
  obtain ⟨p, hp⟩ : ∃ p, p = (2 : Nat) ^ m := ⟨_, rfl⟩
  rw [← hp] at hvm
  have HP := Lib.hid hp
  have m0 : (0 : Int) ≤ (m : Int) := by omega
  have m1 : (m : Int) ≤ 32 := by omega
  clear hp
  have h2 : decide (p ≤ v) = false := decide_eq_false (by omega)
  have h3 : decide ((131072 : Int) < (l.length : Int) + (m : Int)) = true := decide_eq_true (by omega)
  go_enter Try.func21, Try.ntmps21
  go_upto_region 1 with (fail)
  refine wp_world (F := fun W => Row W w.heap.size 24 (bcs A (pack l).length cp l.length) ∧ Row W (w.heap.size + 1) 26 (flt 0 0) ∧ Sl W W.heap.size A (pack l).length (bl (pack l)) ∧ Below w.heap.size w W) ⟨(Row.new _ _ _).alloc _, Row.newEq _ _ _ _ _ (by simp) rfl, hS.up (((Below.refl _ _).alloc (Nat.le_refl _) _).alloc (by simp) _), ((Below.refl _ _).alloc (Nat.le_refl _) _).alloc (by simp) _⟩ ?_
  clear hS
  rintro W0 ⟨r0, r2, hS0, hb0⟩
  go_wp2_with (first
    | (refine wpList_load_row rfl 24 _ rfl w.heap.size rfl 24 (bcs A (pack l).length cp l.length) (0, 0) _ r0 Try.underlying24 rfl (by rw [bcs_size]; exact cellsB) ?_)
    | (go_at_call 13; refine (ok_yes (pack l) l (pack_rep l) hl A cp _ hS0).mono ?_; rintro e w1 ⟨rfl, hb1⟩; have r0a := r0.below hb1 r0.lt; have r2a := r2.below hb1 r2.lt; have hba := up_call hb0 hb1; have c1 : w1.cell? ⟨w.heap.size, 1, none⟩ = some (.int .i64 ((l.length : Int))) := (r0a.cell 1).trans rfl)
    | (go_at_call 31; (with_reducible refine (in_yes m 0 32 m0 m1 _).mono ?_); rintro e w2 ⟨rfl, rfl⟩)
    | (go_at_call 43; refine (power_any m (by omega) p HP.out _).mono ?_; rintro e w3 ⟨rfl, rfl⟩)
    | (go_at_call 16; refine (at_any 14 (-1) _).mono ?_; rintro e w9 ⟨rfl, hb9⟩; have r2b := r2a.below hb9 r2a.lt; have hbb := up_call hba hb9)
    | (refine wpList_store_row rfl 26 _ _ rfl (w.heap.size + 1) (flt 14 (-1)) rfl rfl 26 (flt 0 0) r2b (by rw [flt_size]; exact cellsF) rfl (all_one (flt_one _ _)) ?_))
  refine bodyPost_ret (results_row Try.results21 _ _ (w.heap.size + 1) 26 (flt 14 (-1)) _ rfl (Row.row r2b _) Try.underlying26 rfl (by rw [flt_size]; exact cellsF)) rfl ⟨rfl, ?_⟩
  exact blw_row hbb (by omega) _

set_option maxRecDepth 100000 in
set_option maxHeartbeats 2000000 in
theorem raf_ok (l : List Bool) (hl : l.length ≤ 131072) (v m : Nat) (hm : m ≤ 32) (hvm : v < 2 ^ m) (hx : l.length + m ≤ 131072) (A : Option Addr) (cp : Nat) (w : World) (hS : Sl w w.heap.size A (pack l).length (bl (pack l))) :
    Calls Try.prog 21 #[.agg (bcs A (pack l).length cp l.length), .int .i64 v, .int .i64 m] w fun e w' => e = .returned (.agg (flt 0 0)) ∧ Below w.heap.size w w' := by
  have h1 : decide ((v : Int) < 0) = false := decide_eq_false (by omega)
  obtain ⟨p, hp⟩ : ∃ p, p = (2 : Nat) ^ m := ⟨_, rfl⟩
  rw [← hp] at hvm
  have HP := Lib.hid hp
  have m0 : (0 : Int) ≤ (m : Int) := by omega
  have m1 : (m : Int) ≤ 32 := by omega
  clear hp
  have h2 : decide (p ≤ v) = false := decide_eq_false (by omega)
  have h3 : decide ((131072 : Int) < (l.length : Int) + (m : Int)) = false := decide_eq_false (by omega)
  go_enter Try.func21, Try.ntmps21
  go_upto_region 1 with (fail)
  refine wp_world (F := fun W => Row W w.heap.size 24 (bcs A (pack l).length cp l.length) ∧ Row W (w.heap.size + 1) 26 (flt 0 0) ∧ Sl W W.heap.size A (pack l).length (bl (pack l)) ∧ Below w.heap.size w W) ⟨(Row.new _ _ _).alloc _, Row.newEq _ _ _ _ _ (by simp) rfl, hS.up (((Below.refl _ _).alloc (Nat.le_refl _) _).alloc (by simp) _), ((Below.refl _ _).alloc (Nat.le_refl _) _).alloc (by simp) _⟩ ?_
  clear hS
  rintro W0 ⟨r0, r2, hS0, hb0⟩
  go_wp2_with (first
    | (refine wpList_load_row rfl 24 _ rfl w.heap.size rfl 24 (bcs A (pack l).length cp l.length) (0, 0) _ r0 Try.underlying24 rfl (by rw [bcs_size]; exact cellsB) ?_)
    | (go_at_call 13; refine (ok_yes (pack l) l (pack_rep l) hl A cp _ hS0).mono ?_; rintro e w1 ⟨rfl, hb1⟩; have r0a := r0.below hb1 r0.lt; have r2a := r2.below hb1 r2.lt; have hba := up_call hb0 hb1; have c1 : w1.cell? ⟨w.heap.size, 1, none⟩ = some (.int .i64 ((l.length : Int))) := (r0a.cell 1).trans rfl)
    | (go_at_call 31; (with_reducible refine (in_yes m 0 32 m0 m1 _).mono ?_); rintro e w2 ⟨rfl, rfl⟩)
    | (go_at_call 43; refine (power_any m (by omega) p HP.out _).mono ?_; rintro e w3 ⟨rfl, rfl⟩)
    | (refine wpList_store_row rfl 26 _ _ rfl (w.heap.size + 1) (flt 0 0) rfl rfl 26 (flt 0 0) r2a (by rw [flt_size]; exact cellsF) rfl (all_one (flt_one _ _)) ?_))
  refine bodyPost_ret (results_row Try.results21 _ _ (w.heap.size + 1) 26 (flt 0 0) _ rfl (Row.row r2a _) Try.underlying26 rfl (by rw [flt_size]; exact cellsF)) rfl ⟨rfl, ?_⟩
  exact blw_row hba (by omega) _

set_option maxRecDepth 100000 in
set_option maxHeartbeats 2000000 in
theorem rrf_form (L : List UInt8) (k : Int) (hG : ¬ Good L k) (f m : Int) (A : Option Addr) (cp : Nat) (w : World) (hS : Sl w w.heap.size A L.length (bl L)) :
    Calls Try.prog 22 #[.agg (bcs A L.length cp k), .int .i64 f, .int .i64 m] w fun e w' => e = .returned (.agg (flt 6 (-1))) ∧ Below w.heap.size w w' := by
  skip
  go_enter Try.func22, Try.ntmps22
  go_upto_region 1 with (fail)
  refine wp_world (F := fun W => Row W w.heap.size 24 (bcs A L.length cp k) ∧ Row W (w.heap.size + 1) 26 (flt 0 0) ∧ Sl W W.heap.size A L.length (bl L) ∧ Below w.heap.size w W) ⟨(Row.new _ _ _).alloc _, Row.newEq _ _ _ _ _ (by simp) rfl, hS.up (((Below.refl _ _).alloc (Nat.le_refl _) _).alloc (by simp) _), ((Below.refl _ _).alloc (Nat.le_refl _) _).alloc (by simp) _⟩ ?_
  clear hS
  rintro W0 ⟨r0, r2, hS0, hb0⟩
  go_wp2_with (first
    | (refine wpList_load_row rfl 24 _ rfl w.heap.size rfl 24 (bcs A L.length cp k) (0, 0) _ r0 Try.underlying24 rfl (by rw [bcs_size]; exact cellsB) ?_)
    | (go_at_call 13; refine (ok_no L k hG A cp _ hS0).mono ?_; rintro e w1 ⟨rfl, hb1⟩; have r0a := r0.below hb1 r0.lt; have r2a := r2.below hb1 r2.lt; have hba := up_call hb0 hb1; have c1 : w1.cell? ⟨w.heap.size, 1, none⟩ = some (.int .i64 (k)) := (r0a.cell 1).trans rfl)
    | (go_at_call 16; refine (at_any 6 (-1) _).mono ?_; rintro e w9 ⟨rfl, hb9⟩; have r2b := r2a.below hb9 r2a.lt; have hbb := up_call hba hb9)
    | (refine wpList_store_row rfl 26 _ _ rfl (w.heap.size + 1) (flt 6 (-1)) rfl rfl 26 (flt 0 0) r2b (by rw [flt_size]; exact cellsF) rfl (all_one (flt_one _ _)) ?_))
  refine bodyPost_ret (results_row Try.results22 _ _ (w.heap.size + 1) 26 (flt 6 (-1)) _ rfl (Row.row r2b _) Try.underlying26 rfl (by rw [flt_size]; exact cellsF)) rfl ⟨rfl, ?_⟩
  exact blw_row hbb (by omega) _

set_option maxRecDepth 100000 in
set_option maxHeartbeats 2000000 in
theorem rrf_far (l : List Bool) (hl : l.length ≤ 131072) (f m : Int) (hf : f < 0 ∨ (l.length : Int) < f) (A : Option Addr) (cp : Nat) (w : World) (hS : Sl w w.heap.size A (pack l).length (bl (pack l))) :
    Calls Try.prog 22 #[.agg (bcs A (pack l).length cp l.length), .int .i64 f, .int .i64 m] w fun e w' => e = .returned (.agg (flt 4 (-2))) ∧ Below w.heap.size w w' := by
  have HF := Lib.hid hf
  clear hf
  go_enter Try.func22, Try.ntmps22
  go_upto_region 1 with (fail)
  refine wp_world (F := fun W => Row W w.heap.size 24 (bcs A (pack l).length cp l.length) ∧ Row W (w.heap.size + 1) 26 (flt 0 0) ∧ Sl W W.heap.size A (pack l).length (bl (pack l)) ∧ Below w.heap.size w W) ⟨(Row.new _ _ _).alloc _, Row.newEq _ _ _ _ _ (by simp) rfl, hS.up (((Below.refl _ _).alloc (Nat.le_refl _) _).alloc (by simp) _), ((Below.refl _ _).alloc (Nat.le_refl _) _).alloc (by simp) _⟩ ?_
  clear hS
  rintro W0 ⟨r0, r2, hS0, hb0⟩
  go_wp2_with (first
    | (refine wpList_load_row rfl 24 _ rfl w.heap.size rfl 24 (bcs A (pack l).length cp l.length) (0, 0) _ r0 Try.underlying24 rfl (by rw [bcs_size]; exact cellsB) ?_)
    | (go_at_call 13; refine (ok_yes (pack l) l (pack_rep l) hl A cp _ hS0).mono ?_; rintro e w1 ⟨rfl, hb1⟩; have r0a := r0.below hb1 r0.lt; have r2a := r2.below hb1 r2.lt; have hba := up_call hb0 hb1; have c1 : w1.cell? ⟨w.heap.size, 1, none⟩ = some (.int .i64 ((l.length : Int))) := (r0a.cell 1).trans rfl)
    | (go_at_call 31; (with_reducible refine (in_no f 0 l.length HF.out _).mono ?_); rintro e w2 ⟨rfl, rfl⟩)
    | (go_at_call 16; refine (at_any 4 (-2) _).mono ?_; rintro e w9 ⟨rfl, hb9⟩; have r2b := r2a.below hb9 r2a.lt; have hbb := up_call hba hb9)
    | (refine wpList_store_row rfl 26 _ _ rfl (w.heap.size + 1) (flt 4 (-2)) rfl rfl 26 (flt 0 0) r2b (by rw [flt_size]; exact cellsF) rfl (all_one (flt_one _ _)) ?_))
  refine bodyPost_ret (results_row Try.results22 _ _ (w.heap.size + 1) 26 (flt 4 (-2)) _ rfl (Row.row r2b _) Try.underlying26 rfl (by rw [flt_size]; exact cellsF)) rfl ⟨rfl, ?_⟩
  exact blw_row hbb (by omega) _

set_option maxRecDepth 100000 in
set_option maxHeartbeats 2000000 in
theorem rrf_width (l : List Bool) (hl : l.length ≤ 131072) (f : Nat) (m : Int) (hf : f ≤ l.length) (hm : m < 0 ∨ 32 < m) (A : Option Addr) (cp : Nat) (w : World) (hS : Sl w w.heap.size A (pack l).length (bl (pack l))) :
    Calls Try.prog 22 #[.agg (bcs A (pack l).length cp l.length), .int .i64 f, .int .i64 m] w fun e w' => e = .returned (.agg (flt 4 (-3))) ∧ Below w.heap.size w w' := by
  have f0 : (0 : Int) ≤ (f : Int) := by omega
  have f1 : (f : Int) ≤ (l.length : Int) := by omega
  have HM := Lib.hid hm
  clear hm
  go_enter Try.func22, Try.ntmps22
  go_upto_region 1 with (fail)
  refine wp_world (F := fun W => Row W w.heap.size 24 (bcs A (pack l).length cp l.length) ∧ Row W (w.heap.size + 1) 26 (flt 0 0) ∧ Sl W W.heap.size A (pack l).length (bl (pack l)) ∧ Below w.heap.size w W) ⟨(Row.new _ _ _).alloc _, Row.newEq _ _ _ _ _ (by simp) rfl, hS.up (((Below.refl _ _).alloc (Nat.le_refl _) _).alloc (by simp) _), ((Below.refl _ _).alloc (Nat.le_refl _) _).alloc (by simp) _⟩ ?_
  clear hS
  rintro W0 ⟨r0, r2, hS0, hb0⟩
  go_wp2_with (first
    | (refine wpList_load_row rfl 24 _ rfl w.heap.size rfl 24 (bcs A (pack l).length cp l.length) (0, 0) _ r0 Try.underlying24 rfl (by rw [bcs_size]; exact cellsB) ?_)
    | (go_at_call 13; refine (ok_yes (pack l) l (pack_rep l) hl A cp _ hS0).mono ?_; rintro e w1 ⟨rfl, hb1⟩; have r0a := r0.below hb1 r0.lt; have r2a := r2.below hb1 r2.lt; have hba := up_call hb0 hb1; have c1 : w1.cell? ⟨w.heap.size, 1, none⟩ = some (.int .i64 ((l.length : Int))) := (r0a.cell 1).trans rfl)
    | (go_at_call 31; (with_reducible refine (in_yes f 0 l.length f0 f1 _).mono ?_); rintro e w2 ⟨rfl, rfl⟩)
    | (go_at_call 31; (with_reducible refine (in_no m 0 32 HM.out _).mono ?_); rintro e w2 ⟨rfl, rfl⟩)
    | (go_at_call 16; refine (at_any 4 (-3) _).mono ?_; rintro e w9 ⟨rfl, hb9⟩; have r2b := r2a.below hb9 r2a.lt; have hbb := up_call hba hb9)
    | (refine wpList_store_row rfl 26 _ _ rfl (w.heap.size + 1) (flt 4 (-3)) rfl rfl 26 (flt 0 0) r2b (by rw [flt_size]; exact cellsF) rfl (all_one (flt_one _ _)) ?_))
  refine bodyPost_ret (results_row Try.results22 _ _ (w.heap.size + 1) 26 (flt 4 (-3)) _ rfl (Row.row r2b _) Try.underlying26 rfl (by rw [flt_size]; exact cellsF)) rfl ⟨rfl, ?_⟩
  exact blw_row hbb (by omega) _

set_option maxRecDepth 100000 in
set_option maxHeartbeats 2000000 in
theorem rrf_short (l : List Bool) (hl : l.length ≤ 131072) (f m : Nat) (hf : f ≤ l.length) (hm : m ≤ 32) (hx : l.length < f + m) (A : Option Addr) (cp : Nat) (w : World) (hS : Sl w w.heap.size A (pack l).length (bl (pack l))) :
    Calls Try.prog 22 #[.agg (bcs A (pack l).length cp l.length), .int .i64 f, .int .i64 m] w fun e w' => e = .returned (.agg (flt 15 (-2))) ∧ Below w.heap.size w w' := by
  have f0 : (0 : Int) ≤ (f : Int) := by omega
  have f1 : (f : Int) ≤ (l.length : Int) := by omega
  have m0 : (0 : Int) ≤ (m : Int) := by omega
  have m1 : (m : Int) ≤ 32 := by omega
  have h3 : decide ((l.length : Int) < (f : Int) + (m : Int)) = true := decide_eq_true (by omega)
  go_enter Try.func22, Try.ntmps22
  go_upto_region 1 with (fail)
  refine wp_world (F := fun W => Row W w.heap.size 24 (bcs A (pack l).length cp l.length) ∧ Row W (w.heap.size + 1) 26 (flt 0 0) ∧ Sl W W.heap.size A (pack l).length (bl (pack l)) ∧ Below w.heap.size w W) ⟨(Row.new _ _ _).alloc _, Row.newEq _ _ _ _ _ (by simp) rfl, hS.up (((Below.refl _ _).alloc (Nat.le_refl _) _).alloc (by simp) _), ((Below.refl _ _).alloc (Nat.le_refl _) _).alloc (by simp) _⟩ ?_
  clear hS
  rintro W0 ⟨r0, r2, hS0, hb0⟩
  go_wp2_with (first
    | (refine wpList_load_row rfl 24 _ rfl w.heap.size rfl 24 (bcs A (pack l).length cp l.length) (0, 0) _ r0 Try.underlying24 rfl (by rw [bcs_size]; exact cellsB) ?_)
    | (go_at_call 13; refine (ok_yes (pack l) l (pack_rep l) hl A cp _ hS0).mono ?_; rintro e w1 ⟨rfl, hb1⟩; have r0a := r0.below hb1 r0.lt; have r2a := r2.below hb1 r2.lt; have hba := up_call hb0 hb1; have c1 : w1.cell? ⟨w.heap.size, 1, none⟩ = some (.int .i64 ((l.length : Int))) := (r0a.cell 1).trans rfl)
    | (go_at_call 31; (with_reducible refine (in_yes f 0 l.length f0 f1 _).mono ?_); rintro e w2 ⟨rfl, rfl⟩)
    | (go_at_call 31; (with_reducible refine (in_yes m 0 32 m0 m1 _).mono ?_); rintro e w2 ⟨rfl, rfl⟩)
    | (go_at_call 16; refine (at_any 15 (-2) _).mono ?_; rintro e w9 ⟨rfl, hb9⟩; have r2b := r2a.below hb9 r2a.lt; have hbb := up_call hba hb9)
    | (refine wpList_store_row rfl 26 _ _ rfl (w.heap.size + 1) (flt 15 (-2)) rfl rfl 26 (flt 0 0) r2b (by rw [flt_size]; exact cellsF) rfl (all_one (flt_one _ _)) ?_))
  refine bodyPost_ret (results_row Try.results22 _ _ (w.heap.size + 1) 26 (flt 15 (-2)) _ rfl (Row.row r2b _) Try.underlying26 rfl (by rw [flt_size]; exact cellsF)) rfl ⟨rfl, ?_⟩
  exact blw_row hbb (by omega) _

set_option maxRecDepth 100000 in
set_option maxHeartbeats 2000000 in
theorem rrf_ok (l : List Bool) (hl : l.length ≤ 131072) (f m : Nat) (hm : m ≤ 32) (hx : f + m ≤ l.length) (A : Option Addr) (cp : Nat) (w : World) (hS : Sl w w.heap.size A (pack l).length (bl (pack l))) :
    Calls Try.prog 22 #[.agg (bcs A (pack l).length cp l.length), .int .i64 f, .int .i64 m] w fun e w' => e = .returned (.agg (flt 0 0)) ∧ Below w.heap.size w w' := by
  have f0 : (0 : Int) ≤ (f : Int) := by omega
  have f1 : (f : Int) ≤ (l.length : Int) := by omega
  have m0 : (0 : Int) ≤ (m : Int) := by omega
  have m1 : (m : Int) ≤ 32 := by omega
  have h3 : decide ((l.length : Int) < (f : Int) + (m : Int)) = false := decide_eq_false (by omega)
  go_enter Try.func22, Try.ntmps22
  go_upto_region 1 with (fail)
  refine wp_world (F := fun W => Row W w.heap.size 24 (bcs A (pack l).length cp l.length) ∧ Row W (w.heap.size + 1) 26 (flt 0 0) ∧ Sl W W.heap.size A (pack l).length (bl (pack l)) ∧ Below w.heap.size w W) ⟨(Row.new _ _ _).alloc _, Row.newEq _ _ _ _ _ (by simp) rfl, hS.up (((Below.refl _ _).alloc (Nat.le_refl _) _).alloc (by simp) _), ((Below.refl _ _).alloc (Nat.le_refl _) _).alloc (by simp) _⟩ ?_
  clear hS
  rintro W0 ⟨r0, r2, hS0, hb0⟩
  go_wp2_with (first
    | (refine wpList_load_row rfl 24 _ rfl w.heap.size rfl 24 (bcs A (pack l).length cp l.length) (0, 0) _ r0 Try.underlying24 rfl (by rw [bcs_size]; exact cellsB) ?_)
    | (go_at_call 13; refine (ok_yes (pack l) l (pack_rep l) hl A cp _ hS0).mono ?_; rintro e w1 ⟨rfl, hb1⟩; have r0a := r0.below hb1 r0.lt; have r2a := r2.below hb1 r2.lt; have hba := up_call hb0 hb1; have c1 : w1.cell? ⟨w.heap.size, 1, none⟩ = some (.int .i64 ((l.length : Int))) := (r0a.cell 1).trans rfl)
    | (go_at_call 31; (with_reducible refine (in_yes f 0 l.length f0 f1 _).mono ?_); rintro e w2 ⟨rfl, rfl⟩)
    | (go_at_call 31; (with_reducible refine (in_yes m 0 32 m0 m1 _).mono ?_); rintro e w2 ⟨rfl, rfl⟩)
    | (refine wpList_store_row rfl 26 _ _ rfl (w.heap.size + 1) (flt 0 0) rfl rfl 26 (flt 0 0) r2a (by rw [flt_size]; exact cellsF) rfl (all_one (flt_one _ _)) ?_))
  refine bodyPost_ret (results_row Try.results22 _ _ (w.heap.size + 1) 26 (flt 0 0) _ rfl (Row.row r2a _) Try.underlying26 rfl (by rw [flt_size]; exact cellsF)) rfl ⟨rfl, ?_⟩
  exact blw_row hba (by omega) _
end Go.Proofs.Ytbahkidkpbabdaa
