/-
  The contracts of bits.leadingZeros and bits.ReadGamma.
-/
import Derived.Test.YtahihgmlkcbfiaaBGam
namespace Go.Proofs.Ytahihgmlkcbfiaa
open Go.RowKit

set_option maxRecDepth 100000 in
set_option maxHeartbeats 4000000 in
theorem zeros_any (L : List UInt8) (l : List Bool) (hR : Rep L l) (hl : l.length ≤ 131072) (A : Option Addr) (c f lim k : Nat) (hlim : lim ≤ 1000) (hk : Zr l f lim k) (w : World) (hS : Sl w w.heap.size A L.length (bl L)) :
    Calls Try.prog 75 #[.agg (bcs A L.length c l.length), .int .i64 f, .int .i64 lim] w fun e w' => e = .returned (.int .i64 k) ∧ Below w.heap.size w w' := by
  obtain ⟨k1, k2, k3, k4⟩ := hk
  have HZ := Lib.hid k3
  have HE := Lib.hid k4
  have HR := Lib.hid hR
  have hln := hR.len
  have hl1 : L.length ≤ 16384 := by omega
  have hl2 : l.length ≤ 8 * L.length := by omega
  clear k3 k4 hln hR
  go_enter Try.func75, Try.ntmps75
  go_wp2_with fail
  refine wp_world (F := fun W => Row W w.heap.size 43 (bcs A L.length c l.length) ∧ Sl W W.heap.size A L.length (bl L) ∧ Below w.heap.size w W) ⟨Row.new _ _ _, hS.up ((Below.refl _ _).alloc (Nat.le_refl _) _), (Below.refl _ _).alloc (Nat.le_refl _) _⟩ ?_
  clear hS
  rintro W0 ⟨r0, hS, hb0⟩
  go_loopw [7] (fun i wr => ∃ j : Nat, j ≤ k ∧ i = .int .i64 j ∧ Row wr w.heap.size 43 (bcs A L.length c l.length) ∧ Sl wr wr.heap.size A L.length (bl L) ∧ Below w.heap.size w wr) (fun i _ => k - (intOf i).toNat)
  case atStart => exact ⟨0, Nat.zero_le _, rfl, r0, hS, hb0⟩
  case round =>
    clear r0 hS hb0
    obtain ⟨j, hj, rfl, r0, hS, hb⟩ := hrel
    have c1 : wr.cell? ⟨w.heap.size, 1, none⟩ = some (.int .i64 (l.length : Int)) := (r0.cell 1).trans rfl
    by_cases hlt : j < k
    · have hz : (0 : Int) = ((bt L (f + j)).toNat : Int) := by rw [HR.out.2, HZ.out j hlt]; rfl
      have HB := Lib.hid hz
      have h1 : decide (j < lim) = true := decide_eq_true (by omega)
      have h2 : decide ((f : Int) + (j : Int) < (l.length : Int)) = true := decide_eq_true (by omega)
      clear hz
      go_wp2_with (first
        | (refine wpList_load_rowG (by simp [Region.wanted, yielded]) 43 _ rfl w.heap.size rfl 43 (bcs A L.length c l.length) (0, 0) _ r0 Try.underlying43 rfl (by rw [bcs_size]; exact cellsB) ?_)
        | (go_at_call 71; refine (number_bit L A c _ (f + j) 0 HB.out (by omega) hl1 _ hS).mono ?_; rintro e w1 ⟨rfl, hb1⟩; have r0a := r0.below hb1 r0.lt; have hba := up_call hb hb1; have hSa := hS.up hb1; clear hb1))
      go_roundw
      case rel => exact ⟨j + 1, by omega, by go_num, r0a, hSa, hba⟩
      case measure => simp [intOf]; omega
    · obtain rfl : j = k := by omega
      by_cases ha : j = lim
      · subst ha
        go_wp2_with fail
        go_ret
        exact ⟨rfl, hb⟩
      · have h1 : decide (j < lim) = true := decide_eq_true (by omega)
        by_cases hc : f + j = l.length
        · have h2 : decide ((f : Int) + (j : Int) < (l.length : Int)) = false := decide_eq_false (by omega)
          clear hc
          go_wp2_with fail
          go_ret
          exact ⟨rfl, hb⟩
        · have hz : (1 : Int) = ((bt L (f + j)).toNat : Int) := by
            rcases HE.out with h | h | h
            · exact absurd h ha
            · exact absurd h hc
            · rw [HR.out.2, h]
              rfl
          have HB := Lib.hid hz
          have h2 : decide ((f : Int) + (j : Int) < (l.length : Int)) = true := decide_eq_true (by omega)
          clear hz
          go_wp2_with (first
            | (refine wpList_load_rowG (by simp [Region.wanted, yielded]) 43 _ rfl w.heap.size rfl 43 (bcs A L.length c l.length) (0, 0) _ r0 Try.underlying43 rfl (by rw [bcs_size]; exact cellsB) ?_)
            | (go_at_call 71; refine (number_bit L A c _ (f + j) 1 HB.out (by omega) hl1 _ hS).mono ?_; rintro e w1 ⟨rfl, hb1⟩; have hba := up_call hb hb1; clear hb1))
          go_ret
          exact ⟨rfl, hba⟩

set_option maxRecDepth 100000 in
set_option maxHeartbeats 4000000 in
theorem readg_form (L : List UInt8) (k : Int) (hG : ¬ Good L k) (f : Int) (A : Option Addr) (c : Nat) (w : World) (hS : Sl w w.heap.size A L.length (bl L)) :
    Calls Try.prog 72 #[.agg (bcs A L.length c k), .int .i64 f] w fun e w' => e = .returned (.tuple #[.int .i64 0, .int .i64 0, .agg (flt 6 (-1))]) ∧ Below w.heap.size w w' := by
  skip
  go_enter Try.func72, Try.ntmps72
  go_upto_region 1 with (fail)
  refine wp_world (F := fun W => Row W w.heap.size 43 (bcs A L.length c k) ∧ Row W (w.heap.size + 1) 25 (flt 0 0) ∧ Below w.heap.size w W)
    ⟨(Row.new _ _ _).alloc _, Row.newEq _ _ _ _ _ (by simp) rfl, ((Below.refl _ _).alloc (Nat.le_refl _) _).alloc (by simp) _⟩ ?_
  rintro W0 ⟨r0, r2, hb0⟩
  have hS0 := (hS.below hb0).wider hb0.size
  clear hS
  go_wp2_with (first
    | (refine wpList_load_row rfl 43 _ rfl w.heap.size rfl 43 (bcs A L.length c k) (0, 0) _ r0b Try.underlying43 rfl (by rw [bcs_size]; exact cellsB) ?_)
    | (refine wpList_load_row rfl 43 _ rfl w.heap.size rfl 43 (bcs A L.length c k) (0, 0) _ r0a Try.underlying43 rfl (by rw [bcs_size]; exact cellsB) ?_)
    | (refine wpList_load_row rfl 43 _ rfl w.heap.size rfl 43 (bcs A L.length c k) (0, 0) _ r0 Try.underlying43 rfl (by rw [bcs_size]; exact cellsB) ?_)
    | (go_at_call 46; refine (valid_no L k hG A c _ hS0).mono ?_; rintro e w1 ⟨rfl, hb1⟩; have r0a := r0.below hb1 r0.lt; have r2a := r2.below hb1 r2.lt; have hba := up_call hb0 hb1; have hSa := hS0.up hb1; have c1 : w1.cell? ⟨w.heap.size, 1, none⟩ = some (.int .i64 (k)) := (r0a.cell 1).trans rfl; clear hb1)
    | (refine wpList_store_row rfl 25 _ _ rfl (w.heap.size + 1) (flt 6 (-1)) rfl rfl 25 (flt 0 0) r2a (by rw [flt_size]; exact cellsF) rfl (all_one (flt_one _ _)) ?_))
  refine bodyPost_ret (results_tmp2_row Try.results72 _ _ _ _ (w.heap.size + 1) 25 (flt 6 (-1)) _ rfl rfl rfl (Row.row r2a _) Try.underlying25 rfl (by rw [flt_size]; exact cellsF)) rfl ⟨rfl, ?_⟩
  exact blw_row hba (by omega) _

set_option maxRecDepth 100000 in
set_option maxHeartbeats 4000000 in
theorem readg_neg (L : List UInt8) (l : List Bool) (hR : Rep L l) (hl : l.length ≤ 131072) (f : Int) (hf : f < 0) (A : Option Addr) (c : Nat) (w : World) (hS : Sl w w.heap.size A L.length (bl L)) :
    Calls Try.prog 72 #[.agg (bcs A L.length c (l.length : Int)), .int .i64 f] w fun e w' => e = .returned (.tuple #[.int .i64 0, .int .i64 0, .agg (flt 4 (-2))]) ∧ Below w.heap.size w w' := by
  have HT := Lib.hid hR
  have h1 : decide (f < 0) = true := decide_eq_true hf
  go_enter Try.func72, Try.ntmps72
  go_upto_region 1 with (fail)
  refine wp_world (F := fun W => Row W w.heap.size 43 (bcs A L.length c (l.length : Int)) ∧ Row W (w.heap.size + 1) 25 (flt 0 0) ∧ Below w.heap.size w W)
    ⟨(Row.new _ _ _).alloc _, Row.newEq _ _ _ _ _ (by simp) rfl, ((Below.refl _ _).alloc (Nat.le_refl _) _).alloc (by simp) _⟩ ?_
  rintro W0 ⟨r0, r2, hb0⟩
  have hS0 := (hS.below hb0).wider hb0.size
  clear hS
  go_wp2_with (first
    | (refine wpList_load_row rfl 43 _ rfl w.heap.size rfl 43 (bcs A L.length c (l.length : Int)) (0, 0) _ r0b Try.underlying43 rfl (by rw [bcs_size]; exact cellsB) ?_)
    | (refine wpList_load_row rfl 43 _ rfl w.heap.size rfl 43 (bcs A L.length c (l.length : Int)) (0, 0) _ r0a Try.underlying43 rfl (by rw [bcs_size]; exact cellsB) ?_)
    | (refine wpList_load_row rfl 43 _ rfl w.heap.size rfl 43 (bcs A L.length c (l.length : Int)) (0, 0) _ r0 Try.underlying43 rfl (by rw [bcs_size]; exact cellsB) ?_)
    | (go_at_call 46; refine (valid_yes L l HT.out hl A c _ hS0).mono ?_; rintro e w1 ⟨rfl, hb1⟩; have r0a := r0.below hb1 r0.lt; have r2a := r2.below hb1 r2.lt; have hba := up_call hb0 hb1; have hSa := hS0.up hb1; have c1 : w1.cell? ⟨w.heap.size, 1, none⟩ = some (.int .i64 ((l.length : Int))) := (r0a.cell 1).trans rfl; clear hb1)
    | (refine wpList_store_row rfl 25 _ _ rfl (w.heap.size + 1) (flt 4 (-2)) rfl rfl 25 (flt 0 0) r2a (by rw [flt_size]; exact cellsF) rfl (all_one (flt_one _ _)) ?_))
  refine bodyPost_ret (results_tmp2_row Try.results72 _ _ _ _ (w.heap.size + 1) 25 (flt 4 (-2)) _ rfl rfl rfl (Row.row r2a _) Try.underlying25 rfl (by rw [flt_size]; exact cellsF)) rfl ⟨rfl, ?_⟩
  exact blw_row hba (by omega) _

set_option maxRecDepth 100000 in
set_option maxHeartbeats 4000000 in
theorem readg_far (L : List UInt8) (l : List Bool) (hR : Rep L l) (hl : l.length ≤ 131072) (f : Int) (hf : (l.length : Int) < f) (A : Option Addr) (c : Nat) (w : World) (hS : Sl w w.heap.size A L.length (bl L)) :
    Calls Try.prog 72 #[.agg (bcs A L.length c (l.length : Int)), .int .i64 f] w fun e w' => e = .returned (.tuple #[.int .i64 0, .int .i64 0, .agg (flt 4 (-2))]) ∧ Below w.heap.size w w' := by
  have HT := Lib.hid hR
  have h1 : decide (f < 0) = false := decide_eq_false (by omega)
  have h2 : decide ((l.length : Int) < f) = true := decide_eq_true hf
  go_enter Try.func72, Try.ntmps72
  go_upto_region 1 with (fail)
  refine wp_world (F := fun W => Row W w.heap.size 43 (bcs A L.length c (l.length : Int)) ∧ Row W (w.heap.size + 1) 25 (flt 0 0) ∧ Below w.heap.size w W)
    ⟨(Row.new _ _ _).alloc _, Row.newEq _ _ _ _ _ (by simp) rfl, ((Below.refl _ _).alloc (Nat.le_refl _) _).alloc (by simp) _⟩ ?_
  rintro W0 ⟨r0, r2, hb0⟩
  have hS0 := (hS.below hb0).wider hb0.size
  clear hS
  go_wp2_with (first
    | (refine wpList_load_row rfl 43 _ rfl w.heap.size rfl 43 (bcs A L.length c (l.length : Int)) (0, 0) _ r0b Try.underlying43 rfl (by rw [bcs_size]; exact cellsB) ?_)
    | (refine wpList_load_row rfl 43 _ rfl w.heap.size rfl 43 (bcs A L.length c (l.length : Int)) (0, 0) _ r0a Try.underlying43 rfl (by rw [bcs_size]; exact cellsB) ?_)
    | (refine wpList_load_row rfl 43 _ rfl w.heap.size rfl 43 (bcs A L.length c (l.length : Int)) (0, 0) _ r0 Try.underlying43 rfl (by rw [bcs_size]; exact cellsB) ?_)
    | (go_at_call 46; refine (valid_yes L l HT.out hl A c _ hS0).mono ?_; rintro e w1 ⟨rfl, hb1⟩; have r0a := r0.below hb1 r0.lt; have r2a := r2.below hb1 r2.lt; have hba := up_call hb0 hb1; have hSa := hS0.up hb1; have c1 : w1.cell? ⟨w.heap.size, 1, none⟩ = some (.int .i64 ((l.length : Int))) := (r0a.cell 1).trans rfl; clear hb1)
    | (refine wpList_store_row rfl 25 _ _ rfl (w.heap.size + 1) (flt 4 (-2)) rfl rfl 25 (flt 0 0) r2a (by rw [flt_size]; exact cellsF) rfl (all_one (flt_one _ _)) ?_))
  refine bodyPost_ret (results_tmp2_row Try.results72 _ _ _ _ (w.heap.size + 1) 25 (flt 4 (-2)) _ rfl rfl rfl (Row.row r2a _) Try.underlying25 rfl (by rw [flt_size]; exact cellsF)) rfl ⟨rfl, ?_⟩
  exact blw_row hba (by omega) _

set_option maxRecDepth 100000 in
set_option maxHeartbeats 4000000 in
theorem readg_corrupt (L : List UInt8) (l : List Bool) (hR : Rep L l) (hl : l.length ≤ 131072) (f k : Nat) (hf : f ≤ l.length) (hk : Zr l f 31 k) (h : k = 31) (A : Option Addr) (c : Nat) (w : World) (hS : Sl w w.heap.size A L.length (bl L)) :
    Calls Try.prog 72 #[.agg (bcs A L.length c (l.length : Int)), .int .i64 f] w fun e w' => e = .returned (.tuple #[.int .i64 0, .int .i64 0, .agg (flt 16 (-2))]) ∧ Below w.heap.size w w' := by
  have HT := Lib.hid hR
  have h1 : decide ((f : Int) < 0) = false := decide_eq_false (by omega)
  have h2 : decide (l.length < f) = false := decide_eq_false (by omega)
  have hZ := Lib.hid hk
  clear hk
  have h3 : decide ((30 : Int) < (k : Int)) = true := decide_eq_true (by omega)
  clear h
  go_enter Try.func72, Try.ntmps72
  go_upto_region 1 with (fail)
  refine wp_world (F := fun W => Row W w.heap.size 43 (bcs A L.length c (l.length : Int)) ∧ Row W (w.heap.size + 1) 25 (flt 0 0) ∧ Below w.heap.size w W)
    ⟨(Row.new _ _ _).alloc _, Row.newEq _ _ _ _ _ (by simp) rfl, ((Below.refl _ _).alloc (Nat.le_refl _) _).alloc (by simp) _⟩ ?_
  rintro W0 ⟨r0, r2, hb0⟩
  have hS0 := (hS.below hb0).wider hb0.size
  clear hS
  go_wp2_with (first
    | (refine wpList_load_row rfl 43 _ rfl w.heap.size rfl 43 (bcs A L.length c (l.length : Int)) (0, 0) _ r0b Try.underlying43 rfl (by rw [bcs_size]; exact cellsB) ?_)
    | (refine wpList_load_row rfl 43 _ rfl w.heap.size rfl 43 (bcs A L.length c (l.length : Int)) (0, 0) _ r0a Try.underlying43 rfl (by rw [bcs_size]; exact cellsB) ?_)
    | (refine wpList_load_row rfl 43 _ rfl w.heap.size rfl 43 (bcs A L.length c (l.length : Int)) (0, 0) _ r0 Try.underlying43 rfl (by rw [bcs_size]; exact cellsB) ?_)
    | (go_at_call 46; refine (valid_yes L l HT.out hl A c _ hS0).mono ?_; rintro e w1 ⟨rfl, hb1⟩; have r0a := r0.below hb1 r0.lt; have r2a := r2.below hb1 r2.lt; have hba := up_call hb0 hb1; have hSa := hS0.up hb1; have c1 : w1.cell? ⟨w.heap.size, 1, none⟩ = some (.int .i64 ((l.length : Int))) := (r0a.cell 1).trans rfl; clear hb1)
    | (go_at_call 75; refine (zeros_any L l HT.out hl A c f 31 k (by omega) hZ.out _ hSa).mono ?_; rintro e w2 ⟨rfl, hb2⟩; have r0b := r0a.below hb2 r0a.lt; have r2b := r2a.below hb2 r2a.lt; have hbb := up_call hba hb2; have hSb := hSa.up hb2; have c2 : w2.cell? ⟨w.heap.size, 1, none⟩ = some (.int .i64 (l.length : Int)) := (r0b.cell 1).trans rfl; clear hb2)
    | (refine wpList_store_row rfl 25 _ _ rfl (w.heap.size + 1) (flt 16 (-2)) rfl rfl 25 (flt 0 0) r2b (by rw [flt_size]; exact cellsF) rfl (all_one (flt_one _ _)) ?_))
  refine bodyPost_ret (results_tmp2_row Try.results72 _ _ _ _ (w.heap.size + 1) 25 (flt 16 (-2)) _ rfl rfl rfl (Row.row r2b _) Try.underlying25 rfl (by rw [flt_size]; exact cellsF)) rfl ⟨rfl, ?_⟩
  exact blw_row hbb (by omega) _

set_option maxRecDepth 100000 in
set_option maxHeartbeats 4000000 in
theorem readg_short (L : List UInt8) (l : List Bool) (hR : Rep L l) (hl : l.length ≤ 131072) (f k : Nat) (hf : f ≤ l.length) (hk : Zr l f 31 k) (h : k < 31) (hx : l.length < f + 2 * k + 1) (A : Option Addr) (c : Nat) (w : World) (hS : Sl w w.heap.size A L.length (bl L)) :
    Calls Try.prog 72 #[.agg (bcs A L.length c (l.length : Int)), .int .i64 f] w fun e w' => e = .returned (.tuple #[.int .i64 0, .int .i64 0, .agg (flt 15 (-2))]) ∧ Below w.heap.size w w' := by
  have HT := Lib.hid hR
  have h1 : decide ((f : Int) < 0) = false := decide_eq_false (by omega)
  have h2 : decide (l.length < f) = false := decide_eq_false (by omega)
  have hZ := Lib.hid hk
  clear hk
  have h3 : decide ((30 : Int) < (k : Int)) = false := decide_eq_false (by omega)
  have h4 : decide ((l.length : Int) < (f : Int) + 2 * (k : Int) + 1) = true := decide_eq_true (by omega)
  go_enter Try.func72, Try.ntmps72
  go_upto_region 1 with (fail)
  refine wp_world (F := fun W => Row W w.heap.size 43 (bcs A L.length c (l.length : Int)) ∧ Row W (w.heap.size + 1) 25 (flt 0 0) ∧ Below w.heap.size w W)
    ⟨(Row.new _ _ _).alloc _, Row.newEq _ _ _ _ _ (by simp) rfl, ((Below.refl _ _).alloc (Nat.le_refl _) _).alloc (by simp) _⟩ ?_
  rintro W0 ⟨r0, r2, hb0⟩
  have hS0 := (hS.below hb0).wider hb0.size
  clear hS
  go_wp2_with (first
    | (refine wpList_load_row rfl 43 _ rfl w.heap.size rfl 43 (bcs A L.length c (l.length : Int)) (0, 0) _ r0b Try.underlying43 rfl (by rw [bcs_size]; exact cellsB) ?_)
    | (refine wpList_load_row rfl 43 _ rfl w.heap.size rfl 43 (bcs A L.length c (l.length : Int)) (0, 0) _ r0a Try.underlying43 rfl (by rw [bcs_size]; exact cellsB) ?_)
    | (refine wpList_load_row rfl 43 _ rfl w.heap.size rfl 43 (bcs A L.length c (l.length : Int)) (0, 0) _ r0 Try.underlying43 rfl (by rw [bcs_size]; exact cellsB) ?_)
    | (go_at_call 46; refine (valid_yes L l HT.out hl A c _ hS0).mono ?_; rintro e w1 ⟨rfl, hb1⟩; have r0a := r0.below hb1 r0.lt; have r2a := r2.below hb1 r2.lt; have hba := up_call hb0 hb1; have hSa := hS0.up hb1; have c1 : w1.cell? ⟨w.heap.size, 1, none⟩ = some (.int .i64 ((l.length : Int))) := (r0a.cell 1).trans rfl; clear hb1)
    | (go_at_call 75; refine (zeros_any L l HT.out hl A c f 31 k (by omega) hZ.out _ hSa).mono ?_; rintro e w2 ⟨rfl, hb2⟩; have r0b := r0a.below hb2 r0a.lt; have r2b := r2a.below hb2 r2a.lt; have hbb := up_call hba hb2; have hSb := hSa.up hb2; have c2 : w2.cell? ⟨w.heap.size, 1, none⟩ = some (.int .i64 (l.length : Int)) := (r0b.cell 1).trans rfl; clear hb2)
    | (refine wpList_store_row rfl 25 _ _ rfl (w.heap.size + 1) (flt 15 (-2)) rfl rfl 25 (flt 0 0) r2b (by rw [flt_size]; exact cellsF) rfl (all_one (flt_one _ _)) ?_))
  refine bodyPost_ret (results_tmp2_row Try.results72 _ _ _ _ (w.heap.size + 1) 25 (flt 15 (-2)) _ rfl rfl rfl (Row.row r2b _) Try.underlying25 rfl (by rw [flt_size]; exact cellsF)) rfl ⟨rfl, ?_⟩
  exact blw_row hbb (by omega) _

set_option maxRecDepth 100000 in
set_option maxHeartbeats 4000000 in
theorem readg_ok (L : List UInt8) (l : List Bool) (hR : Rep L l) (hl : l.length ≤ 131072) (f k : Nat) (hf : f ≤ l.length) (hk : Zr l f 31 k) (h : k < 31) (hx : f + 2 * k + 1 ≤ l.length) (A : Option Addr) (c : Nat) (w : World) (hS : Sl w w.heap.size A L.length (bl L)) :
    Calls Try.prog 72 #[.agg (bcs A L.length c (l.length : Int)), .int .i64 f] w fun e w' => e = .returned (.tuple #[.int .i64 (numF (fun i => l.getD (f + k + i) false) (k + 1)), .int .i64 ((f + 2 * k + 1 : Nat) : Int), .agg (flt 0 0)]) ∧ Below w.heap.size w w' := by
  have HT := Lib.hid hR
  have h1 : decide ((f : Int) < 0) = false := decide_eq_false (by omega)
  have h2 : decide (l.length < f) = false := decide_eq_false (by omega)
  have hZ := Lib.hid hk
  clear hk
  have h3 : decide ((30 : Int) < (k : Int)) = false := decide_eq_false (by omega)
  have h4 : decide ((l.length : Int) < (f : Int) + 2 * (k : Int) + 1) = false := decide_eq_false (by omega)
  have hln := hR.len
  have hl1 : L.length ≤ 16384 := by omega
  have hl2 : l.length ≤ 8 * L.length := by omega
  clear hln
  go_enter Try.func72, Try.ntmps72
  go_upto_region 1 with (fail)
  refine wp_world (F := fun W => Row W w.heap.size 43 (bcs A L.length c (l.length : Int)) ∧ Row W (w.heap.size + 1) 25 (flt 0 0) ∧ Below w.heap.size w W)
    ⟨(Row.new _ _ _).alloc _, Row.newEq _ _ _ _ _ (by simp) rfl, ((Below.refl _ _).alloc (Nat.le_refl _) _).alloc (by simp) _⟩ ?_
  rintro W0 ⟨r0, r2, hb0⟩
  have hS0 := (hS.below hb0).wider hb0.size
  clear hS
  go_wp2_with (first
    | (refine wpList_load_row rfl 43 _ rfl w.heap.size rfl 43 (bcs A L.length c (l.length : Int)) (0, 0) _ r0b Try.underlying43 rfl (by rw [bcs_size]; exact cellsB) ?_)
    | (refine wpList_load_row rfl 43 _ rfl w.heap.size rfl 43 (bcs A L.length c (l.length : Int)) (0, 0) _ r0a Try.underlying43 rfl (by rw [bcs_size]; exact cellsB) ?_)
    | (refine wpList_load_row rfl 43 _ rfl w.heap.size rfl 43 (bcs A L.length c (l.length : Int)) (0, 0) _ r0 Try.underlying43 rfl (by rw [bcs_size]; exact cellsB) ?_)
    | (go_at_call 46; refine (valid_yes L l HT.out hl A c _ hS0).mono ?_; rintro e w1 ⟨rfl, hb1⟩; have r0a := r0.below hb1 r0.lt; have r2a := r2.below hb1 r2.lt; have hba := up_call hb0 hb1; have hSa := hS0.up hb1; have c1 : w1.cell? ⟨w.heap.size, 1, none⟩ = some (.int .i64 ((l.length : Int))) := (r0a.cell 1).trans rfl; clear hb1)
    | (go_at_call 75; refine (zeros_any L l HT.out hl A c f 31 k (by omega) hZ.out _ hSa).mono ?_; rintro e w2 ⟨rfl, hb2⟩; have r0b := r0a.below hb2 r0a.lt; have r2b := r2a.below hb2 r2a.lt; have hbb := up_call hba hb2; have hSb := hSa.up hb2; have c2 : w2.cell? ⟨w.heap.size, 1, none⟩ = some (.int .i64 (l.length : Int)) := (r0b.cell 1).trans rfl; clear hb2)
    | (go_at_call 71; refine (number_any L A c _ (f + k) (k + 1) (by omega) (by omega) hl1 _ hSb).mono ?_; rintro e w3 ⟨rfl, hb3⟩; have r2c := r2b.below hb3 r2b.lt; have hbc := up_call hbb hb3; clear hb3)
    | (refine wpList_store_row rfl 25 _ _ rfl (w.heap.size + 1) (flt 0 0) rfl rfl 25 (flt 0 0) r2c (by rw [flt_size]; exact cellsF) rfl (all_one (flt_one _ _)) ?_))
  refine bodyPost_ret (results_tmp2_row Try.results72 _ _ _ _ (w.heap.size + 1) 25 (flt 0 0) _ rfl rfl rfl (Row.row r2c _) Try.underlying25 rfl (by rw [flt_size]; exact cellsF)) rfl ⟨?_, ?_⟩
  · rw [numF_congr fun i _ => HT.out.2 (f + k + i)]
    rfl
  · exact blw_row hbc (by omega) _
end Go.Proofs.Ytahihgmlkcbfiaa
