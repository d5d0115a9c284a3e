/-
  The contracts of bits.Slice.
-/
import Derived.Test.YtbahkidkpbabdaaBRg
import Derived.Deep.DeepMust
import Derived.RegionTactic
import Derived.BigRegion
import Derived.Deep.RegionLaw
namespace Go.Proofs.Ytbahkidkpbabdaa
open Go.RowKit

/-- the bytes of a part, as far as they are made -/
def CutTo (L : List UInt8) (f t n i : Nat) (M : List UInt8) : Prop := M.length = n ∧ ∀ p, bt M p = (decide (p < 8 * i ∧ f + p < t) && bt L (f + p))
theorem CutTo.zero (L : List UInt8) (f t n : Nat) : CutTo L f t n 0 (List.replicate n 0) := ⟨List.length_replicate, fun p => by rw [bt_zeros, decide_eq_false (by omega)]; rfl⟩
/-- a byte of a part -/
def cutByte (L : List UInt8) (a m : Nat) : UInt8 := UInt8.ofNat (numF (fun i => bt L (a + i)) m * 2 ^ (8 - m))
theorem cutByte_nat (L : List UInt8) (a m : Nat) (hm : m ≤ 8) : (cutByte L a m).toNat = numF (fun i => bt L (a + i)) m * 2 ^ (8 - m) := by
  unfold cutByte
  rw [UInt8.toNat_ofNat']
  apply Nat.mod_eq_of_lt
  have h1 := numF_lt (fun i => bt L (a + i)) m
  have h2 : 2 ^ m * 2 ^ (8 - m) = 2 ^ 8 := by rw [← Nat.pow_add]; congr 1; omega
  rw [← h2]
  exact Nat.mul_lt_mul_of_pos_right h1 (Nat.two_pow_pos _)
theorem cutByte_bit (L : List UInt8) (a m q : Nat) (hm : m ≤ 8) (hq : q < 8) : (cutByte L a m).toNat.testBit (7 - q) = (decide (q < m) && bt L (a + q)) := by
  rw [cutByte_nat L a m hm, Nat.mul_comm, Nat.testBit_two_pow_mul, numF_testBit]
  by_cases h : q < m
  · rw [decide_eq_true (by omega : 7 - q ≥ 8 - m), decide_eq_true (by omega), decide_eq_true h, show m - 1 - (7 - q - (8 - m)) = q by omega]
    simp
  · rw [decide_eq_false (by omega : ¬ 7 - q ≥ 8 - m), decide_eq_false h]
    rfl
theorem CutTo.next {L M : List UInt8} {f t n i : Nat} (h : CutTo L f t n i M) (hi : i < n) (hn : f + 8 * i ≤ t) (m : Nat) (hm : m = min 8 (t - (f + 8 * i))) :
    CutTo L f t n (i + 1) (M.set i (cutByte L (f + 8 * i) m)) := by
  refine ⟨by rw [List.length_set, h.1], fun p => ?_⟩
  rw [bt_set _ _ _ (by rw [h.1]; exact hi)]
  by_cases hp : p / 8 = i
  · rw [if_pos hp, cutByte_bit _ _ _ _ (by omega) (by omega), show f + 8 * i + p % 8 = f + p by omega]
    congr 1
    exact decide_eq_decide.2 (by omega)
  · rw [if_neg hp, h.2]
    congr 1
    exact decide_eq_decide.2 (by omega)
theorem CutTo.rep {L M : List UInt8} {l : List Bool} {f t n : Nat} (hR : Rep L l) (ht : t ≤ l.length) (hf : f ≤ t) (hn : n = (t - f + 7) / 8) (h : CutTo L f t n n M) : Rep M ((l.drop f).take (t - f)) := by
  have hl : ((l.drop f).take (t - f)).length = t - f := by rw [List.length_take, List.length_drop]; omega
  refine ⟨by rw [h.1, hl]; exact hn, fun p => ?_⟩
  rw [h.2, hR.2, List.getD_eq_getElem?_getD, List.getD_eq_getElem?_getD, List.getElem?_take]
  by_cases hp : p < t - f
  · rw [decide_eq_true (by omega), if_pos hp, List.getElem?_drop]
    simp
  · rw [decide_eq_false (by omega), if_neg hp]
    rfl
/-- the byte as the walk computes it -/
theorem cut_byte (L : List UInt8) (a m : Nat) (hm : m ≤ 8) : ((numF (fun i => bt L (a + i)) m : Nat) : Int) * 2 ^ (8 - m) % 256 = ((cutByte L a m).toNat : Int) := by
  have h := cutByte_nat L a m hm
  have h2 := (cutByte L a m).toNat_lt
  rw [h] at h2 ⊢
  rw [show (2 : Int) ^ (8 - m) = ((2 ^ (8 - m) : Nat) : Int) by rw [Int.natCast_pow]; rfl, ← Int.natCast_mul]
  generalize numF (fun i => bt L (a + i)) m * 2 ^ (8 - m) = z at h2 ⊢
  omega
theorem number_m (L : List UInt8) (A : Option Addr) (c : Nat) (k : Int) (f : Nat) (m : Nat) (n : Nat) (hn : n = numF (fun i => bt L (f + i)) m) (hm : m ≤ 60) (hf : f + m ≤ 8 * L.length) (hl : L.length ≤ 16384) (w : World) (hS : Sl w w.heap.size A L.length (bl L)) :
    Calls Try.prog 39 #[.agg (bcs A L.length c k), .int .i64 f, .int .i64 m] w fun e w' => e = .returned (.int .i64 n) ∧ Below w.heap.size w w' := by
  subst hn
  exact number_any L A c k f m hm hf hl w hS

set_option maxRecDepth 100000 in
set_option maxHeartbeats 4000000 in
theorem slice_form (L : List UInt8) (k : Int) (hG : ¬ Good L k) (f t : Int) (A : Option Addr) (c : Nat) (w : World) (hS : Sl w w.heap.size A L.length (bl L)) :
    Calls Try.prog 26 #[.agg (bcs A L.length c k), .int .i64 f, .int .i64 t] w fun e w' => e = .returned (.tuple #[.agg (bcs none 0 0 0), .agg (flt 6 (-1))]) ∧ Below w.heap.size w w' := by
  skip
  go_enter Try.func26, Try.ntmps26
  go_upto_region 1 with (fail)
  refine wp_world (F := fun W => Row W w.heap.size 24 (bcs A L.length c k) ∧ Row W (w.heap.size + 1) 24 (bcs none 0 0 0) ∧ Row W (w.heap.size + 1 + 1) 26 (flt 0 0) ∧ Below w.heap.size w W)
    ⟨((Row.new _ _ _).alloc _).alloc _, (Row.newEq _ _ _ _ _ (by simp) rfl).alloc _, Row.newEq _ _ _ _ _ (by simp) rfl, (((Below.refl _ _).alloc (Nat.le_refl _) _).alloc (by simp) _).alloc (by simp; omega) _⟩ ?_
  rintro W0 ⟨r0, r1, r2, hb0⟩
  have hS0 := (hS.below hb0).wider hb0.size
  clear hS
  go_wp2_with (first
      | (refine wpList_load_row rfl 24 _ rfl w.heap.size rfl 24 (bcs A L.length c k) (0, 0) _ r0a Try.underlying24 rfl (by rw [bcs_size]; exact cellsB) ?_)
      | (refine wpList_load_row rfl 24 _ rfl w.heap.size rfl 24 (bcs A L.length c k) (0, 0) _ r0 Try.underlying24 rfl (by rw [bcs_size]; exact cellsB) ?_)
      | (go_at_call 15; refine (valid_no L k hG A c _ hS0).mono ?_; rintro e w1 ⟨rfl, hb1⟩; have r0a := r0.below hb1 r0.lt; have r1a := r1.below hb1 r1.lt; have r2a := r2.below hb1 r2.lt; have hba := up_call hb0 hb1; have hSa := hS0.up hb1; have c1 : w1.cell? ⟨w.heap.size, 1, none⟩ = some (.int .i64 (k)) := (r0a.cell 1).trans rfl; clear hb1)
      | (go_at_call 36; refine (bfail_any 6 (-1) _).mono ?_; rintro e w2 ⟨rfl, hb2⟩; have r1b := r1a.below hb2 r1a.lt; have r2b := r2a.below hb2 r2a.lt; have hbb := up_call hba hb2; clear hb2)
      | (refine wpList_store_row rfl 24 _ _ rfl (w.heap.size + 1) (bcs none 0 0 0) rfl rfl 24 (bcs none 0 0 0) r1b (by rw [bcs_size]; exact cellsB) rfl (all_one (bcs_one _ _ _ _)) ?_)
      | (refine wpList_store_row rfl 26 _ _ rfl (w.heap.size + 1 + 1) (flt 6 (-1)) rfl rfl 26 (flt 0 0) (r2b.rowFar (by omega) _) (by rw [flt_size]; exact cellsF) rfl (all_one (flt_one _ _)) ?_))
  refine bodyPost_ret (results_rows Try.results26 _ _ (w.heap.size + 1) (w.heap.size + 1 + 1) 24 26 (bcs none 0 0 0) (flt 6 (-1)) _ _ rfl rfl ((Row.row r1b _).rowFar (by omega) _) (Row.row (r2b.rowFar (by omega) _) _) Try.underlying24 rfl (by rw [bcs_size]; exact cellsB) Try.underlying26 rfl (by rw [flt_size]; exact cellsF)) rfl ⟨rfl, ?_⟩
  exact blw_row (blw_row hbb (by omega) _) (by omega) _

set_option maxRecDepth 100000 in
set_option maxHeartbeats 4000000 in
theorem slice_neg (L : List UInt8) (l : List Bool) (hR : Rep L l) (hl : l.length ≤ 131072) (f t : Int) (hf : f < 0) (A : Option Addr) (c : Nat) (w : World) (hS : Sl w w.heap.size A L.length (bl L)) :
    Calls Try.prog 26 #[.agg (bcs A L.length c (l.length : Int)), .int .i64 f, .int .i64 t] w fun e w' => e = .returned (.tuple #[.agg (bcs none 0 0 0), .agg (flt 4 (-2))]) ∧ Below w.heap.size w w' := by
  have h1 : decide (f < 0) = true := decide_eq_true hf
  go_enter Try.func26, Try.ntmps26
  go_upto_region 1 with (fail)
  refine wp_world (F := fun W => Row W w.heap.size 24 (bcs A L.length c (l.length : Int)) ∧ Row W (w.heap.size + 1) 24 (bcs none 0 0 0) ∧ Row W (w.heap.size + 1 + 1) 26 (flt 0 0) ∧ Below w.heap.size w W)
    ⟨((Row.new _ _ _).alloc _).alloc _, (Row.newEq _ _ _ _ _ (by simp) rfl).alloc _, Row.newEq _ _ _ _ _ (by simp) rfl, (((Below.refl _ _).alloc (Nat.le_refl _) _).alloc (by simp) _).alloc (by simp; omega) _⟩ ?_
  rintro W0 ⟨r0, r1, r2, hb0⟩
  have hS0 := (hS.below hb0).wider hb0.size
  clear hS
  go_wp2_with (first
      | (refine wpList_load_row rfl 24 _ rfl w.heap.size rfl 24 (bcs A L.length c (l.length : Int)) (0, 0) _ r0a Try.underlying24 rfl (by rw [bcs_size]; exact cellsB) ?_)
      | (refine wpList_load_row rfl 24 _ rfl w.heap.size rfl 24 (bcs A L.length c (l.length : Int)) (0, 0) _ r0 Try.underlying24 rfl (by rw [bcs_size]; exact cellsB) ?_)
      | (go_at_call 15; refine (valid_yes L l hR hl A c _ hS0).mono ?_; rintro e w1 ⟨rfl, hb1⟩; have r0a := r0.below hb1 r0.lt; have r1a := r1.below hb1 r1.lt; have r2a := r2.below hb1 r2.lt; have hba := up_call hb0 hb1; have hSa := hS0.up hb1; have c1 : w1.cell? ⟨w.heap.size, 1, none⟩ = some (.int .i64 ((l.length : Int))) := (r0a.cell 1).trans rfl; clear hb1)
      | (go_at_call 36; refine (bfail_any 4 (-2) _).mono ?_; rintro e w2 ⟨rfl, hb2⟩; have r1b := r1a.below hb2 r1a.lt; have r2b := r2a.below hb2 r2a.lt; have hbb := up_call hba hb2; clear hb2)
      | (refine wpList_store_row rfl 24 _ _ rfl (w.heap.size + 1) (bcs none 0 0 0) rfl rfl 24 (bcs none 0 0 0) r1b (by rw [bcs_size]; exact cellsB) rfl (all_one (bcs_one _ _ _ _)) ?_)
      | (refine wpList_store_row rfl 26 _ _ rfl (w.heap.size + 1 + 1) (flt 4 (-2)) rfl rfl 26 (flt 0 0) (r2b.rowFar (by omega) _) (by rw [flt_size]; exact cellsF) rfl (all_one (flt_one _ _)) ?_))
  refine bodyPost_ret (results_rows Try.results26 _ _ (w.heap.size + 1) (w.heap.size + 1 + 1) 24 26 (bcs none 0 0 0) (flt 4 (-2)) _ _ rfl rfl ((Row.row r1b _).rowFar (by omega) _) (Row.row (r2b.rowFar (by omega) _) _) Try.underlying24 rfl (by rw [bcs_size]; exact cellsB) Try.underlying26 rfl (by rw [flt_size]; exact cellsF)) rfl ⟨rfl, ?_⟩
  exact blw_row (blw_row hbb (by omega) _) (by omega) _

set_option maxRecDepth 100000 in
set_option maxHeartbeats 4000000 in
theorem slice_far (L : List UInt8) (l : List Bool) (hR : Rep L l) (hl : l.length ≤ 131072) (f t : Int) (hf : (l.length : Int) < f) (A : Option Addr) (c : Nat) (w : World) (hS : Sl w w.heap.size A L.length (bl L)) :
    Calls Try.prog 26 #[.agg (bcs A L.length c (l.length : Int)), .int .i64 f, .int .i64 t] w fun e w' => e = .returned (.tuple #[.agg (bcs none 0 0 0), .agg (flt 4 (-2))]) ∧ Below w.heap.size w w' := by
  have h1 : decide (f < 0) = false := decide_eq_false (by omega)
  have h2 : decide ((l.length : Int) < f) = true := decide_eq_true hf
  go_enter Try.func26, Try.ntmps26
  go_upto_region 1 with (fail)
  refine wp_world (F := fun W => Row W w.heap.size 24 (bcs A L.length c (l.length : Int)) ∧ Row W (w.heap.size + 1) 24 (bcs none 0 0 0) ∧ Row W (w.heap.size + 1 + 1) 26 (flt 0 0) ∧ Below w.heap.size w W)
    ⟨((Row.new _ _ _).alloc _).alloc _, (Row.newEq _ _ _ _ _ (by simp) rfl).alloc _, Row.newEq _ _ _ _ _ (by simp) rfl, (((Below.refl _ _).alloc (Nat.le_refl _) _).alloc (by simp) _).alloc (by simp; omega) _⟩ ?_
  rintro W0 ⟨r0, r1, r2, hb0⟩
  have hS0 := (hS.below hb0).wider hb0.size
  clear hS
  go_wp2_with (first
      | (refine wpList_load_row rfl 24 _ rfl w.heap.size rfl 24 (bcs A L.length c (l.length : Int)) (0, 0) _ r0a Try.underlying24 rfl (by rw [bcs_size]; exact cellsB) ?_)
      | (refine wpList_load_row rfl 24 _ rfl w.heap.size rfl 24 (bcs A L.length c (l.length : Int)) (0, 0) _ r0 Try.underlying24 rfl (by rw [bcs_size]; exact cellsB) ?_)
      | (go_at_call 15; refine (valid_yes L l hR hl A c _ hS0).mono ?_; rintro e w1 ⟨rfl, hb1⟩; have r0a := r0.below hb1 r0.lt; have r1a := r1.below hb1 r1.lt; have r2a := r2.below hb1 r2.lt; have hba := up_call hb0 hb1; have hSa := hS0.up hb1; have c1 : w1.cell? ⟨w.heap.size, 1, none⟩ = some (.int .i64 ((l.length : Int))) := (r0a.cell 1).trans rfl; clear hb1)
      | (go_at_call 36; refine (bfail_any 4 (-2) _).mono ?_; rintro e w2 ⟨rfl, hb2⟩; have r1b := r1a.below hb2 r1a.lt; have r2b := r2a.below hb2 r2a.lt; have hbb := up_call hba hb2; clear hb2)
      | (refine wpList_store_row rfl 24 _ _ rfl (w.heap.size + 1) (bcs none 0 0 0) rfl rfl 24 (bcs none 0 0 0) r1b (by rw [bcs_size]; exact cellsB) rfl (all_one (bcs_one _ _ _ _)) ?_)
      | (refine wpList_store_row rfl 26 _ _ rfl (w.heap.size + 1 + 1) (flt 4 (-2)) rfl rfl 26 (flt 0 0) (r2b.rowFar (by omega) _) (by rw [flt_size]; exact cellsF) rfl (all_one (flt_one _ _)) ?_))
  refine bodyPost_ret (results_rows Try.results26 _ _ (w.heap.size + 1) (w.heap.size + 1 + 1) 24 26 (bcs none 0 0 0) (flt 4 (-2)) _ _ rfl rfl ((Row.row r1b _).rowFar (by omega) _) (Row.row (r2b.rowFar (by omega) _) _) Try.underlying24 rfl (by rw [bcs_size]; exact cellsB) Try.underlying26 rfl (by rw [flt_size]; exact cellsF)) rfl ⟨rfl, ?_⟩
  exact blw_row (blw_row hbb (by omega) _) (by omega) _

set_option maxRecDepth 100000 in
set_option maxHeartbeats 4000000 in
theorem slice_turned (L : List UInt8) (l : List Bool) (hR : Rep L l) (hl : l.length ≤ 131072) (f : Nat) (t : Int) (hf : f ≤ l.length) (ht : t < f) (A : Option Addr) (c : Nat) (w : World) (hS : Sl w w.heap.size A L.length (bl L)) :
    Calls Try.prog 26 #[.agg (bcs A L.length c (l.length : Int)), .int .i64 f, .int .i64 t] w fun e w' => e = .returned (.tuple #[.agg (bcs none 0 0 0), .agg (flt 4 (-3))]) ∧ Below w.heap.size w w' := by
  have h1 : decide ((f : Int) < 0) = false := decide_eq_false (by omega)
  have h2 : decide (l.length < f) = false := decide_eq_false (by omega)
  have h3 : decide (t < (f : Int)) = true := decide_eq_true ht
  go_enter Try.func26, Try.ntmps26
  go_upto_region 1 with (fail)
  refine wp_world (F := fun W => Row W w.heap.size 24 (bcs A L.length c (l.length : Int)) ∧ Row W (w.heap.size + 1) 24 (bcs none 0 0 0) ∧ Row W (w.heap.size + 1 + 1) 26 (flt 0 0) ∧ Below w.heap.size w W)
    ⟨((Row.new _ _ _).alloc _).alloc _, (Row.newEq _ _ _ _ _ (by simp) rfl).alloc _, Row.newEq _ _ _ _ _ (by simp) rfl, (((Below.refl _ _).alloc (Nat.le_refl _) _).alloc (by simp) _).alloc (by simp; omega) _⟩ ?_
  rintro W0 ⟨r0, r1, r2, hb0⟩
  have hS0 := (hS.below hb0).wider hb0.size
  clear hS
  go_wp2_with (first
      | (refine wpList_load_row rfl 24 _ rfl w.heap.size rfl 24 (bcs A L.length c (l.length : Int)) (0, 0) _ r0a Try.underlying24 rfl (by rw [bcs_size]; exact cellsB) ?_)
      | (refine wpList_load_row rfl 24 _ rfl w.heap.size rfl 24 (bcs A L.length c (l.length : Int)) (0, 0) _ r0 Try.underlying24 rfl (by rw [bcs_size]; exact cellsB) ?_)
      | (go_at_call 15; refine (valid_yes L l hR hl A c _ hS0).mono ?_; rintro e w1 ⟨rfl, hb1⟩; have r0a := r0.below hb1 r0.lt; have r1a := r1.below hb1 r1.lt; have r2a := r2.below hb1 r2.lt; have hba := up_call hb0 hb1; have hSa := hS0.up hb1; have c1 : w1.cell? ⟨w.heap.size, 1, none⟩ = some (.int .i64 ((l.length : Int))) := (r0a.cell 1).trans rfl; clear hb1)
      | (go_at_call 36; refine (bfail_any 4 (-3) _).mono ?_; rintro e w2 ⟨rfl, hb2⟩; have r1b := r1a.below hb2 r1a.lt; have r2b := r2a.below hb2 r2a.lt; have hbb := up_call hba hb2; clear hb2)
      | (refine wpList_store_row rfl 24 _ _ rfl (w.heap.size + 1) (bcs none 0 0 0) rfl rfl 24 (bcs none 0 0 0) r1b (by rw [bcs_size]; exact cellsB) rfl (all_one (bcs_one _ _ _ _)) ?_)
      | (refine wpList_store_row rfl 26 _ _ rfl (w.heap.size + 1 + 1) (flt 4 (-3)) rfl rfl 26 (flt 0 0) (r2b.rowFar (by omega) _) (by rw [flt_size]; exact cellsF) rfl (all_one (flt_one _ _)) ?_))
  refine bodyPost_ret (results_rows Try.results26 _ _ (w.heap.size + 1) (w.heap.size + 1 + 1) 24 26 (bcs none 0 0 0) (flt 4 (-3)) _ _ rfl rfl ((Row.row r1b _).rowFar (by omega) _) (Row.row (r2b.rowFar (by omega) _) _) Try.underlying24 rfl (by rw [bcs_size]; exact cellsB) Try.underlying26 rfl (by rw [flt_size]; exact cellsF)) rfl ⟨rfl, ?_⟩
  exact blw_row (blw_row hbb (by omega) _) (by omega) _

set_option maxRecDepth 100000 in
set_option maxHeartbeats 4000000 in
theorem slice_wide (L : List UInt8) (l : List Bool) (hR : Rep L l) (hl : l.length ≤ 131072) (f : Nat) (t : Int) (hf : f ≤ l.length) (ht : (l.length : Int) < t) (A : Option Addr) (c : Nat) (w : World) (hS : Sl w w.heap.size A L.length (bl L)) :
    Calls Try.prog 26 #[.agg (bcs A L.length c (l.length : Int)), .int .i64 f, .int .i64 t] w fun e w' => e = .returned (.tuple #[.agg (bcs none 0 0 0), .agg (flt 4 (-3))]) ∧ Below w.heap.size w w' := by
  have h1 : decide ((f : Int) < 0) = false := decide_eq_false (by omega)
  have h2 : decide (l.length < f) = false := decide_eq_false (by omega)
  have h3 : decide (t < (f : Int)) = false := decide_eq_false (by omega)
  have h4 : decide ((l.length : Int) < t) = true := decide_eq_true ht
  go_enter Try.func26, Try.ntmps26
  go_upto_region 1 with (fail)
  refine wp_world (F := fun W => Row W w.heap.size 24 (bcs A L.length c (l.length : Int)) ∧ Row W (w.heap.size + 1) 24 (bcs none 0 0 0) ∧ Row W (w.heap.size + 1 + 1) 26 (flt 0 0) ∧ Below w.heap.size w W)
    ⟨((Row.new _ _ _).alloc _).alloc _, (Row.newEq _ _ _ _ _ (by simp) rfl).alloc _, Row.newEq _ _ _ _ _ (by simp) rfl, (((Below.refl _ _).alloc (Nat.le_refl _) _).alloc (by simp) _).alloc (by simp; omega) _⟩ ?_
  rintro W0 ⟨r0, r1, r2, hb0⟩
  have hS0 := (hS.below hb0).wider hb0.size
  clear hS
  go_wp2_with (first
      | (refine wpList_load_row rfl 24 _ rfl w.heap.size rfl 24 (bcs A L.length c (l.length : Int)) (0, 0) _ r0a Try.underlying24 rfl (by rw [bcs_size]; exact cellsB) ?_)
      | (refine wpList_load_row rfl 24 _ rfl w.heap.size rfl 24 (bcs A L.length c (l.length : Int)) (0, 0) _ r0 Try.underlying24 rfl (by rw [bcs_size]; exact cellsB) ?_)
      | (go_at_call 15; refine (valid_yes L l hR hl A c _ hS0).mono ?_; rintro e w1 ⟨rfl, hb1⟩; have r0a := r0.below hb1 r0.lt; have r1a := r1.below hb1 r1.lt; have r2a := r2.below hb1 r2.lt; have hba := up_call hb0 hb1; have hSa := hS0.up hb1; have c1 : w1.cell? ⟨w.heap.size, 1, none⟩ = some (.int .i64 ((l.length : Int))) := (r0a.cell 1).trans rfl; clear hb1)
      | (go_at_call 36; refine (bfail_any 4 (-3) _).mono ?_; rintro e w2 ⟨rfl, hb2⟩; have r1b := r1a.below hb2 r1a.lt; have r2b := r2a.below hb2 r2a.lt; have hbb := up_call hba hb2; clear hb2)
      | (refine wpList_store_row rfl 24 _ _ rfl (w.heap.size + 1) (bcs none 0 0 0) rfl rfl 24 (bcs none 0 0 0) r1b (by rw [bcs_size]; exact cellsB) rfl (all_one (bcs_one _ _ _ _)) ?_)
      | (refine wpList_store_row rfl 26 _ _ rfl (w.heap.size + 1 + 1) (flt 4 (-3)) rfl rfl 26 (flt 0 0) (r2b.rowFar (by omega) _) (by rw [flt_size]; exact cellsF) rfl (all_one (flt_one _ _)) ?_))
  refine bodyPost_ret (results_rows Try.results26 _ _ (w.heap.size + 1) (w.heap.size + 1 + 1) 24 26 (bcs none 0 0 0) (flt 4 (-3)) _ _ rfl rfl ((Row.row r1b _).rowFar (by omega) _) (Row.row (r2b.rowFar (by omega) _) _) Try.underlying24 rfl (by rw [bcs_size]; exact cellsB) Try.underlying26 rfl (by rw [flt_size]; exact cellsF)) rfl ⟨rfl, ?_⟩
  exact blw_row (blw_row hbb (by omega) _) (by omega) _
end Go.Proofs.Ytbahkidkpbabdaa
