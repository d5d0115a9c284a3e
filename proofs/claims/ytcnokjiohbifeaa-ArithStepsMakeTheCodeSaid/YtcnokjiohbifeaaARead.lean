/-
  The contract of package arith's read: the value is doubled and increased by the next bit of a code. The contracts of arith.Open.
-/
import Derived.Test.YtcnokjiohbifeaaAEnc
import Derived.Test.YtcnokjiohbifeaaBRead
namespace Go.Proofs.Ytcnokjiohbifeaa
open Go.RowKit

theorem read_bit (l : List Bool) (hl : l.length ≤ 131072) (i : Nat) (hi : i < l.length) (x : Int) (hx : x = (((l.getD i false).toNat : Nat) : Int)) (A : Option Addr) (c : Nat) (w : World) (hS : Sl w w.heap.size A (pack l).length (bl (pack l))) :
    Calls Try.prog 64 #[.agg (bcs A (pack l).length c l.length), .int .i64 i, .int .i64 1] w fun e w' => e = .returned (.tuple #[.int .i64 x, .agg (flt 0 0)]) ∧ Below w.heap.size w w' := by
  subst hx
  have h := read_ok (pack l) l (pack_rep l) hl i 1 (by omega) (by omega) A c w hS
  rw [show numF (fun j => l.getD (i + j) false) 1 = (l.getD i false).toNat by simp [numF]] at h
  exact h

/-- a slice of bytes, where a cell of a block without bytes is written -/
theorem Sl.farCell {w : World} {n g : Nat} {A : Option Addr} {t : TypeId} {cs : Array Value} {L : List UInt8} (h : Sl w w.heap.size A n (bl L)) (r : Row w g t cs) (hx : NoU8 cs) (o : Nat) (u : Value) : Sl (w.setCell ⟨g, o, none⟩ u) (w.setCell ⟨g, o, none⟩ u).heap.size A n (bl L) := by
  refine ⟨h.1, fun hn => ?_⟩
  obtain ⟨ad, e, hb, hc⟩ := h.2 hn
  refine ⟨ad, e, by simpa using hb, fun j y hu => ?_⟩
  have hcj := hc j y hu
  by_cases hg : (ad.add j).block = g
  · exfalso
    have hu2 : ∃ z, y = .int .u8 z := by
      have hm := List.mem_of_getElem? hu
      unfold bl at hm
      obtain ⟨x, _, rfl⟩ := List.mem_map.1 hm
      exact ⟨_, rfl⟩
    obtain ⟨z, rfl⟩ := hu2
    unfold World.cell? at hcj
    rw [hg, show w.heap[g]? = some (.cells cs t (0, 0)) from r] at hcj
    simp only at hcj
    split at hcj
    · cases hcj
    · exact hx z (Array.mem_of_getElem? hcj)
  · rw [← hcj]
    unfold World.cell?
    rw [show (w.setCell ⟨g, o, none⟩ u).heap[(ad.add j).block]? = w.heap[(ad.add j).block]? from heap_setCell_other w ⟨g, o, none⟩ _ u hg]

set_option maxRecDepth 100000 in
set_option maxHeartbeats 4000000 in
theorem aread_any (l : List Bool) (hl : l.length ≤ 131072) (a b : Int) (v i : Nat) (hv : v ≤ 100000) (hi : i ≤ 1000000) (v2 : Nat) (hv2 : v2 = 2 * v + (l.getD i false).toNat) (A : Option Addr) (c : Nat) (w : World) (hS : Sl w w.heap.size A (pack l).length (bl (pack l))) :
    Calls Try.prog 48 #[.agg (dcs a b v i), .agg (bcs A (pack l).length c l.length)] w fun e w' => e = .returned (.agg (dcs a b v2 (i + 1 : Nat))) ∧ Below w.heap.size w w' := by
  obtain ⟨x, hx⟩ : ∃ x, x = (l.getD i false).toNat := ⟨_, rfl⟩
  have hx1 : x < 2 := by rw [hx]; exact bool_lt _
  obtain ⟨n, hn⟩ : ∃ n, n = l.length := ⟨_, rfl⟩
  have HRD : Hid (i < n → ∀ w : World, Sl w w.heap.size A (pack l).length (bl (pack l)) → Calls Try.prog 64 #[.agg (bcs A (pack l).length c n), .int .i64 i, .int .i64 1] w fun e w' => e = .returned (.tuple #[.int .i64 x, .agg (flt 0 0)]) ∧ Below w.heap.size w w') :=
    Lib.hid (fun h w hS => by rw [hn]; exact read_bit l hl i (by omega) x (by rw [hx]) A c w hS)
  have hx0 : ¬ i < n → x = 0 := by
    intro h
    rw [hx, List.getD_eq_getElem?_getD, List.getElem?_eq_none (by omega)]
    rfl
  rw [← hx] at hv2
  rw [← hn]
  have hv3 : (v2 : Int) = (v : Int) * 2 + (x : Int) := by omega
  rw [hv3]
  have HX0 := Lib.hid hx0
  clear hx hx0 hn hl hv2 hv3
  go_enter Try.func48, Try.ntmps48
  go_upto_region 1 with (fail)
  refine wp_world (F := fun W => Row W w.heap.size 47 (dcs a b v i) ∧ Row W (w.heap.size + 1) 26 (bcs A (pack l).length c n) ∧ Row W (w.heap.size + 2) 47 (dcs 0 0 0 0) ∧ Sl W W.heap.size A (pack l).length (bl (pack l)) ∧ Below w.heap.size w W)
    ⟨((Row.newEq _ _ _ _ _ rfl rfl).alloc _).alloc _, (Row.newEq _ _ _ _ _ (by simp) rfl).alloc _, Row.newEq _ _ _ _ _ (by simp) rfl, hS.up ((((Below.refl _ _).alloc (Nat.le_refl _) _).alloc (by simp) _).alloc (by simp; omega) _), (((Below.refl _ _).alloc (Nat.le_refl _) _).alloc (by simp) _).alloc (by simp; omega) _⟩ ?_
  clear hS
  rintro W0 ⟨r0, r1, r2, hS, hb⟩
  have e2 : W0.cell? ⟨w.heap.size, 2, none⟩ = some (.int .i64 v) := (r0.cell 2).trans rfl
  have f2 := r0.free 2
  go_upto_region 2 with fail
  refine wp_world (F := fun W => Row W w.heap.size 47 (dcs a b ((v : Int) * 2) i) ∧ Row W (w.heap.size + 1) 26 (bcs A (pack l).length c n) ∧ Row W (w.heap.size + 2) 47 (dcs 0 0 0 0) ∧ Sl W W.heap.size A (pack l).length (bl (pack l)) ∧ Below w.heap.size w W)
    ⟨(by have := r0.put 2 (.int .i64 ((v : Int) * 2)); exact this), r1.far (by simp) _, r2.far (by simp) _, hS.farCell r0 (no_dcs _ _ _ _) _ _, hb.setCell (Nat.le_refl _) _⟩ ?_
  clear e2 f2 r0 r1 r2 hS hb W0
  rintro W0 ⟨r0, r1, r2, hS, hb⟩
  have e3 : W0.cell? ⟨w.heap.size, 3, none⟩ = some (.int .i64 i) := (r0.cell 3).trans rfl
  have e1 : W0.cell? ⟨w.heap.size + 1, 1, none⟩ = some (.int .i64 n) := (r1.cell 1).trans rfl
  by_cases hin : i < n
  · have hrd := HRD.out hin
    go_upto_region 3 with fail
    go_upto_region 4 with (first
      | (refine wpList_load_row rfl 26 _ rfl (w.heap.size + 1) rfl 26 (bcs A (pack l).length c n) (0, 0) _ r1 Try.underlying26 rfl (by rw [bcs_size]; exact cellsB) ?_)
      | (go_at_call 64; refine (hrd _ hS).mono ?_; rintro e w1 ⟨rfl, hb1⟩)
      | (refine wpList_store_row rfl 28 _ _ rfl w1.heap.size (flt 0 0) rfl rfl 28 (flt 0 0) (Row.newEq _ _ _ _ _ rfl rfl) (by rw [flt_size]; exact cellsF) rfl (all_one (flt_one _ _)) ?_))
    have hk1 := blw_new1 w1 (.cells #[.int .i64 0, .int .i64 0] 28) (flt 0 0)
    have hk0 := up_call hb1 hk1
    refine wp_world (F := fun W => Row W w.heap.size 47 (dcs a b ((v : Int) * 2) i) ∧ Row W (w.heap.size + 2) 47 (dcs 0 0 0 0) ∧ Below w.heap.size w W)
      ⟨r0.below hk0 r0.lt, r2.below hk0 r2.lt, up_call hb hk0⟩ ?_
    generalize w1.heap.size = g6
    clear hk1 hk0 hb1 e3 e1 r0 r1 r2 hS hb W0 w1
    rintro W0 ⟨r0, r2, hb⟩
    have e2 : W0.cell? ⟨w.heap.size, 2, none⟩ = some (.int .i64 ((v : Int) * 2)) := (r0.cell 2).trans rfl
    have f2 := r0.free 2
    go_upto_region 5 with fail
    refine wp_world (F := fun W => Row W w.heap.size 47 (dcs a b ((v : Int) * 2 + (x : Int)) i) ∧ Row W (w.heap.size + 2) 47 (dcs 0 0 0 0) ∧ Below w.heap.size w W)
      ⟨(by have := r0.put 2 (.int .i64 ((v : Int) * 2 + (x : Int))); exact this), r2.far (by simp) _, hb.setCell (Nat.le_refl _) _⟩ ?_
    clear e2 f2 r0 r2 hb W0
    rintro W0 ⟨r0, r2, hb⟩
    have e3b : W0.cell? ⟨w.heap.size, 3, none⟩ = some (.int .i64 i) := (r0.cell 3).trans rfl
    have f3 := r0.free 3
    go_upto_region 6 with fail
    refine wp_world (F := fun W => Row W w.heap.size 47 (dcs a b ((v : Int) * 2 + (x : Int)) (i + 1 : Nat)) ∧ Row W (w.heap.size + 2) 47 (dcs 0 0 0 0) ∧ Below w.heap.size w W)
      ⟨(by have := r0.put 3 (.int .i64 (((i + 1 : Nat) : Int))); exact this), r2.far (by simp) _, hb.setCell (Nat.le_refl _) _⟩ ?_
    clear e3b f3 r0 r2 hb
    rintro W9 ⟨r0, r2, hb⟩
    go_wp2_with (first
      | (refine wpList_load_row rfl 47 _ rfl w.heap.size rfl 47 (dcs a b ((v : Int) * 2 + (x : Int)) (i + 1 : Nat)) (0, 0) _ r0 Try.underlying47 rfl (by rw [dcs_size]; exact cellsDc) ?_)
      | (refine wpList_store_row rfl 47 _ _ rfl (w.heap.size + 2) (dcs a b ((v : Int) * 2 + (x : Int)) (i + 1 : Nat)) rfl rfl 47 (dcs 0 0 0 0) r2 (by rw [dcs_size]; exact cellsDc) rfl (all_one (dcs_one _ _ _ _)) ?_))
    refine bodyPost_ret (results_row Try.results48 _ _ (w.heap.size + 2) 47 (dcs a b ((v : Int) * 2 + (x : Int)) (i + 1 : Nat)) _ rfl (Row.row r2 _) Try.underlying47 rfl (by rw [dcs_size]; exact cellsDc)) rfl ⟨rfl, ?_⟩
    exact blw_row hb (by omega) _
  · have hx00 : (x : Int) = 0 := by have := HX0.out hin; omega
    have HX00 := Lib.hid hx00
    clear hx00 r1
    go_upto_region 5 with fail
    have e3b : W0.cell? ⟨w.heap.size, 3, none⟩ = some (.int .i64 i) := (r0.cell 3).trans rfl
    have f3 := r0.free 3
    go_upto_region 6 with fail
    refine wp_world (F := fun W => Row W w.heap.size 47 (dcs a b ((v : Int) * 2) (i + 1 : Nat)) ∧ Row W (w.heap.size + 2) 47 (dcs 0 0 0 0) ∧ Below w.heap.size w W)
      ⟨(by have := r0.put 3 (.int .i64 (((i + 1 : Nat) : Int))); exact this), r2.far (by simp) _, hb.setCell (Nat.le_refl _) _⟩ ?_
    clear e3b f3 r0 r2 hb
    rintro W9 ⟨r0, r2, hb⟩
    go_wp2_with (first
      | (refine wpList_load_row rfl 47 _ rfl w.heap.size rfl 47 (dcs a b ((v : Int) * 2) (i + 1 : Nat)) (0, 0) _ r0 Try.underlying47 rfl (by rw [dcs_size]; exact cellsDc) ?_)
      | (refine wpList_store_row rfl 47 _ _ rfl (w.heap.size + 2) (dcs a b ((v : Int) * 2) (i + 1 : Nat)) rfl rfl 47 (dcs 0 0 0 0) r2 (by rw [dcs_size]; exact cellsDc) rfl (all_one (dcs_one _ _ _ _)) ?_))
    refine bodyPost_ret (results_row Try.results48 _ _ (w.heap.size + 2) 47 (dcs a b ((v : Int) * 2) (i + 1 : Nat)) _ rfl (Row.row r2 _) Try.underlying47 rfl (by rw [dcs_size]; exact cellsDc)) rfl ⟨by rw [HX00.out, Int.add_zero], ?_⟩
    exact blw_row hb (by omega) _
end Go.Proofs.Ytcnokjiohbifeaa

namespace Go.Proofs.Ytcnokjiohbifeaa
open Go.RowKit

set_option maxRecDepth 100000 in
set_option maxHeartbeats 4000000 in
theorem Open_form (L : List UInt8) (k : Int) (hG : ¬ Good L k) (A : Option Addr) (c : Nat) (w : World) (hS : Sl w w.heap.size A L.length (bl L)) :
    Calls Try.prog 22 #[.agg (bcs A L.length c k)] w fun e w' => e = .returned (.tuple #[.agg (dcs 0 0 0 0), .agg (flt 6 (-1))]) ∧ Below w.heap.size w w' := by
  go_enter Try.func22, Try.ntmps22
  go_upto_region 1 with (fail)
  refine wp_world (F := fun W => Row W w.heap.size 26 (bcs A L.length c k) ∧ Row W (w.heap.size + 1) 47 (dcs 0 0 0 0) ∧ Row W (w.heap.size + 2) 28 (flt 0 0) ∧ Sl W W.heap.size A L.length (bl L) ∧ Below w.heap.size w W)
    ⟨((Row.newEq _ _ _ _ _ rfl rfl).alloc _).alloc _, (Row.newEq _ _ _ _ _ (by simp) rfl).alloc _, Row.newEq _ _ _ _ _ (by simp) rfl, hS.up ((((Below.refl _ _).alloc (Nat.le_refl _) _).alloc (by simp) _).alloc (by simp; omega) _), (((Below.refl _ _).alloc (Nat.le_refl _) _).alloc (by simp) _).alloc (by simp; omega) _⟩ ?_
  clear hS
  rintro W0 ⟨r0, r1, r2, hS, hb0⟩
  go_wp2_with (first
    | (refine wpList_load_row rfl 26 _ rfl w.heap.size rfl 26 (bcs A L.length c k) (0, 0) _ r0 Try.underlying26 rfl (by rw [bcs_size]; exact cellsB) ?_)
    | (go_at_call 47; refine (valid_no L k hG A c _ hS).mono ?_; rintro e w1 ⟨rfl, hb1⟩; have q1 := r1.below hb1 r1.lt; have q2 := r2.below hb1 r2.lt; have hba := up_call hb0 hb1; clear hb1)
    | (refine wpList_store_row rfl 47 _ _ rfl (w.heap.size + 1) (dcs 0 0 0 0) rfl rfl 47 (dcs 0 0 0 0) q1 (by rw [dcs_size]; exact cellsDc) rfl (all_one (dcs_one _ _ _ _)) ?_)
    | (refine wpList_store_row rfl 28 _ _ rfl (w.heap.size + 2) (flt 6 (-1)) rfl rfl 28 (flt 0 0) (q2.rowFar (by omega) _) (by rw [flt_size]; exact cellsF) rfl (all_one (flt_one _ _)) ?_))
  refine bodyPost_ret (results_rows Try.results22 _ _ (w.heap.size + 1) (w.heap.size + 2) 47 28 (dcs 0 0 0 0) (flt 6 (-1)) _ _ rfl rfl ((Row.row q1 _).rowFar (by omega) _) (Row.row (q2.rowFar (by omega) _) _) Try.underlying47 rfl (by rw [dcs_size]; exact cellsDc) Try.underlying28 rfl (by rw [flt_size]; exact cellsF)) rfl ⟨rfl, ?_⟩
  exact blw_row (blw_row hba (by omega) _) (by omega) _

set_option maxRecDepth 100000 in
set_option maxHeartbeats 4000000 in
theorem Open_short (l : List Bool) (hl : l.length ≤ 131072) (h2 : l.length < 2) (A : Option Addr) (c : Nat) (w : World) (hS : Sl w w.heap.size A (pack l).length (bl (pack l))) :
    Calls Try.prog 22 #[.agg (bcs A (pack l).length c l.length)] w fun e w' => e = .returned (.tuple #[.agg (dcs 0 0 0 0), .agg (flt 15 (-1))]) ∧ Below w.heap.size w w' := by
  have hval := fun (w : World) (hS : Sl w w.heap.size A (pack l).length (bl (pack l))) => valid_yes (pack l) l (pack_rep l) hl A c w hS
  obtain ⟨n, hn⟩ : ∃ n, n = l.length := ⟨_, rfl⟩
  rw [← hn] at hval ⊢
  have t0 : decide ((n : Int) < 2) = true := decide_eq_true (by omega)
  clear hn h2 hl
  go_enter Try.func22, Try.ntmps22
  go_upto_region 1 with (fail)
  refine wp_world (F := fun W => Row W w.heap.size 26 (bcs A (pack l).length c n) ∧ Row W (w.heap.size + 1) 47 (dcs 0 0 0 0) ∧ Row W (w.heap.size + 2) 28 (flt 0 0) ∧ Sl W W.heap.size A (pack l).length (bl (pack l)) ∧ Below w.heap.size w W)
    ⟨((Row.newEq _ _ _ _ _ rfl rfl).alloc _).alloc _, (Row.newEq _ _ _ _ _ (by simp) rfl).alloc _, Row.newEq _ _ _ _ _ (by simp) rfl, hS.up ((((Below.refl _ _).alloc (Nat.le_refl _) _).alloc (by simp) _).alloc (by simp; omega) _), (((Below.refl _ _).alloc (Nat.le_refl _) _).alloc (by simp) _).alloc (by simp; omega) _⟩ ?_
  clear hS
  rintro W0 ⟨r0, r1, r2, hS, hb0⟩
  go_wp2_with (first
    | (refine wpList_load_row rfl 26 _ rfl w.heap.size rfl 26 (bcs A (pack l).length c n) (0, 0) _ r0 Try.underlying26 rfl (by rw [bcs_size]; exact cellsB) ?_)
    | (go_at_call 47; refine (hval _ hS).mono ?_; rintro e w1 ⟨rfl, hb1⟩; have q0 := r0.below hb1 r0.lt; have q1 := r1.below hb1 r1.lt; have q2 := r2.below hb1 r2.lt; have sS := hS.up hb1; have hba := up_call hb0 hb1; have e1 : w1.cell? ⟨w.heap.size, 1, none⟩ = some (.int .i64 n) := (q0.cell 1).trans rfl; clear hb1)
    | (refine wpList_store_row rfl 47 _ _ rfl (w.heap.size + 1) (dcs 0 0 0 0) rfl rfl 47 (dcs 0 0 0 0) q1 (by rw [dcs_size]; exact cellsDc) rfl (all_one (dcs_one _ _ _ _)) ?_)
    | (refine wpList_store_row rfl 28 _ _ rfl (w.heap.size + 2) (flt 15 (-1)) rfl rfl 28 (flt 0 0) (q2.rowFar (by omega) _) (by rw [flt_size]; exact cellsF) rfl (all_one (flt_one _ _)) ?_))
  refine bodyPost_ret (results_rows Try.results22 _ _ (w.heap.size + 1) (w.heap.size + 2) 47 28 (dcs 0 0 0 0) (flt 15 (-1)) _ _ rfl rfl ((Row.row q1 _).rowFar (by omega) _) (Row.row (q2.rowFar (by omega) _) _) Try.underlying47 rfl (by rw [dcs_size]; exact cellsDc) Try.underlying28 rfl (by rw [flt_size]; exact cellsF)) rfl ⟨rfl, ?_⟩
  exact blw_row (blw_row hba (by omega) _) (by omega) _

set_option maxRecDepth 100000 in
set_option maxHeartbeats 4000000 in
theorem Open_ok (l : List Bool) (hl : l.length ≤ 131072) (h2 : 2 ≤ l.length) (A : Option Addr) (c : Nat) (w : World) (hS : Sl w w.heap.size A (pack l).length (bl (pack l))) :
    Calls Try.prog 22 #[.agg (bcs A (pack l).length c l.length)] w fun e w' => e = .returned (.tuple #[.agg (dcs 0 65535 (numF (fun j => l.getD j false) 16 : Nat) 16), .agg (flt 0 0)]) ∧ Below w.heap.size w w' := by
  have hval := fun (w : World) (hS : Sl w w.heap.size A (pack l).length (bl (pack l))) => valid_yes (pack l) l (pack_rep l) hl A c w hS
  obtain ⟨C, hC⟩ : ∃ C : Nat → Bool, C = fun j => l.getD j false := ⟨_, rfl⟩
  rw [← hC]
  have HRD : Hid (∀ j, j < 16 → ∀ w : World, Sl w w.heap.size A (pack l).length (bl (pack l)) → Calls Try.prog 48 #[.agg (dcs 0 65535 (numF C j : Nat) j), .agg (bcs A (pack l).length c l.length)] w fun e w' => e = .returned (.agg (dcs 0 65535 (numF C (j + 1) : Nat) ((j + 1 : Nat) : Int))) ∧ Below w.heap.size w w') :=
    Lib.hid (fun j hj w hS => by
      have hlt := numF_lt C j
      have hp : (2 : Nat) ^ j ≤ 2 ^ 15 := Nat.pow_le_pow_right (by omega) (by omega)
      exact aread_any l hl 0 65535 (numF C j) j (by omega) (by omega) (numF C (j + 1)) (by rw [numF_succ, hC]) A c w hS)
  obtain ⟨n, hn⟩ : ∃ n, n = l.length := ⟨_, rfl⟩
  rw [← hn] at hval HRD ⊢
  have t0 : decide ((n : Int) < 2) = false := decide_eq_false (by omega)
  clear hn h2 hl hC
  go_enter Try.func22, Try.ntmps22
  go_upto_region 1 with (fail)
  refine wp_world (F := fun W => Row W w.heap.size 26 (bcs A (pack l).length c n) ∧ Row W (w.heap.size + 1) 47 (dcs 0 0 0 0) ∧ Row W (w.heap.size + 2) 28 (flt 0 0) ∧ Sl W W.heap.size A (pack l).length (bl (pack l)) ∧ Below w.heap.size w W)
    ⟨((Row.newEq _ _ _ _ _ rfl rfl).alloc _).alloc _, (Row.newEq _ _ _ _ _ (by simp) rfl).alloc _, Row.newEq _ _ _ _ _ (by simp) rfl, hS.up ((((Below.refl _ _).alloc (Nat.le_refl _) _).alloc (by simp) _).alloc (by simp; omega) _), (((Below.refl _ _).alloc (Nat.le_refl _) _).alloc (by simp) _).alloc (by simp; omega) _⟩ ?_
  clear hS
  rintro W0 ⟨r0, r1, r2, hS, hb0⟩
  go_upto_region 6 with (first
    | (refine wpList_load_row rfl 26 _ rfl w.heap.size rfl 26 (bcs A (pack l).length c n) (0, 0) _ r0 Try.underlying26 rfl (by rw [bcs_size]; exact cellsB) ?_)
    | (go_at_call 47; refine (hval _ hS).mono ?_; rintro e w1 ⟨rfl, hb1⟩; have q0 := r0.below hb1 r0.lt; have q1 := r1.below hb1 r1.lt; have q2 := r2.below hb1 r2.lt; have sS := hS.up hb1; have hba := up_call hb0 hb1; have e1 : w1.cell? ⟨w.heap.size, 1, none⟩ = some (.int .i64 n) := (q0.cell 1).trans rfl; clear hb1)
    | (refine wpList_store_row rfl 47 _ _ rfl w1.heap.size (dcs 0 65535 0 0) rfl rfl 47 (dcs 0 0 0 0) (Row.newEq _ _ _ _ _ rfl rfl) (by rw [dcs_size]; exact cellsDc) rfl (all_one (dcs_one _ _ _ _)) ?_))
  have hk1 := blw_new1 w1 (.cells #[.int .i64 0, .int .i64 0, .int .i64 0, .int .i64 0] 47) (dcs 0 65535 0 0)
  refine wp_world (F := fun W => Row W w.heap.size 26 (bcs A (pack l).length c n) ∧ Row W (w.heap.size + 1) 47 (dcs 0 0 0 0) ∧ Row W (w.heap.size + 2) 28 (flt 0 0) ∧ Row W w1.heap.size 47 (dcs 0 65535 0 0) ∧ Sl W W.heap.size A (pack l).length (bl (pack l)) ∧ Below w.heap.size w W)
    ⟨q0.below hk1 q0.lt, q1.below hk1 q1.lt, q2.below hk1 q2.lt, row_new1 _ _ _ _, sS.up hk1, up_call hba hk1⟩ ?_
  have hg4 : w.heap.size + 2 < w1.heap.size := q2.lt
  generalize w1.heap.size = g4 at hg4
  clear hk1 q0 q1 q2 sS hba e1 r0 r1 r2 hS hb0 W0 w1
  rintro W1 ⟨r0, r1, r2, r4, hS, hb⟩
  go_upto_region 7 with fail
  go_loopw [18] (fun i wr => ∃ j : Nat, j ≤ 16 ∧ i = .int .i64 j ∧ Row wr w.heap.size 26 (bcs A (pack l).length c n) ∧ Row wr (w.heap.size + 1) 47 (dcs 0 0 0 0) ∧ Row wr (w.heap.size + 2) 28 (flt 0 0) ∧ Row wr g4 47 (dcs 0 65535 (numF C j : Nat) j) ∧ Sl wr wr.heap.size A (pack l).length (bl (pack l)) ∧ Below w.heap.size w wr) (fun i _ => 16 - (intOf i).toNat)
  case atStart => exact ⟨0, Nat.zero_le _, rfl, r0, r1, r2, r4, hS, hb⟩
  case round =>
    clear r0 r1 r2 r4 hS hb
    obtain ⟨j, hj, rfl, r0, r1, r2, r4, hS, hb⟩ := hrel
    by_cases hlt : j < 16
    · have hrd := HRD.out j hlt
      have HR := Lib.hid hrd
      obtain ⟨v, hv⟩ : ∃ v, v = numF C j := ⟨_, rfl⟩
      obtain ⟨v2, hv2⟩ : ∃ v2, v2 = numF C (j + 1) := ⟨_, rfl⟩
      rw [← hv] at HR r4
      rw [← hv2] at HR
      have HV2 := Lib.hid hv2
      clear hrd hv hv2
      have t1 : decide ((j : Int) < 16) = true := decide_eq_true (by omega)
      go_wp2_with (first
        | (refine wpList_load_row rfl 47 _ rfl g4 rfl 47 (dcs 0 65535 v j) (0, 0) _ r4 Try.underlying47 rfl (by rw [dcs_size]; exact cellsDc) ?_)
        | (refine wpList_load_row rfl 26 _ rfl w.heap.size rfl 26 (bcs A (pack l).length c n) (0, 0) _ r0 Try.underlying26 rfl (by rw [bcs_size]; exact cellsB) ?_)
        | (go_at_call 48; refine (HR.out _ hS).mono ?_; rintro e w6 ⟨rfl, hb6⟩)
        | (refine wpList_store_row rfl 47 _ _ rfl g4 (dcs 0 65535 v2 ((j + 1 : Nat) : Int)) rfl rfl 47 (dcs 0 65535 v j) (r4.below hb6 r4.lt) (by rw [dcs_size]; exact cellsDc) rfl (all_one (dcs_one _ _ _ _)) ?_))
      go_roundw
      case rel => exact ⟨j + 1, by omega, by go_num, (r0.below hb6 r0.lt).rowFar (by omega) _, (r1.below hb6 r1.lt).rowFar (by omega) _, (r2.below hb6 r2.lt).rowFar (by omega) _, by rw [← HV2.out]; exact Row.row (r4.below hb6 r4.lt) _, Sl.wider ((hS.up hb6).rowFar (r4.below hb6 r4.lt) (no_dcs _ _ _ _) _) (by simp), blw_row (up_call hb hb6) (by omega) _⟩
      case measure => simp [intOf]; omega
    · obtain rfl : j = 16 := by omega
      have t1 : decide (((16 : Nat) : Int) < 16) = false := by decide
      obtain ⟨v, hv⟩ : ∃ v, v = numF C 16 := ⟨_, rfl⟩
      rw [← hv] at r4
      have HV := Lib.hid hv
      clear hv
      go_wp2_with (first
        | (refine wpList_load_row rfl 47 _ rfl g4 rfl 47 (dcs 0 65535 v 16) (0, 0) _ r4 Try.underlying47 rfl (by rw [dcs_size]; exact cellsDc) ?_)
        | (refine wpList_store_row rfl 47 _ _ rfl (w.heap.size + 1) (dcs 0 65535 v 16) rfl rfl 47 (dcs 0 0 0 0) r1 (by rw [dcs_size]; exact cellsDc) rfl (all_one (dcs_one _ _ _ _)) ?_)
        | (refine wpList_store_row rfl 28 _ _ rfl (w.heap.size + 2) (flt 0 0) rfl rfl 28 (flt 0 0) (r2.rowFar (by omega) _) (by rw [flt_size]; exact cellsF) rfl (all_one (flt_one _ _)) ?_))
      refine bodyPost_ret (results_rows Try.results22 _ _ (w.heap.size + 1) (w.heap.size + 2) 47 28 (dcs 0 65535 v 16) (flt 0 0) _ _ rfl rfl ((Row.row r1 _).rowFar (by omega) _) (Row.row (r2.rowFar (by omega) _) _) Try.underlying47 rfl (by rw [dcs_size]; exact cellsDc) Try.underlying28 rfl (by rw [flt_size]; exact cellsF)) rfl ⟨by rw [HV.out], ?_⟩
      exact blw_row (blw_row hb (by omega) _) (by omega) _

/-- the fault of Open -/
inductive OpF : List UInt8 → Int → Int → Int → Prop
  | form {L : List UInt8} {k : Int} (h : ¬ Good L k) : OpF L k 6 (-1)
  | short {l : List Bool} (hl : l.length ≤ 131072) (h : l.length < 2) : OpF (pack l) l.length 15 (-1)
theorem OpF.ne {L : List UInt8} {k c i : Int} (h : OpF L k c i) : c ≠ 0 := by cases h <;> decide
theorem Open_bad (L : List UInt8) (k c i : Int) (h : OpF L k c i) (A : Option Addr) (cp : Nat) (w : World) (hS : Sl w w.heap.size A L.length (bl L)) :
    Calls Try.prog 22 #[.agg (bcs A L.length cp k)] w fun e w' => e = .returned (.tuple #[.agg (dcs 0 0 0 0), .agg (flt c i)]) ∧ Below w.heap.size w w' := by
  cases h with
  | form h => exact Open_form L k h A cp w hS
  | short hl h => exact Open_short _ hl h A cp w hS
theorem opf_or (L : List UInt8) (k : Int) : (∃ c i, OpF L k c i) ∨ ∃ l : List Bool, k = (l.length : Int) ∧ l.length ≤ 131072 ∧ 2 ≤ l.length ∧ L = pack l := by
  rcases good_dec L k with ⟨l, rfl, h2, rfl⟩ | hG
  · by_cases h : l.length < 2
    · exact .inl ⟨15, -1, .short h2 h⟩
    · exact .inr ⟨l, rfl, h2, by omega, rfl⟩
  · exact .inl ⟨6, -1, .form hG⟩
end Go.Proofs.Ytcnokjiohbifeaa
