/-
  The contracts of digest.Sum and digest.Short.
-/
import Derived.Test.YtcippenhomhpbaaDoorShaFin
namespace Go.Proofs.YtcippenhomhpbaaDoor
open Go.RowKit

/-- the digest of a byte string -/
def sumOf (L : List UInt8) : List UInt8 := hashed (chew first L (L.length / 64)) (L.drop (64 * (L.length / 64))) L.length
theorem sumOf_eq (L : List UInt8) : sumOf L = hashed (chew first L (L.length / 64)) (L.drop (64 * (L.length / 64))) L.length := rfl
theorem sumOf_length (L : List UInt8) : (sumOf L).length = 32 := hashed_length _ _ _
attribute [irreducible] sumOf

theorem pad_len (s : St) (n : Nat) (TA : Option Addr) (tl : List UInt8) (tn : Nat) (h : tl.length = tn) (tc : Nat) (w : World) (hk : KIs w) (ht : tn < 64) (hS : Sl w w.heap.size TA tn (bl tl)) (hn : n ≤ 1125899906842624) :
    Calls Tryd.prog 29 #[.agg (hsc s (.slice TA tn tc) n)] w fun e w' => e = .returned (.agg (bs (hashed s tl n))) ∧ Below w.heap.size w w' := by
  subst h
  exact pad_any s n TA tl tc w hk ht hS hn

set_option maxRecDepth 100000 in
set_option maxHeartbeats 4000000 in
/-- digest.Sum. -/
theorem sum_any (A : Option Addr) (L : List UInt8) (c : Nat) (w : World) (hk : KIs w) (hL : Sl w w.heap.size A L.length (bl L)) (hc : L.length ≤ c) (hcm : c ≤ maxLen) (hl : L.length ≤ 1125899906842624) :
    Calls Tryd.prog 11 #[.slice A L.length c] w fun e w' => e = .returned (.agg (bs (sumOf L))) ∧ Below w.heap.size w w' := by
  have HK := Lib.hid hk
  have hg := hk.lt
  have HCM := Lib.hid hcm
  have hd : (L.drop (64 * (L.length / 64))).length = L.length % 64 := by rw [List.length_drop]; omega
  have HD := Lib.hid hd
  have HE := Lib.hid (sumOf_eq L)
  have HL := Lib.hid (sumOf_length L)
  clear hk hcm hd
  go_enter Tryd.func11, Tryd.ntmps11
  go_wp2_with (first
    | (go_at_call 16; refine (start_any _).mono ?_; rintro e w1 ⟨rfl, hb1⟩; have r1 : Row w1 w.heap.size 24 zD := Row.below (Row.newEq _ _ _ _ _ rfl zD_lit) hb1 (by simp); have hbb : Below w.heap.size w w1 := blw_call ((Below.refl _ _).alloc (Nat.le_refl _) _) (by simp) hb1; clear hb1)
    | (go_at_call 30; refine (absorb_any first 0 none [] 0 A L c w1 (KIs.keep HK.out hbb hg) (Nat.zero_lt_succ _) (by rw [bl_nil]; exact Sl.nil _ _ _) hc HCM.out ((hL.below hbb).wider hbb.size) (by omega)).mono ?_; rintro e w2 ⟨v2, rfl, ho2, hb2⟩; obtain ⟨A2, c2, hv2, _, _⟩ := own_form ho2; subst hv2; have hs2 : Sl w2 w2.heap.size A2 (L.length % 64) (bl (L.drop (64 * (L.length / 64)))) := (by have := Sl.of_own ho2; rwa [List.nil_append] at this); clear ho2; have q1 := Row.below r1 hb2 r1.lt; have hbc := hbb.trans (hb2.mono hbb.size))
    | (go_at_call 29; refine (pad_len (chew first L (L.length / 64)) L.length A2 (L.drop (64 * (L.length / 64))) (L.length % 64) HD.out c2 w2 (KIs.keep HK.out hbc hg) (Nat.mod_lt _ (Nat.zero_lt_succ _)) hs2 hl).mono ?_; rintro e w3 ⟨rfl, hb3⟩; have p1 := Row.below q1 hb3 q1.lt; have hbd := hbc.trans (hb3.mono hbc.size))
    | (refine wpList_store_row rfl 24 _ _ rfl w.heap.size (bs (sumOf L)) rfl (congrArg (fun l => Value.agg (bs l)) HE.out.symm) 24 zD p1 (by rw [bs_size, HL.out]; exact cellsD) (by rw [zD_size, bs_size, HL.out]) (all_one (bs_one _)) ?_))
  refine bodyPost_ret (results_row Tryd.results11 _ _ w.heap.size 24 (bs (sumOf L)) _ rfl (Row.row p1 _) Tryd.underlying24 rfl (by rw [bs_size, HL.out]; exact cellsD)) rfl ⟨rfl, ?_⟩
  exact blw_row hbd (Nat.le_refl _) _

/-- the first k bytes, zeros behind them up to place i, the bytes as they were behind it -/
def cutPart (D : List UInt8) (k i : Nat) : List UInt8 := (List.range 32).map fun j => if k ≤ j ∧ j < i then 0 else D.getD j 0
/-- the first k bytes, zeros behind them -/
def shortOf (D : List UInt8) (k : Nat) : List UInt8 := (List.range 32).map fun j => if k ≤ j then 0 else D.getD j 0
theorem cutPart_first (D : List UInt8) (hD : D.length = 32) (k : Nat) : cutPart D k k = D := by
  apply List.ext_getElem
  · simp [cutPart, hD]
  · intro j h1 h2
    have hf : ¬ (k ≤ j ∧ j < k) := by omega
    simp [cutPart, hf, h2]
theorem cutPart_last (D : List UInt8) (k : Nat) : cutPart D k 32 = shortOf D k := by
  unfold cutPart shortOf
  apply List.map_congr_left
  intro j hj
  have := List.mem_range.1 hj
  by_cases h : k ≤ j <;> simp [h, this]
theorem cutPart_next (D : List UInt8) (k i : Nat) (h : k ≤ i) : (cutPart D k i).set i 0 = cutPart D k (i + 1) := by
  apply List.ext_getElem
  · simp [cutPart]
  · intro j h1 h2
    simp only [cutPart, List.getElem_set, List.getElem_map, List.getElem_range]
    by_cases hj : i = j
    · subst hj
      simp [h]
    · rw [if_neg hj]
      by_cases h3 : k ≤ j ∧ j < i
      · rw [if_pos h3, if_pos ⟨h3.1, by omega⟩]
      · rw [if_neg h3, if_neg (by omega)]
theorem cutPart_length (D : List UInt8) (k i : Nat) : (cutPart D k i).length = 32 := by simp [cutPart]
theorem shortOf_length (D : List UInt8) (k : Nat) : (shortOf D k).length = 32 := by simp [shortOf]
attribute [irreducible] cutPart shortOf

set_option maxRecDepth 100000 in
set_option maxHeartbeats 4000000 in
/-- digest.Short at a width that is not one. -/
theorem short_bad (D : List UInt8) (k : Int) (hk : k < 1 ∨ 32 < k) (w : World) :
    Calls Tryd.prog 23 #[.agg (bs D), .int .i64 k] w fun e w' => e = .returned (.tuple #[.agg zD, .agg (flt 4 (-2))]) ∧ Below w.heap.size w w' := by
  rcases hk with hk | hk
  · go_enter Tryd.func23, Tryd.ntmps23
    go_wp2_with (first
      | (refine wpList_store_row rfl 24 _ _ rfl (w.heap.size + 1) zD rfl (congrArg Value.agg zD_lit) 24 zD ((Row.newEq _ _ _ _ _ (by simp) zD_lit).alloc _) (by rw [zD_size]; exact cellsD) rfl (all_one zD_one) ?_)
      | (refine wpList_store_row rfl 32 _ _ rfl (w.heap.size + 1 + 1) (flt 4 (-2)) rfl rfl 32 (flt 0 0) (Row.rowFar (Row.newEq _ _ _ _ _ (by simp) rfl) (by omega) _) (by rw [flt_size]; exact cellsF) rfl (all_one (flt_one _ _)) ?_))
    refine bodyPost_ret (results_rows Tryd.results23 _ _ (w.heap.size + 1) (w.heap.size + 1 + 1) 24 32 zD (flt 4 (-2)) _ _ rfl rfl ((Row.row ((Row.newEq _ _ _ _ _ (by simp) zD_lit).alloc _) _).rowFar (by omega) _) (Row.row (Row.rowFar (Row.newEq _ _ _ _ _ (by simp) rfl) (by omega) _) _) Tryd.underlying24 rfl (by rw [zD_size]; exact cellsD) Tryd.underlying32 rfl (by rw [flt_size]; exact cellsF)) rfl ⟨rfl, ?_⟩
    exact blw_row (blw_row ((((Below.refl _ _).alloc (Nat.le_refl _) _).alloc (by simp) _).alloc (by simp; omega) _) (by omega) _) (by omega) _
  · have hk1 : ¬ k < 1 := by omega
    go_enter Tryd.func23, Tryd.ntmps23
    go_wp2_with (first
      | (refine wpList_store_row rfl 24 _ _ rfl (w.heap.size + 1) zD rfl (congrArg Value.agg zD_lit) 24 zD ((Row.newEq _ _ _ _ _ (by simp) zD_lit).alloc _) (by rw [zD_size]; exact cellsD) rfl (all_one zD_one) ?_)
      | (refine wpList_store_row rfl 32 _ _ rfl (w.heap.size + 1 + 1) (flt 4 (-2)) rfl rfl 32 (flt 0 0) (Row.rowFar (Row.newEq _ _ _ _ _ (by simp) rfl) (by omega) _) (by rw [flt_size]; exact cellsF) rfl (all_one (flt_one _ _)) ?_))
    refine bodyPost_ret (results_rows Tryd.results23 _ _ (w.heap.size + 1) (w.heap.size + 1 + 1) 24 32 zD (flt 4 (-2)) _ _ rfl rfl ((Row.row ((Row.newEq _ _ _ _ _ (by simp) zD_lit).alloc _) _).rowFar (by omega) _) (Row.row (Row.rowFar (Row.newEq _ _ _ _ _ (by simp) rfl) (by omega) _) _) Tryd.underlying24 rfl (by rw [zD_size]; exact cellsD) Tryd.underlying32 rfl (by rw [flt_size]; exact cellsF)) rfl ⟨rfl, ?_⟩
    exact blw_row (blw_row ((((Below.refl _ _).alloc (Nat.le_refl _) _).alloc (by simp) _).alloc (by simp; omega) _) (by omega) _) (by omega) _

set_option maxRecDepth 100000 in
set_option maxHeartbeats 4000000 in
/-- digest.Short at a width from 1 to 32. -/
theorem short_ok (D : List UInt8) (hD : D.length = 32) (k : Nat) (hk0 : 1 ≤ k) (hk : k ≤ 32) (w : World) :
    Calls Tryd.prog 23 #[.agg (bs D), .int .i64 k] w fun e w' => e = .returned (.tuple #[.agg (bs (shortOf D k)), .agg (flt 0 0)]) ∧ Below w.heap.size w w' := by
  have HC := Lib.hid (cutPart_first D hD k)
  have HE := Lib.hid (cutPart_last D k)
  have HS := Lib.hid (shortOf_length D k)
  have k1 : ¬ (k : Int) < 1 := by omega
  have k2 : ¬ (32 : Int) < (k : Int) := by omega
  clear hD
  go_enter Tryd.func23, Tryd.ntmps23
  go_wp2
  have r0 : Row (((w.alloc (.cells (bs D) 24)).alloc (.cells zD 24)).alloc (.cells (flt 0 0) 32)) w.heap.size 24 (bs D) := ((Row.new _ _ _).alloc _).alloc _
  have r1 : Row (((w.alloc (.cells (bs D) 24)).alloc (.cells zD 24)).alloc (.cells (flt 0 0) 32)) (w.heap.size + 1) 24 zD := (Row.newAt _ _ _ _ (by simp)).alloc _
  have r2 : Row (((w.alloc (.cells (bs D) 24)).alloc (.cells zD 24)).alloc (.cells (flt 0 0) 32)) (w.heap.size + 1 + 1) 32 (flt 0 0) := Row.newAt _ _ _ _ (by simp)
  have rb : Below w.heap.size w (((w.alloc (.cells (bs D) 24)).alloc (.cells zD 24)).alloc (.cells (flt 0 0) 32)) := (((Below.refl _ _).alloc (Nat.le_refl _) _).alloc (by simp) _).alloc (by simp; omega) _
  rw [zD_lit, show (#[Value.int .i64 0, Value.int .i64 0] : Array Value) = flt 0 0 from rfl]
  obtain ⟨W0, hW0⟩ : ∃ W0, W0 = (((w.alloc (.cells (bs D) 24)).alloc (.cells zD 24)).alloc (.cells (flt 0 0) 32)) := ⟨_, rfl⟩
  rw [← hW0] at r0 r1 r2 rb ⊢
  clear hW0
  go_loopw [6] (fun i wr => ∃ j : Nat, k ≤ j ∧ j ≤ 32 ∧ i = .int .i64 j ∧ Row wr w.heap.size 24 (bs (cutPart D k j)) ∧ Row wr (w.heap.size + 1) 24 zD ∧ Row wr (w.heap.size + 1 + 1) 32 (flt 0 0) ∧ Below w.heap.size w wr) (fun i _ => 32 - (intOf i).toNat)
  case atStart => exact ⟨k, Nat.le_refl _, hk, rfl, by rw [HC.out]; exact r0, r1, r2, rb⟩
  case round =>
    clear r0 r1 r2 rb
    obtain ⟨j, hkj, hj, rfl, r0, r1, r2, rb⟩ := hrel
    by_cases hlt : j < 32
    · have c0 := (r0.cell j).trans (bs_get _ _ (by rw [cutPart_length]; exact hlt))
      have f0 := r0.free j
      have HN := Lib.hid (cutPart_next D k j hkj)
      go_wp2
      go_roundw
      case rel =>
        refine ⟨j + 1, by omega, by omega, by go_num, ?_, r1.far (by simp) _, r2.far (by simp; omega) _, rb.setCell (Nat.le_refl _) _⟩
        rw [← HN.out, ← bs_set]
        exact r0.put _ _
      case measure => simp [intOf]; omega
    · obtain rfl : j = 32 := by omega
      rw [HE.out] at r0
      go_wp2_with (first
        | (refine wpList_load_row rfl 24 _ rfl w.heap.size rfl 24 (bs (shortOf D k)) (0, 0) _ r0 Tryd.underlying24 rfl (by rw [bs_size, HS.out]; exact cellsD) ?_)
        | (refine wpList_store_row rfl 24 _ _ rfl (w.heap.size + 1) (bs (shortOf D k)) rfl rfl 24 zD r1 (by rw [bs_size, HS.out]; exact cellsD) (by rw [zD_size, bs_size, HS.out]) (all_one (bs_one _)) ?_)
        | (refine wpList_store_row rfl 32 _ _ rfl (w.heap.size + 1 + 1) (flt 0 0) rfl rfl 32 (flt 0 0) (r2.rowFar (by omega) _) (by rw [flt_size]; exact cellsF) rfl (all_one (flt_one _ _)) ?_))
      refine bodyPost_ret (results_rows Tryd.results23 _ _ (w.heap.size + 1) (w.heap.size + 1 + 1) 24 32 (bs (shortOf D k)) (flt 0 0) _ _ rfl rfl ((Row.row r1 _).rowFar (by omega) _) (Row.row (r2.rowFar (by omega) _) _) Tryd.underlying24 rfl (by rw [bs_size, HS.out]; exact cellsD) Tryd.underlying32 rfl (by rw [flt_size]; exact cellsF)) rfl ⟨rfl, ?_⟩
      exact blw_row (blw_row rb (by omega) _) (by omega) _
end Go.Proofs.YtcippenhomhpbaaDoor
