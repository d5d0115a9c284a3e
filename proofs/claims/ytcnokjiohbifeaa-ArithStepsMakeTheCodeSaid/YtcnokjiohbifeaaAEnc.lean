/-
  The contracts of package arith's validCoder and validDecoder, Start and Finish; a text of bits made into a bit string.
-/
import Derived.Test.YtcnokjiohbifeaaASet
import Derived.Test.YtcnokjiohbifeaaGNew
import Derived.Test.YtcnokjiohbifeaaBGood
import Derived.Test.YtcnokjiohbifeaaRSub
namespace Go.Proofs.Ytcnokjiohbifeaa
open Go.RowKit

theorem own_none (w : World) (base : Nat) : w.ownsRow base 5 1 (.slice none 0 0) 0 (bl (txL [])) := by
  rw [show txL [] = [] from rfl, bl_nil]
  exact World.ownsRow_nil _ _ _ _
theorem txB_tx (l : List Bool) : txB (txL l) = l := by
  unfold txB txL
  rw [List.map_map]
  refine (List.map_congr_left fun b _ => ?_).trans (List.map_id l)
  cases b <;> rfl
set_option maxRecDepth 100000 in
/-- a text of bits is made into the bits -/
theorem make_tx (l : List Bool) (hl : l.length ≤ 131072) (w : World) :
    Calls Try.prog 41 #[.string ⟨(txL l).toArray⟩] w (BitsOut w l) := by
  have hs : (⟨(txL l).toArray⟩ : ByteArray).size = l.length := by
    show (txL l).toArray.size = l.length
    rw [List.size_toArray, txL_length]
  refine (make_upto ⟨(txL l).toArray⟩ (by rw [hs]; exact hl) l.length (by rw [hs]; exact Nat.le_refl _) (fun i h hi => ?_) (fun h => absurd h (by rw [hs]; exact Nat.lt_irrefl _)) w).mono fun e w' h => ?_
  · have hx : (⟨(txL l).toArray⟩ : ByteArray)[i] = chB l[i] := by
      show (txL l).toArray[i]'(by rw [List.size_toArray, txL_length]; exact hi) = _
      simp [txL]
    rw [hx]
    cases l[i]
    · exact .inl rfl
    · exact .inr rfl
  · have h2 := h.1 hs.symm
    rwa [show (⟨(txL l).toArray⟩ : ByteArray).data.toList = txL l from rfl, txB_tx] at h2
/-- no byte among the cells -/
def NoU8 (cs : Array Value) : Prop := ∀ z, Value.int .u8 z ∉ cs
theorem no_bcs (A : Option Addr) (n c : Nat) (k : Int) : NoU8 (bcs A n c k) := fun z h => by simp [bcs] at h
theorem no_flt (a b : Int) : NoU8 (flt a b) := fun z h => by simp [flt] at h
theorem no_cds (a b c : Int) : NoU8 (cds a b c) := fun z h => by simp [cds] at h
theorem no_dcs (a b c d : Int) : NoU8 (dcs a b c d) := fun z h => by simp [dcs] at h
/-- a slice of bytes, where a block without bytes is written -/
theorem Sl.rowFar {w : World} {B n g : Nat} {A : Option Addr} {t : TypeId} {cs : Array Value} {L : List UInt8} (h : Sl w B A n (bl L)) (r : Row w g t cs) (hx : NoU8 cs) (ds : Array Value) : Sl (w.setRow g ds) B A n (bl L) := by
  refine ⟨h.1, fun hn => ?_⟩
  obtain ⟨ad, e, hb, hc⟩ := h.2 hn
  refine ⟨ad, e, hb, fun j u hu => ?_⟩
  have hcj := hc j u hu
  by_cases hg : (ad.add j).block = g
  · exfalso
    have hu2 : ∃ z, u = .int .u8 z := by
      have hm := List.mem_of_getElem? hu
      unfold bl at hm
      obtain ⟨x, _, rfl⟩ := List.mem_map.1 hm
      exact ⟨_, rfl⟩
    obtain ⟨z, rfl⟩ := hu2
    unfold World.cell? at hcj
    rw [hg, show w.heap[g]? = some (.cells cs t (0, 0)) from r] at hcj
    simp only at hcj
    split at hcj
    · cases hcj
    · exact hx z (Array.mem_of_getElem? hcj)
  · rw [← hcj]
    unfold World.cell?
    rw [show (w.setRow g ds).heap[(ad.add j).block]? = w.heap[(ad.add j).block]? from setRow_other w g _ ds hg]
/-- three results in blocks -/
theorem results_rows3 {P : Program} {fn : Func} {p q r : Tmp} {t u v : TypeId} (h : fn.results = #[.cell p t, .cell q u, .cell r v]) (tmps : Array Value) (w : World)
    (g k m : Nat) (a b c : TypeId) (cs ds es : Array Value) (d e f : TypeDesc)
    (hp : tmps.getD p undef = .pointer (some ⟨g, 0, none⟩)) (hq : tmps.getD q undef = .pointer (some ⟨k, 0, none⟩)) (hr : tmps.getD r undef = .pointer (some ⟨m, 0, none⟩)) (hg : Row w g a cs) (hk : Row w k b ds) (hm : Row w m c es)
    (hu : P.underlying t = some d) (hd : (match d with | .struct _ | .array _ _ => true | _ => false) = true) (hi : (P.info? t).map (·.size) = some cs.size)
    (hv : P.underlying u = some e) (he : (match e with | .struct _ | .array _ _ => true | _ => false) = true) (hj : (P.info? u).map (·.size) = some ds.size)
    (hx : P.underlying v = some f) (hy : (match f with | .struct _ | .array _ _ => true | _ => false) = true) (hz : (P.info? v).map (·.size) = some es.size) :
    (results fn tmps).run P w = .ok (.tuple #[.agg cs, .agg ds, .agg es]) w := by
  have hp' : tmps[p]?.getD undef = .pointer (some ⟨g, 0, none⟩) := by simpa using hp
  have hq' : tmps[q]?.getD undef = .pointer (some ⟨k, 0, none⟩) := by simpa using hq
  have hr' : tmps[r]?.getD undef = .pointer (some ⟨m, 0, none⟩) := by simpa using hr
  simp [results, h, hp', hq', hr', asAddr, run_loadVar_row w g a t cs (0, 0) d hg hu hd hi, run_loadVar_row w k b u ds (0, 0) e hk hv he hj, run_loadVar_row w m c v es (0, 0) f hm hx hy hz]

theorem start_any (w : World) :
    Calls Try.prog 14 #[] w fun e w' => e = .returned (.agg (cds 0 65535 0)) ∧ Below w.heap.size w w' := by
  go_enter Try.func14, Try.ntmps14
  go_wp2
  refine bodyPost_ret (results_row Try.results14 _ _ w.heap.size 23 (cds 0 65535 0) _ rfl (Row.newEq _ _ _ _ _ rfl (by kernel_rfl)) Try.underlying23 rfl (by rw [cds_size]; exact cellsCd)) rfl ⟨rfl, ?_⟩
  exact (Below.refl _ _).alloc (Nat.le_refl _) _

set_option maxRecDepth 100000 in
set_option maxHeartbeats 2000000 in
theorem vcoder_any (a b p : Int) (w : World) :
    Calls Try.prog 37 #[.agg (cds a b p)] w fun e w' => e = .returned (.bool (decide (CoderZ a b p))) ∧ Below w.heap.size w w' := by
  have hw := iwide_any a b
  have hc0 : (cds a b p)[0]? = some (.int .i64 a) := rfl
  have hc1 : (cds a b p)[1]? = some (.int .i64 b) := rfl
  have hc2 : (cds a b p)[2]? = some (.int .i64 p) := rfl
  have hd : decide (CoderZ a b p) = (decide (WideZ a b) && decide (0 ≤ p) && decide (p ≤ 131056)) := by
    rw [Bool.eq_iff_iff]
    simp only [Bool.and_eq_true, decide_eq_true_eq]
    exact ⟨fun ⟨h1, h2, h3⟩ => ⟨⟨h1, h2⟩, h3⟩, fun ⟨⟨h1, h2⟩, h3⟩ => ⟨h1, h2, h3⟩⟩
  rw [hd]
  clear hd
  obtain ⟨x0, tx0⟩ : ∃ x, decide (WideZ a b) = x := ⟨_, rfl⟩
  rw [tx0] at hw ⊢
  clear tx0
  obtain ⟨x1, tx1⟩ : ∃ x, decide (0 ≤ p) = x := ⟨_, rfl⟩
  obtain ⟨x2, tx2⟩ : ∃ x, decide (p ≤ 131056) = x := ⟨_, rfl⟩
  rw [tx1, tx2]
  cases x0
  case false =>
    go_enter Try.func37, Try.ntmps37
    go_upto_region 1 with (fail)
    refine wp_world (F := fun W => Row W w.heap.size 23 (cds a b p) ∧ Below w.heap.size w W) ⟨Row.newEq _ _ _ _ _ rfl rfl, (Below.refl _ _).alloc (Nat.le_refl _) _⟩ ?_
    rintro W0 ⟨r0, hb0⟩
    have e0 := (r0.cell 0).trans hc0
    have e1 := (r0.cell 1).trans hc1
    go_wp2_with (first
      | (go_at_call 56; refine (hw _).mono ?_; rintro e w1 ⟨rfl, hb1⟩; have r1 := r0.below hb1 r0.lt; have hba := up_call hb0 hb1; have d0 := (r1.cell 0).trans hc0; have d1 := (r1.cell 1).trans hc1; have d2 := (r1.cell 2).trans hc2))
    go_ret
    exact ⟨rfl, hba⟩
  cases x1
  case false =>
    go_enter Try.func37, Try.ntmps37
    go_upto_region 1 with (fail)
    refine wp_world (F := fun W => Row W w.heap.size 23 (cds a b p) ∧ Below w.heap.size w W) ⟨Row.newEq _ _ _ _ _ rfl rfl, (Below.refl _ _).alloc (Nat.le_refl _) _⟩ ?_
    rintro W0 ⟨r0, hb0⟩
    have e0 := (r0.cell 0).trans hc0
    have e1 := (r0.cell 1).trans hc1
    go_wp2_with (first
      | (go_at_call 56; refine (hw _).mono ?_; rintro e w1 ⟨rfl, hb1⟩; have r1 := r0.below hb1 r0.lt; have hba := up_call hb0 hb1; have d0 := (r1.cell 0).trans hc0; have d1 := (r1.cell 1).trans hc1; have d2 := (r1.cell 2).trans hc2))
    go_ret
    exact ⟨rfl, hba⟩
  cases x2
  case false =>
    go_enter Try.func37, Try.ntmps37
    go_upto_region 1 with (fail)
    refine wp_world (F := fun W => Row W w.heap.size 23 (cds a b p) ∧ Below w.heap.size w W) ⟨Row.newEq _ _ _ _ _ rfl rfl, (Below.refl _ _).alloc (Nat.le_refl _) _⟩ ?_
    rintro W0 ⟨r0, hb0⟩
    have e0 := (r0.cell 0).trans hc0
    have e1 := (r0.cell 1).trans hc1
    go_wp2_with (first
      | (go_at_call 56; refine (hw _).mono ?_; rintro e w1 ⟨rfl, hb1⟩; have r1 := r0.below hb1 r0.lt; have hba := up_call hb0 hb1; have d0 := (r1.cell 0).trans hc0; have d1 := (r1.cell 1).trans hc1; have d2 := (r1.cell 2).trans hc2))
    go_ret
    exact ⟨rfl, hba⟩
  case true =>
    go_enter Try.func37, Try.ntmps37
    go_upto_region 1 with (fail)
    refine wp_world (F := fun W => Row W w.heap.size 23 (cds a b p) ∧ Below w.heap.size w W) ⟨Row.newEq _ _ _ _ _ rfl rfl, (Below.refl _ _).alloc (Nat.le_refl _) _⟩ ?_
    rintro W0 ⟨r0, hb0⟩
    have e0 := (r0.cell 0).trans hc0
    have e1 := (r0.cell 1).trans hc1
    go_wp2_with (first
      | (go_at_call 56; refine (hw _).mono ?_; rintro e w1 ⟨rfl, hb1⟩; have r1 := r0.below hb1 r0.lt; have hba := up_call hb0 hb1; have d0 := (r1.cell 0).trans hc0; have d1 := (r1.cell 1).trans hc1; have d2 := (r1.cell 2).trans hc2))
    go_ret
    exact ⟨rfl, hba⟩

set_option maxRecDepth 100000 in
set_option maxHeartbeats 2000000 in
theorem vdecoder_any (a b v i : Int) (w : World) :
    Calls Try.prog 49 #[.agg (dcs a b v i)] w fun e w' => e = .returned (.bool (decide (DecoderZ a b v i))) ∧ Below w.heap.size w w' := by
  have hw := iwide_any a b
  have hc0 : (dcs a b v i)[0]? = some (.int .i64 a) := rfl
  have hc1 : (dcs a b v i)[1]? = some (.int .i64 b) := rfl
  have hc2 : (dcs a b v i)[2]? = some (.int .i64 v) := rfl
  have hc3 : (dcs a b v i)[3]? = some (.int .i64 i) := rfl
  have hd : decide (DecoderZ a b v i) = (decide (WideZ a b) && decide (a ≤ v) && decide (v ≤ b) && decide (16 ≤ i) && decide (i ≤ 131086)) := by
    rw [Bool.eq_iff_iff]
    simp only [Bool.and_eq_true, decide_eq_true_eq]
    exact ⟨fun ⟨h1, ⟨h2, h3⟩, h4, h5⟩ => ⟨⟨⟨⟨h1, h2⟩, h3⟩, h4⟩, h5⟩, fun ⟨⟨⟨⟨h1, h2⟩, h3⟩, h4⟩, h5⟩ => ⟨h1, ⟨h2, h3⟩, h4, h5⟩⟩
  rw [hd]
  clear hd
  obtain ⟨x0, tx0⟩ : ∃ x, decide (WideZ a b) = x := ⟨_, rfl⟩
  rw [tx0] at hw ⊢
  clear tx0
  obtain ⟨x1, tx1⟩ : ∃ x, decide (a ≤ v) = x := ⟨_, rfl⟩
  obtain ⟨x2, tx2⟩ : ∃ x, decide (v ≤ b) = x := ⟨_, rfl⟩
  obtain ⟨x3, tx3⟩ : ∃ x, decide (16 ≤ i) = x := ⟨_, rfl⟩
  obtain ⟨x4, tx4⟩ : ∃ x, decide (i ≤ 131086) = x := ⟨_, rfl⟩
  rw [tx1, tx2, tx3, tx4]
  cases x0
  case false =>
    go_enter Try.func49, Try.ntmps49
    go_upto_region 1 with (fail)
    refine wp_world (F := fun W => Row W w.heap.size 47 (dcs a b v i) ∧ Below w.heap.size w W) ⟨Row.newEq _ _ _ _ _ rfl rfl, (Below.refl _ _).alloc (Nat.le_refl _) _⟩ ?_
    rintro W0 ⟨r0, hb0⟩
    have e0 := (r0.cell 0).trans hc0
    have e1 := (r0.cell 1).trans hc1
    go_wp2_with (first
      | (go_at_call 56; refine (hw _).mono ?_; rintro e w1 ⟨rfl, hb1⟩; have r1 := r0.below hb1 r0.lt; have hba := up_call hb0 hb1; have d0 := (r1.cell 0).trans hc0; have d1 := (r1.cell 1).trans hc1; have d2 := (r1.cell 2).trans hc2; have d3 := (r1.cell 3).trans hc3))
    go_ret
    exact ⟨rfl, hba⟩
  cases x1
  case false =>
    go_enter Try.func49, Try.ntmps49
    go_upto_region 1 with (fail)
    refine wp_world (F := fun W => Row W w.heap.size 47 (dcs a b v i) ∧ Below w.heap.size w W) ⟨Row.newEq _ _ _ _ _ rfl rfl, (Below.refl _ _).alloc (Nat.le_refl _) _⟩ ?_
    rintro W0 ⟨r0, hb0⟩
    have e0 := (r0.cell 0).trans hc0
    have e1 := (r0.cell 1).trans hc1
    go_wp2_with (first
      | (go_at_call 56; refine (hw _).mono ?_; rintro e w1 ⟨rfl, hb1⟩; have r1 := r0.below hb1 r0.lt; have hba := up_call hb0 hb1; have d0 := (r1.cell 0).trans hc0; have d1 := (r1.cell 1).trans hc1; have d2 := (r1.cell 2).trans hc2; have d3 := (r1.cell 3).trans hc3))
    go_ret
    exact ⟨rfl, hba⟩
  cases x2
  case false =>
    go_enter Try.func49, Try.ntmps49
    go_upto_region 1 with (fail)
    refine wp_world (F := fun W => Row W w.heap.size 47 (dcs a b v i) ∧ Below w.heap.size w W) ⟨Row.newEq _ _ _ _ _ rfl rfl, (Below.refl _ _).alloc (Nat.le_refl _) _⟩ ?_
    rintro W0 ⟨r0, hb0⟩
    have e0 := (r0.cell 0).trans hc0
    have e1 := (r0.cell 1).trans hc1
    go_wp2_with (first
      | (go_at_call 56; refine (hw _).mono ?_; rintro e w1 ⟨rfl, hb1⟩; have r1 := r0.below hb1 r0.lt; have hba := up_call hb0 hb1; have d0 := (r1.cell 0).trans hc0; have d1 := (r1.cell 1).trans hc1; have d2 := (r1.cell 2).trans hc2; have d3 := (r1.cell 3).trans hc3))
    go_ret
    exact ⟨rfl, hba⟩
  cases x3
  case false =>
    go_enter Try.func49, Try.ntmps49
    go_upto_region 1 with (fail)
    refine wp_world (F := fun W => Row W w.heap.size 47 (dcs a b v i) ∧ Below w.heap.size w W) ⟨Row.newEq _ _ _ _ _ rfl rfl, (Below.refl _ _).alloc (Nat.le_refl _) _⟩ ?_
    rintro W0 ⟨r0, hb0⟩
    have e0 := (r0.cell 0).trans hc0
    have e1 := (r0.cell 1).trans hc1
    go_wp2_with (first
      | (go_at_call 56; refine (hw _).mono ?_; rintro e w1 ⟨rfl, hb1⟩; have r1 := r0.below hb1 r0.lt; have hba := up_call hb0 hb1; have d0 := (r1.cell 0).trans hc0; have d1 := (r1.cell 1).trans hc1; have d2 := (r1.cell 2).trans hc2; have d3 := (r1.cell 3).trans hc3))
    go_ret
    exact ⟨rfl, hba⟩
  cases x4
  case false =>
    go_enter Try.func49, Try.ntmps49
    go_upto_region 1 with (fail)
    refine wp_world (F := fun W => Row W w.heap.size 47 (dcs a b v i) ∧ Below w.heap.size w W) ⟨Row.newEq _ _ _ _ _ rfl rfl, (Below.refl _ _).alloc (Nat.le_refl _) _⟩ ?_
    rintro W0 ⟨r0, hb0⟩
    have e0 := (r0.cell 0).trans hc0
    have e1 := (r0.cell 1).trans hc1
    go_wp2_with (first
      | (go_at_call 56; refine (hw _).mono ?_; rintro e w1 ⟨rfl, hb1⟩; have r1 := r0.below hb1 r0.lt; have hba := up_call hb0 hb1; have d0 := (r1.cell 0).trans hc0; have d1 := (r1.cell 1).trans hc1; have d2 := (r1.cell 2).trans hc2; have d3 := (r1.cell 3).trans hc3))
    go_ret
    exact ⟨rfl, hba⟩
  case true =>
    go_enter Try.func49, Try.ntmps49
    go_upto_region 1 with (fail)
    refine wp_world (F := fun W => Row W w.heap.size 47 (dcs a b v i) ∧ Below w.heap.size w W) ⟨Row.newEq _ _ _ _ _ rfl rfl, (Below.refl _ _).alloc (Nat.le_refl _) _⟩ ?_
    rintro W0 ⟨r0, hb0⟩
    have e0 := (r0.cell 0).trans hc0
    have e1 := (r0.cell 1).trans hc1
    go_wp2_with (first
      | (go_at_call 56; refine (hw _).mono ?_; rintro e w1 ⟨rfl, hb1⟩; have r1 := r0.below hb1 r0.lt; have hba := up_call hb0 hb1; have d0 := (r1.cell 0).trans hc0; have d1 := (r1.cell 1).trans hc1; have d2 := (r1.cell 2).trans hc2; have d3 := (r1.cell 3).trans hc3))
    go_ret
    exact ⟨rfl, hba⟩

set_option maxRecDepth 100000 in
set_option maxHeartbeats 4000000 in
theorem Finish_bad (a b p : Int) (h : ¬ CoderZ a b p) (w : World) :
    Calls Try.prog 12 #[.agg (cds a b p)] w fun e w' => e = .returned (.tuple #[.agg (bcs none 0 0 0), .agg (flt 6 (-1))]) ∧ Below w.heap.size w w' := by
  have hv := vcoder_any a b p
  rw [decide_eq_false h] at hv
  clear h
  go_enter Try.func12, Try.ntmps12
  go_upto_region 1 with (fail)
  refine wp_world (F := fun W => Row W w.heap.size 23 (cds a b p) ∧ Row W (w.heap.size + 1) 26 (bcs none 0 0 0) ∧ Row W (w.heap.size + 2) 28 (flt 0 0) ∧ Below w.heap.size w W)
    ⟨((Row.newEq _ _ _ _ _ rfl rfl).alloc _).alloc _, (Row.newEq _ _ _ _ _ (by simp) rfl).alloc _, Row.newEq _ _ _ _ _ (by simp) rfl, (((Below.refl _ _).alloc (Nat.le_refl _) _).alloc (by simp) _).alloc (by simp; omega) _⟩ ?_
  rintro W0 ⟨r0, r1, r2, hb0⟩
  go_wp2_with (first
    | (refine wpList_load_row rfl 23 _ rfl w.heap.size rfl 23 (cds a b p) (0, 0) _ r0 Try.underlying23 rfl (by rw [cds_size]; exact cellsCd) ?_)
    | (go_at_call 37; refine (hv _).mono ?_; rintro e w1 ⟨rfl, hb1⟩; have q1 := r1.below hb1 r1.lt; have q2 := r2.below hb1 r2.lt; have hba := up_call hb0 hb1; clear hb1)
    | (refine wpList_store_row rfl 26 _ _ rfl (w.heap.size + 1) (bcs none 0 0 0) rfl rfl 26 (bcs none 0 0 0) q1 (by rw [bcs_size]; exact cellsB) rfl (all_one (bcs_one _ _ _ _)) ?_)
    | (refine wpList_store_row rfl 28 _ _ rfl (w.heap.size + 2) (flt 6 (-1)) rfl rfl 28 (flt 0 0) (q2.rowFar (by omega) _) (by rw [flt_size]; exact cellsF) rfl (all_one (flt_one _ _)) ?_))
  refine bodyPost_ret (results_rows Try.results12 _ _ (w.heap.size + 1) (w.heap.size + 2) 26 28 (bcs none 0 0 0) (flt 6 (-1)) _ _ rfl rfl ((Row.row q1 _).rowFar (by omega) _) (Row.row (q2.rowFar (by omega) _) _) Try.underlying26 rfl (by rw [bcs_size]; exact cellsB) Try.underlying28 rfl (by rw [flt_size]; exact cellsF)) rfl ⟨rfl, ?_⟩
  exact blw_row (blw_row hba (by omega) _) (by omega) _

set_option maxRecDepth 100000 in
set_option maxHeartbeats 4000000 in
theorem Finish_ok (L H P : Nat) (h : CoderZ L H P) (w : World) :
    Calls Try.prog 12 #[.agg (cds L H P)] w (BitsOut w (lastN P L)) := by
  have hP : P ≤ 131056 := by have := h.2.2; omega
  have hv := vcoder_any L H P
  rw [decide_eq_true h] at hv
  have hlen := last_length P L
  obtain ⟨o, ho⟩ : ∃ o, o = lastN P L := ⟨_, rfl⟩
  rw [← ho] at hlen ⊢
  have HMK := Lib.hid (make_tx o (by rw [hlen]; omega))
  have HO := Lib.hid ho
  clear h ho hlen
  go_enter Try.func12, Try.ntmps12
  go_upto_region 1 with (fail)
  refine wp_world (F := fun W => Row W w.heap.size 23 (cds L H P) ∧ Row W (w.heap.size + 1) 26 (bcs none 0 0 0) ∧ Row W (w.heap.size + 2) 28 (flt 0 0) ∧ Below w.heap.size w W)
    ⟨((Row.newEq _ _ _ _ _ rfl rfl).alloc _).alloc _, (Row.newEq _ _ _ _ _ (by simp) rfl).alloc _, Row.newEq _ _ _ _ _ (by simp) rfl, (((Below.refl _ _).alloc (Nat.le_refl _) _).alloc (by simp) _).alloc (by simp; omega) _⟩ ?_
  rintro W0 ⟨r0, r1, r2, hb0⟩
  go_upto_region 3 with (first
    | (refine wpList_load_row rfl 23 _ rfl w.heap.size rfl 23 (cds L H P) (0, 0) _ r0 Try.underlying23 rfl (by rw [cds_size]; exact cellsCd) ?_)
    | (go_at_call 37; refine (hv _).mono ?_; rintro e w1 ⟨rfl, hb1⟩; have q0 := r0.below hb1 r0.lt; have q1 := r1.below hb1 r1.lt; have q2 := r2.below hb1 r2.lt; have hba := up_call hb0 hb1; clear hb1))
  have hbs : w.heap.size + 3 ≤ w1.heap.size := q2.lt
  go_wp2_with (first
    | (refine wpList_load_row rfl 23 _ rfl w.heap.size rfl 23 (cds L H P) (0, 0) _ q0 Try.underlying23 rfl (by rw [cds_size]; exact cellsCd) ?_)
    | (go_at_call 42; refine (finish_any (w.heap.size + 3) (.slice none 0 0) [] 0 rfl L H P (by omega) _ (own_none _ _) hbs).mono ?_; rintro e w2 ⟨v, rfl, ho2, hb2⟩; generalize 0 + P + 2 = n2 at ho2; obtain ⟨A, c, hv2, _, _⟩ := own_form ho2; subst hv2; have hs2 := Sl.of_own ho2; rw [← HO.out, List.nil_append] at hs2; have hcv := conv_sl (P := Try.prog) w2 24 9 5 Try.underlying24 Try.underlying5 Try.underlying9 n2 c hs2; have s1 := q1.below hb2 (by omega); have s2 := q2.below hb2 (by omega); have hbb := hba.trans (hb2.mono (by omega)); clear ho2 hs2 hb2)
    | (go_at_call 41; refine (HMK.out _).mono ?_; rintro e w3 ⟨A3, c3, rfl, hs3, hb3⟩; have t1 := s1.below hb3 s1.lt; have t2 := s2.below hb3 s2.lt; have hbc := up_call hbb hb3)
    | (refine wpList_store_row rfl 26 _ _ rfl (w.heap.size + 1) (bcs A3 (pack o).length c3 o.length) rfl rfl 26 (bcs none 0 0 0) t1 (by rw [bcs_size]; exact cellsB) rfl (all_one (bcs_one _ _ _ _)) ?_)
    | (refine wpList_store_row rfl 28 _ _ rfl (w.heap.size + 2) (flt 0 0) rfl rfl 28 (flt 0 0) (t2.rowFar (by omega) _) (by rw [flt_size]; exact cellsF) rfl (all_one (flt_one _ _)) ?_))
  refine bodyPost_ret (results_rows Try.results12 _ _ (w.heap.size + 1) (w.heap.size + 2) 26 28 (bcs A3 (pack o).length c3 o.length) (flt 0 0) _ _ rfl rfl ((Row.row t1 _).rowFar (by omega) _) (Row.row (t2.rowFar (by omega) _) _) Try.underlying26 rfl (by rw [bcs_size]; exact cellsB) Try.underlying28 rfl (by rw [flt_size]; exact cellsF)) rfl ⟨A3, c3, rfl, ?_, ?_⟩
  · exact Sl.wider ((hs3.rowFar t1 (no_bcs _ _ _ _) _).rowFar (t2.rowFar (by omega) _) (no_flt _ _) _) (by simp)
  · exact blw_row (blw_row hbc (by omega) _) (by omega) _
end Go.Proofs.Ytcnokjiohbifeaa
