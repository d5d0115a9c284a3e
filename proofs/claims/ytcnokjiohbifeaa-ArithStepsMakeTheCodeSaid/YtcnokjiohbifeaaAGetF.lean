/-
  The contracts of arith.Get.
-/
import Derived.Test.YtcnokjiohbifeaaARead
import Derived.Test.YtcnokjiohbifeaaAGet
namespace Go.Proofs.Ytcnokjiohbifeaa
open Go.RowKit

/-- a result in a slot and two in blocks -/
theorem results_tmp_rows {P : Program} {fn : Func} {p q r : Tmp} {t u : TypeId} (h : fn.results = #[.tmp p, .cell q t, .cell r u]) (tmps : Array Value) (w : World)
    (x : Value) (g k : Nat) (a b : TypeId) (cs ds : Array Value) (d e : TypeDesc)
    (hp : tmps.getD p undef = x) (hq : tmps.getD q undef = .pointer (some ⟨g, 0, none⟩)) (hr : tmps.getD r undef = .pointer (some ⟨k, 0, none⟩)) (hg : Row w g a cs) (hk : Row w k b ds)
    (hu : P.underlying t = some d) (hd : (match d with | .struct _ | .array _ _ => true | _ => false) = true) (hi : (P.info? t).map (·.size) = some cs.size)
    (hv : P.underlying u = some e) (he : (match e with | .struct _ | .array _ _ => true | _ => false) = true) (hj : (P.info? u).map (·.size) = some ds.size) :
    (results fn tmps).run P w = .ok (.tuple #[x, .agg cs, .agg ds]) w := by
  have hp' : tmps[p]?.getD undef = x := by simpa using hp
  have hq' : tmps[q]?.getD undef = .pointer (some ⟨g, 0, none⟩) := by simpa using hq
  have hr' : tmps[r]?.getD undef = .pointer (some ⟨k, 0, none⟩) := by simpa using hr
  simp [results, h, hp', hq', hr', asAddr, run_loadVar_row w g a t cs (0, 0) d hg hu hd hi, run_loadVar_row w k b u ds (0, 0) e hk hv he hj]
theorem flat_lit : Flat (.agg #[.int .i64 0, .int .i64 0]) 2 := flat_flt 0 0
attribute [local go_sem ↓] wp_store_act wp_load_flat run_load_flat wp_store_flat
attribute [local go_sem] flat_lit blkOf_ptr cells_agg sizedDc sizeTDc aggDc sizedF sizeTF aggF flat_dcs flat_flt isRow_set_eq rowAt_set_eq

/-- the fault of Get -/
inductive GtF : Int → Int → Int → Int → List UInt8 → Int → Int → Int → Int → Prop
  | dec {a b v i : Int} {L : List UInt8} {k p : Int} (h : ¬ DecoderZ a b v i) : GtF a b v i L k p 6 (-1)
  | code {a b v i : Int} {L : List UInt8} {k p : Int} (h : DecoderZ a b v i) (hG : ¬ Good L k) : GtF a b v i L k p 6 (-2)
  | prob {a b v i : Int} {l : List Bool} {p : Int} (h : DecoderZ a b v i) (hl : l.length ≤ 131072) (hp : ¬ (1 ≤ p ∧ p ≤ 4095)) : GtF a b v i (pack l) l.length p 4 (-3)
  | trunc {L H v i p : Nat} {l : List Bool} (h : DecoderZ L H v i) (hl : l.length ≤ 131072) (h1 : 1 ≤ p) (h2 : p ≤ 4095) (ht : l.length + 14 < i + (stepN L H p (decide (v ≤ splitN L H p))).2.2.length) : GtF L H v i (pack l) l.length p 15 (-2)
theorem GtF.ne {a b v i : Int} {L : List UInt8} {k p c x : Int} (h : GtF a b v i L k p c x) : c ≠ 0 := by cases h <;> decide
theorem DecoderZ.nat {a b v i : Int} (h : DecoderZ a b v i) : ∃ L H x y : Nat, a = L ∧ b = H ∧ v = x ∧ i = y := by
  obtain ⟨⟨h1, h2, h3, h4, _⟩, ⟨h6, h7⟩, h8, h9⟩ := h
  exact ⟨a.toNat, b.toNat, v.toNat, i.toNat, by omega, by omega, by omega, by omega⟩
theorem DecoderZ.parts {L H v i : Nat} (h : DecoderZ L H v i) : WideR L H ∧ L ≤ v ∧ v ≤ H ∧ i ≤ 131086 := by
  obtain ⟨hw, ⟨h6, h7⟩, h8, h9⟩ := h
  obtain ⟨L', H', e1, e2, hw2⟩ := hw.nat
  have a1 : L = L' := by omega
  have a2 : H = H' := by omega
  subst a1 a2
  exact ⟨hw2, by omega, by omega, by omega⟩
theorem gtf_or (a b v i : Int) (L : List UInt8) (k p : Int) : (∃ c x, GtF a b v i L k p c x) ∨ ∃ (M H x y n : Nat) (l : List Bool), a = M ∧ b = H ∧ v = x ∧ i = y ∧ L = pack l ∧ k = (l.length : Int) ∧ p = n ∧ DecoderZ M H x y ∧ l.length ≤ 131072 ∧ 1 ≤ n ∧ n ≤ 4095 ∧ y + (stepN M H n (decide (x ≤ splitN M H n))).2.2.length ≤ l.length + 14 := by
  by_cases h : DecoderZ a b v i
  · rcases good_dec L k with ⟨l, rfl, hl, rfl⟩ | hG
    · by_cases hp : 1 ≤ p ∧ p ≤ 4095
      · obtain ⟨M, H, x, y, rfl, rfl, rfl, rfl⟩ := h.nat
        obtain ⟨n, rfl⟩ : ∃ n : Nat, p = n := ⟨p.toNat, by omega⟩
        by_cases ht : l.length + 14 < y + (stepN M H n (decide (x ≤ splitN M H n))).2.2.length
        · exact .inl ⟨15, -2, .trunc h hl (by omega) (by omega) ht⟩
        · exact .inr ⟨M, H, x, y, n, l, rfl, rfl, rfl, rfl, rfl, rfl, rfl, h, hl, by omega, by omega, by omega⟩
      · exact .inl ⟨4, -3, .prob h hl hp⟩
    · exact .inl ⟨6, -2, .code h hG⟩
  · exact .inl ⟨6, -1, .dec h⟩
/-- what Get answers where it refuses -/
def GetBad (a b v i : Int) (L : List UInt8) (k p c x : Int) : Prop := ∀ (A : Option Addr) (cp : Nat) (w : World), Sl w w.heap.size A L.length (bl L) → Calls Try.prog 23 #[.agg (dcs a b v i), .agg (bcs A L.length cp k), .int .i64 p] w fun e w' => e = .returned (.tuple #[.int .i64 0, .agg (dcs 0 0 0 0), .agg (flt c x)]) ∧ Below w.heap.size w w'

set_option maxRecDepth 100000 in
set_option maxHeartbeats 4000000 in
theorem Get_dec (a b v i : Int) (L : List UInt8) (k p : Int) (h : ¬ DecoderZ a b v i) : GetBad a b v i L k p 6 (-1) := by
  intro A cp w hS
  have hdec := vdecoder_any a b v i
  rw [decide_eq_false h] at hdec
  clear h
  go_enter Try.func23, Try.ntmps23
  go_upto_region 1 with (fail)
  refine wp_world (F := fun W => Row W w.heap.size 47 (dcs a b v i) ∧ Row W (w.heap.size + 1) 26 (bcs A L.length cp k) ∧ Row W (w.heap.size + 1 + 1) 47 (dcs 0 0 0 0) ∧ Row W (w.heap.size + 1 + 1 + 1) 28 (flt 0 0) ∧ Sl W W.heap.size A L.length (bl L) ∧ Below w.heap.size w W)
    ⟨(((Row.newEq _ _ _ _ _ rfl rfl).alloc _).alloc _).alloc _, ((Row.newEq _ _ _ _ _ (by simp) rfl).alloc _).alloc _, (Row.newEq _ _ _ _ _ (by simp) rfl).alloc _, Row.newEq _ _ _ _ _ (by simp) rfl, hS.up (((((Below.refl _ _).alloc (Nat.le_refl _) _).alloc (by simp) _).alloc (by simp; omega) _).alloc (by simp; omega) _), ((((Below.refl _ _).alloc (Nat.le_refl _) _).alloc (by simp) _).alloc (by simp; omega) _).alloc (by simp; omega) _⟩ ?_
  clear hS
  generalize hg3 : w.heap.size + 1 + 1 + 1 = g3
  generalize hg2 : w.heap.size + 1 + 1 = g2
  generalize hg1 : w.heap.size + 1 = g1
  have hl1 : w.heap.size < g1 := by omega
  have hl2 : g1 < g2 := by omega
  have hl3 : g2 < g3 := by omega
  clear hg1 hg2 hg3
  rintro W0 ⟨r0, r1, r2, r3, hS, hb0⟩
  go_wp2_with (first
    | (refine wpList_load_row rfl 47 _ rfl w.heap.size rfl 47 (dcs a b v i) (0, 0) _ r0 Try.underlying47 rfl (by rw [dcs_size]; exact cellsDc) ?_)
    | (go_at_call 49; refine (hdec _).mono ?_; rintro e w1 ⟨rfl, hb1⟩; have q0 := r0.below hb1 r0.lt; have q1 := r1.below hb1 r1.lt; have q2 := r2.below hb1 r2.lt; have q3 := r3.below hb1 r3.lt; have sS := hS.up hb1; have hba := up_call hb0 hb1; clear hb1)
    | (refine wpList_store_row rfl 47 _ _ rfl g2 (dcs 0 0 0 0) rfl rfl 47 (dcs 0 0 0 0) q2 (by rw [dcs_size]; exact cellsDc) rfl (all_one (dcs_one _ _ _ _)) ?_)
    | (refine wpList_store_row rfl 28 _ _ rfl g3 (flt 6 (-1)) rfl rfl 28 (flt 0 0) (q3.rowFar (by omega) _) (by rw [flt_size]; exact cellsF) rfl (all_one (flt_one _ _)) ?_))
  refine bodyPost_ret (results_tmp_rows Try.results23 _ _ _ g2 g3 47 28 (dcs 0 0 0 0) (flt 6 (-1)) _ _ rfl rfl rfl ((Row.row q2 _).rowFar (by omega) _) (Row.row (q3.rowFar (by omega) _) _) Try.underlying47 rfl (by rw [dcs_size]; exact cellsDc) Try.underlying28 rfl (by rw [flt_size]; exact cellsF)) rfl ⟨rfl, ?_⟩
  exact blw_row (blw_row hba (by omega) _) (by omega) _

set_option maxRecDepth 100000 in
set_option maxHeartbeats 4000000 in
theorem Get_code (a b v i : Int) (L : List UInt8) (k p : Int) (h : DecoderZ a b v i) (hG : ¬ Good L k) : GetBad a b v i L k p 6 (-2) := by
  intro A cp w hS
  have hdec := vdecoder_any a b v i
  rw [decide_eq_true h] at hdec
  have hval := valid_no L k hG A cp
  clear h hG
  go_enter Try.func23, Try.ntmps23
  go_upto_region 1 with (fail)
  refine wp_world (F := fun W => Row W w.heap.size 47 (dcs a b v i) ∧ Row W (w.heap.size + 1) 26 (bcs A L.length cp k) ∧ Row W (w.heap.size + 1 + 1) 47 (dcs 0 0 0 0) ∧ Row W (w.heap.size + 1 + 1 + 1) 28 (flt 0 0) ∧ Sl W W.heap.size A L.length (bl L) ∧ Below w.heap.size w W)
    ⟨(((Row.newEq _ _ _ _ _ rfl rfl).alloc _).alloc _).alloc _, ((Row.newEq _ _ _ _ _ (by simp) rfl).alloc _).alloc _, (Row.newEq _ _ _ _ _ (by simp) rfl).alloc _, Row.newEq _ _ _ _ _ (by simp) rfl, hS.up (((((Below.refl _ _).alloc (Nat.le_refl _) _).alloc (by simp) _).alloc (by simp; omega) _).alloc (by simp; omega) _), ((((Below.refl _ _).alloc (Nat.le_refl _) _).alloc (by simp) _).alloc (by simp; omega) _).alloc (by simp; omega) _⟩ ?_
  clear hS
  generalize hg3 : w.heap.size + 1 + 1 + 1 = g3
  generalize hg2 : w.heap.size + 1 + 1 = g2
  generalize hg1 : w.heap.size + 1 = g1
  have hl1 : w.heap.size < g1 := by omega
  have hl2 : g1 < g2 := by omega
  have hl3 : g2 < g3 := by omega
  clear hg1 hg2 hg3
  rintro W0 ⟨r0, r1, r2, r3, hS, hb0⟩
  go_wp2_with (first
    | (refine wpList_load_row rfl 47 _ rfl w.heap.size rfl 47 (dcs a b v i) (0, 0) _ r0 Try.underlying47 rfl (by rw [dcs_size]; exact cellsDc) ?_)
    | (go_at_call 49; refine (hdec _).mono ?_; rintro e w1 ⟨rfl, hb1⟩; have q0 := r0.below hb1 r0.lt; have q1 := r1.below hb1 r1.lt; have q2 := r2.below hb1 r2.lt; have q3 := r3.below hb1 r3.lt; have sS := hS.up hb1; have hba := up_call hb0 hb1; clear hb1)
    | (refine wpList_load_row rfl 26 _ rfl g1 rfl 26 (bcs A L.length cp k) (0, 0) _ q1 Try.underlying26 rfl (by rw [bcs_size]; exact cellsB) ?_)
    | (go_at_call 47; refine (hval _ sS).mono ?_; rintro e w2 ⟨rfl, hb2⟩; have s0 := q0.below hb2 q0.lt; have s1 := q1.below hb2 q1.lt; have s2 := q2.below hb2 q2.lt; have s3 := q3.below hb2 q3.lt; have uS := sS.up hb2; have hbb := up_call hba hb2; clear hb2)
    | (refine wpList_store_row rfl 47 _ _ rfl g2 (dcs 0 0 0 0) rfl rfl 47 (dcs 0 0 0 0) s2 (by rw [dcs_size]; exact cellsDc) rfl (all_one (dcs_one _ _ _ _)) ?_)
    | (refine wpList_store_row rfl 28 _ _ rfl g3 (flt 6 (-2)) rfl rfl 28 (flt 0 0) (s3.rowFar (by omega) _) (by rw [flt_size]; exact cellsF) rfl (all_one (flt_one _ _)) ?_))
  refine bodyPost_ret (results_tmp_rows Try.results23 _ _ _ g2 g3 47 28 (dcs 0 0 0 0) (flt 6 (-2)) _ _ rfl rfl rfl ((Row.row s2 _).rowFar (by omega) _) (Row.row (s3.rowFar (by omega) _) _) Try.underlying47 rfl (by rw [dcs_size]; exact cellsDc) Try.underlying28 rfl (by rw [flt_size]; exact cellsF)) rfl ⟨rfl, ?_⟩
  exact blw_row (blw_row hbb (by omega) _) (by omega) _

set_option maxRecDepth 100000 in
set_option maxHeartbeats 4000000 in
theorem Get_prob (a b v i : Int) (l : List Bool) (p : Int) (h : DecoderZ a b v i) (hl : l.length ≤ 131072) (hp : ¬ (1 ≤ p ∧ p ≤ 4095)) : GetBad a b v i (pack l) l.length p 4 (-3) := by
  intro A cp w hS
  have hdec := vdecoder_any a b v i
  rw [decide_eq_true h] at hdec
  have hval := valid_yes (pack l) l (pack_rep l) hl A cp
  have hprob := aisprob_any p false (decide_eq_false hp).symm
  obtain ⟨n, hn⟩ : ∃ n, n = l.length := ⟨_, rfl⟩
  rw [← hn] at hval ⊢
  clear h hp hl hn
  go_enter Try.func23, Try.ntmps23
  go_upto_region 1 with (fail)
  refine wp_world (F := fun W => Row W w.heap.size 47 (dcs a b v i) ∧ Row W (w.heap.size + 1) 26 (bcs A (pack l).length cp n) ∧ Row W (w.heap.size + 1 + 1) 47 (dcs 0 0 0 0) ∧ Row W (w.heap.size + 1 + 1 + 1) 28 (flt 0 0) ∧ Sl W W.heap.size A (pack l).length (bl (pack l)) ∧ Below w.heap.size w W)
    ⟨(((Row.newEq _ _ _ _ _ rfl rfl).alloc _).alloc _).alloc _, ((Row.newEq _ _ _ _ _ (by simp) rfl).alloc _).alloc _, (Row.newEq _ _ _ _ _ (by simp) rfl).alloc _, Row.newEq _ _ _ _ _ (by simp) rfl, hS.up (((((Below.refl _ _).alloc (Nat.le_refl _) _).alloc (by simp) _).alloc (by simp; omega) _).alloc (by simp; omega) _), ((((Below.refl _ _).alloc (Nat.le_refl _) _).alloc (by simp) _).alloc (by simp; omega) _).alloc (by simp; omega) _⟩ ?_
  clear hS
  generalize hg3 : w.heap.size + 1 + 1 + 1 = g3
  generalize hg2 : w.heap.size + 1 + 1 = g2
  generalize hg1 : w.heap.size + 1 = g1
  have hl1 : w.heap.size < g1 := by omega
  have hl2 : g1 < g2 := by omega
  have hl3 : g2 < g3 := by omega
  clear hg1 hg2 hg3
  rintro W0 ⟨r0, r1, r2, r3, hS, hb0⟩
  go_wp2_with (first
    | (refine wpList_load_row rfl 47 _ rfl w.heap.size rfl 47 (dcs a b v i) (0, 0) _ r0 Try.underlying47 rfl (by rw [dcs_size]; exact cellsDc) ?_)
    | (go_at_call 49; refine (hdec _).mono ?_; rintro e w1 ⟨rfl, hb1⟩; have q0 := r0.below hb1 r0.lt; have q1 := r1.below hb1 r1.lt; have q2 := r2.below hb1 r2.lt; have q3 := r3.below hb1 r3.lt; have sS := hS.up hb1; have hba := up_call hb0 hb1; clear hb1)
    | (refine wpList_load_row rfl 26 _ rfl g1 rfl 26 (bcs A (pack l).length cp n) (0, 0) _ q1 Try.underlying26 rfl (by rw [bcs_size]; exact cellsB) ?_)
    | (go_at_call 47; refine (hval _ sS).mono ?_; rintro e w2 ⟨rfl, hb2⟩; have s0 := q0.below hb2 q0.lt; have s1 := q1.below hb2 q1.lt; have s2 := q2.below hb2 q2.lt; have s3 := q3.below hb2 q3.lt; have uS := sS.up hb2; have hbb := up_call hba hb2; clear hb2)
    | (go_at_call 39; refine (hprob _).mono ?_; rintro e w3 ⟨rfl, h3⟩; subst w3)
    | (refine wpList_store_row rfl 47 _ _ rfl g2 (dcs 0 0 0 0) rfl rfl 47 (dcs 0 0 0 0) s2 (by rw [dcs_size]; exact cellsDc) rfl (all_one (dcs_one _ _ _ _)) ?_)
    | (refine wpList_store_row rfl 28 _ _ rfl g3 (flt 4 (-3)) rfl rfl 28 (flt 0 0) (s3.rowFar (by omega) _) (by rw [flt_size]; exact cellsF) rfl (all_one (flt_one _ _)) ?_))
  refine bodyPost_ret (results_tmp_rows Try.results23 _ _ _ g2 g3 47 28 (dcs 0 0 0 0) (flt 4 (-3)) _ _ rfl rfl rfl ((Row.row s2 _).rowFar (by omega) _) (Row.row (s3.rowFar (by omega) _) _) Try.underlying47 rfl (by rw [dcs_size]; exact cellsDc) Try.underlying28 rfl (by rw [flt_size]; exact cellsF)) rfl ⟨rfl, ?_⟩
  exact blw_row (blw_row hbb (by omega) _) (by omega) _

set_option maxRecDepth 100000 in
set_option maxHeartbeats 4000000 in
theorem Get_trunc (L H v i p : Nat) (l : List Bool) (h : DecoderZ L H v i) (hl : l.length ≤ 131072) (h1 : 1 ≤ p) (h2 : p ≤ 4095) (ht : l.length + 14 < i + (stepN L H p (decide (v ≤ splitN L H p))).2.2.length) : GetBad L H v i (pack l) l.length p 15 (-2) := by
  intro A cp w hS
  have hnb := hl
  obtain ⟨hw, hv1, hv2, hi⟩ := h.parts
  have hdec := vdecoder_any L H v i
  rw [decide_eq_true h] at hdec
  have hval := valid_yes (pack l) l (pack_rep l) hl A cp
  have hprob := aisprob_any (p : Int) true (decide_eq_true (by omega)).symm
  have hget := aget_any l hl L H p v i hw h1 h2 hv1 hv2 (by omega) _ rfl A cp
  obtain ⟨b, hb⟩ : ∃ b, b = decide (v ≤ splitN L H p) := ⟨_, rfl⟩
  rw [← hb] at hget ht
  obtain ⟨fL, fH, fs, hf⟩ : ∃ fL fH fs, stepN L H p b = (fL, fH, fs) := ⟨_, _, _, rfl⟩
  rw [hf] at hget ht
  simp only at hget ht
  obtain ⟨V, hV⟩ : ∃ V, V = moveN (fun j => l.getD j false) v i fs := ⟨_, rfl⟩
  rw [← hV] at hget
  obtain ⟨I, hI⟩ : ∃ I, I = i + fs.length := ⟨_, rfl⟩
  rw [← hI] at hget ht
  obtain ⟨bz, hbz⟩ : ∃ z : Int, z = ((b.toNat : Nat) : Int) := ⟨_, rfl⟩
  rw [← hbz] at hget
  obtain ⟨n, hn⟩ : ∃ n, n = l.length := ⟨_, rfl⟩
  rw [← hn] at hval hget ht hnb ⊢
  have HGET := Lib.hid hget
  clear h hw hv1 hv2 hi hl h1 h2 hb hf hV hI hbz hn hget
  have t0 : decide ((n : Int) + 14 < (I : Int)) = true := decide_eq_true (by omega)
  go_enter Try.func23, Try.ntmps23
  go_upto_region 1 with (fail)
  refine wp_world (F := fun W => Row W w.heap.size 47 (dcs L H v i) ∧ Row W (w.heap.size + 1) 26 (bcs A (pack l).length cp n) ∧ Row W (w.heap.size + 1 + 1) 47 (dcs 0 0 0 0) ∧ Row W (w.heap.size + 1 + 1 + 1) 28 (flt 0 0) ∧ Sl W W.heap.size A (pack l).length (bl (pack l)) ∧ Below w.heap.size w W)
    ⟨(((Row.newEq _ _ _ _ _ rfl rfl).alloc _).alloc _).alloc _, ((Row.newEq _ _ _ _ _ (by simp) rfl).alloc _).alloc _, (Row.newEq _ _ _ _ _ (by simp) rfl).alloc _, Row.newEq _ _ _ _ _ (by simp) rfl, hS.up (((((Below.refl _ _).alloc (Nat.le_refl _) _).alloc (by simp) _).alloc (by simp; omega) _).alloc (by simp; omega) _), ((((Below.refl _ _).alloc (Nat.le_refl _) _).alloc (by simp) _).alloc (by simp; omega) _).alloc (by simp; omega) _⟩ ?_
  clear hS
  generalize hg3 : w.heap.size + 1 + 1 + 1 = g3
  generalize hg2 : w.heap.size + 1 + 1 = g2
  generalize hg1 : w.heap.size + 1 = g1
  have hl1 : w.heap.size < g1 := by omega
  have hl2 : g1 < g2 := by omega
  have hl3 : g2 < g3 := by omega
  clear hg1 hg2 hg3
  rintro W0 ⟨r0, r1, r2, r3, hS, hb0⟩
  go_upto_region 7 with (first
    | (refine wpList_load_row rfl 47 _ rfl w.heap.size rfl 47 (dcs L H v i) (0, 0) _ r0 Try.underlying47 rfl (by rw [dcs_size]; exact cellsDc) ?_)
    | (go_at_call 49; refine (hdec _).mono ?_; rintro e w1 ⟨rfl, hb1⟩; have q0 := r0.below hb1 r0.lt; have q1 := r1.below hb1 r1.lt; have q2 := r2.below hb1 r2.lt; have q3 := r3.below hb1 r3.lt; have sS := hS.up hb1; have hba := up_call hb0 hb1; clear hb1)
    | (refine wpList_load_row rfl 26 _ rfl g1 rfl 26 (bcs A (pack l).length cp n) (0, 0) _ q1 Try.underlying26 rfl (by rw [bcs_size]; exact cellsB) ?_)
    | (go_at_call 47; refine (hval _ sS).mono ?_; rintro e w2 ⟨rfl, hb2⟩; have s0 := q0.below hb2 q0.lt; have s1 := q1.below hb2 q1.lt; have s2 := q2.below hb2 q2.lt; have s3 := q3.below hb2 q3.lt; have uS := sS.up hb2; have hbb := up_call hba hb2; clear hb2)
    | (go_at_call 39; refine (hprob _).mono ?_; rintro e w3 ⟨rfl, h3⟩; subst w3))
  go_upto_region 8 with (first
    | (refine wpList_load_row rfl 47 _ rfl w.heap.size rfl 47 (dcs L H v i) (0, 0) _ s0 Try.underlying47 rfl (by rw [dcs_size]; exact cellsDc) ?_)
    | (refine wpList_load_row rfl 26 _ rfl g1 rfl 26 (bcs A (pack l).length cp n) (0, 0) _ s1 Try.underlying26 rfl (by rw [bcs_size]; exact cellsB) ?_)
    | (go_at_call 50; refine (HGET.out _ uS).mono ?_; rintro e w4 ⟨rfl, hb4⟩)
    | (refine wpList_store_row rfl 47 _ _ rfl w4.heap.size (dcs fL fH V I) rfl rfl 47 (dcs 0 0 0 0) (Row.newEq _ _ _ _ _ rfl rfl) (by rw [dcs_size]; exact cellsDc) rfl (all_one (dcs_one _ _ _ _)) ?_))
  have hk1 := blw_new1 w4 (.cells #[.int .i64 0, .int .i64 0, .int .i64 0, .int .i64 0] 47) (dcs fL fH V I)
  have hk0 := up_call hb4 hk1
  refine wp_world (F := fun W => Row W g1 26 (bcs A (pack l).length cp n) ∧ Row W g2 47 (dcs 0 0 0 0) ∧ Row W g3 28 (flt 0 0) ∧ Row W w4.heap.size 47 (dcs fL fH V I) ∧ Below w.heap.size w W)
    ⟨s1.below hk0 s1.lt, s2.below hk0 s2.lt, s3.below hk0 s3.lt, row_new1 _ _ _ _, up_call hbb hk0⟩ ?_
  have hl4 : g3 < w4.heap.size := Nat.lt_of_lt_of_le s3.lt hb4.size
  generalize w4.heap.size = g4 at hl4
  clear hk1 hk0 hb4 s0 s1 s2 s3 uS hbb q0 q1 q2 q3 sS hba r0 r1 r2 r3 hS hb0 W0 w1 w2 w4 HGET
  rintro W1 ⟨r1, r2, r3, r4, hb⟩
  have e3 : W1.cell? ⟨g4, 3, none⟩ = some (.int .i64 I) := (r4.cell 3).trans rfl
  have e1 : W1.cell? ⟨g1, 1, none⟩ = some (.int .i64 n) := (r1.cell 1).trans rfl
  go_wp2_with (first
    | (refine wpList_store_row rfl 47 _ _ rfl g2 (dcs 0 0 0 0) rfl rfl 47 (dcs 0 0 0 0) r2 (by rw [dcs_size]; exact cellsDc) rfl (all_one (dcs_one _ _ _ _)) ?_)
    | (refine wpList_store_row rfl 28 _ _ rfl g3 (flt 15 (-2)) rfl rfl 28 (flt 0 0) (r3.rowFar (by omega) _) (by rw [flt_size]; exact cellsF) rfl (all_one (flt_one _ _)) ?_))
  refine bodyPost_ret (results_tmp_rows Try.results23 _ _ _ g2 g3 47 28 (dcs 0 0 0 0) (flt 15 (-2)) _ _ rfl rfl rfl ((Row.row r2 _).rowFar (by omega) _) (Row.row (r3.rowFar (by omega) _) _) Try.underlying47 rfl (by rw [dcs_size]; exact cellsDc) Try.underlying28 rfl (by rw [flt_size]; exact cellsF)) rfl ⟨rfl, ?_⟩
  exact blw_row (blw_row hb (by omega) _) (by omega) _

set_option maxRecDepth 100000 in
set_option maxHeartbeats 8000000 in
theorem Get_ok (L H v i p : Nat) (l : List Bool) (h : DecoderZ L H v i) (hl : l.length ≤ 131072) (h1 : 1 ≤ p) (h2 : p ≤ 4095) (ht : i + (stepN L H p (decide (v ≤ splitN L H p))).2.2.length ≤ l.length + 14) (A : Option Addr) (cp : Nat) (w : World) (hS : Sl w w.heap.size A (pack l).length (bl (pack l))) :
    Calls Try.prog 23 #[.agg (dcs L H v i), .agg (bcs A (pack l).length cp l.length), .int .i64 p] w fun e w' => e = .returned (.tuple #[.int .i64 (((decide (v ≤ splitN L H p)).toNat : Nat) : Int), .agg (dcs ((stepN L H p (decide (v ≤ splitN L H p))).1 : Nat) ((stepN L H p (decide (v ≤ splitN L H p))).2.1 : Nat) (moveN (fun j => l.getD j false) v i (stepN L H p (decide (v ≤ splitN L H p))).2.2 : Nat) ((i + (stepN L H p (decide (v ≤ splitN L H p))).2.2.length : Nat) : Int)), .agg (flt 0 0)]) ∧ Below w.heap.size w w' := by
  have hnb := hl
  obtain ⟨hw, hv1, hv2, hi⟩ := h.parts
  have hdec := vdecoder_any L H v i
  rw [decide_eq_true h] at hdec
  have hval := valid_yes (pack l) l (pack_rep l) hl A cp
  have hprob := aisprob_any (p : Int) true (decide_eq_true (by omega)).symm
  have hget := aget_any l hl L H p v i hw h1 h2 hv1 hv2 (by omega) _ rfl A cp
  obtain ⟨b, hb⟩ : ∃ b, b = decide (v ≤ splitN L H p) := ⟨_, rfl⟩
  rw [← hb] at hget ht ⊢
  obtain ⟨fL, fH, fs, hf⟩ : ∃ fL fH fs, stepN L H p b = (fL, fH, fs) := ⟨_, _, _, rfl⟩
  rw [hf] at hget ht ⊢
  simp only at hget ht ⊢
  obtain ⟨V, hV⟩ : ∃ V, V = moveN (fun j => l.getD j false) v i fs := ⟨_, rfl⟩
  rw [← hV] at hget ⊢
  obtain ⟨I, hI⟩ : ∃ I, I = i + fs.length := ⟨_, rfl⟩
  rw [← hI] at hget ht ⊢
  obtain ⟨bz, hbz⟩ : ∃ z : Int, z = ((b.toNat : Nat) : Int) := ⟨_, rfl⟩
  rw [← hbz] at hget ⊢
  obtain ⟨n, hn⟩ : ∃ n, n = l.length := ⟨_, rfl⟩
  rw [← hn] at hval hget ht hnb ⊢
  have HGET := Lib.hid hget
  clear h hw hv1 hv2 hi hl h1 h2 hb hf hV hI hbz hn hget
  have t0 : decide ((n : Int) + 14 < (I : Int)) = false := decide_eq_false (by omega)
  go_enter Try.func23, Try.ntmps23
  go_upto_region 1 with (fail)
  refine wp_world (F := fun W => Row W w.heap.size 47 (dcs L H v i) ∧ Row W (w.heap.size + 1) 26 (bcs A (pack l).length cp n) ∧ Row W (w.heap.size + 1 + 1) 47 (dcs 0 0 0 0) ∧ Row W (w.heap.size + 1 + 1 + 1) 28 (flt 0 0) ∧ Sl W W.heap.size A (pack l).length (bl (pack l)) ∧ Below w.heap.size w W)
    ⟨(((Row.newEq _ _ _ _ _ rfl rfl).alloc _).alloc _).alloc _, ((Row.newEq _ _ _ _ _ (by simp) rfl).alloc _).alloc _, (Row.newEq _ _ _ _ _ (by simp) rfl).alloc _, Row.newEq _ _ _ _ _ (by simp) rfl, hS.up (((((Below.refl _ _).alloc (Nat.le_refl _) _).alloc (by simp) _).alloc (by simp; omega) _).alloc (by simp; omega) _), ((((Below.refl _ _).alloc (Nat.le_refl _) _).alloc (by simp) _).alloc (by simp; omega) _).alloc (by simp; omega) _⟩ ?_
  clear hS
  generalize hg3 : w.heap.size + 1 + 1 + 1 = g3
  generalize hg2 : w.heap.size + 1 + 1 = g2
  generalize hg1 : w.heap.size + 1 = g1
  have hl1 : w.heap.size < g1 := by omega
  have hl2 : g1 < g2 := by omega
  have hl3 : g2 < g3 := by omega
  clear hg1 hg2 hg3
  rintro W0 ⟨r0, r1, r2, r3, hS, hb0⟩
  go_upto_region 7 with (first
    | (refine wpList_load_row rfl 47 _ rfl w.heap.size rfl 47 (dcs L H v i) (0, 0) _ r0 Try.underlying47 rfl (by rw [dcs_size]; exact cellsDc) ?_)
    | (go_at_call 49; refine (hdec _).mono ?_; rintro e w1 ⟨rfl, hb1⟩; have q0 := r0.below hb1 r0.lt; have q1 := r1.below hb1 r1.lt; have q2 := r2.below hb1 r2.lt; have q3 := r3.below hb1 r3.lt; have sS := hS.up hb1; have hba := up_call hb0 hb1; clear hb1)
    | (refine wpList_load_row rfl 26 _ rfl g1 rfl 26 (bcs A (pack l).length cp n) (0, 0) _ q1 Try.underlying26 rfl (by rw [bcs_size]; exact cellsB) ?_)
    | (go_at_call 47; refine (hval _ sS).mono ?_; rintro e w2 ⟨rfl, hb2⟩; have s0 := q0.below hb2 q0.lt; have s1 := q1.below hb2 q1.lt; have s2 := q2.below hb2 q2.lt; have s3 := q3.below hb2 q3.lt; have uS := sS.up hb2; have hbb := up_call hba hb2; clear hb2)
    | (go_at_call 39; refine (hprob _).mono ?_; rintro e w3 ⟨rfl, h3⟩; subst w3))
  go_upto_region 8 with (first
    | (refine wpList_load_row rfl 47 _ rfl w.heap.size rfl 47 (dcs L H v i) (0, 0) _ s0 Try.underlying47 rfl (by rw [dcs_size]; exact cellsDc) ?_)
    | (refine wpList_load_row rfl 26 _ rfl g1 rfl 26 (bcs A (pack l).length cp n) (0, 0) _ s1 Try.underlying26 rfl (by rw [bcs_size]; exact cellsB) ?_)
    | (go_at_call 50; refine (HGET.out _ uS).mono ?_; rintro e w4 ⟨rfl, hb4⟩)
    | (refine wpList_store_row rfl 47 _ _ rfl w4.heap.size (dcs fL fH V I) rfl rfl 47 (dcs 0 0 0 0) (Row.newEq _ _ _ _ _ rfl rfl) (by rw [dcs_size]; exact cellsDc) rfl (all_one (dcs_one _ _ _ _)) ?_))
  have hk1 := blw_new1 w4 (.cells #[.int .i64 0, .int .i64 0, .int .i64 0, .int .i64 0] 47) (dcs fL fH V I)
  have hk0 := up_call hb4 hk1
  refine wp_world (F := fun W => Row W g1 26 (bcs A (pack l).length cp n) ∧ Row W g2 47 (dcs 0 0 0 0) ∧ Row W g3 28 (flt 0 0) ∧ Row W w4.heap.size 47 (dcs fL fH V I) ∧ Below w.heap.size w W)
    ⟨s1.below hk0 s1.lt, s2.below hk0 s2.lt, s3.below hk0 s3.lt, row_new1 _ _ _ _, up_call hbb hk0⟩ ?_
  have hl4 : g3 < w4.heap.size := Nat.lt_of_lt_of_le s3.lt hb4.size
  generalize w4.heap.size = g4 at hl4
  clear hk1 hk0 hb4 s0 s1 s2 s3 uS hbb q0 q1 q2 q3 sS hba r0 r1 r2 r3 hS hb0 W0 w1 w2 w4 HGET
  rintro W1 ⟨r1, r2, r3, r4, hb⟩
  have e3 : W1.cell? ⟨g4, 3, none⟩ = some (.int .i64 I) := (r4.cell 3).trans rfl
  have e1 : W1.cell? ⟨g1, 1, none⟩ = some (.int .i64 n) := (r1.cell 1).trans rfl
  go_upto_region 10 with fail
  have i2 := r2.drew.is (dcs_size _ _ _ _)
  have i3 := r3.drew.is (flt_size _ _)
  have i4 := r4.drew.is (dcs_size _ _ _ _)
  have a4 := r4.drew.at
  have n1 : ¬ g2 = g3 := by omega
  have n2 : ¬ g3 = g2 := by omega
  have n3 : ¬ g4 = g2 := by omega
  have n4 : ¬ g4 = g3 := by omega
  go_region_law (fail)
  all_goals
    go_wp2
    refine bodyPost_ret (results_tmp_rows Try.results23 _ _ _ g2 g3 47 28 (dcs fL fH V I) (flt 0 0) _ _ rfl rfl rfl ((Row.row r2.drew _).rowFar (by omega) _) (Row.row (r3.drew.rowFar (by omega) _) _) Try.underlying47 rfl (by rw [dcs_size]; exact cellsDc) Try.underlying28 rfl (by rw [flt_size]; exact cellsF)) rfl ⟨rfl, ?_⟩
    exact blw_row (blw_row hb.drew (by omega) _) (by omega) _

theorem Get_bad (a b v i : Int) (L : List UInt8) (k p c x : Int) (h : GtF a b v i L k p c x) : GetBad a b v i L k p c x := by
  cases h with
  | dec h => exact Get_dec _ _ _ _ _ _ _ h
  | code h hG => exact Get_code _ _ _ _ _ _ _ h hG
  | prob h hl hp => exact Get_prob _ _ _ _ _ _ h hl hp
  | trunc h hl h1 h2 ht => exact Get_trunc _ _ _ _ _ _ h hl h1 h2 ht
end Go.Proofs.Ytcnokjiohbifeaa
