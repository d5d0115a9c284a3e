/-
  What arith.Decode answers where it refuses its arguments ahead of decoding. The contracts of arith.Decode where its arguments are good.
-/
import Derived.Test.YtcnokjiohbifeaaAGetF
import Derived.Test.YtcnokjiohbifeaaRInts
namespace Go.Proofs.Ytcnokjiohbifeaa
open Go.RowKit

/-- a good probability -/
def okP (z : Int) : Prop := 1 ≤ z ∧ z ≤ 4095
instance (z : Int) : Decidable (okP z) := inferInstanceAs (Decidable (_ ∧ _))
/-- numbers as integers -/
def nz (ps : List Nat) : List Int := ps.map fun (p : Nat) => ((p : Nat) : Int)
theorem nz_length (ps : List Nat) : (nz ps).length = ps.length := by simp [nz]
theorem zl_nz (ps : List Nat) : zl (nz ps) = nl ps := by
  unfold zl nz nl
  rw [List.map_map]
  rfl
theorem nz_getD (ps : List Nat) (i : Nat) : (nz ps).getD i 0 = ((ps.getD i 0 : Nat) : Int) := by
  unfold nz
  rw [List.getD_eq_getElem?_getD, List.getD_eq_getElem?_getD, List.getElem?_map]
  cases ps[i]? <;> rfl
theorem first_badP : ∀ (zs : List Int), (∃ ps, zs = nz ps ∧ ∀ p ∈ ps, 1 ≤ p ∧ p ≤ 4095) ∨ ∃ k, k < zs.length ∧ (∀ j, j < k → okP (zs.getD j 0)) ∧ ¬ okP (zs.getD k 0)
  | [] => .inl ⟨[], rfl, fun p hp => by cases hp⟩
  | z :: zs => by
    by_cases hz : okP z
    · rcases first_badP zs with ⟨ps, rfl, hg⟩ | ⟨k, h1, h2, h3⟩
      · obtain ⟨h1, h2⟩ := hz
        refine .inl ⟨z.toNat :: ps, ?_, ?_⟩
        · unfold nz
          rw [List.map_cons]
          congr 1
          omega
        · intro p hp
          rcases List.mem_cons.1 hp with rfl | hp
          · omega
          · exact hg p hp
      · refine .inr ⟨k + 1, by simpa using h1, fun j hj => ?_, by simpa using h3⟩
        cases j with
        | zero => simpa using hz
        | succ j => simpa using h2 j (by omega)
    · exact .inr ⟨0, by simp, fun j hj => by omega, by simpa using hz⟩
theorem okP_nz (ps : List Nat) (h : ∀ p ∈ ps, 1 ≤ p ∧ p ≤ 4095) (i : Nat) (hi : i < ps.length) : okP ((nz ps).getD i 0) := by
  rw [nz_getD]
  have e : ps.getD i 0 = ps[i] := by simp [List.getD_eq_getElem?_getD, hi]
  obtain ⟨h1, h2⟩ := h ps[i] (List.getElem_mem hi)
  rw [e]
  exact ⟨by omega, by omega⟩
/-- what Decode answers where it refuses -/
def DecBad (L : List UInt8) (k : Int) (zs : List Int) (c i : Int) : Prop := ∀ (A B : Option Addr) (cp dp : Nat) (w : World), Sl w w.heap.size A L.length (bl L) → Sl w w.heap.size B zs.length (zl zs) →
    Calls Try.prog 32 #[.agg (bcs A L.length cp k), .slice B zs.length dp] w fun e w' => e = .returned (.tuple #[.slice none 0 0, .agg (flt c i)]) ∧ Below w.heap.size w w'

set_option maxRecDepth 100000 in
set_option maxHeartbeats 4000000 in
theorem Decode_form (L : List UInt8) (k : Int) (zs : List Int) (hG : ¬ Good L k) : DecBad L k zs 6 (-1) := by
  intro A B cp dp w hS hP
  have hval := valid_no L k hG A cp
  clear hG
  go_enter Try.func32, Try.ntmps32
  go_upto_region 1 with (fail)
  refine wp_world (F := fun W => Row W w.heap.size 26 (bcs A L.length cp k) ∧ Row W (w.heap.size + 1) 28 (flt 0 0) ∧ Sl W W.heap.size A L.length (bl L) ∧ Sl W W.heap.size B zs.length (zl zs) ∧ Below w.heap.size w W)
    ⟨(Row.newEq _ _ _ _ _ rfl rfl).alloc _, Row.newEq _ _ _ _ _ (by simp) rfl, hS.up (((Below.refl _ _).alloc (Nat.le_refl _) _).alloc (by simp) _), hP.up (((Below.refl _ _).alloc (Nat.le_refl _) _).alloc (by simp) _), ((Below.refl _ _).alloc (Nat.le_refl _) _).alloc (by simp) _⟩ ?_
  clear hS hP
  rintro W0 ⟨r0, r1, hS, hP, hb0⟩
  go_wp2_with (first
    | (refine wpList_load_row rfl 26 _ rfl w.heap.size rfl 26 (bcs A L.length cp k) (0, 0) _ r0 Try.underlying26 rfl (by rw [bcs_size]; exact cellsB) ?_)
    | (go_at_call 47; refine (hval _ hS).mono ?_; rintro e w1 ⟨rfl, hb1⟩; have q0 := r0.below hb1 r0.lt; have q1 := r1.below hb1 r1.lt; have sS := hS.up hb1; have sP := hP.up hb1; have hba := up_call hb0 hb1; clear hb1)
    | (refine wpList_store_row rfl 28 _ _ rfl (w.heap.size + 1) (flt 6 (-1)) rfl rfl 28 (flt 0 0) q1 (by rw [flt_size]; exact cellsF) rfl (all_one (flt_one _ _)) ?_))
  refine bodyPost_ret (results_tmp_row Try.results32 _ _ _ (w.heap.size + 1) 28 (flt 6 (-1)) _ rfl rfl (Row.row q1 _) Try.underlying28 rfl (by rw [flt_size]; exact cellsF)) rfl ⟨rfl, ?_⟩
  exact blw_row hba (by omega) _

set_option maxRecDepth 100000 in
set_option maxHeartbeats 4000000 in
theorem Decode_many (l : List Bool) (zs : List Int) (hl : l.length ≤ 131072) (h : 8192 < zs.length) : DecBad (pack l) l.length zs 2 (-2) := by
  intro A B cp dp w hS hP
  have hval := valid_yes (pack l) l (pack_rep l) hl A cp
  obtain ⟨n, hn⟩ : ∃ n, n = l.length := ⟨_, rfl⟩
  rw [← hn] at hval ⊢
  have t0 : decide ((8192 : Int) < (zs.length : Int)) = true := decide_eq_true (by omega)
  clear hn hl
  go_enter Try.func32, Try.ntmps32
  go_upto_region 1 with (fail)
  refine wp_world (F := fun W => Row W w.heap.size 26 (bcs A (pack l).length cp n) ∧ Row W (w.heap.size + 1) 28 (flt 0 0) ∧ Sl W W.heap.size A (pack l).length (bl (pack l)) ∧ Sl W W.heap.size B zs.length (zl zs) ∧ Below w.heap.size w W)
    ⟨(Row.newEq _ _ _ _ _ rfl rfl).alloc _, Row.newEq _ _ _ _ _ (by simp) rfl, hS.up (((Below.refl _ _).alloc (Nat.le_refl _) _).alloc (by simp) _), hP.up (((Below.refl _ _).alloc (Nat.le_refl _) _).alloc (by simp) _), ((Below.refl _ _).alloc (Nat.le_refl _) _).alloc (by simp) _⟩ ?_
  clear hS hP
  rintro W0 ⟨r0, r1, hS, hP, hb0⟩
  go_wp2_with (first
    | (refine wpList_load_row rfl 26 _ rfl w.heap.size rfl 26 (bcs A (pack l).length cp n) (0, 0) _ r0 Try.underlying26 rfl (by rw [bcs_size]; exact cellsB) ?_)
    | (go_at_call 47; refine (hval _ hS).mono ?_; rintro e w1 ⟨rfl, hb1⟩; have q0 := r0.below hb1 r0.lt; have q1 := r1.below hb1 r1.lt; have sS := hS.up hb1; have sP := hP.up hb1; have hba := up_call hb0 hb1; clear hb1)
    | (refine wpList_store_row rfl 28 _ _ rfl (w.heap.size + 1) (flt 2 (-2)) rfl rfl 28 (flt 0 0) q1 (by rw [flt_size]; exact cellsF) rfl (all_one (flt_one _ _)) ?_))
  refine bodyPost_ret (results_tmp_row Try.results32 _ _ _ (w.heap.size + 1) 28 (flt 2 (-2)) _ rfl rfl (Row.row q1 _) Try.underlying28 rfl (by rw [flt_size]; exact cellsF)) rfl ⟨rfl, ?_⟩
  exact blw_row hba (by omega) _

set_option maxRecDepth 100000 in
set_option maxHeartbeats 4000000 in
theorem Decode_range (l : List Bool) (zs : List Int) (hl : l.length ≤ 131072) (hz : zs.length ≤ 8192) (k : Nat) (hk : k < zs.length) (h1 : ∀ j, j < k → okP (zs.getD j 0)) (h2 : ¬ okP (zs.getD k 0)) : DecBad (pack l) l.length zs 4 (k : Int) := by
  intro A B cp dp w hS hP
  have hval := valid_yes (pack l) l (pack_rep l) hl A cp
  obtain ⟨n, hn⟩ : ∃ n, n = l.length := ⟨_, rfl⟩
  rw [← hn] at hval ⊢
  have H1 := Lib.hid h1
  have H2 := Lib.hid h2
  obtain ⟨m, hm⟩ : ∃ m, m = zs.length := ⟨_, rfl⟩
  rw [← hm] at hz hk hP ⊢
  have t0 : decide ((8192 : Int) < (m : Int)) = false := decide_eq_false (by omega)
  clear hn hl h1 h2 hm
  go_enter Try.func32, Try.ntmps32
  go_upto_region 1 with (fail)
  refine wp_world (F := fun W => Row W w.heap.size 26 (bcs A (pack l).length cp n) ∧ Row W (w.heap.size + 1) 28 (flt 0 0) ∧ Sl W W.heap.size A (pack l).length (bl (pack l)) ∧ Sl W W.heap.size B m (zl zs) ∧ Below w.heap.size w W)
    ⟨(Row.newEq _ _ _ _ _ rfl rfl).alloc _, Row.newEq _ _ _ _ _ (by simp) rfl, hS.up (((Below.refl _ _).alloc (Nat.le_refl _) _).alloc (by simp) _), hP.up (((Below.refl _ _).alloc (Nat.le_refl _) _).alloc (by simp) _), ((Below.refl _ _).alloc (Nat.le_refl _) _).alloc (by simp) _⟩ ?_
  clear hS hP
  rintro W0 ⟨r0, r1, hS, hP, hb0⟩
  go_upto_region 5 with (first
    | (refine wpList_load_row rfl 26 _ rfl w.heap.size rfl 26 (bcs A (pack l).length cp n) (0, 0) _ r0 Try.underlying26 rfl (by rw [bcs_size]; exact cellsB) ?_)
    | (go_at_call 47; refine (hval _ hS).mono ?_; rintro e w1 ⟨rfl, hb1⟩; have q0 := r0.below hb1 r0.lt; have q1 := r1.below hb1 r1.lt; have sS := hS.up hb1; have sP := hP.up hb1; have hba := up_call hb0 hb1; clear hb1))
  go_upto_region 6 with fail
  go_loop [25] (fun i => ∃ j : Nat, j ≤ k ∧ i = .int .i64 j) (fun i => m - (intOf i).toNat)
  case atStart => exact ⟨0, Nat.zero_le _, rfl⟩
  case round =>
    obtain ⟨j, hj, rfl⟩ := hrel
    obtain ⟨ad, rfl, hbk, hcell⟩ := sP.int (show j < m by omega)
    by_cases hjk : j < k
    · have hprob := aisprob_any (zs.getD j 0) true (decide_eq_true (H1.out j hjk)).symm
      obtain ⟨z, hz2⟩ : ∃ z, z = zs.getD j 0 := ⟨_, rfl⟩
      rw [← hz2] at hcell hprob
      clear hz2
      go_wp2_with (first
        | (go_at_call 39; refine (hprob _).mono ?_; rintro e w3 ⟨rfl, h3⟩; subst w3))
      go_round
      case rel => exact ⟨j + 1, by omega, by go_num⟩
      case measure => simp [intOf]; omega
    · obtain rfl : j = k := by omega
      have hprob := aisprob_any (zs.getD j 0) false (decide_eq_false H2.out).symm
      obtain ⟨z, hz2⟩ : ∃ z, z = zs.getD j 0 := ⟨_, rfl⟩
      rw [← hz2] at hcell hprob
      clear hz2
      go_wp2_with (first
        | (go_at_call 39; refine (hprob _).mono ?_; rintro e w3 ⟨rfl, h3⟩; subst w3)
        | (refine wpList_store_row rfl 28 _ _ rfl (w.heap.size + 1) (flt 4 j) rfl rfl 28 (flt 0 0) q1 (by rw [flt_size]; exact cellsF) rfl (all_one (flt_one _ _)) ?_))
      refine bodyPost_ret (results_tmp_row Try.results32 _ _ _ (w.heap.size + 1) 28 (flt 4 j) _ rfl rfl (Row.row q1 _) Try.underlying28 rfl (by rw [flt_size]; exact cellsF)) rfl ⟨rfl, ?_⟩
      exact blw_row hba (by omega) _

/-- one bit of the decoder -/
theorem dec_next {C : Nat → Bool} {L H v i p : Nat} {b : Bool} {fL fH : Nat} {s : List Nat} (hf : stepN L H p b = (fL, fH, s)) (hw : WideR L H) (h1 : 1 ≤ p) (h2 : p ≤ 4095) (hv1 : L ≤ v) (hv2 : v ≤ H) (hb : b = decide (v ≤ splitN L H p)) (ps : List Nat) :
    WideR fL fH ∧ fL ≤ moveN C v i s ∧ moveN C v i s ≤ fH ∧ s.length ≤ 14 ∧ takeN C L H v i (p :: ps) = b :: takeN C fL fH (moveN C v i s) (i + s.length) ps ∧ manyN C L H v i (p :: ps) = s.length + manyN C fL fH (moveN C v i s) (i + s.length) ps := by
  obtain ⟨s1, s2, s3, s4⟩ := step_ok hw h1 h2 b
  obtain ⟨r1, r2, r3⟩ := part_room hw h1 h2 b
  obtain ⟨p1, p2⟩ := part_of L H p v hv1 hv2
  rw [← hb] at p1 p2
  obtain ⟨m1, m2, m3⟩ := move_dbl C 14 _ _ v i p1 p2 r2
  rw [show dblN 14 (partN L H p b).1 (partN L H p b).2 = (fL, fH, s) from hf] at m2 m3
  rw [hf] at s1 s2
  rw [takeN, manyN, ← hb, hf]
  exact ⟨s1, m2, m3, s2, rfl, rfl⟩
theorem set_next (o : List Bool) (b : Bool) (n j : Nat) (hj : o.length = j) (hn : j < n) : (o ++ List.replicate (n - j) false).set j b = (o ++ [b]) ++ List.replicate (n - (j + 1)) false := by
  rw [show n - j = (n - (j + 1)) + 1 by omega, List.replicate_succ, List.set_append_right _ _ (by omega), hj, Nat.sub_self, List.set_cons_zero, List.append_assoc]
  rfl
theorem il_set (l : List Bool) (j : Nat) (b : Bool) : il (l.set j b) = (il l).set j (.int .i64 ((b.toNat : Nat) : Int)) := by unfold il; rw [List.map_set]
theorem made_ints (n : Nat) : (madeCells #[Value.int .i64 0] n) = (il (List.replicate n false)).toArray := by
  apply Array.ext
  · rw [size_madeCells]
    simp [il_length]
  · intro i h1 h2
    unfold il
    simp [madeCells, Nat.mod_one]
theorem no_il (l : List Bool) : NoU8 (il l).toArray := fun z h => by
  unfold il at h
  simp at h
end Go.Proofs.Ytcnokjiohbifeaa

namespace Go.Proofs.Ytcnokjiohbifeaa
open Go.RowKit
attribute [local go_sem ↓] wp_store_act wp_load_flat run_load_flat wp_store_flat
attribute [local go_sem] flat_lit blkOf_ptr cells_agg sizedDc sizeTDc aggDc sizedF sizeTF aggF flat_dcs flat_flt isRow_set_eq rowAt_set_eq

set_option maxRecDepth 100000 in
set_option maxHeartbeats 4000000 in
theorem Decode_short (l : List Bool) (ps : List Nat) (hl : l.length ≤ 131072) (hps : ∀ p ∈ ps, 1 ≤ p ∧ p ≤ 4095) (m : Nat) (hm : m = ps.length) (hz : m ≤ 8192) (h2 : l.length < 2) (A B : Option Addr) (cp dp : Nat) (w : World) (hS : Sl w w.heap.size A (pack l).length (bl (pack l))) (hP : Sl w w.heap.size B m (nl ps)) :
    Calls Try.prog 32 #[.agg (bcs A (pack l).length cp l.length), .slice B m dp] w fun e w' => e = .returned (.tuple #[.slice none 0 0, .agg (flt 15 (-1))]) ∧ Below w.heap.size w w' := by
  have hval := valid_yes (pack l) l (pack_rep l) hl A cp
  obtain ⟨n, hn⟩ : ∃ n, n = l.length := ⟨_, rfl⟩
  rw [← hn] at hval ⊢
  have HOP := Lib.hid (Open_short l hl h2 A cp)
  rw [← hn] at HOP
  have HPB : Hid (∀ j, j < m → ∀ w : World, Calls Try.prog 39 #[.int .i64 ((ps.getD j 0 : Nat) : Int)] w fun e w' => e = .returned (.bool true) ∧ w' = w) :=
    Lib.hid (fun j hj w => aisprob_any ((ps.getD j 0 : Nat) : Int) true (by
      have h := okP_nz ps hps j (by omega)
      rw [nz_getD] at h
      exact (decide_eq_true h).symm) w)
  have t0 : decide ((8192 : Int) < (m : Int)) = false := decide_eq_false (by omega)
  have hnq : ∀ w : World, (binOp .neq 28 (.agg (flt 15 (-1))) (.agg #[.int .i64 0, .int .i64 0])).run Try.prog w = .ok (.bool true) w := fun w => neq_flt 15 (-1) 0 0 w
  clear hn hl hps hm h2
  go_enter Try.func32, Try.ntmps32
  go_upto_region 1 with (fail)
  refine wp_world (F := fun W => Row W w.heap.size 26 (bcs A (pack l).length cp n) ∧ Row W (w.heap.size + 1) 28 (flt 0 0) ∧ Sl W W.heap.size A (pack l).length (bl (pack l)) ∧ Sl W W.heap.size B m (nl ps) ∧ Below w.heap.size w W)
    ⟨(Row.newEq _ _ _ _ _ rfl rfl).alloc _, Row.newEq _ _ _ _ _ (by simp) rfl, hS.up (((Below.refl _ _).alloc (Nat.le_refl _) _).alloc (by simp) _), hP.up (((Below.refl _ _).alloc (Nat.le_refl _) _).alloc (by simp) _), ((Below.refl _ _).alloc (Nat.le_refl _) _).alloc (by simp) _⟩ ?_
  clear hS hP
  rintro W0 ⟨r0, r1, hS, hP, hb0⟩
  go_upto_region 5 with (first
    | (refine wpList_load_row rfl 26 _ rfl w.heap.size rfl 26 (bcs A (pack l).length cp n) (0, 0) _ r0 Try.underlying26 rfl (by rw [bcs_size]; exact cellsB) ?_)
    | (go_at_call 47; refine (hval _ hS).mono ?_; rintro e w1 ⟨rfl, hb1⟩; have q0 := r0.below hb1 r0.lt; have q1 := r1.below hb1 r1.lt; have sS := hS.up hb1; have sP := hP.up hb1; have hba := up_call hb0 hb1; clear hb1))
  go_upto_region 6 with fail
  go_loop [25] (fun i => ∃ j : Nat, j ≤ m ∧ i = .int .i64 j) (fun i => m - (intOf i).toNat)
  case atStart => exact ⟨0, Nat.zero_le _, rfl⟩
  case round =>
    obtain ⟨j, hj, rfl⟩ := hrel
    by_cases hjm : j < m
    · obtain ⟨ad, rfl, hbk, hcell⟩ := sP.num hjm
      have hprob := HPB.out j hjm
      obtain ⟨z, hz2⟩ : ∃ z : Int, z = ((ps.getD j 0 : Nat) : Int) := ⟨_, rfl⟩
      rw [← hz2] at hcell hprob
      clear hz2
      go_wp2_with (first
        | (go_at_call 39; refine (hprob _).mono ?_; rintro e w3 ⟨rfl, h3⟩; subst w3))
      go_round
      case rel => exact ⟨j + 1, by omega, by go_num⟩
      case measure => simp [intOf]; omega
    · obtain rfl : m = j := by omega
      clear hjm HPB
      go_upto_region 11 with fail
      go_upto_region 12 with (first
        | (refine wpList_load_row rfl 26 _ rfl w.heap.size rfl 26 (bcs A (pack l).length cp n) (0, 0) _ q0 Try.underlying26 rfl (by rw [bcs_size]; exact cellsB) ?_)
        | (go_at_call 22; refine (HOP.out _ sS).mono ?_; rintro e w4 ⟨rfl, hb4⟩)
        | (refine wpList_store_row rfl 47 _ _ rfl w4.heap.size (dcs 0 0 0 0) rfl rfl 47 (dcs 0 0 0 0) ((Row.newEq _ _ _ _ _ rfl rfl).alloc _) (by rw [dcs_size]; exact cellsDc) rfl (all_one (dcs_one _ _ _ _)) ?_)
        | (refine wpList_store_row rfl 28 _ _ rfl (w4.heap.size + 1) (flt 15 (-1)) rfl rfl 28 (flt 0 0) (row_far_new2 _ _ _ _ _ _) (by rw [flt_size]; exact cellsF) rfl (all_one (flt_one _ _)) ?_))
      have hk2 := blw_new2 w4 (.cells #[.int .i64 0, .int .i64 0, .int .i64 0, .int .i64 0] 47) (.cells #[.int .i64 0, .int .i64 0] 28) (dcs 0 0 0 0) (flt 15 (-1))
      have hk3 := up_call hb4 hk2
      refine wp_world (F := fun W => Row W w.heap.size 26 (bcs A (pack l).length cp n) ∧ Row W (w.heap.size + 1) 28 (flt 0 0) ∧ Row W w4.heap.size 47 (dcs 0 0 0 0) ∧ Row W (w4.heap.size + 1) 28 (flt 15 (-1)) ∧ Sl W W.heap.size A (pack l).length (bl (pack l)) ∧ Sl W w4.heap.size B m (nl ps) ∧ Below w.heap.size w W)
        ⟨q0.below hk3 q0.lt, q1.below hk3 q1.lt, row_new2a _ _ _ _ _ _ _, row_new2b _ _ _ _ _ _ _, sS.up hk3, (sP.up hb4).below hk2, up_call hba hk3⟩ ?_
      have hg8 : w.heap.size + 1 < w4.heap.size := Nat.lt_of_lt_of_le q1.lt hb4.size
      generalize w4.heap.size = g8 at hg8
      clear hk2 hk3 hb4 q0 q1 sS sP hba r0 r1 hS hP hb0 W0 w4 HOP
      rintro W1 ⟨r0, r1, r8, r9, hS, hP, hb⟩
      go_upto_region 13 with (first
        | (refine wpList_load_row rfl 28 _ rfl (g8 + 1) rfl 28 (flt 15 (-1)) (0, 0) _ r9 Try.underlying28 rfl (by rw [flt_size]; exact cellsF) ?_))
      have i9 := r9.drew.is (flt_size _ _)
      have a9 := r9.drew.at
      have i1 := r1.drew.is (flt_size _ _)
      have n1 : ¬ g8 + 1 = w.heap.size + 1 := by omega
      have n2 : ¬ g8 = w.heap.size := by omega
      have n3 : ¬ w.heap.size = g8 := by omega
      go_region_law (fail)
      all_goals
        go_wp2
        refine bodyPost_ret (results_tmp_row Try.results32 _ _ _ (w.heap.size + 1) 28 (flt 15 (-1)) _ rfl rfl (Row.row r1.drew _) Try.underlying28 rfl (by rw [flt_size]; exact cellsF)) rfl ⟨rfl, ?_⟩
        exact blw_row hb.drew (by omega) _

/-- no integer of a program's numbers is among the cells -/
theorem Sl.keepFar {w : World} {n g : Nat} {A : Option Addr} {t : TypeId} {cs : Array Value} {xs : List Value} (h : Sl w w.heap.size A n xs) (_r : Row w g t cs) (k : Nat) (hA : A = some ⟨k, 0, none⟩) (hk : k ≠ g) (ds : Array Value) : Sl (w.setRow g ds) w.heap.size A n xs := by
  refine ⟨h.1, fun hn => ?_⟩
  obtain ⟨ad, e, hb, hc⟩ := h.2 hn
  refine ⟨ad, e, hb, fun j u hu => ?_⟩
  rw [hA] at e
  injection e with e
  subst e
  rw [← hc j u hu]
  unfold World.cell?
  rw [show (w.setRow g ds).heap[((⟨k, 0, none⟩ : Addr).add j).block]? = w.heap[((⟨k, 0, none⟩ : Addr).add j).block]? from setRow_other w g _ ds (by rw [add_block]; exact hk)]
/-- what Decode answers -/
def DecOut (w : World) (t : Nat) (n : Nat) (T : List Bool) (m : Nat) (e : Ending) (w' : World) : Prop :=
  (n < t + 2 → e = .returned (.tuple #[.slice none 0 0, .agg (flt 15 (-1))])) ∧ (t + 2 < n → e = .returned (.tuple #[.slice none 0 0, .agg (flt 16 (-1))])) ∧
  (t + 2 = n → ∃ A c, e = .returned (.tuple #[.slice A m c, .agg (flt 0 0)]) ∧ Sl w' w'.heap.size A m (il T) ∧ m ≤ c ∧ c ≤ maxLen) ∧ Below w.heap.size w w'
set_option maxRecDepth 100000 in
set_option maxHeartbeats 8000000 in
theorem Decode_run (l : List Bool) (ps : List Nat) (hl : l.length ≤ 131072) (hps : ∀ p ∈ ps, 1 ≤ p ∧ p ≤ 4095) (m : Nat) (hm : m = ps.length) (hz : m ≤ 8192) (h2 : 2 ≤ l.length) (C : Nat → Bool) (hC : C = fun j => l.getD j false) (T : List Bool) (M : Nat) (hT : takeN C 0 65535 (numF C 16) 16 ps = T) (hM : manyN C 0 65535 (numF C 16) 16 ps = M) (A B : Option Addr) (cp dp : Nat) (w : World) (hS : Sl w w.heap.size A (pack l).length (bl (pack l))) (hP : Sl w w.heap.size B m (nl ps)) :
    Calls Try.prog 32 #[.agg (bcs A (pack l).length cp l.length), .slice B m dp] w (DecOut w M l.length T m) := by
  have hval := valid_yes (pack l) l (pack_rep l) hl A cp
  obtain ⟨n, hn⟩ : ∃ n, n = l.length := ⟨_, rfl⟩
  rw [← hn] at hval ⊢
  have hop := Open_ok l hl h2 A cp
  have hget := fun (L H p v i : Nat) (hw : WideR L H) (h1 : 1 ≤ p) (h2 : p ≤ 4095) (hv1 : L ≤ v) (hv2 : v ≤ H) (hi : i ≤ 900000) (b : Bool) (hb : b = decide (v ≤ splitN L H p)) => aget_any l hl L H p v i hw h1 h2 hv1 hv2 hi b hb A cp
  rw [← hC] at hop
  simp only [← hC] at hget
  have hv16 := numF_lt C 16
  obtain ⟨v0, hv0⟩ : ∃ v0, v0 = numF C 16 := ⟨_, rfl⟩
  rw [← hv0] at hop hv16 hT hM
  have HOP := Lib.hid hop
  have HGET := Lib.hid hget
  rw [← hn] at HOP HGET
  have HPB : Hid (∀ j, j < m → ∀ w : World, Calls Try.prog 39 #[.int .i64 ((ps.getD j 0 : Nat) : Int)] w fun e w' => e = .returned (.bool true) ∧ w' = w) :=
    Lib.hid (fun j hj w => aisprob_any ((ps.getD j 0 : Nat) : Int) true (by
      have h := okP_nz ps hps j (by omega)
      rw [nz_getD] at h
      exact (decide_eq_true h).symm) w)
  have t0 : decide ((8192 : Int) < (m : Int)) = false := decide_eq_false (by omega)
  have hnq : ∀ w : World, (binOp .neq 28 (.agg (flt 0 0)) (.agg #[.int .i64 0, .int .i64 0])).run Try.prog w = .ok (.bool false) w := fun w => neq_flt 0 0 0 0 w
  have hmk : ∀ w, (Instr.makeSlice 38 (.int .i64 (m : Int)) (.int .i64 (m : Int))).run Try.prog w = .ok (.slice (some ⟨w.heap.size, 0, none⟩) m m) (w.alloc (.cells (il (List.replicate m false)).toArray 3)) := by
    intro w
    rw [run_make_row' 38 3 (.int .i64 0) 8 Try.underlying38 infoI rfl .i64 .i64 m (by omega) (by omega) w, made_ints]
  have hn2 : n ≤ 131072 := by omega
  have HTM := Lib.hid (And.intro hT (And.intro hM (And.intro hm hps)))
  clear hn hl hps hm h2 hop hget hT hM hv0 hC
  go_enter Try.func32, Try.ntmps32
  go_upto_region 1 with (fail)
  refine wp_world (F := fun W => Row W w.heap.size 26 (bcs A (pack l).length cp n) ∧ Row W (w.heap.size + 1) 28 (flt 0 0) ∧ Sl W W.heap.size A (pack l).length (bl (pack l)) ∧ Sl W W.heap.size B m (nl ps) ∧ Below w.heap.size w W)
    ⟨(Row.newEq _ _ _ _ _ rfl rfl).alloc _, Row.newEq _ _ _ _ _ (by simp) rfl, hS.up (((Below.refl _ _).alloc (Nat.le_refl _) _).alloc (by simp) _), hP.up (((Below.refl _ _).alloc (Nat.le_refl _) _).alloc (by simp) _), ((Below.refl _ _).alloc (Nat.le_refl _) _).alloc (by simp) _⟩ ?_
  clear hS hP
  rintro W0 ⟨r0, r1, hS, hP, hb0⟩
  go_upto_region 5 with (first
    | (refine wpList_load_row rfl 26 _ rfl w.heap.size rfl 26 (bcs A (pack l).length cp n) (0, 0) _ r0 Try.underlying26 rfl (by rw [bcs_size]; exact cellsB) ?_)
    | (go_at_call 47; refine (hval _ hS).mono ?_; rintro e w1 ⟨rfl, hb1⟩; have q0 := r0.below hb1 r0.lt; have q1 := r1.below hb1 r1.lt; have sS := hS.up hb1; have sP := hP.up hb1; have hba := up_call hb0 hb1; clear hb1))
  go_upto_region 6 with fail
  go_loop [25] (fun i => ∃ j : Nat, j ≤ m ∧ i = .int .i64 j) (fun i => m - (intOf i).toNat)
  case atStart => exact ⟨0, Nat.zero_le _, rfl⟩
  case round =>
    obtain ⟨j, hj, rfl⟩ := hrel
    by_cases hjm : j < m
    · obtain ⟨ad, rfl, hbk, hcell⟩ := sP.num hjm
      have hprob := HPB.out j hjm
      obtain ⟨z, hz2⟩ : ∃ z : Int, z = ((ps.getD j 0 : Nat) : Int) := ⟨_, rfl⟩
      rw [← hz2] at hcell hprob
      clear hz2
      go_wp2_with (first
        | (go_at_call 39; refine (hprob _).mono ?_; rintro e w3 ⟨rfl, h3⟩; subst w3))
      go_round
      case rel => exact ⟨j + 1, by omega, by go_num⟩
      case measure => simp [intOf]; omega
    · obtain rfl : m = j := by omega
      clear hjm HPB
      go_upto_region 11 with fail
      go_upto_region 12 with (first
        | (refine wpList_load_row rfl 26 _ rfl w.heap.size rfl 26 (bcs A (pack l).length cp n) (0, 0) _ q0 Try.underlying26 rfl (by rw [bcs_size]; exact cellsB) ?_)
        | (go_at_call 22; refine (HOP.out _ sS).mono ?_; rintro e w4 ⟨rfl, hb4⟩)
        | (refine wpList_store_row rfl 47 _ _ rfl w4.heap.size (dcs 0 65535 v0 16) rfl rfl 47 (dcs 0 0 0 0) ((Row.newEq _ _ _ _ _ rfl rfl).alloc _) (by rw [dcs_size]; exact cellsDc) rfl (all_one (dcs_one _ _ _ _)) ?_)
        | (refine wpList_store_row rfl 28 _ _ rfl (w4.heap.size + 1) (flt 0 0) rfl rfl 28 (flt 0 0) (row_far_new2 _ _ _ _ _ _) (by rw [flt_size]; exact cellsF) rfl (all_one (flt_one _ _)) ?_))
      have hk2 := blw_new2 w4 (.cells #[.int .i64 0, .int .i64 0, .int .i64 0, .int .i64 0] 47) (.cells #[.int .i64 0, .int .i64 0] 28) (dcs 0 65535 v0 16) (flt 0 0)
      have hk3 := up_call hb4 hk2
      refine wp_world (F := fun W => Row W w.heap.size 26 (bcs A (pack l).length cp n) ∧ Row W (w.heap.size + 1) 28 (flt 0 0) ∧ Row W w4.heap.size 47 (dcs 0 65535 v0 16) ∧ Row W (w4.heap.size + 1) 28 (flt 0 0) ∧ Sl W W.heap.size A (pack l).length (bl (pack l)) ∧ Sl W w4.heap.size B m (nl ps) ∧ Below w.heap.size w W)
        ⟨q0.below hk3 q0.lt, q1.below hk3 q1.lt, row_new2a _ _ _ _ _ _ _, row_new2b _ _ _ _ _ _ _, sS.up hk3, (sP.up hb4).below hk2, up_call hba hk3⟩ ?_
      have hg8 : w.heap.size + 1 < w4.heap.size := Nat.lt_of_lt_of_le q1.lt hb4.size
      generalize w4.heap.size = g8 at hg8
      clear hk2 hk3 hb4 q0 q1 sS sP hba r0 r1 hS hP hb0 W0 w4 HOP
      rintro W1 ⟨r0, r1, r8, r9, hS, hP, hb⟩
      go_upto_region 14 with (first
        | (refine wpList_load_row rfl 28 _ rfl (g8 + 1) rfl 28 (flt 0 0) (0, 0) _ r9 Try.underlying28 rfl (by rw [flt_size]; exact cellsF) ?_))
      go_upto_region 15 with fail
      have hka := (Below.refl W1.heap.size W1).alloc (Nat.le_refl _) (.cells (il (List.replicate m false)).toArray 3)
      refine wp_world (F := fun W => Row W w.heap.size 26 (bcs A (pack l).length cp n) ∧ Row W (w.heap.size + 1) 28 (flt 0 0) ∧ Row W g8 47 (dcs 0 65535 v0 16) ∧ Row W W1.heap.size 3 (il (List.replicate m false)).toArray ∧ Sl W W.heap.size A (pack l).length (bl (pack l)) ∧ Sl W g8 B m (nl ps) ∧ Below w.heap.size w W)
        ⟨r0.below hka r0.lt, r1.below hka r1.lt, r8.below hka r8.lt, Row.new _ _ _, hS.up hka, hP.below (hka.mono (Nat.le_of_lt r8.lt)), up_call hb hka⟩ ?_
      have hg10 : g8 + 1 < W1.heap.size := r9.lt
      generalize W1.heap.size = g10 at hg10
      clear hka hmk hnq r0 r1 r8 r9 hS hP hb W1
      rintro W1 ⟨r0, r1, r8, r10, hS, hP, hb⟩
      go_upto_region 16 with fail
      go_loopw [50] (fun i wr => ∃ (j x y v t : Nat) (o : List Bool), j ≤ m ∧ i = .int .i64 j ∧ t ≤ 14 * j ∧ Hid (WideR x y ∧ x ≤ v ∧ v ≤ y ∧ o.length = j ∧ o ++ takeN C x y v (16 + t) (ps.drop j) = T ∧ t + manyN C x y v (16 + t) (ps.drop j) = M) ∧ Row wr w.heap.size 26 (bcs A (pack l).length cp n) ∧ Row wr (w.heap.size + 1) 28 (flt 0 0) ∧ Row wr g8 47 (dcs x y v (16 + t : Nat)) ∧ Row wr g10 3 (il (o ++ List.replicate (m - j) false)).toArray ∧ Sl wr wr.heap.size A (pack l).length (bl (pack l)) ∧ Sl wr g8 B m (nl ps) ∧ Below w.heap.size w wr) (fun i _ => m - (intOf i).toNat)
      case atStart => exact ⟨0, 0, 65535, v0, 0, [], Nat.zero_le _, rfl, Nat.zero_le _, Lib.hid ⟨by decide, Nat.zero_le _, by omega, rfl, by rw [List.nil_append, List.drop_zero]; exact HTM.out.1, by rw [Nat.zero_add, List.drop_zero]; exact HTM.out.2.1⟩, r0, r1, r8, r10, hS, hP, hb⟩
      case round =>
        clear r0 r1 r8 r10 hS hP hb hv16
        obtain ⟨j, x, y, v, t, o, hj, rfl, htj, HK, r0, r1, r8, r10, hS, hP, hb⟩ := hrel
        by_cases hjm : j < m
        · obtain ⟨ad, rfl, hbk, hcell⟩ := hP.num hjm
          have hjp : j < ps.length := by rw [← HTM.out.2.2.1]; exact hjm
          obtain ⟨hw, hv1, hv2, hol, ht, hmm⟩ := HK.out
          rw [List.drop_eq_getElem_cons hjp] at ht hmm
          have hpg : ps.getD j 0 = ps[j] := by simp [List.getD_eq_getElem?_getD, hjp]
          have hp12 := HTM.out.2.2.2 ps[j] (List.getElem_mem hjp)
          rw [hpg] at hcell
          obtain ⟨p, hp⟩ : ∃ p, p = ps[j] := ⟨_, rfl⟩
          rw [← hp] at hp12 ht hmm hcell
          obtain ⟨b, hbd⟩ : ∃ b, b = decide (v ≤ splitN x y p) := ⟨_, rfl⟩
          obtain ⟨fL, fH, s, hf⟩ : ∃ fL fH s, stepN x y p b = (fL, fH, s) := ⟨_, _, _, rfl⟩
          obtain ⟨d1, d2, d3, d4, d5, d6⟩ := dec_next (C := C) (i := 16 + t) hf hw hp12.1 hp12.2 hv1 hv2 hbd (ps.drop (j + 1))
          have hget := HGET.out x y p v (16 + t) hw hp12.1 hp12.2 hv1 hv2 (by omega) b hbd
          rw [hf] at hget
          simp only at hget
          rw [d5] at ht
          rw [d6] at hmm
          obtain ⟨v2, hv2'⟩ : ∃ v2, v2 = moveN C v (16 + t) s := ⟨_, rfl⟩
          rw [← hv2'] at hget d2 d3 ht hmm
          obtain ⟨t2, ht2⟩ : ∃ t2, t2 = t + s.length := ⟨_, rfl⟩
          rw [show 16 + t + s.length = 16 + t2 by omega] at hget ht hmm
          have ht2j : t2 ≤ 14 * (j + 1) := by omega
          have HK2 : Hid (WideR fL fH ∧ fL ≤ v2 ∧ v2 ≤ fH ∧ (o ++ [b]).length = j + 1 ∧ (o ++ [b]) ++ takeN C fL fH v2 (16 + t2) (ps.drop (j + 1)) = T ∧ t2 + manyN C fL fH v2 (16 + t2) (ps.drop (j + 1)) = M) :=
            Lib.hid ⟨d1, d2, d3, by rw [List.length_append, hol]; rfl, by rw [List.append_assoc]; exact ht, by omega⟩
          have hset := congrArg il (set_next o b m j hol hjm)
          rw [il_set] at hset
          obtain ⟨bz, hbz⟩ : ∃ z : Int, z = ((b.toNat : Nat) : Int) := ⟨_, rfl⟩
          rw [← hbz] at hget hset
          have HSET := Lib.hid hset
          obtain ⟨I, hI⟩ : ∃ I, I = 16 + t := ⟨_, rfl⟩
          obtain ⟨I2, hI2⟩ : ∃ I, I = 16 + t2 := ⟨_, rfl⟩
          rw [← hI] at hget r8
          rw [← hI2] at hget
          have HG := Lib.hid hget
          have HI2 := Lib.hid hI2
          have hsz : (il (o ++ List.replicate (m - j) false)).toArray.size = m := by rw [List.size_toArray, il_length, List.length_append, List.length_replicate, hol]; omega
          obtain ⟨cs, hcs⟩ : ∃ cs, cs = (il (o ++ List.replicate (m - j) false)).toArray := ⟨_, rfl⟩
          rw [← hcs] at r10 hsz
          have HCS := Lib.hid hcs
          obtain ⟨u, hu⟩ : ∃ u, cs[j]? = some u := ⟨cs[j]'(by omega), Array.getElem?_eq_getElem (by omega)⟩
          have n1 : ¬ g10 = g8 := by omega
          clear hw hv1 hv2 hol ht hmm hp12 hpg hp hbd hf d1 d2 d3 d4 d5 d6 hget hv2' ht2 hset hbz hI hI2 HK htj hjp hsz hcs
          go_upto_region 18 with fail
          go_wp2_with (first
            | (refine wpList_load_row rfl 47 _ rfl g8 rfl 47 (dcs x y v I) (0, 0) _ r8 Try.underlying47 rfl (by rw [dcs_size]; exact cellsDc) ?_)
            | (refine wpList_load_row rfl 26 _ rfl w.heap.size rfl 26 (bcs A (pack l).length cp n) (0, 0) _ r0 Try.underlying26 rfl (by rw [bcs_size]; exact cellsB) ?_)
            | (go_at_call 50; refine (HG.out _ hS).mono ?_; rintro e w6 ⟨rfl, hb6⟩; have s0 := r0.below hb6 r0.lt; have s1 := r1.below hb6 r1.lt; have s8 := r8.below hb6 r8.lt; have s10 := r10.below hb6 r10.lt; have sS := hS.up hb6; have sP := hP.below (hb6.mono (Nat.le_of_lt r8.lt)); have sb := up_call hb hb6; have c10 : w6.cell? ⟨g10, j, none⟩ = some u := (s10.cell j).trans hu; have f10 := s10.free j)
            | (refine wpList_store_row rfl 47 _ _ rfl g8 (dcs fL fH v2 I2) rfl rfl 47 (dcs x y v I) (s8.far (by simp; omega) _) (by rw [dcs_size]; exact cellsDc) rfl (all_one (dcs_one _ _ _ _)) ?_))
          go_roundw
          case rel => exact ⟨j + 1, fL, fH, v2, t2, o ++ [b], by omega, by go_num, ht2j, HK2, (s0.far (by simp; omega) _).rowFar (by omega) _, (s1.far (by simp; omega) _).rowFar (by omega) _, by rw [← HI2.out]; exact Row.row (s8.far (by simp; omega) _) _, by rw [← HSET.out]; exact (by have := s10.put j (.int .i64 bz); rw [HCS.out, List.setIfInBounds_toArray] at this; exact this : Row _ g10 _ _).rowFar n1 _, Sl.wider ((sS.farCell s10 (by rw [HCS.out]; exact no_il _) _ _).rowFar (s8.far (by simp; omega) _) (no_dcs _ _ _ _) _) (by simp), (sP.keepCell (by omega) _).keepAt (Nat.le_refl _) _, blw_row (sb.setCell (show w.heap.size ≤ g10 by omega) _) (by omega) _⟩
          case measure => simp [intOf]; omega
        · obtain rfl : m = j := by omega
          have hdrop : ps.drop m = [] := List.drop_of_length_le (by rw [← HTM.out.2.2.1]; exact Nat.le_refl _)
          obtain ⟨hw, hv1, hv2, hol, ht, hmm⟩ := HK.out
          rw [hdrop] at ht hmm
          rw [takeN, List.append_nil] at ht
          rw [manyN, Nat.add_zero] at hmm
          subst ht hmm
          rw [Nat.sub_self, List.replicate_zero, List.append_nil] at r10
          have hsl := Sl.of_head r10 m (by rw [il_length, hol]; exact Nat.le_refl _)
          rw [List.take_of_length_le (by rw [il_length, hol]; exact Nat.le_refl _)] at hsl
          have HSL := Lib.hid hsl
          have e3 : wr.cell? ⟨g8, 3, none⟩ = some (.int .i64 (16 + t : Nat)) := (r8.cell 3).trans rfl
          have e1 : wr.cell? ⟨w.heap.size, 1, none⟩ = some (.int .i64 n) := (r0.cell 1).trans rfl
          obtain ⟨I, hI⟩ : ∃ I : Nat, I = 16 + t := ⟨_, rfl⟩
          rw [← hI] at e3
          clear hw hv1 hv2 hol hdrop HK r0 r8 hS hP hjm HTM HGET hsl
          by_cases c1 : n + 14 < I
          · have t1 : decide ((n : Int) + 14 < (I : Int)) = true := decide_eq_true (by omega)
            have HI := Lib.hid (And.intro hI c1)
            clear hI c1
            go_wp2_with (first
              | (refine wpList_store_row rfl 28 _ _ rfl (w.heap.size + 1) (flt 15 (-1)) rfl rfl 28 (flt 0 0) r1 (by rw [flt_size]; exact cellsF) rfl (all_one (flt_one _ _)) ?_))
            refine bodyPost_ret (results_tmp_row Try.results32 _ _ _ (w.heap.size + 1) 28 (flt 15 (-1)) _ rfl rfl (Row.row r1 _) Try.underlying28 rfl (by rw [flt_size]; exact cellsF)) rfl ⟨fun _ => rfl, fun h => absurd h (by have := HI.out; omega), fun h => absurd h (by have := HI.out; omega), ?_⟩
            exact blw_row hb (by omega) _
          · by_cases c2 : I < n + 14
            · have t1 : decide ((n : Int) + 14 < (I : Int)) = false := decide_eq_false (by omega)
              have t2 : decide ((I : Int) < (n : Int) + 14) = true := decide_eq_true (by omega)
              have HI := Lib.hid (And.intro hI c2)
              clear hI c1 c2
              go_wp2_with (first
                | (refine wpList_store_row rfl 28 _ _ rfl (w.heap.size + 1) (flt 16 (-1)) rfl rfl 28 (flt 0 0) r1 (by rw [flt_size]; exact cellsF) rfl (all_one (flt_one _ _)) ?_))
              refine bodyPost_ret (results_tmp_row Try.results32 _ _ _ (w.heap.size + 1) 28 (flt 16 (-1)) _ rfl rfl (Row.row r1 _) Try.underlying28 rfl (by rw [flt_size]; exact cellsF)) rfl ⟨fun h => absurd h (by have := HI.out; omega), fun _ => rfl, fun h => absurd h (by have := HI.out; omega), ?_⟩
              exact blw_row hb (by omega) _
            · have t1 : decide ((n : Int) + 14 < (I : Int)) = false := decide_eq_false (by omega)
              have t2 : decide ((I : Int) < (n : Int) + 14) = false := decide_eq_false (by omega)
              have HI := Lib.hid (And.intro hI (And.intro c1 c2))
              clear hI c1 c2
              go_wp2_with (first
                | (refine wpList_store_row rfl 28 _ _ rfl (w.heap.size + 1) (flt 0 0) rfl rfl 28 (flt 0 0) r1 (by rw [flt_size]; exact cellsF) rfl (all_one (flt_one _ _)) ?_))
              refine bodyPost_ret (results_tmp_row Try.results32 _ _ _ (w.heap.size + 1) 28 (flt 0 0) _ rfl rfl (Row.row r1 _) Try.underlying28 rfl (by rw [flt_size]; exact cellsF)) rfl ⟨fun h => absurd h (by have := HI.out; omega), fun h => absurd h (by have := HI.out; omega), fun _ => ⟨_, _, rfl, ?_, Nat.le_refl _, by unfold maxLen; omega⟩, ?_⟩
              · exact Sl.wider (HSL.out.keepFar r1 g10 rfl (by omega) _) (by simp)
              · exact blw_row hb (by omega) _
end Go.Proofs.Ytcnokjiohbifeaa
