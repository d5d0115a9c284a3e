/-
  The contracts of the package's Next. (Written by cards/gen_YDn.py.)
-/
import Derived.Test.YtcmbpniikcghfaaYDt
import Derived.Test.YtcmbpniikcghfaaPCat
namespace Go.Proofs.Ytcmbpniikcghfaa
open Go.RowKit

theorem own_someD {w : World} {base : Nat} {e : TypeId} {n c : Nat} {A : Option Addr} {xs : List Value} (h : w.ownsRow base e 1 (.slice A n c) n xs) (hc : c ≠ 0) : ∃ a, A = some a := by
  rcases h.2 with ⟨h1, _⟩ | ⟨g, cap, cur, h1, _⟩
  · injection h1 with h1 h2 h3
    exact absurd h3 hc
  · injection h1 with h1
    exact ⟨_, h1⟩
attribute [local go_sem ↓] wp_store_act wp_load_flat run_load_flat wp_store_flat
attribute [local go_sem] flat_lit blkOf_ptr cells_agg sizedF sizeTF aggF flat_flt isRow_set_eq rowAt_set_eq
set_option maxRecDepth 100000 in
set_option maxHeartbeats 8000000 in
theorem next_bad0 (Ss : List (List UInt8)) (N D : Nat) (size : Int) (hD : 512 < D) (A B : Option Addr) (c d : Nat) (w : World) (hS : Sls w w.heap.size A N Ss) :
    Calls Try.prog 16 #[.slice B D d, .slice A N c, .int .i64 size] w fun e w' => (∃ G g, e = .returned (.tuple #[.slice G 0 g, .agg (flt 3 (-1))])) ∧ Below w.heap.size w w' := by
  have t1 : decide ((512 : Int) < (D : Int)) = true := decide_eq_true (by omega)
  have t2 : decide (512 < D) = true := decide_eq_true (by omega)
  have HS := Lib.hid hS
  clear hS hD
  go_enter Try.func16, Try.ntmps16
  go_upto_region 1 with (fail)
  have ha : Below w.heap.size w (w.alloc (.cells #[.int .i64 0, .int .i64 0] 25)) := (Below.refl _ _).alloc (Nat.le_refl _) _
  refine wp_world (F := fun W => Row W w.heap.size 25 (flt 0 0) ∧ Sls W W.heap.size A N Ss ∧ Below w.heap.size w W) ⟨Row.newEq _ _ _ _ _ rfl rfl, HS.out.up ha, ha⟩ ?_
  clear ha
  rintro W0 ⟨r0, hS, hb⟩
  clear hS
  go_wp2_with (first
    | (refine wpList_store_row rfl 25 _ _ rfl w.heap.size (flt 3 (-1)) rfl rfl 25 (flt 0 0) r0 (by rw [flt_size]; exact cellsF) rfl (all_one (flt_one _ _)) ?_))
  refine bodyPost_ret (results_tmp_row Try.results16 _ _ _ w.heap.size 25 (flt 3 (-1)) _ rfl rfl (Row.row r0 _) Try.underlying25 rfl (by rw [flt_size]; exact cellsF)) rfl ⟨⟨none, 0, rfl⟩, ?_⟩
  exact blw_row hb (Nat.le_refl _) _
set_option maxRecDepth 100000 in
set_option maxHeartbeats 8000000 in
theorem next_bad1 (Ss : List (List UInt8)) (N D : Nat) (size : Int) (hN : N = Ss.length) (hD : ¬ 512 < D) (hz : (smF Ss (-2)).1 ≠ 0) (A B : Option Addr) (c d : Nat) (w : World) (hS : Sls w w.heap.size A N Ss) :
    Calls Try.prog 16 #[.slice B D d, .slice A N c, .int .i64 size] w fun e w' => (∃ G g, e = .returned (.tuple #[.slice G 0 g, .agg (flt (smF Ss (-2)).1 (smF Ss (-2)).2)])) ∧ Below w.heap.size w w' := by
  have t1 : decide ((512 : Int) < (D : Int)) = false := decide_eq_false (by omega)
  have t2 : decide (512 < D) = false := decide_eq_false (by omega)
  have hf := fun (w : World) hS => checksamples_any Ss N hN (-2) A c w hS
  obtain ⟨k, i, hk⟩ : ∃ k i, smF Ss (-2) = (k, i) := ⟨_, _, rfl⟩
  rw [hk] at hf hz ⊢
  simp only at hf hz ⊢
  have hnq := neq_bad k i hz
  have HF := Lib.hid hf
  have HS := Lib.hid hS
  clear hf hS hz hk hN hD
  go_enter Try.func16, Try.ntmps16
  go_upto_region 1 with (fail)
  have ha : Below w.heap.size w (w.alloc (.cells #[.int .i64 0, .int .i64 0] 25)) := (Below.refl _ _).alloc (Nat.le_refl _) _
  refine wp_world (F := fun W => Row W w.heap.size 25 (flt 0 0) ∧ Sls W W.heap.size A N Ss ∧ Below w.heap.size w W) ⟨Row.newEq _ _ _ _ _ rfl rfl, HS.out.up ha, ha⟩ ?_
  clear ha
  rintro W0 ⟨r0, hS, hb⟩
  go_upto_region 4 with (first
    | (go_at_call 22; refine (HF.out _ hS).mono ?_; rintro e w2 ⟨rfl, hb2⟩)
    | (refine wpList_store_row rfl 25 _ _ rfl w2.heap.size (flt k i) rfl rfl 25 (flt 0 0) (Row.newEq _ _ _ _ _ rfl rfl) (by rw [flt_size]; exact cellsF) rfl (all_one (flt_one _ _)) ?_))
  have hk2 := up_call hb2 (blw_new1 w2 (.cells #[.int .i64 0, .int .i64 0] 25) (flt k i))
  refine wp_world (F := fun W => Row W w2.heap.size 25 (flt k i) ∧ Row W w.heap.size 25 (flt 0 0) ∧ w.heap.size < w2.heap.size ∧ Sls W W.heap.size A N Ss ∧ Below w.heap.size w W)
    ⟨row_new1 _ _ _ _, r0.below hk2 r0.lt, Nat.lt_of_lt_of_le r0.lt hb2.size, hS.up hk2, up_call hb hk2⟩ ?_
  generalize w2.heap.size = g6
  clear hb2 r0 hS hb hk2 w2 W0
  rintro W2 ⟨r6, r0, hlt, hS, hb⟩
  clear hS
  go_upto_region 5 with (first
    | (refine wpList_load_row rfl 25 _ rfl g6 rfl 25 (flt k i) (0, 0) _ r6 Try.underlying25 rfl (by rw [flt_size]; exact cellsF) ?_))
  have i6 := r6.drew.is (flt_size _ _)
  have a6 := r6.drew.at
  have q0 := r0.drew
  have i0 := r0.drew.is (flt_size _ _)
  have n3 : ¬ w.heap.size = g6 := by omega
  have n4 : ¬ g6 = w.heap.size := by omega
  go_region_law (fail)
  all_goals
    go_wp2
    refine bodyPost_ret (results_tmp_row Try.results16 _ _ _ w.heap.size 25 (flt k i) _ rfl rfl (Row.row q0 _) Try.underlying25 rfl (by rw [flt_size]; exact cellsF)) rfl ⟨⟨none, 0, rfl⟩, ?_⟩
    exact blw_row hb.drew (Nat.le_refl _) _
set_option maxRecDepth 100000 in
set_option maxHeartbeats 8000000 in
theorem next_bad2 (Ss : List (List UInt8)) (N D : Nat) (size : Int) (hN : N = Ss.length) (hD : ¬ 512 < D) (hz : (smF Ss (-2)).1 = 0) (hr : ¬ (0 ≤ size ∧ size ≤ 512)) (A B : Option Addr) (c d : Nat) (w : World) (hS : Sls w w.heap.size A N Ss) :
    Calls Try.prog 16 #[.slice B D d, .slice A N c, .int .i64 size] w fun e w' => (∃ G g, e = .returned (.tuple #[.slice G 0 g, .agg (flt 4 (-3))])) ∧ Below w.heap.size w w' := by
  have t1 : decide ((512 : Int) < (D : Int)) = false := decide_eq_false (by omega)
  have t2 : decide (512 < D) = false := decide_eq_false (by omega)
  have hf := fun (w : World) hS => checksamples_any Ss N hN (-2) A c w hS
  rw [(smF_ok hz).1] at hf
  simp only at hf
  have hnq : ∀ w : World, (binOp .neq 25 (.agg (flt 0 0)) (.agg #[.int .i64 0, .int .i64 0])).run Try.prog w = .ok (.bool false) w := fun w => neq_flt 0 0 0 0 w
  have HI := Lib.hid (fun w => inrange_no size hr w)
  have HF := Lib.hid hf
  have HS := Lib.hid hS
  clear hf hS hz hN hr hD
  go_enter Try.func16, Try.ntmps16
  go_upto_region 1 with (fail)
  have ha : Below w.heap.size w (w.alloc (.cells #[.int .i64 0, .int .i64 0] 25)) := (Below.refl _ _).alloc (Nat.le_refl _) _
  refine wp_world (F := fun W => Row W w.heap.size 25 (flt 0 0) ∧ Sls W W.heap.size A N Ss ∧ Below w.heap.size w W) ⟨Row.newEq _ _ _ _ _ rfl rfl, HS.out.up ha, ha⟩ ?_
  clear ha
  rintro W0 ⟨r0, hS, hb⟩
  go_upto_region 4 with (first
    | (go_at_call 22; refine (HF.out _ hS).mono ?_; rintro e w2 ⟨rfl, hb2⟩)
    | (refine wpList_store_row rfl 25 _ _ rfl w2.heap.size (flt 0 0) rfl rfl 25 (flt 0 0) (Row.newEq _ _ _ _ _ rfl rfl) (by rw [flt_size]; exact cellsF) rfl (all_one (flt_one _ _)) ?_))
  have hk2 := up_call hb2 (blw_new1 w2 (.cells #[.int .i64 0, .int .i64 0] 25) (flt 0 0))
  refine wp_world (F := fun W => Row W w2.heap.size 25 (flt 0 0) ∧ Row W w.heap.size 25 (flt 0 0) ∧ w.heap.size < w2.heap.size ∧ Sls W W.heap.size A N Ss ∧ Below w.heap.size w W)
    ⟨row_new1 _ _ _ _, r0.below hk2 r0.lt, Nat.lt_of_lt_of_le r0.lt hb2.size, hS.up hk2, up_call hb hk2⟩ ?_
  generalize w2.heap.size = g6
  clear hb2 r0 hS hb hk2 w2 W0
  rintro W2 ⟨r6, r0, hlt, hS, hb⟩
  clear hS
  go_wp2_with (first
    | (refine wpList_load_row rfl 25 _ rfl g6 rfl 25 (flt 0 0) (0, 0) _ r6 Try.underlying25 rfl (by rw [flt_size]; exact cellsF) ?_)
    | (go_at_call 23; refine (HI.out _).mono ?_; rintro e w3 ⟨rfl, h3⟩; subst w3)
    | (refine wpList_store_row rfl 25 _ _ rfl w.heap.size (flt 4 (-3)) rfl rfl 25 (flt 0 0) r0 (by rw [flt_size]; exact cellsF) rfl (all_one (flt_one _ _)) ?_))
  refine bodyPost_ret (results_tmp_row Try.results16 _ _ _ w.heap.size 25 (flt 4 (-3)) _ rfl rfl (Row.row r0 _) Try.underlying25 rfl (by rw [flt_size]; exact cellsF)) rfl ⟨⟨none, 0, rfl⟩, ?_⟩
  exact blw_row hb (Nat.le_refl _) _
/-- what Next leaves behind -/
def NxPost (Ss : List (List UInt8)) (E : List UInt8) (size : Nat) (w : World) (e : Ending) (w' : World) : Prop := (∃ R G g, TrainIs Ss size R ∧ e = .returned (.tuple #[.slice G (lastL size (E ++ R)).length g, .agg (flt 0 0)]) ∧ (lastL size (E ++ R)).length ≤ g ∧ Sl w' w'.heap.size G (lastL size (E ++ R)).length (bl (lastL size (E ++ R)))) ∧ Below w.heap.size w w'
theorem NxPost.mk {Ss : List (List UInt8)} {E : List UInt8} {size : Nat} {w w' : World} {e : Ending} (R : List UInt8) (G : Option Addr) (g : Nat) (h1 : TrainIs Ss size R) (h2 : e = .returned (.tuple #[.slice G (lastL size (E ++ R)).length g, .agg (flt 0 0)])) (h3 : (lastL size (E ++ R)).length ≤ g) (h4 : Sl w' w'.heap.size G (lastL size (E ++ R)).length (bl (lastL size (E ++ R)))) (h5 : Below w.heap.size w w') : NxPost Ss E size w e w' := ⟨⟨R, G, g, h1, h2, h3, h4⟩, h5⟩
set_option maxRecDepth 100000 in
set_option maxHeartbeats 8000000 in
theorem next_okP (E : List UInt8) (Ss : List (List UInt8)) (N D size : Nat) (hN : N = Ss.length) (hDl : D = E.length) (hal : nxF D Ss size = (0, 0)) (A B : Option Addr) (c d : Nat) (_hc : N ≤ c) (_hd : D ≤ d) (w : World) (hM : ML w) (hS : Sls w w.heap.size A N Ss) (hB : Sl w w.heap.size B D (bl E)) :
    Calls Try.prog 16 #[.slice B D d, .slice A N c, .int .i64 (size : Nat)] w fun e w' => NxPost Ss E size w e w' := by
  obtain ⟨_, hD5, hN64, h8, hs0, hs5⟩ := nxF_ok (D := D) (Ss := Ss) (size := (size : Int)) (by rw [hal]; exact fun h => h rfl)
  have hsm : smF Ss (-2) = (0, 0) := by
    unfold nxF at hal
    rw [if_neg (by omega)] at hal
    unfold trF at hal
    split at hal
    · rename_i h2
      exact (smF_ok h2).1
    · exact hal
  have t1 : decide ((512 : Int) < (D : Int)) = false := decide_eq_false (by omega)
  have t2 : decide (512 < D) = false := decide_eq_false (by omega)
  have hf := fun (w : World) hS => checksamples_any Ss N hN (-2) A c w hS
  rw [hsm] at hf
  simp only at hf
  have hnq : ∀ w : World, (binOp .neq 25 (.agg (flt 0 0)) (.agg #[.int .i64 0, .int .i64 0])).run Try.prog w = .ok (.bool false) w := fun w => neq_flt 0 0 0 0 w
  have HI := Lib.hid (fun w => inrange_yes size hs0 hs5 w)
  have HT := Lib.hid (fun w hM hS => ptrain_any Ss N (by omega) h8 size (by omega) A c w hM hS)
  have HF := Lib.hid hf
  have HS := Lib.hid hS
  have HM := Lib.hid hM
  have HB := Lib.hid hB
  have HDL := Lib.hid hDl
  clear hf hS hal hN hM hsm h8 hs0 hB hDl
  go_enter Try.func16, Try.ntmps16
  go_upto_region 1 with (fail)
  have ha : Below w.heap.size w (w.alloc (.cells #[.int .i64 0, .int .i64 0] 25)) := (Below.refl _ _).alloc (Nat.le_refl _) _
  refine wp_world (F := fun W => Row W w.heap.size 25 (flt 0 0) ∧ Sls W W.heap.size A N Ss ∧ Below w.heap.size w W) ⟨Row.newEq _ _ _ _ _ rfl rfl, HS.out.up ha, ha⟩ ?_
  clear ha
  rintro W0 ⟨r0, hS, hb⟩
  go_upto_region 4 with (first
    | (go_at_call 22; refine (HF.out _ hS).mono ?_; rintro e w2 ⟨rfl, hb2⟩)
    | (refine wpList_store_row rfl 25 _ _ rfl w2.heap.size (flt 0 0) rfl rfl 25 (flt 0 0) (Row.newEq _ _ _ _ _ rfl rfl) (by rw [flt_size]; exact cellsF) rfl (all_one (flt_one _ _)) ?_))
  have hk2 := up_call hb2 (blw_new1 w2 (.cells #[.int .i64 0, .int .i64 0] 25) (flt 0 0))
  refine wp_world (F := fun W => Row W w2.heap.size 25 (flt 0 0) ∧ Row W w.heap.size 25 (flt 0 0) ∧ w.heap.size < w2.heap.size ∧ Sls W W.heap.size A N Ss ∧ Below w.heap.size w W)
    ⟨row_new1 _ _ _ _, r0.below hk2 r0.lt, Nat.lt_of_lt_of_le r0.lt hb2.size, hS.up hk2, up_call hb hk2⟩ ?_
  generalize w2.heap.size = g6
  clear hb2 r0 hS hb hk2 w2 W0
  rintro W2 ⟨r6, r0, hlt, hS, hb⟩
  have HML := Lib.hid (HM.out.below hb)
  have sB2 := HB.out.up hb
  go_upto_region 9 with (first
    | (refine wpList_load_row rfl 25 _ rfl g6 rfl 25 (flt 0 0) (0, 0) _ r6 Try.underlying25 rfl (by rw [flt_size]; exact cellsF) ?_)
    | (go_at_call 23; refine (HI.out _).mono ?_; rintro e w3 ⟨rfl, h3⟩; subst w3)
    | (go_at_call 24; refine (HT.out _ HML.out hS).mono ?_; rintro e w4 ⟨⟨R, G, g, hR, rfl, hg, sR⟩, hb4⟩; have hRl := train_len hR; have HR := Lib.hid hR; obtain ⟨m, hm⟩ : ∃ m, m = R.length := ⟨_, rfl⟩; rw [← hm] at hg sR hRl; rw [← hm]; have HMM := Lib.hid hm; clear hm hR; have sB4 := sB2.up hb4; have r04 := r0.below hb4 r0.lt; have hbb4 := up_call hb hb4)
    | (go_at_call 27; refine (concat_any E R D m (by omega) (by omega) B G d g w4.heap.size _ (sB4.up ((Below.refl _ _).alloc (Nat.le_refl _) _)) (sR.up ((Below.refl _ _).alloc (Nat.le_refl _) _)) (Row.new _ _ _)).mono ?_; rintro e w5 ⟨v5, rfl, hown5, hkt5, hb5⟩))
  have r05 := (r04.alloc _).below hb5 (r04.alloc _).lt
  have hbb5 := up_call (hbb4.alloc hbb4.size _) hb5
  obtain ⟨l, hl⟩ : ∃ l, l = D + m := ⟨_, rfl⟩
  rw [← hl] at hown5
  have hl1 : l ≤ 1024 := by omega
  obtain ⟨A9, c9, hv9, hc9, hm9⟩ := own_form hown5
  subst hv9
  have s9 := Sl.of_own hown5
  have hll : l = (E ++ R).length := by rw [List.length_append, ← HMM.out, ← HDL.out, hl]
  obtain ⟨k, hk⟩ : ∃ k, k = l - size := ⟨_, rfl⟩
  obtain ⟨T, hT⟩ : ∃ T, T = lastL size (E ++ R) := ⟨_, rfl⟩
  have HTT := Lib.hid hT
  have hTk : T = (E ++ R).drop k := by rw [hT, lastL, ← hll, hk]
  have htl : T.length = l - k := by rw [hTk, List.length_drop, ← hll]
  have HTL := Lib.hid htl
  clear hb4 hb5 hkt5 r04 sB4 sR sB2 hbb4 r0 r6 hS hb hT htl HML HT HI HF hRl
  by_cases hls : size < l
  · have ww : IntKind.i64.wrap ((l : Int) - (size : Int)) = (k : Int) := by rw [IntKind.wrap_i64]; omega
    have k0 : (0 : Int) < (k : Int) := by omega
    have k1 : (k : Int) ≤ (l : Int) := by omega
    have k2 : (l : Int) ≤ (c9 : Int) := by omega
    have sK := s9.cut (k := k) (cap := c9) (by omega) hc9
    rw [bl_drop, ← hTk] at sK
    by_cases hck : c9 = k
    · have h1 : c9 = l := by omega
      have h2 : k = l := by omega
      rw [if_pos hck] at sK
      have hl0 : l - k = 0 := by omega
      have HT0 : Hid (T.length = 0) := Lib.hid (by rw [HTL.out, hl0])
      clear HTL
      rw [hl0] at sK
      have HSK := Lib.hid sK
      clear hk hTk hl hll hown5 s9 hm9 hck hl0 hls sK
      subst h1 h2
      go_wp2_with (first
        | (refine wpList_store_row rfl 25 _ _ rfl w.heap.size (flt 0 0) rfl rfl 25 (flt 0 0) r05 (by rw [flt_size]; exact cellsF) rfl (all_one (flt_one _ _)) ?_))
      refine bodyPost_ret (results_tmp_row Try.results16 _ _ _ w.heap.size 25 (flt 0 0) _ rfl rfl (Row.row r05 _) Try.underlying25 rfl (by rw [flt_size]; exact cellsF)) rfl (NxPost.mk R A9 0 HR.out ?_ ?_ ?_ (blw_row hbb5 (Nat.le_refl _) _))
      · rw [← HTT.out, HT0.out]
        rfl
      · rw [← HTT.out, HT0.out]
        exact Nat.zero_le _
      · rw [← HTT.out, HT0.out]
        exact Sl.keepFlt HSK.out r05 _
    · rw [if_neg hck] at sK
      obtain ⟨a9, rfl⟩ := own_someD hown5 (by omega)
      have HSK := Lib.hid sK
      have hcl : l - k ≤ c9 - k := by omega
      have HCL := Lib.hid hcl
      clear hk hTk hl hll hown5 s9 hm9 hls sK hcl
      go_wp2_with (first
        | (refine wpList_store_row rfl 25 _ _ rfl w.heap.size (flt 0 0) rfl rfl 25 (flt 0 0) r05 (by rw [flt_size]; exact cellsF) rfl (all_one (flt_one _ _)) ?_))
      refine bodyPost_ret (results_tmp_row Try.results16 _ _ _ w.heap.size 25 (flt 0 0) _ rfl rfl (Row.row r05 _) Try.underlying25 rfl (by rw [flt_size]; exact cellsF)) rfl (NxPost.mk R (some (a9.add k)) (c9 - k) HR.out ?_ ?_ ?_ (blw_row hbb5 (Nat.le_refl _) _))
      · rw [← HTT.out, HTL.out]
        rfl
      · rw [← HTT.out, HTL.out]
        exact HCL.out
      · rw [← HTT.out, HTL.out]
        exact Sl.keepFlt HSK.out r05 _
  · obtain ⟨z, hz⟩ : ∃ z, z = (l : Int) - (size : Int) := ⟨_, rfl⟩
    have ww : IntKind.i64.wrap ((l : Int) - (size : Int)) = z := by rw [IntKind.wrap_i64]; omega
    have z0 : ¬ (0 < z) := by omega
    have z1 : decide (0 < z) = false := decide_eq_false z0
    have HMX : Hid (max (0 : Int) z = 0) := Lib.hid (by omega)
    have hk0 : k = 0 := by omega
    have k2 : (l : Int) ≤ (c9 : Int) := by omega
    have htl2 : T.length = l := by rw [HTL.out, hk0, Nat.sub_zero]
    rw [hk0, List.drop_zero] at hTk
    have sK := s9
    rw [← hTk] at sK
    have HSK := Lib.hid sK
    have HCL := Lib.hid hc9
    clear HTL
    by_cases hck : c9 = 0
    · have h1 : l = 0 := by omega
      have HT0 : Hid (T.length = 0) := Lib.hid (by rw [htl2, h1])
      clear hz hk0 hk hTk hll hown5 s9 hm9 hls hl sK htl2 HCL
      subst hck h1
      go_wp2_with (first
        | (refine wpList_store_row rfl 25 _ _ rfl w.heap.size (flt 0 0) rfl rfl 25 (flt 0 0) r05 (by rw [flt_size]; exact cellsF) rfl (all_one (flt_one _ _)) ?_))
      refine bodyPost_ret (results_tmp_row Try.results16 _ _ _ w.heap.size 25 (flt 0 0) _ rfl rfl (Row.row r05 _) Try.underlying25 rfl (by rw [flt_size]; exact cellsF)) rfl (NxPost.mk R A9 0 HR.out ?_ ?_ ?_ (blw_row hbb5 (Nat.le_refl _) _))
      · rw [← HTT.out, HT0.out]
        rfl
      · rw [← HTT.out, HT0.out]
        exact Nat.zero_le _
      · rw [← HTT.out, HT0.out]
        exact Sl.keepFlt HSK.out r05 _
    · obtain ⟨a9, rfl⟩ := own_someD hown5 hck
      have HTL := Lib.hid htl2
      clear hz hk0 hk hTk hl hll hown5 s9 hm9 hls sK htl2
      go_wp2_with (first
        | (refine wpList_store_row rfl 25 _ _ rfl w.heap.size (flt 0 0) rfl rfl 25 (flt 0 0) r05 (by rw [flt_size]; exact cellsF) rfl (all_one (flt_one _ _)) ?_))
      refine bodyPost_ret (results_tmp_row Try.results16 _ _ _ w.heap.size 25 (flt 0 0) _ rfl rfl (Row.row r05 _) Try.underlying25 rfl (by rw [flt_size]; exact cellsF)) rfl (NxPost.mk R (some a9) c9 HR.out ?_ ?_ ?_ (blw_row hbb5 (Nat.le_refl _) _))
      · rw [← HTT.out, HTL.out, HMX.out]
        rfl
      · rw [← HTT.out, HTL.out]
        exact HCL.out
      · rw [← HTT.out, HTL.out]
        exact Sl.keepFlt HSK.out r05 _
theorem next_ok : PNext := fun E Ss N D size hN hDl hal A B c d hc hd w hM hS hB => next_okP E Ss N D size hN hDl hal A B c d hc hd w hM hS hB
theorem next_bad : PNextBad := by
  intro Ss N D size hN hi hz A B c d w hS
  by_cases hD : 512 < D
  · have e : nxF D Ss size = (3, -1) := by unfold nxF; rw [if_pos hD]
    rw [e]
    exact next_bad0 Ss N D size hD A B c d w hS
  · have e : nxF D Ss size = trF Ss size (-2) (-3) := by unfold nxF; rw [if_neg hD]
    rw [e] at hz ⊢
    unfold trF at hz ⊢
    by_cases h : (smF Ss (-2)).1 = 0
    · rw [if_pos h] at hz ⊢
      by_cases h2 : 0 ≤ size ∧ size ≤ 512
      · rw [if_pos h2] at hz
        exact absurd rfl hz
      · rw [if_neg h2]
        exact next_bad2 Ss N D size hN hD h h2 A B c d w hS
    · rw [if_neg h]
      exact next_bad1 Ss N D size hN hD h A B c d w hS
theorem train_bad : PTrainBad := by
  intro Ss N size hN hi hz A c w hS
  unfold trF at hz ⊢
  by_cases h : (smF Ss (-1)).1 = 0
  · rw [if_pos h] at hz ⊢
    by_cases h2 : 0 ≤ size ∧ size ≤ 512
    · rw [if_pos h2] at hz
      exact absurd rfl hz
    · rw [if_neg h2]
      exact train_bad2 Ss N size hN h h2 A c w hS
  · rw [if_neg h]
    exact train_bad1 Ss N size hN h A c w hS
end Go.Proofs.Ytcmbpniikcghfaa
