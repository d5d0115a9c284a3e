/-
  PROVED: the statement on writing two byte strings one after another (DigestWritesJoin), for byte strings of at most 2^21 bytes each. Conditions: those of its row: the table of constants reads as the program's text lays it.
-/
import Derived.Test.YtcippenhomhpbaaDoorWrites
import Derived.Test.YtcippenhomhpbaaDoorSame
import Derived.Deep.DeepCutAuto
namespace Go.Proofs.YtcippenhomhpbaaDoor.lawJoin
open Go.ChangeShapes Go.WideShapes Go.ChangeAt Go.RowKit

theorem sizedH : Sized Tryd.prog 30 := show (Tryd.prog.info? 30).map (·.size) = some (sizeT Tryd.prog 30) by kernel_rfl
theorem sizeTH : sizeT Tryd.prog 30 = 10 := by kernel_rfl
theorem aggH : AggT Tryd.prog 30 := .inl ⟨_, Tryd.underlying30⟩
theorem flat_piece (s : St) (all : List UInt8) (B : Option Addr) (k n : Nat) : Flat (.agg (piece s all B k n)) 10 := ⟨_, rfl, piece_size _ _ _ _ _, piece_one _ _ _ _ _⟩
theorem flat_flt (a b : Int) : Flat (.agg (flt a b)) 2 := ⟨_, rfl, flt_size _ _, flt_one _ _⟩
attribute [local go_sem ↓] wp_store_act wp_load_flat run_load_flat wp_store_flat
attribute [local go_sem] blkOf_ptr cells_agg sizedF sizeTF aggF sizedH sizeTH aggH flat_piece flat_flt isRow_alloc_eq isRow_set_eq rowAt_alloc_eq

theorem same_piece (s : St) (all : List UInt8) (A B : Option Addr) (c d n : Nat) (w : World) (hL : Sl w w.heap.size A (all.length % 64) (bl (rest all))) (hM : Sl w w.heap.size B (all.length % 64) (bl (rest all))) :
    Calls Tryd.prog 15 #[.agg (piece s all A c n), .agg (piece s all B d n)] w fun e w' => e = .returned (.bool true) ∧ Below w.heap.size w w' := by
  rw [piece_eq, piece_eq]
  exact sameH_yes _ _ A B (rest all) _ c d w hL hM

theorem write_pieceN (s : St) (n : Nat) (TA : Option Addr) (tl : List UInt8) (tc : Nat) (A : Option Addr) (L : List UInt8) (c N : Nat) (hN : n + L.length = N) (w : World) (hk : KIs w) (hS : Sl w w.heap.size TA tl.length (bl tl)) (hL : Sl w w.heap.size A L.length (bl L)) (hc : L.length ≤ c) (hcm : c ≤ maxLen)
    (hv : okH tl.length n = true) (hl : (L.length : Int) ≤ 1099511627776 - (n : Int)) :
    Calls Tryd.prog 13 #[.agg (hsc s (.slice TA tl.length tc) n), .slice A L.length c] w fun e w' =>
      ∃ B k, e = .returned (.tuple #[.agg (piece s (tl ++ L) B k N), .agg (flt 0 0)]) ∧
        w'.ownsRow w.heap.size 5 1 (.slice B ((tl ++ L).length % 64) k) ((tl ++ L).length % 64) (bl (rest (tl ++ L))) ∧ Below w.heap.size w w' := by
  subst hN
  exact write_piece s n TA tl tc A L c w hk hS hL hc hcm hv hl

set_option maxRecDepth 100000 in
set_option maxHeartbeats 4000000 in
/-- the state is not valid, or its length too great -/
theorem walk_bad (s : St) (n : Int) (hn : -9223372036854775808 ≤ n ∧ n ≤ 9223372036854775807) (TA : Option Addr) (tl tc : Nat) (x y : Value) (w : World) (hK : KIs w) (hv : okH tl n = false ∨ (okH tl n = true ∧ 1073741824 < n)) :
    Calls Tryd.prog 6 #[.agg (hsc s (.slice TA tl tc) n), x, y] w fun e w' => e = .returned (.bool true) ∧ Below w.heap.size w w' := by
  have HK := Lib.hid hK
  have hg := hK.lt
  clear hK
  have h0 : Holds (w.alloc (.cells (hsc s (.slice TA tl tc) n) 30)) w.heap.size (hsc s (.slice TA tl tc) n) := ⟨_, Row.new _ _ _⟩
  have hb0 := up_alloc (Below.refl w.heap.size w) (.cells (hsc s (.slice TA tl tc) n) 30)
  rcases hv with hv | ⟨hv, hbig⟩
  · go_enter Tryd.func6, Tryd.ntmps6
    go_wp2_with (first
      | (go_at_call 10; refine (digests_any _ (KIs.keep HK.out hb0 hg)).mono ?_; rintro e w2 ⟨rfl, hb2⟩; have h2 := h0.below hb2; have i2 := h2.is (n := 10) (hsc_size _ _ _); have j2 := h2.at)
      | (go_at_call 18; refine (hashingOk_any s n hn TA tl tc _).mono ?_; rintro e w3 ⟨rfl, hb3⟩; rw [hv]))
    go_ret
    exact ⟨rfl, up_call (up_call hb0 hb2) hb3⟩
  · have hbig' : decide (1073741824 < n) = true := decide_eq_true hbig
    go_enter Tryd.func6, Tryd.ntmps6
    go_wp2_with (first
      | (go_at_call 10; refine (digests_any _ (KIs.keep HK.out hb0 hg)).mono ?_; rintro e w2 ⟨rfl, hb2⟩; have h2 := h0.below hb2; have i2 := h2.is (n := 10) (hsc_size _ _ _); have j2 := h2.at)
      | (go_at_call 18; refine (hashingOk_any s n hn TA tl tc _).mono ?_; rintro e w3 ⟨rfl, hb3⟩; rw [hv]; have h3 := h2.below hb3; have c3 : w3.cell? ⟨w.heap.size, 9, none⟩ = some (.int .i64 n) := (h3.cell 9).trans rfl))
    go_ret
    exact ⟨rfl, up_call (up_call hb0 hb2) hb3⟩

set_option maxRecDepth 100000 in
set_option maxHeartbeats 4000000 in
/-- a valid state -/
theorem walk_good (s : St) (n : Nat) (TA : Option Addr) (T : List UInt8) (tc : Nat) (A : Option Addr) (L : List UInt8) (c : Nat) (B : Option Addr) (M : List UInt8) (d : Nat) (w : World) (hK : KIs w) (hT : Sl w w.heap.size TA T.length (bl T))
    (hL : Sl w w.heap.size A L.length (bl L)) (hc : L.length ≤ c) (hcm : c ≤ maxLen) (hM : Sl w w.heap.size B M.length (bl M)) (hd : M.length ≤ d) (hdm : d ≤ maxLen) (hv : okH T.length (n : Int) = true) (hn : n ≤ 1073741824) (hl : L.length ≤ 2097152) (hm : M.length ≤ 2097152) :
    Calls Tryd.prog 6 #[.agg (hsc s (.slice TA T.length tc) n), .slice A L.length c, .slice B M.length d] w fun e w' => e = .returned (.bool true) ∧ Below w.heap.size w w' := by
  have HK := Lib.hid hK
  have HCM := Lib.hid hcm
  have HDM := Lib.hid hdm
  have hg := hK.lt
  have hn3 : -9223372036854775808 ≤ (n : Int) ∧ (n : Int) ≤ 9223372036854775807 := by omega
  have hbig' : decide (1073741824 < (n : Int)) = false := decide_eq_false (by omega)
  have HV : Hid (okH ((T ++ L).length % 64) ((n + L.length : Nat) : Int) = true) := Lib.hid (okH_true (by omega) (by omega) (by have h := (okH_of hv).2.2; rw [List.length_append]; omega))
  clear hK hcm hdm
  have h0 : Holds (w.alloc (.cells (hsc s (.slice TA T.length tc) n) 30)) w.heap.size (hsc s (.slice TA T.length tc) n) := ⟨_, Row.new _ _ _⟩
  have hb0 := up_alloc (Below.refl w.heap.size w) (.cells (hsc s (.slice TA T.length tc) n) 30)
  go_enter Tryd.func6, Tryd.ntmps6
  go_upto_region 5 with (first
    | (go_at_call 10; refine (digests_any _ (KIs.keep HK.out hb0 hg)).mono ?_; rintro e w2 ⟨rfl, hb2⟩; have h2 := h0.below hb2; have i2 := h2.is (n := 10) (hsc_size _ _ _); have j2 := h2.at)
    | (go_at_call 18; refine (hashingOk_any s n hn3 TA T.length tc _).mono ?_; rintro e w3 ⟨rfl, hb3⟩; rw [hv]; have h3 := h2.below hb3; have c3 : w3.cell? ⟨w.heap.size, 9, none⟩ = some (.int .i64 n) := (h3.cell 9).trans rfl))
  have hb3' := up_call (up_call hb0 hb2) hb3
  have i3 := h3.is (n := 10) (hsc_size _ _ _)
  have j3 := h3.at
  clear h0 hb0 hb2 h2 i2 j2 hb3 c3
  have g0lt := h3.lt
  go_upto_region 6 with (first
    | (go_at_call 13; refine (write_piece s n TA T tc A L c _ (KIs.keep HK.out hb3' hg) (hT.up hb3') (hL.up hb3') hc HCM.out hv (by omega)).mono ?_; rintro e w5 ⟨B5, k5, rfl, ho5, hb5'⟩)
    | (refine wpList_store_row rfl 30 _ _ rfl w5.heap.size (piece s (T ++ L) B5 k5 (n + L.length)) rfl rfl 30 zH ((Row.newEq _ _ _ _ _ rfl zH_lit).alloc _) (by rw [piece_size]; exact cellsH) (by rw [zH_size, piece_size]) (all_one (piece_one _ _ _ _ _)) ?_)
    | (refine wpList_store_row rfl 32 _ _ rfl (w5.heap.size + 1) (flt 0 0) rfl rfl 32 (flt 0 0) (Row.rowFar (Row.newEq _ _ _ _ _ (by simp) rfl) (by omega) _) (by rw [flt_size]; exact cellsF) rfl (all_one (flt_one _ _)) ?_))
  have h5 := h3.below hb5'
  have hb5 := up_call hb3' hb5'
  have l5 := h5.lt
  refine wp_world (F := fun W => Holds W w.heap.size (hsc s (.slice TA T.length tc) n) ∧ Holds W w5.heap.size (piece s (T ++ L) B5 k5 (n + L.length)) ∧ Holds W (w5.heap.size + 1) (flt 0 0) ∧ Sl W W.heap.size B5 ((T ++ L).length % 64) (bl (rest (T ++ L))) ∧ Below w.heap.size w W)
    ⟨holds_far (by omega) (holds_far (by omega) ((h5.alloc _).alloc _)), holds_far (by omega) (holds_same (n := 10) ((isRow_alloc_eq _ _ _ _ _).2 (by rw [if_neg (by simp)]; exact isRow_new rfl rfl))), holds_same (n := 2) (isRow_set (by omega) (isRow_new (by simp) rfl)),
      Sl.of_own (own_far (own_far ((ho5.alloc _).alloc _) (fun b hb => by have h := ho5.lt b hb; omega) _) (fun b hb => by have h := ho5.lt b hb; omega) _), up_row (up_row (up_alloc (up_alloc hb5 _) _) hb5.size _) (by have := hb5.size; omega) _⟩ ?_
  generalize w5.heap.size = g5 at *
  have lg5 := l5
  clear hb5 hb5' ho5 h5 l5 h3 i3 j3 hb3' g0lt w5 w3
  rintro w5 ⟨h5, x5, f5, hS5, hb5⟩
  have i5 := x5.is (n := 10) (piece_size _ _ _ _ _)
  have j5 := x5.at
  have n5 := x5.lt
  have m5 := f5.lt
  have l5 := h5.lt
  have y5 := hb5.size
  obtain ⟨i0, hi, hz0, hz1, hz2⟩ := info_parts infoB
  go_upto_region 7 with (first
    | (go_at_call 13; refine (write_again s (T ++ L) (n + L.length) B5 k5 B M d _ (KIs.keep HK.out hb5 hg) hS5 (hM.up hb5) hd HDM.out HV.out (by omega)).mono ?_; rintro e w6 ⟨B6, k6, rfl, ho6, hb6'⟩; rw [List.append_assoc] at ho6; obtain ⟨t6, r6⟩ := x5.below hb6')
    | (refine wpList_store_row rfl 30 _ _ rfl g5 (piece s (T ++ (L ++ M)) B6 k6 (n + L.length + M.length)) rfl rfl t6 (piece s (T ++ L) B5 k5 (n + L.length)) (r6.alloc _) (by rw [piece_size]; exact cellsH) (by rw [piece_size, piece_size]) (all_one (piece_one _ _ _ _ _)) ?_)
    | (refine wpList_store_row rfl 32 _ _ rfl w6.heap.size (flt 0 0) rfl rfl 32 (flt 0 0) (Row.rowFar (Row.newEq _ _ _ _ _ rfl rfl) (Nat.ne_of_gt r6.lt) _) (by rw [flt_size]; exact cellsF) rfl (all_one (flt_one _ _)) ?_))
  have h6 := h5.below hb6'
  have f6 := f5.below hb6'
  have hb6 := up_call hb5 hb6'
  have y6 := hb6'.size
  refine wp_world (F := fun W => Holds W w.heap.size (hsc s (.slice TA T.length tc) n) ∧ Holds W g5 (piece s (T ++ (L ++ M)) B6 k6 (n + L.length + M.length)) ∧ Holds W (g5 + 1) (flt 0 0) ∧ Holds W w6.heap.size (flt 0 0) ∧ Sl W W.heap.size B6 ((T ++ (L ++ M)).length % 64) (bl (rest (T ++ (L ++ M)))) ∧ Below w.heap.size w W)
    ⟨holds_far (by omega) (holds_far (by omega) (h6.alloc _)), holds_far (by omega) (holds_same (n := 10) ((isRow_alloc_eq _ _ _ _ _).2 (by rw [if_neg (by omega)]; exact i5.keep hb6'))), holds_far (by omega) (holds_far (by omega) (f6.alloc _)), holds_same (n := 2) (isRow_set (by omega) ⟨_, _, Row.new w6 32 #[.int .i64 0, .int .i64 0], rfl⟩),
      Sl.of_own (own_far (own_far (ho6.alloc _) (fun b hb => by have h := ho6.lt b hb; omega) _) (fun b hb => by have h := ho6.lt b hb; omega) _), up_row (up_row (up_alloc hb6 _) (by omega) _) (by omega) _⟩ ?_
  generalize w6.heap.size = g6 at *
  clear hb6 hb6' ho6 h6 f6 r6 y6 h5 x5 f5 hS5 hb5 i5 j5 n5 m5 l5 y5 w6 w5
  rintro w7 ⟨h7, x7, f7, e7, hS7, hb7⟩
  have hr7 : Below w7.heap.size w7 w7 := Below.refl _ _
  have hn7 : w7.ownsRow w7.heap.size 5 1 (.slice none 0 0) 0 [] := ⟨rfl, .inl ⟨rfl, rfl⟩⟩
  go_upto_region 10 with (first
    | (at_builtin; refine wpList_app _ rfl _ _ _ rfl w7.heap.size 5 i0 (.int .u8 0) 1 Tryd.underlying22 hi hz0 hz1 hz2 rfl (.slice none 0 0) 0 [] rfl hn7 w7.heap.size A L.length c (bl L) rfl (hL.up hb7) (bl_one _) (by unfold maxLen; omega) (by omega) (Nat.le_refl _) ?_; intro v8 w8 ho8 hg8; have hb8 := blw_grown hr7 hg8 (Nat.le_refl _) hn7 (Nat.le_refl _); have hb8' := up_call hb7 hb8)
    | (at_builtin; refine wpList_app _ rfl _ _ _ rfl w7.heap.size 5 i0 (.int .u8 0) 1 Tryd.underlying22 hi hz0 hz1 hz2 rfl v8 _ _ rfl ho8 w8.heap.size B M.length d (bl M) rfl (hM.up hb8') (bl_one _) (by unfold maxLen; omega) (by omega) hb8.size ?_; intro v9 w9 ho9 hg9))
  have hb9 : Below w7.heap.size w7 w9 := blw_grown hb8 hg9 hb8.size ho8 (Nat.le_refl _)
  have ho9' : w9.ownsRow w7.heap.size 5 1 v9 (L ++ M).length (bl (L ++ M)) := by
    rw [bl_append, List.length_append]
    simpa using ho9
  obtain ⟨A9, k9, rfl, hk9, hk9m⟩ := own_form ho9'
  have hS9 := Sl.of_own ho9'
  have h9 := h7.below hb9
  have x9 := x7.below hb9
  have f9 := f7.below hb9
  have e9 := e7.below hb9
  have hT9 := hS7.up hb9
  have hb9w := up_call hb7 hb9
  clear hn7 hr7 hb8 hb8' ho8 hg8 ho9 hg9 ho9' hb9 h7 x7 f7 e7 hS7 hb7 w8 w7
  have HKM := Lib.hid hk9m
  clear hk9m
  have i9 := h9.is (n := 10) (hsc_size _ _ _)
  have j9 := h9.at
  have hXl : n + (L ++ M).length = n + L.length + M.length := by rw [List.length_append]; omega
  have hXs : (L ++ M).length ≤ 4194304 := by rw [List.length_append]; omega
  generalize n + L.length + M.length = N at *
  generalize L ++ M = X at *
  have HX := Lib.hid hXl
  clear hXl
  go_upto_region 11 with (first
    | (go_at_call 13; refine (write_pieceN s n TA T tc A9 X k9 N HX.out _ (KIs.keep HK.out hb9w hg) (hT.up hb9w) hS9 hk9 HKM.out hv (by omega)).mono ?_; rintro e w10 ⟨B10, k10, rfl, ho10, hb10'⟩)
    | (refine wpList_store_row rfl 30 _ _ rfl w10.heap.size (piece s (T ++ X) B10 k10 N) rfl rfl 30 zH ((Row.newEq _ _ _ _ _ rfl zH_lit).alloc _) (by rw [piece_size]; exact cellsH) (by rw [zH_size, piece_size]) (all_one (piece_one _ _ _ _ _)) ?_)
    | (refine wpList_store_row rfl 32 _ _ rfl (w10.heap.size + 1) (flt 0 0) rfl rfl 32 (flt 0 0) (Row.rowFar (Row.newEq _ _ _ _ _ (by simp) rfl) (by omega) _) (by rw [flt_size]; exact cellsF) rfl (all_one (flt_one _ _)) ?_))
  have x10 := x9.below hb10'
  have f10 := f9.below hb10'
  have e10 := e9.below hb10'
  have hb10 := up_call hb9w hb10'
  have hT10 := hT9.up hb10'
  have lx := x10.lt
  have lf := f10.lt
  have le := e10.lt
  refine wp_world (F := fun W => Holds W g5 (piece s (T ++ X) B6 k6 N) ∧ Holds W (g5 + 1) (flt 0 0) ∧ Holds W g6 (flt 0 0) ∧ Holds W w10.heap.size (piece s (T ++ X) B10 k10 N) ∧ Holds W (w10.heap.size + 1) (flt 0 0) ∧ Sl W W.heap.size B6 ((T ++ X).length % 64) (bl (rest (T ++ X))) ∧ Sl W W.heap.size B10 ((T ++ X).length % 64) (bl (rest (T ++ X))) ∧ Below w.heap.size w W)
    ⟨holds_far (by omega) (holds_far (by omega) ((x10.alloc _).alloc _)), holds_far (by omega) (holds_far (by omega) ((f10.alloc _).alloc _)), holds_far (by omega) (holds_far (by omega) ((e10.alloc _).alloc _)),
      holds_far (by omega) (holds_same (n := 10) ((isRow_alloc_eq _ _ _ _ _).2 (by rw [if_neg (by simp)]; exact isRow_new rfl rfl))), holds_same (n := 2) (isRow_set (by omega) (isRow_new (by simp) rfl)),
      hT10.up (blw_row (blw_row (((Below.refl _ w10).alloc (Nat.le_refl _) _).alloc (by simp) _) (Nat.le_refl _) _) (Nat.le_succ _) _),
      Sl.of_own (own_far (own_far ((ho10.alloc _).alloc _) (fun b hb => by have h := ho10.lt b hb; omega) _) (fun b hb => by have h := ho10.lt b hb; omega) _), up_row (up_row (up_alloc (up_alloc hb10 _) _) hb10.size _) (by have := hb10.size; omega) _⟩ ?_
  generalize w10.heap.size = g10
  clear hb10 hb10' ho10 x10 f10 e10 hT10 lx lf le w10 i9 j9 h9 x9 f9 e9 hT9 hb9w hS9 w9
  rintro w10 ⟨x10, f10, e10, y10, q10, hS10, hR10, hb10⟩
  have a1 : w10.cell? ⟨g5 + 1, 0, none⟩ = some (.int .i64 0) := (f10.cell 0).trans rfl
  have a2 : w10.cell? ⟨g6, 0, none⟩ = some (.int .i64 0) := (e10.cell 0).trans rfl
  have a3 : w10.cell? ⟨g10 + 1, 0, none⟩ = some (.int .i64 0) := (q10.cell 0).trans rfl
  have i10 := x10.is (n := 10) (piece_size _ _ _ _ _)
  have j10 := x10.at
  have i11 := y10.is (n := 10) (piece_size _ _ _ _ _)
  have j11 := y10.at
  go_wp2_with (first
    | (go_at_call 15; refine (same_piece s (T ++ X) B6 B10 k6 k10 N _ hS10 hR10).mono ?_; rintro e w11 ⟨rfl, hb11⟩))
  go_ret
  exact ⟨rfl, up_call hb10 hb11⟩
end Go.Proofs.YtcippenhomhpbaaDoor.lawJoin
