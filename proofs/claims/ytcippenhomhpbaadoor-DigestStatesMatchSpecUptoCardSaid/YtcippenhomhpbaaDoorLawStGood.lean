/-
  PROVED: the statement on states and digests in pieces (DigestStatesMatchSpec): the walk where the bytes are written.
-/
import Derived.Test.YtcippenhomhpbaaDoorLawStates
import Derived.Laws.CopyRow
import Derived.Deep.DeepCutAuto
namespace Go.Proofs.YtcippenhomhpbaaDoor.lawStates
open Go.ChangeShapes Go.WideShapes Go.ChangeAt Go.RowKit
open lawJoin

attribute [local go_sem ↓] wp_store_act wp_load_flat run_load_flat wp_store_flat
attribute [local go_sem] blkOf_ptr cells_agg sizedF sizeTF aggF sizedH sizeTH aggH sizedD sizeTD aggD flat_piece flat_flt isRow_alloc_eq isRow_set_eq rowAt_alloc_eq

/-- a store of a whole array into a part of a block -/
theorem run_storeVar_part {P : Program} (w : World) (g off : Nat) (t ty : TypeId) (old cells : Array Value) (hg : Row w g t old) (hi : (P.info? ty).map (·.size) = some cells.size) (hl : off + cells.size ≤ old.size) (h1 : ∀ v ∈ cells, v.oneCell' = true) :
    (storeVar ty ⟨g, off, none⟩ (.agg cells)).run P w = .ok () (w.setRow g (old.toList.take off ++ cells.toList ++ old.toList.drop (off + cells.size)).toArray) := by
  have := run_storeCells_at (P := P) g off t cells.toList 0 old w hg (by simpa using hl) (fun v hv => h1 v (by simpa using hv))
  simp only [Nat.add_zero, Array.length_toList] at this
  cases hq : P.info? ty with
  | none => simp [hq] at hi
  | some i =>
    have hs : cells.size = i.size := by simp [hq] at hi; omega
    simp only [storeVar, sizeOf, typeInfo, Value.cells]
    simp [hq, hs]
    rw [hs, List.append_assoc] at this
    exact this
theorem wpList_store_part {P : Program} {ops : Array Oper} {rest : List Oper} {o : Oper} {a : Act} {w : World} {Q : Exit → Act → World → Prop} (hgd : o.guard = none) (ty : TypeId) (x y : Operand) (ho : o.op = .store ty x y)
    (g off : Nat) (cells : Array Value) (hx : a.eval x = .pointer (some ⟨g, off, none⟩)) (hy : a.eval y = .agg cells) (t : TypeId) (old : Array Value) (hg : Row w g t old) (hi : (P.info? ty).map (·.size) = some cells.size)
    (hl : off + cells.size ≤ old.size) (h1 : ∀ v ∈ cells, v.oneCell' = true) (new : Array Value) (hnew : new = (old.toList.take off ++ cells.toList ++ old.toList.drop (off + cells.size)).toArray)
    (h : wpList P ops Q rest (a.put o.dst undef) (w.setRow g new)) : wpList P ops Q (o :: rest) a w := by
  refine wpList_plain hgd fun _ hK => ?_
  subst hnew
  unfold Oper.wp execOp
  simp only [ho, hx, hy, Instr.storeAt, Instr.sureAddr, Sem.run_bind, Sem.run_pure, Result.andThen_ok, run_storeVar_part w g off t ty old cells hg hi hl h1]
  exact hK _ _ h
theorem part_hsc (s x : St) (v : Value) (n : Int) : hsc x v n = ((hsc s v n).toList.take 0 ++ (stc x).toList ++ (hsc s v n).toList.drop (0 + (stc x).size)).toArray := by
  unfold hsc stc
  rfl
theorem Sl.keepAt {w : World} {B g n : Nat} {A : Option Addr} {xs : List Value} (h : Sl w B A n xs) (hg : B ≤ g) (cs : Array Value) : Sl (w.setRow g cs) B A n xs := by
  refine h.keep fun p hp => ?_
  unfold World.cell?
  rw [show (w.setRow g cs).heap[p.block]? = w.heap[p.block]? from setRow_other w g _ cs (by omega)]
theorem Sl.keepCell {w : World} {B g n o : Nat} {A : Option Addr} {xs : List Value} (h : Sl w B A n xs) (hg : B ≤ g) (v : Value) : Sl (w.setCell ⟨g, o, none⟩ v) B A n xs := by
  refine h.keep fun p hp => ?_
  exact World.cell?_setCell_other w _ p v (fun e => by rw [← e] at hp; simp at hp; omega)
theorem holds_cell {w : World} {g : Nat} {cs : Array Value} {a : Addr} (hg : g ≠ a.block) (h : Holds w g cs) (v : Value) : Holds (w.setCell a v) g cs := by
  obtain ⟨t, h1⟩ := h
  exact ⟨t, h1.far hg v⟩
theorem same_pieceH (s : St) (X : List UInt8) (A B : Option Addr) (c d N t : Nat) (ht : t = X.length) (w : World) (hL : Sl w w.heap.size A (t % 64) (bl (rest X))) (hM : Sl w w.heap.size B (t % 64) (bl (rest X))) :
    Calls Tryd.prog 15 #[.agg (piece s X A c N), .agg (hsc (chew s X (t / 64)) (.slice B (t % 64) d) N)] w fun e w' => e = .returned (.bool true) ∧ Below w.heap.size w w' := by
  subst ht
  rw [piece_eq]
  exact sameH_yes _ _ A B (rest X) _ c d w hL hM
theorem mixed_cs (s : St) (cs : Array Value) (h : cs = stc s) (A : Option Addr) (L : List UInt8) (n c : Nat) (at_ : Nat) (w : World) (hL : Sl w w.heap.size A n (bl L)) (hat : at_ + 64 ≤ n) (hn : n ≤ 1125899906842624) :
    Calls Tryd.prog 21 #[.agg cs, .slice A n c, .int .i64 at_] w fun e w' => e = .returned (.agg (stc (mixed s ((L.drop at_).take 64)))) ∧ Below w.heap.size w w' := by
  subst h
  exact refMixed_any s A L n c at_ w hL hat hn

set_option maxRecDepth 100000 in
set_option maxHeartbeats 4000000 in
/-- bytes for a valid state -/
theorem walk_good (s : St) (n : Nat) (TA : Option Addr) (T : List UInt8) (tc : Nat) (A : Option Addr) (L : List UInt8) (c : Nat) (w : World) (hK : KIs w) (hT : Sl w w.heap.size TA T.length (bl T)) (hSL : Sl w w.heap.size A L.length (bl L)) (hc : L.length ≤ c) (hcm : c ≤ maxLen) (hv : okH T.length (n : Int) = true) (hl : (L.length : Int) ≤ 1099511627776 - (n : Int)) (hlm : L.length ≤ 1048576) :
    Calls Tryd.prog 4 #[.agg (hsc s (.slice TA T.length tc) n), .slice A L.length c] w fun e w' => e = .returned (.bool true) ∧ Below w.heap.size w w' := by
  have HK := Lib.hid hK
  have hg := hK.lt
  have HV := Lib.hid hv
  have hn3 : -9223372036854775808 ≤ (n : Int) ∧ (n : Int) ≤ 9223372036854775807 := by have := okH_of hv; omega
  have ht64 : T.length < 64 := by have := okH_of hv; omega
  have hnb : n ≤ 1099511627776 := by have := okH_of hv; omega
  have HM : Hid (T.length % 64 = n % 64) := Lib.hid (by have := okH_of hv; omega)
  have HL := Lib.hid (hashed_length s T n)
  have hnz := neq_bs (hashed s T n) (hashed s T n) (hashed_length _ _ _) (hashed_length _ _ _)
  simp only [decide_true, Bool.not_true] at hnz
  have HCM := Lib.hid hcm
  clear hK hv hcm
  have h0 : Holds (w.alloc (.cells (hsc s (.slice TA T.length tc) n) 30)) w.heap.size (hsc s (.slice TA T.length tc) n) := ⟨_, Row.new _ _ _⟩
  have hb0 := up_alloc (Below.refl w.heap.size w) (.cells (hsc s (.slice TA T.length tc) n) 30)
  have i0 := h0.is (n := 10) (hsc_size _ _ _)
  have j0 := h0.at
  go_enter Tryd.func4, Tryd.ntmps4
  go_upto_region 2 with (first
    | (go_at_call 13; refine (write_piece s n TA T tc A L c _ (KIs.keep HK.out hb0 hg) (hT.up hb0) (hSL.up hb0) hc HCM.out HV.out hl).mono ?_; rintro e w1 ⟨B1, k1, rfl, ho1, hb1'⟩)
    | (refine wpList_store_row rfl 30 _ _ rfl w1.heap.size (piece s (T ++ L) B1 k1 (n + L.length)) rfl rfl 30 zH ((Row.newEq _ _ _ _ _ rfl zH_lit).alloc _) (by rw [piece_size]; exact cellsH) (by rw [zH_size, piece_size]) (all_one (piece_one _ _ _ _ _)) ?_)
    | (refine wpList_store_row rfl 32 _ _ rfl (w1.heap.size + 1) (flt 0 0) rfl rfl 32 (flt 0 0) (Row.rowFar (Row.newEq _ _ _ _ _ (by simp) rfl) (by omega) _) (by rw [flt_size]; exact cellsF) rfl (all_one (flt_one _ _)) ?_))
  have h1 := h0.below hb1'
  have hb1 := up_call hb0 hb1'
  have l1 := h1.lt
  refine wp_world (F := fun W => Holds W w.heap.size (hsc s (.slice TA T.length tc) n) ∧ Holds W w1.heap.size (piece s (T ++ L) B1 k1 (n + L.length)) ∧ Holds W (w1.heap.size + 1) (flt 0 0) ∧ Sl W W.heap.size B1 ((T ++ L).length % 64) (bl (rest (T ++ L))) ∧ Below w.heap.size w W)
    ⟨holds_far (by omega) (holds_far (by omega) ((h1.alloc _).alloc _)), holds_far (by omega) (holds_same (n := 10) ((isRow_alloc_eq _ _ _ _ _).2 (by rw [if_neg (by simp)]; exact isRow_new rfl rfl))), holds_same (n := 2) (isRow_set (by omega) (isRow_new (by simp) rfl)), Sl.of_own (own_far (own_far ((ho1.alloc _).alloc _) (fun b hb => by have h := ho1.lt b hb; omega) _) (fun b hb => by have h := ho1.lt b hb; omega) _), up_row (up_row (up_alloc (up_alloc hb1 _) _) hb1.size _) (by have := hb1.size; omega) _⟩ ?_
  generalize w1.heap.size = g1 at *
  have lg1 := l1
  clear hb1 hb1' ho1 h1 l1 h0 i0 j0 hb0 w1
  rintro w1 ⟨h1, x1, f1, hS1, hb1⟩
  have i1 := h1.is (n := 10) (hsc_size _ _ _)
  have j1 := h1.at
  go_upto_region 3 with (first
    | (go_at_call 14; refine (finish_ok s n TA T tc _ (KIs.keep HK.out hb1 hg) (hT.up hb1) HV.out).mono ?_; rintro e w2 ⟨rfl, hb2'⟩)
    | (refine wpList_store_row rfl 24 _ _ rfl w2.heap.size (bs (hashed s T n)) rfl rfl 24 zD ((Row.newEq _ _ _ _ _ rfl zD_lit).alloc _) (by rw [bs_size, HL.out]; exact cellsD) (by rw [zD_size, bs_size, HL.out]) (all_one (bs_one _)) ?_)
    | (refine wpList_store_row rfl 32 _ _ rfl (w2.heap.size + 1) (flt 0 0) rfl rfl 32 (flt 0 0) (Row.rowFar (Row.newEq _ _ _ _ _ (by simp) rfl) (by omega) _) (by rw [flt_size]; exact cellsF) rfl (all_one (flt_one _ _)) ?_))
  have h2 := h1.below hb2'
  have x2 := x1.below hb2'
  have f2 := f1.below hb2'
  have hS2 := hS1.up hb2'
  have hb2 := up_call hb1 hb2'
  have l2 := h2.lt
  have m2 := x2.lt
  have n2 := f2.lt
  refine wp_world (F := fun W => Holds W w.heap.size (hsc s (.slice TA T.length tc) n) ∧ Holds W g1 (piece s (T ++ L) B1 k1 (n + L.length)) ∧ Holds W (g1 + 1) (flt 0 0) ∧ Holds W w2.heap.size (bs (hashed s T n)) ∧ Holds W (w2.heap.size + 1) (flt 0 0) ∧ Sl W W.heap.size B1 ((T ++ L).length % 64) (bl (rest (T ++ L))) ∧ Below w.heap.size w W)
    ⟨holds_far (by omega) (holds_far (by omega) ((h2.alloc _).alloc _)), holds_far (by omega) (holds_far (by omega) ((x2.alloc _).alloc _)), holds_far (by omega) (holds_far (by omega) ((f2.alloc _).alloc _)), holds_far (by omega) (holds_same (n := 32) ((isRow_alloc_eq _ _ _ _ _).2 (by rw [if_neg (by simp)]; exact isRow_new rfl rfl))), holds_same (n := 2) (isRow_set (by omega) (isRow_new (by simp) rfl)), hS2.up (blw_row (blw_row (((Below.refl _ w2).alloc (Nat.le_refl _) _).alloc (by simp) _) (Nat.le_refl _) _) (Nat.le_succ _) _), up_row (up_row (up_alloc (up_alloc hb2 _) _) hb2.size _) (by have := hb2.size; omega) _⟩ ?_
  generalize w2.heap.size = g2 at *
  clear hb2 hb2' hS2 hS1 h2 x2 f2 h1 x1 f1 i1 j1 hb1 w2 w1
  rintro w2 ⟨h2, x2, f2, d2, e2, hS2, hb2⟩
  go_upto_region 5 with (first
    | (go_at_call 10; refine (digests_any _ (KIs.keep HK.out hb2 hg)).mono ?_; rintro e w3 ⟨rfl, hb3'⟩)
    | (go_at_call 16; refine (start_any _).mono ?_; rintro e w4 ⟨rfl, hb4'⟩)
    | (go_at_call 17; refine (firstState_any _).mono ?_; rintro e w5 ⟨rfl, hb5'⟩)
    | (go_at_call 15; refine (same_zero first _ (build_stc first) _).mono ?_; rintro e w6 ⟨rfl, hb6'⟩))
  have hz2 : Below w2.heap.size w2 w6 := up_call (up_call (up_call hb3' hb4') hb5') hb6'
  have h6 := h2.below hz2
  have x6 := x2.below hz2
  have f6 := f2.below hz2
  have d6 := d2.below hz2
  have e6 := e2.below hz2
  have hS6 := hS2.up hz2
  have hb6 := up_call hb2 hz2
  have i6 := h6.is (n := 10) (hsc_size _ _ _)
  have j6 := h6.at
  have c6 : ∀ j v, (hsc s (.slice TA T.length tc) n)[j]? = some v → w6.drew.cell? ⟨w.heap.size, j, none⟩ = some v := fun j v h => (h6.cell j).trans h
  clear hz2 hS2 hb3' hb4' hb5' hb6' h2 x2 f2 d2 e2 hb2
  go_upto_region 8 with (first
    | (go_at_call 18; refine (hashingOk_any s n hn3 TA T.length tc _).mono ?_; rintro e w7 ⟨rfl, hb7'⟩; rw [HV.out]; have h7 := h6.below hb7'; have x7 := x6.below hb7'; have f7 := f6.below hb7'; have d7 := d6.below hb7'; have e7 := e6.below hb7'; have hS7 := hS6.up hb7'; have hb7 := up_call hb6 hb7'))
  clear h6 x6 f6 d6 e6 hS6 hb6 i6 j6 hb7' c6 w6
  have hT7 := hT.up hb7
  go_cut [68] (fun s68 W => s68 = .bool false ∧ Holds W w.heap.size (hsc s (.slice TA T.length tc) n) ∧ Holds W g1 (piece s (T ++ L) B1 k1 (n + L.length)) ∧ Holds W (g1 + 1) (flt 0 0) ∧ Sl W W.heap.size B1 ((T ++ L).length % 64) (bl (rest (T ++ L))) ∧ Below w.heap.size w W)
  case first =>
    have p0 : w7.drew.cell? ⟨w.heap.size, 0, none⟩ = some (.int .u32 (W s.a)) := (h7.cell 0).trans rfl
    have p1 : w7.drew.cell? ⟨w.heap.size, 1, none⟩ = some (.int .u32 (W s.b)) := (h7.cell 1).trans rfl
    have p2 : w7.drew.cell? ⟨w.heap.size, 2, none⟩ = some (.int .u32 (W s.c)) := (h7.cell 2).trans rfl
    have p3 : w7.drew.cell? ⟨w.heap.size, 3, none⟩ = some (.int .u32 (W s.d)) := (h7.cell 3).trans rfl
    have p4 : w7.drew.cell? ⟨w.heap.size, 4, none⟩ = some (.int .u32 (W s.e)) := (h7.cell 4).trans rfl
    have p5 : w7.drew.cell? ⟨w.heap.size, 5, none⟩ = some (.int .u32 (W s.f)) := (h7.cell 5).trans rfl
    have p6 : w7.drew.cell? ⟨w.heap.size, 6, none⟩ = some (.int .u32 (W s.g)) := (h7.cell 6).trans rfl
    have p7 : w7.drew.cell? ⟨w.heap.size, 7, none⟩ = some (.int .u32 (W s.h)) := (h7.cell 7).trans rfl
    have p8 : w7.drew.cell? ⟨w.heap.size, 8, none⟩ = some (.slice TA T.length tc) := (h7.cell 8).trans rfl
    have p9 : w7.drew.cell? ⟨w.heap.size, 9, none⟩ = some (.int .i64 n) := (h7.cell 9).trans rfl
    have q0 : w7.drew.cell? ⟨g2 + 1, 0, none⟩ = some (.int .i64 0) := (e7.cell 0).trans rfl
    have i7 := d7.drew.is (n := 32) (by rw [bs_size, HL.out])
    have j7 := d7.drew.at
    go_region_law (first
      | (go_simp; go_at_call 20; go_must (refine (refHashed_any s TA T T.length tc n w7.drew hT7.drew (by omega) (by omega) HM.out).mono ?_; rintro e w8 ⟨rfl, hb8'⟩; have h8 := h7.drew.below hb8'; have x8 := x7.drew.below hb8'; have f8 := f7.drew.below hb8'; have d8 := d7.drew.below hb8'; have i8 := d8.is (n := 32) (by rw [bs_size, HL.out]); have j8 := d8.at)))
    all_goals
      simp only [List.getElem_toArray, List.getElem_cons_succ, List.getElem_cons_zero, Act.put, List.setIfInBounds_toArray, List.set_cons_succ, List.set_cons_zero]
      go_wp2_with fail
      go_meet
      exact ⟨rfl, h8, x8, f8, hS7.drew.up hb8', hb7.drew.trans (hb8'.mono hb7.size)⟩
  case rest =>
    obtain ⟨rfl, h9, x9, f9, hS9, hb9⟩ := hcut
    clear h7 x7 f7 d7 e7 hS7 hb7 hT7
    have hgt : decide (1099511627776 - (n : Int) < (L.length : Int)) = false := decide_eq_false (by omega)
    have c8 : wc.cell? ⟨w.heap.size, 8, none⟩ = some (.slice TA T.length tc) := (h9.cell 8).trans rfl
    have c9 : wc.cell? ⟨w.heap.size, 9, none⟩ = some (.int .i64 n) := (h9.cell 9).trans rfl
    obtain ⟨i0, hi, hz0, hz1, hz2⟩ := info_parts infoB
    have hr9 : Below wc.heap.size wc wc := Below.refl _ _
    have hn9 : wc.ownsRow wc.heap.size 5 1 (.slice none 0 0) 0 [] := ⟨rfl, .inl ⟨rfl, rfl⟩⟩
    go_upto_region 15 with (first
      | (at_builtin; refine wpList_app _ rfl _ _ _ rfl wc.heap.size 5 i0 (.int .u8 0) 1 Tryd.underlying22 hi hz0 hz1 hz2 rfl (.slice none 0 0) 0 [] rfl hn9 wc.heap.size TA T.length tc (bl T) rfl (hT.up hb9) (bl_one _) (by unfold maxLen; omega) (by omega) (Nat.le_refl _) ?_; intro v10 w10 ho10 hg10; have hb10 := blw_grown hr9 hg10 (Nat.le_refl _) hn9 (Nat.le_refl _); have hb10' := up_call hb9 hb10)
      | (at_builtin; refine wpList_app _ rfl _ _ _ rfl wc.heap.size 5 i0 (.int .u8 0) 1 Tryd.underlying22 hi hz0 hz1 hz2 rfl v10 _ _ rfl ho10 w10.heap.size A L.length c (bl L) rfl (hSL.up hb10') (bl_one _) (by unfold maxLen; omega) (by omega) hb10.size ?_; intro v11 w11 ho11 hg11))
    --TAIL
    have hb11 : Below wc.heap.size wc w11 := blw_grown hb10 hg11 hb10.size ho10 (Nat.le_refl _)
    have ho11' : w11.ownsRow wc.heap.size 5 1 v11 (T ++ L).length (bl (T ++ L)) := by
      rw [bl_append, List.length_append]
      simpa using ho11
    obtain ⟨A11, k11, rfl, hk11, hk11m⟩ := own_form ho11'
    have hS11 := Sl.of_own ho11'
    have h11 := h9.below hb11
    have x11 := x9.below hb11
    have f11 := f9.below hb11
    have hT11 := hS9.up hb11
    have hbw := up_call hb9 hb11
    have lx := x11.lt
    have lf := f11.lt
    have lh := h11.lt
    clear hn9 hr9 hb10 hb10' ho10 hg10 ho11 hg11 ho11' hb11 h9 x9 f9 hS9 hb9 c8 c9 w10 hgt
    have hXl : (T ++ L).length = T.length + L.length := List.length_append
    have hXs : (T ++ L).length ≤ 1048640 := by omega
    obtain ⟨t, ht⟩ : ∃ t, t = (T ++ L).length := ⟨_, rfl⟩
    obtain ⟨N, hN⟩ : ∃ N, N = n + L.length := ⟨_, rfl⟩
    have hNi : ((n : Int) + (L.length : Int)) = (N : Int) := by rw [hN]; omega
    rw [← ht] at hS11 hT11 hXs ⊢
    rw [← hN] at x11
    generalize T ++ L = X at *
    have HT := Lib.hid ht
    have HN := Lib.hid hN
    have HNI := Lib.hid hNi
    clear hXl ht hN hNi
    have p0 : w11.cell? ⟨w.heap.size, 0, none⟩ = some (.int .u32 (W s.a)) := (h11.cell 0).trans rfl
    have p1 : w11.cell? ⟨w.heap.size, 1, none⟩ = some (.int .u32 (W s.b)) := (h11.cell 1).trans rfl
    have p2 : w11.cell? ⟨w.heap.size, 2, none⟩ = some (.int .u32 (W s.c)) := (h11.cell 2).trans rfl
    have p3 : w11.cell? ⟨w.heap.size, 3, none⟩ = some (.int .u32 (W s.d)) := (h11.cell 3).trans rfl
    have p4 : w11.cell? ⟨w.heap.size, 4, none⟩ = some (.int .u32 (W s.e)) := (h11.cell 4).trans rfl
    have p5 : w11.cell? ⟨w.heap.size, 5, none⟩ = some (.int .u32 (W s.f)) := (h11.cell 5).trans rfl
    have p6 : w11.cell? ⟨w.heap.size, 6, none⟩ = some (.int .u32 (W s.g)) := (h11.cell 6).trans rfl
    have p7 : w11.cell? ⟨w.heap.size, 7, none⟩ = some (.int .u32 (W s.h)) := (h11.cell 7).trans rfl
    have p9 : w11.cell? ⟨w.heap.size, 9, none⟩ = some (.int .i64 n) := (h11.cell 9).trans rfl
    have hn0 : n + L.length ≤ 1099511627776 := by omega
    go_upto_region 16 with (first
      | (refine wpList_store_row rfl 30 _ _ rfl w11.heap.size (hsc s (.slice none 0 0) ((n : Int) + (L.length : Int))) rfl rfl 30 zH (Row.newEq _ _ _ _ _ rfl zH_lit) (by rw [hsc_size]; exact cellsH) (by rw [zH_size, hsc_size]) (all_one (hsc_one _ _ _ rfl)) ?_))
    clear p0 p1 p2 p3 p4 p5 p6 p7 p9
    refine wp_world (F := fun W => Row W w11.heap.size 30 (hsc s (.slice none 0 0) N) ∧ Holds W g1 (piece s X B1 k1 N) ∧ Holds W (g1 + 1) (flt 0 0) ∧ Sl W w11.heap.size A11 t (bl X) ∧ Sl W w11.heap.size B1 (t % 64) (bl (rest X)) ∧ Below w.heap.size w W)
      ⟨by rw [← HNI.out]; exact Row.row (Row.newEq _ _ _ _ _ rfl zH_lit) _, holds_far (by omega) (x11.alloc _), holds_far (by omega) (f11.alloc _), hS11.below (blw_row ((Below.refl _ w11).alloc (Nat.le_refl _) _) (Nat.le_refl _) _), hT11.below (blw_row ((Below.refl _ w11).alloc (Nat.le_refl _) _) (Nat.le_refl _) _), up_row (up_alloc hbw _) hbw.size _⟩ ?_
    have hgw := hbw.size
    generalize w11.heap.size = g at *
    clear hS11 hT11 x11 f11 h11 hbw w11
    rintro w11 ⟨r11, x11, f11, hS11, hT11, hb11⟩
    have ht64 : (t : Nat) = 64 * (t / 64) + t % 64 := by omega
    have HT64 := Lib.hid ht64
    clear ht64
    have hm64 : t % 64 < 64 := by omega
    go_wp2
    go_loopw [12] (fun i wr => ∃ q k : Nat, k ≤ t / 64 ∧ Hid (q = 64 * k) ∧ q ≤ t ∧ i = .int .i64 q ∧ Row wr g 30 (hsc (chew s X k) (.slice none 0 0) N) ∧ Holds wr g1 (piece s X B1 k1 N) ∧ Holds wr (g1 + 1) (flt 0 0) ∧ Sl wr g A11 t (bl X) ∧ Sl wr g B1 (t % 64) (bl (rest X)) ∧ Below w.heap.size w wr) (fun i _ => t - (intOf i).toNat)
    case atStart => exact ⟨0, 0, by omega, Lib.hid rfl, by omega, rfl, by rw [chew_zero]; exact r11, x11, f11, hS11, hT11, hb11⟩
    case round =>
      clear r11 x11 f11 hS11 hT11 hb11
      obtain ⟨q, k, hk, HQ, hqt, rfl, r1, x1, f1, hS1, hT1, hb1⟩ := hrel
      have hrl := r1.lt
      by_cases hlt : k < t / 64
      · have hq : q + 64 ≤ t := by have := HQ.out; have := HT64.out; omega
        have HC := Lib.hid (chew_next s X k)
        obtain ⟨y, hy⟩ : ∃ y, y = chew s X k := ⟨_, rfl⟩
        rw [← hy] at r1
        have HY := Lib.hid hy
        clear hy
        have p0 : wr.cell? ⟨g, 0, none⟩ = some (.int .u32 (W y.a)) := (r1.cell 0).trans rfl
        have p1 : wr.cell? ⟨g, 1, none⟩ = some (.int .u32 (W y.b)) := (r1.cell 1).trans rfl
        have p2 : wr.cell? ⟨g, 2, none⟩ = some (.int .u32 (W y.c)) := (r1.cell 2).trans rfl
        have p3 : wr.cell? ⟨g, 3, none⟩ = some (.int .u32 (W y.d)) := (r1.cell 3).trans rfl
        have p4 : wr.cell? ⟨g, 4, none⟩ = some (.int .u32 (W y.e)) := (r1.cell 4).trans rfl
        have p5 : wr.cell? ⟨g, 5, none⟩ = some (.int .u32 (W y.f)) := (r1.cell 5).trans rfl
        have p6 : wr.cell? ⟨g, 6, none⟩ = some (.int .u32 (W y.g)) := (r1.cell 6).trans rfl
        have p7 : wr.cell? ⟨g, 7, none⟩ = some (.int .u32 (W y.h)) := (r1.cell 7).trans rfl
        go_wp2_with (first
          | (go_at_call 21; go_must (refine (mixed_cs y _ rfl A11 X t k11 q _ (hS1.wider (by omega)) hq (by omega)).mono ?_; rintro e w2 ⟨rfl, hb2⟩; have r2 := r1.below hb2 r1.lt))
          | (refine wpList_store_part rfl 28 _ _ rfl g 0 (stc (mixed y ((X.drop q).take 64))) rfl rfl 30 (hsc y (.slice none 0 0) N) r2 (by rw [stc_size]; exact cells8) (by rw [stc_size, hsc_size]; omega) (stc_one _) (hsc (mixed y ((X.drop q).take 64)) (.slice none 0 0) N) (part_hsc _ _ _ _) ?_))
        go_roundw
        case rel =>
          refine ⟨q + 64, k + 1, by omega, Lib.hid (by have := HQ.out; omega), hq, by go_num, ?_, holds_far (by omega) (x1.below hb2), holds_far (by omega) (f1.below hb2), ?_, ?_, blw_row (blw_call hb1 hb1.size hb2) (by omega) _⟩
          · rw [HC.out, ← HQ.out, ← HY.out]
            exact r2.row _
          · exact Sl.keepAt (hS1.keep fun p hp => hb2.cell (by omega)) (Nat.le_refl _) _
          · exact Sl.keepAt (hT1.keep fun p hp => hb2.cell (by omega)) (Nat.le_refl _) _
        case measure => simp [intOf]; omega
      · obtain rfl : k = t / 64 := by omega
        have hq : t < q + 64 := by have := HQ.out; have := HT64.out; omega
        have hqk : t ≤ k11 := by have := HT.out; omega
        have f8 := r1.free 8
        have c8 : wr.cell? ⟨g, 8, none⟩ = some (.slice none 0 0) := (r1.cell 8).trans rfl
        have hD := hS1.cut hqt hqk
        have hml : t - q = t % 64 := by have := HQ.out; have := HT64.out; omega
        have hRX : bl (rest X) = (bl X).drop q := by rw [rest_eq, bl_drop, ← HT.out, HQ.out]
        rw [← hRX] at hD
        have HML := Lib.hid hml
        have HPC : Hid (hsc (chew s X (t / 64)) (.slice B1 (t % 64) k1) N = piece s X B1 k1 N) := Lib.hid (by rw [piece_eq, ← HT.out])
        clear hRX hml
        by_cases hcap : k11 = q
        · rw [if_pos hcap] at hD
          go_upto_region 21 with fail
          refine wp_world (F := fun W => Row W g 30 (hsc (chew s X (t / 64)) (.slice A11 (t % 64) 0) N) ∧ Holds W g1 (piece s X B1 k1 N) ∧ Holds W (g1 + 1) (flt 0 0) ∧ Sl W W.heap.size A11 (t % 64) (bl (rest X)) ∧ Sl W W.heap.size B1 (t % 64) (bl (rest X)) ∧ Below w.heap.size w W)
            ⟨by rw [← HML.out]; exact r1.put 8 _, holds_cell (by simp; omega) x1 _, holds_cell (by simp; omega) f1 _, by rw [← HML.out]; exact (Sl.keepCell hD (Nat.le_refl _) _).wider (by simp; omega), (Sl.keepCell hT1 (Nat.le_refl _) _).wider (by simp; omega), hb1.setCell (by simp; omega) _⟩ ?_
          clear r1 x1 f1 hS1 hT1 hb1 hD f8 c8 hrl
          rintro w12 ⟨r1, x1, f1, hS1, hT1, hb1⟩
          have i1 := x1.is (n := 10) (piece_size _ _ _ _ _)
          have j1 := x1.at
          have i2 := r1.is (n := 10) (hsc_size _ _ _)
          have j2 := r1.at
          have a1 : w12.cell? ⟨g1 + 1, 0, none⟩ = some (.int .i64 0) := (f1.cell 0).trans rfl
          go_wp2_with (first
            | (go_at_call 15; go_must (refine (same_pieceH s X B1 (A11) k1 (0) N t HT.out _ hT1 hS1).mono ?_; rintro e w13 ⟨rfl, hb13⟩)))
          go_ret
          exact ⟨rfl, up_call hb1 hb13⟩
        · rw [if_neg hcap] at hD
          go_upto_region 21 with fail
          refine wp_world (F := fun W => Row W g 30 (hsc (chew s X (t / 64)) (.slice (A11.map (·.add q)) (t % 64) (k11 - q)) N) ∧ Holds W g1 (piece s X B1 k1 N) ∧ Holds W (g1 + 1) (flt 0 0) ∧ Sl W W.heap.size (A11.map (·.add q)) (t % 64) (bl (rest X)) ∧ Sl W W.heap.size B1 (t % 64) (bl (rest X)) ∧ Below w.heap.size w W)
            ⟨by rw [← HML.out]; exact r1.put 8 _, holds_cell (by simp; omega) x1 _, holds_cell (by simp; omega) f1 _, by rw [← HML.out]; exact (Sl.keepCell hD (Nat.le_refl _) _).wider (by simp; omega), (Sl.keepCell hT1 (Nat.le_refl _) _).wider (by simp; omega), hb1.setCell (by simp; omega) _⟩ ?_
          clear r1 x1 f1 hS1 hT1 hb1 hD f8 c8 hrl
          rintro w12 ⟨r1, x1, f1, hS1, hT1, hb1⟩
          have i1 := x1.is (n := 10) (piece_size _ _ _ _ _)
          have j1 := x1.at
          have i2 := r1.is (n := 10) (hsc_size _ _ _)
          have j2 := r1.at
          have a1 : w12.cell? ⟨g1 + 1, 0, none⟩ = some (.int .i64 0) := (f1.cell 0).trans rfl
          go_wp2_with (first
            | (go_at_call 15; go_must (refine (same_pieceH s X B1 ((A11.map (·.add q))) k1 ((k11 - q)) N t HT.out _ hT1 hS1).mono ?_; rintro e w13 ⟨rfl, hb13⟩)))
          go_ret
          exact ⟨rfl, up_call hb1 hb13⟩
end Go.Proofs.YtcippenhomhpbaaDoor.lawStates
