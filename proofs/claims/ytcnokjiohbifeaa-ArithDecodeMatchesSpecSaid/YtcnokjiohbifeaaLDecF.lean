/-
  ArithDecodeMatchesSpec where the arguments are refused ahead of decoding.
-/
import Derived.Test.YtcnokjiohbifeaaAArgs
import Derived.Test.YtcnokjiohbifeaaRBits2
namespace Go.Proofs.Ytcnokjiohbifeaa.lawDec
open Go.RowKit
attribute [local go_sem ↓] wp_load_flat run_load_flat
attribute [local go_sem] blkOf_ptr cells_agg sizedF sizeTF aggF

set_option maxRecDepth 100000 in
set_option maxHeartbeats 8000000 in
theorem walk_form (L : List UInt8) (k : Int) (zs : List Int) (hG : ¬ Good L k) (A B : Option Addr) (cp dp : Nat) (w : World) (hS : Sl w w.heap.size A L.length (bl L)) (hP : Sl w w.heap.size B zs.length (zl zs)) :
    Calls Try.prog 6 #[.agg (bcs A L.length cp k), .slice B zs.length dp] w fun e w' => e = .returned (.bool true) ∧ Below w.heap.size w w' := by
  have hd := fun (w : World) (hS : Sl w w.heap.size A L.length (bl L)) (hP : Sl w w.heap.size B zs.length (zl zs)) => Decode_form L k zs hG A B cp dp w hS hP
  have hok := ok_no L k hG A cp
  obtain ⟨m, hm⟩ : ∃ m, m = zs.length := ⟨_, rfl⟩
  rw [← hm] at hd hP ⊢
  clear hG hm
  have hef : ∀ w : World, (binOp .eql 28 (.agg (flt 6 (-1))) (.agg (flt 6 (-1)))).run Try.prog w = .ok (.bool true) w := fun w => by have h := eql_flt 6 (-1) 6 (-1) w; simp only [beq_self_eq_true, Bool.and_self] at h; exact h
  go_enter Try.func6, Try.ntmps6
  go_upto_region 1 with (fail)
  refine wp_world (F := fun W => Row W w.heap.size 26 (bcs A L.length cp k) ∧ Sl W W.heap.size A L.length (bl L) ∧ Sl W W.heap.size B m (zl zs) ∧ Below w.heap.size w W)
    ⟨Row.newEq _ _ _ _ _ rfl rfl, hS.up ((Below.refl _ _).alloc (Nat.le_refl _) _), hP.up ((Below.refl _ _).alloc (Nat.le_refl _) _), (Below.refl _ _).alloc (Nat.le_refl _) _⟩ ?_
  clear hS hP
  rintro W0 ⟨r0, hS, hP, hb⟩
  go_upto_region 2 with (first
    | (refine wpList_load_row rfl 26 _ rfl w.heap.size rfl 26 (bcs A L.length cp k) (0, 0) _ r0 Try.underlying26 rfl (by rw [bcs_size]; exact cellsB) ?_)
    | (go_at_call 32; refine (hd _ hS hP).mono ?_; rintro e w1 ⟨rfl, hb1⟩)
    | (refine wpList_store_row rfl 28 _ _ rfl w1.heap.size (flt 6 (-1)) rfl rfl 28 (flt 0 0) (Row.newEq _ _ _ _ _ rfl rfl) (by rw [flt_size]; exact cellsF) rfl (all_one (flt_one _ _)) ?_))
  have hk0 := blw_new1 w1 (.cells #[.int .i64 0, .int .i64 0] 28) (flt 6 (-1))
  have hk := up_call hb1 hk0
  refine wp_world (F := fun W => Row W w.heap.size 26 (bcs A L.length cp k) ∧ Row W w1.heap.size 28 (flt 6 (-1)) ∧ Sl W W.heap.size A L.length (bl L) ∧ Sl W W.heap.size B m (zl zs) ∧ Below w.heap.size w W)
    ⟨r0.below hk r0.lt, row_new1 _ _ _ _, hS.up hk, hP.up hk, up_call hb hk⟩ ?_
  have hl6 : w.heap.size < w1.heap.size := Nat.lt_of_lt_of_le r0.lt hb1.size
  generalize w1.heap.size = g6 at hl6
  clear hk hk0 hb1 r0 hS hP hb w1
  rintro W1 ⟨r0, r6, hS, hP, hb⟩
  go_upto_region 3 with (first
    | (refine wpList_store_row rfl 28 _ _ rfl W1.heap.size (flt 0 0) rfl rfl 28 (flt 0 0) (Row.newEq _ _ _ _ _ rfl rfl) (by rw [flt_size]; exact cellsF) rfl (all_one (flt_one _ _)) ?_))
  have hk := blw_new1 W1 (.cells #[.int .i64 0, .int .i64 0] 28) (flt 0 0)
  refine wp_world (F := fun W => Row W w.heap.size 26 (bcs A L.length cp k) ∧ Row W g6 28 (flt 6 (-1)) ∧ Row W W1.heap.size 28 (flt 0 0) ∧ Sl W W.heap.size A L.length (bl L) ∧ Sl W W.heap.size B m (zl zs) ∧ Below w.heap.size w W)
    ⟨r0.below hk r0.lt, r6.below hk r6.lt, row_new1 _ _ _ _, hS.up hk, hP.up hk, up_call hb hk⟩ ?_
  have hl7 : g6 < W1.heap.size := r6.lt
  generalize W1.heap.size = g7 at hl7
  clear hk r0 r6 hS hP hb
  rintro W2 ⟨r0, r6, r7, hS, hP, hb⟩
  go_upto_region 7 with (first
    | (refine wpList_load_row rfl 26 _ rfl w.heap.size rfl 26 (bcs A L.length cp k) (0, 0) _ r0 Try.underlying26 rfl (by rw [bcs_size]; exact cellsB) ?_)
    | (go_at_call 24; refine (hok _ hS).mono ?_; rintro e w3 ⟨rfl, hb3⟩; have q0 := r0.below hb3 r0.lt; have q6 := r6.below hb3 r6.lt; have q7 := r7.below hb3 r7.lt; have pS := hS.up hb3; have pP := hP.up hb3; have hba := up_call hb hb3)
    | (go_at_call 16; refine (at_any 6 (-1) _).mono ?_; rintro e w4 ⟨rfl, hb4⟩; have u6 := q6.below hb4 q6.lt; have u7 := q7.below hb4 q7.lt; have hbb := up_call hba hb4)
    | (refine wpList_store_row rfl 28 _ _ rfl g7 (flt 6 (-1)) rfl rfl 28 (flt 0 0) u7 (by rw [flt_size]; exact cellsF) rfl (all_one (flt_one _ _)) ?_))
  refine wp_world (F := fun W => Row W g6 28 (flt 6 (-1)) ∧ Row W g7 28 (flt 6 (-1)) ∧ Below w.heap.size w W)
    ⟨u6.rowFar (by omega) _, Row.row u7 _, blw_row hbb (by omega) _⟩ ?_
  clear r0 r6 r7 hS hP hb q0 q6 q7 pS pP hba hb3 u6 u7 hbb hb4 w3 w4 hd hok
  rintro W3 ⟨r6, r7, hb⟩
  have k0 : W3.cell? ⟨g7, 0, none⟩ = some (.int .i64 6) := (r7.cell 0).trans rfl
  go_upto_region 8 with fail
  go_loop [8] (fun i => i = .int .i64 0) (fun _ => 0)
  case atStart => rfl
  case round =>
    obtain rfl := hrel
    by_cases hm0 : 0 < m
    · have t0 : decide ((0 : Int) < (m : Int)) = true := decide_eq_true (by omega)
      have t1 : decide (0 < m) = true := decide_eq_true hm0
      have hmm := hm0
      clear hm0
      go_wp2_with (first
        | (go_at_call 13; refine (codes_any _).mono ?_; rintro e w14 ⟨rfl, hb14⟩; have k0 : w14.cell? ⟨g7, 0, none⟩ = some (.int .i64 6) := ((r7.below hb14 r7.lt).cell 0).trans rfl; have s6 := r6.below hb14 r6.lt; have s7 := r7.below hb14 r7.lt; have hb3 := up_call hb hb14)
        | (go_at_call 13; refine (codes_any _).mono ?_; rintro e w21 ⟨rfl, hb21⟩; have u6 := s6.below hb21 s6.lt; have u7 := s7.below hb21 s7.lt; have hb4 := up_call hb3 hb21)
        | (refine wpList_load_rowG (by simp [Region.wanted, yielded, Act.put]) 28 _ rfl g6 rfl 28 (flt 6 (-1)) (0, 0) _ u6 Try.underlying28 rfl (by rw [flt_size]; exact cellsF) ?_)
        | (refine wpList_load_rowG (by simp [Region.wanted, yielded, Act.put]) 28 _ rfl g7 rfl 28 (flt 6 (-1)) (0, 0) _ u7 Try.underlying28 rfl (by rw [flt_size]; exact cellsF) ?_))
      go_ret
      exact ⟨rfl, hb4⟩
    · have t0 : decide ((0 : Int) < (m : Int)) = false := decide_eq_false (by omega)
      have t1 : decide (0 < m) = false := decide_eq_false hm0
      obtain rfl : m = 0 := by omega
      clear hm0
      go_wp2_with (first
        | (go_at_call 13; refine (codes_any _).mono ?_; rintro e w14 ⟨rfl, hb14⟩; have k0 : w14.cell? ⟨g7, 0, none⟩ = some (.int .i64 6) := ((r7.below hb14 r7.lt).cell 0).trans rfl; have s6 := r6.below hb14 r6.lt; have s7 := r7.below hb14 r7.lt; have hb3 := up_call hb hb14)
        | (go_at_call 13; refine (codes_any _).mono ?_; rintro e w21 ⟨rfl, hb21⟩; have u6 := s6.below hb21 s6.lt; have u7 := s7.below hb21 s7.lt; have hb4 := up_call hb3 hb21)
        | (refine wpList_load_rowG (by simp [Region.wanted, yielded, Act.put]) 28 _ rfl g6 rfl 28 (flt 6 (-1)) (0, 0) _ u6 Try.underlying28 rfl (by rw [flt_size]; exact cellsF) ?_)
        | (refine wpList_load_rowG (by simp [Region.wanted, yielded, Act.put]) 28 _ rfl g7 rfl 28 (flt 6 (-1)) (0, 0) _ u7 Try.underlying28 rfl (by rw [flt_size]; exact cellsF) ?_))
      go_ret
      exact ⟨rfl, hb4⟩

set_option maxRecDepth 100000 in
set_option maxHeartbeats 8000000 in
theorem walk_many (l : List Bool) (hl : l.length ≤ 131072) (zs : List Int) (hz : 8192 < zs.length) (A B : Option Addr) (cp dp : Nat) (w : World) (hS : Sl w w.heap.size A (pack l).length (bl (pack l))) (hP : Sl w w.heap.size B zs.length (zl zs)) :
    Calls Try.prog 6 #[.agg (bcs A (pack l).length cp l.length), .slice B zs.length dp] w fun e w' => e = .returned (.bool true) ∧ Below w.heap.size w w' := by
  have hd := fun (w : World) (hS : Sl w w.heap.size A (pack l).length (bl (pack l))) (hP : Sl w w.heap.size B zs.length (zl zs)) => Decode_many l zs hl hz A B cp dp w hS hP
  have hok := ok_yes (pack l) l (pack_rep l) hl A cp
  obtain ⟨n, hn⟩ : ∃ n, n = l.length := ⟨_, rfl⟩
  obtain ⟨m, hm⟩ : ∃ m, m = zs.length := ⟨_, rfl⟩
  rw [← hm] at hd hP hz ⊢
  rw [← hn] at hd hok ⊢
  have t8 : decide ((8192 : Int) < (m : Int)) = true := decide_eq_true (by omega)
  have t0 : decide ((0 : Int) < (m : Int)) = true := decide_eq_true (by omega)
  clear hm hn hl
  have hef : ∀ w : World, (binOp .eql 28 (.agg (flt 2 (-2))) (.agg (flt 2 (-2)))).run Try.prog w = .ok (.bool true) w := fun w => by have h := eql_flt 2 (-2) 2 (-2) w; simp only [beq_self_eq_true, Bool.and_self] at h; exact h
  go_enter Try.func6, Try.ntmps6
  go_upto_region 1 with (fail)
  refine wp_world (F := fun W => Row W w.heap.size 26 (bcs A (pack l).length cp n) ∧ Sl W W.heap.size A (pack l).length (bl (pack l)) ∧ Sl W W.heap.size B m (zl zs) ∧ Below w.heap.size w W)
    ⟨Row.newEq _ _ _ _ _ rfl rfl, hS.up ((Below.refl _ _).alloc (Nat.le_refl _) _), hP.up ((Below.refl _ _).alloc (Nat.le_refl _) _), (Below.refl _ _).alloc (Nat.le_refl _) _⟩ ?_
  clear hS hP
  rintro W0 ⟨r0, hS, hP, hb⟩
  go_upto_region 2 with (first
    | (refine wpList_load_row rfl 26 _ rfl w.heap.size rfl 26 (bcs A (pack l).length cp n) (0, 0) _ r0 Try.underlying26 rfl (by rw [bcs_size]; exact cellsB) ?_)
    | (go_at_call 32; refine (hd _ hS hP).mono ?_; rintro e w1 ⟨rfl, hb1⟩)
    | (refine wpList_store_row rfl 28 _ _ rfl w1.heap.size (flt 2 (-2)) rfl rfl 28 (flt 0 0) (Row.newEq _ _ _ _ _ rfl rfl) (by rw [flt_size]; exact cellsF) rfl (all_one (flt_one _ _)) ?_))
  have hk0 := blw_new1 w1 (.cells #[.int .i64 0, .int .i64 0] 28) (flt 2 (-2))
  have hk := up_call hb1 hk0
  refine wp_world (F := fun W => Row W w.heap.size 26 (bcs A (pack l).length cp n) ∧ Row W w1.heap.size 28 (flt 2 (-2)) ∧ Sl W W.heap.size A (pack l).length (bl (pack l)) ∧ Sl W W.heap.size B m (zl zs) ∧ Below w.heap.size w W)
    ⟨r0.below hk r0.lt, row_new1 _ _ _ _, hS.up hk, hP.up hk, up_call hb hk⟩ ?_
  have hl6 : w.heap.size < w1.heap.size := Nat.lt_of_lt_of_le r0.lt hb1.size
  generalize w1.heap.size = g6 at hl6
  clear hk hk0 hb1 r0 hS hP hb w1
  rintro W1 ⟨r0, r6, hS, hP, hb⟩
  go_upto_region 3 with (first
    | (refine wpList_store_row rfl 28 _ _ rfl W1.heap.size (flt 0 0) rfl rfl 28 (flt 0 0) (Row.newEq _ _ _ _ _ rfl rfl) (by rw [flt_size]; exact cellsF) rfl (all_one (flt_one _ _)) ?_))
  have hk := blw_new1 W1 (.cells #[.int .i64 0, .int .i64 0] 28) (flt 0 0)
  refine wp_world (F := fun W => Row W w.heap.size 26 (bcs A (pack l).length cp n) ∧ Row W g6 28 (flt 2 (-2)) ∧ Row W W1.heap.size 28 (flt 0 0) ∧ Sl W W.heap.size A (pack l).length (bl (pack l)) ∧ Sl W W.heap.size B m (zl zs) ∧ Below w.heap.size w W)
    ⟨r0.below hk r0.lt, r6.below hk r6.lt, row_new1 _ _ _ _, hS.up hk, hP.up hk, up_call hb hk⟩ ?_
  have hl7 : g6 < W1.heap.size := r6.lt
  generalize W1.heap.size = g7 at hl7
  clear hk r0 r6 hS hP hb
  rintro W2 ⟨r0, r6, r7, hS, hP, hb⟩
  go_upto_region 7 with (first
    | (refine wpList_load_row rfl 26 _ rfl w.heap.size rfl 26 (bcs A (pack l).length cp n) (0, 0) _ r0 Try.underlying26 rfl (by rw [bcs_size]; exact cellsB) ?_)
    | (go_at_call 24; refine (hok _ hS).mono ?_; rintro e w3 ⟨rfl, hb3⟩; have q0 := r0.below hb3 r0.lt; have q6 := r6.below hb3 r6.lt; have q7 := r7.below hb3 r7.lt; have pS := hS.up hb3; have pP := hP.up hb3; have hba := up_call hb hb3)
    | (go_at_call 16; refine (at_any 2 (-2) _).mono ?_; rintro e w4 ⟨rfl, hb4⟩; have u6 := q6.below hb4 q6.lt; have u7 := q7.below hb4 q7.lt; have hbb := up_call hba hb4)
    | (refine wpList_store_row rfl 28 _ _ rfl g7 (flt 2 (-2)) rfl rfl 28 (flt 0 0) u7 (by rw [flt_size]; exact cellsF) rfl (all_one (flt_one _ _)) ?_))
  refine wp_world (F := fun W => Row W g6 28 (flt 2 (-2)) ∧ Row W g7 28 (flt 2 (-2)) ∧ Below w.heap.size w W)
    ⟨u6.rowFar (by omega) _, Row.row u7 _, blw_row hbb (by omega) _⟩ ?_
  clear r0 r6 r7 hS hP hb q0 q6 q7 pS pP hba hb3 u6 u7 hbb hb4 w3 w4 hd hok
  rintro W3 ⟨r6, r7, hb⟩
  have k0 : W3.cell? ⟨g7, 0, none⟩ = some (.int .i64 2) := (r7.cell 0).trans rfl
  go_upto_region 8 with fail
  go_loop [8] (fun i => i = .int .i64 0) (fun _ => 0)
  case atStart => rfl
  case round =>
    obtain rfl := hrel
    go_wp2_with (first
      | (go_at_call 13; refine (codes_any _).mono ?_; rintro e w14 ⟨rfl, hb14⟩; have k0 : w14.cell? ⟨g7, 0, none⟩ = some (.int .i64 2) := ((r7.below hb14 r7.lt).cell 0).trans rfl; have s6 := r6.below hb14 r6.lt; have s7 := r7.below hb14 r7.lt; have hb3 := up_call hb hb14)
      | (go_at_call 13; refine (codes_any _).mono ?_; rintro e w21 ⟨rfl, hb21⟩; have u6 := s6.below hb21 s6.lt; have u7 := s7.below hb21 s7.lt; have hb4 := up_call hb3 hb21)
      | (refine wpList_load_rowG (by simp [Region.wanted, yielded, Act.put]) 28 _ rfl g6 rfl 28 (flt 2 (-2)) (0, 0) _ u6 Try.underlying28 rfl (by rw [flt_size]; exact cellsF) ?_)
      | (refine wpList_load_rowG (by simp [Region.wanted, yielded, Act.put]) 28 _ rfl g7 rfl 28 (flt 2 (-2)) (0, 0) _ u7 Try.underlying28 rfl (by rw [flt_size]; exact cellsF) ?_))
    go_ret
    exact ⟨rfl, hb4⟩

set_option maxRecDepth 100000 in
set_option maxHeartbeats 8000000 in
theorem walk_range (l : List Bool) (hl : l.length ≤ 131072) (zs : List Int) (hz : zs.length ≤ 8192) (k : Nat) (hk : k < zs.length) (h1 : ∀ j, j < k → okP (zs.getD j 0)) (h2 : ¬ okP (zs.getD k 0)) (A B : Option Addr) (cp dp : Nat) (w : World) (hS : Sl w w.heap.size A (pack l).length (bl (pack l))) (hP : Sl w w.heap.size B zs.length (zl zs)) :
    Calls Try.prog 6 #[.agg (bcs A (pack l).length cp l.length), .slice B zs.length dp] w fun e w' => e = .returned (.bool true) ∧ Below w.heap.size w w' := by
  have hd := fun (w : World) (hS : Sl w w.heap.size A (pack l).length (bl (pack l))) (hP : Sl w w.heap.size B zs.length (zl zs)) => Decode_range l zs hl hz k hk h1 h2 A B cp dp w hS hP
  have hok := ok_yes (pack l) l (pack_rep l) hl A cp
  obtain ⟨n, hn⟩ : ∃ n, n = l.length := ⟨_, rfl⟩
  have H1 := Lib.hid h1
  have H2 := Lib.hid h2
  obtain ⟨m, hm⟩ : ∃ m, m = zs.length := ⟨_, rfl⟩
  rw [← hm] at hd hP hz hk ⊢
  have HP0 := Lib.hid hP
  rw [← hn] at hd hok ⊢
  have t8 : decide ((8192 : Int) < (m : Int)) = false := decide_eq_false (by omega)
  clear hm hn hl h1 h2
  have hef : ∀ w : World, (binOp .eql 28 (.agg (flt 4 k)) (.agg (flt 4 k))).run Try.prog w = .ok (.bool true) w := fun w => by have h := eql_flt 4 k 4 k w; simp only [beq_self_eq_true, Bool.and_self] at h; exact h
  go_enter Try.func6, Try.ntmps6
  go_upto_region 1 with (fail)
  refine wp_world (F := fun W => Row W w.heap.size 26 (bcs A (pack l).length cp n) ∧ Sl W W.heap.size A (pack l).length (bl (pack l)) ∧ Sl W W.heap.size B m (zl zs) ∧ Below w.heap.size w W)
    ⟨Row.newEq _ _ _ _ _ rfl rfl, hS.up ((Below.refl _ _).alloc (Nat.le_refl _) _), hP.up ((Below.refl _ _).alloc (Nat.le_refl _) _), (Below.refl _ _).alloc (Nat.le_refl _) _⟩ ?_
  clear hS hP
  rintro W0 ⟨r0, hS, hP, hb⟩
  go_upto_region 2 with (first
    | (refine wpList_load_row rfl 26 _ rfl w.heap.size rfl 26 (bcs A (pack l).length cp n) (0, 0) _ r0 Try.underlying26 rfl (by rw [bcs_size]; exact cellsB) ?_)
    | (go_at_call 32; refine (hd _ hS hP).mono ?_; rintro e w1 ⟨rfl, hb1⟩)
    | (refine wpList_store_row rfl 28 _ _ rfl w1.heap.size (flt 4 k) rfl rfl 28 (flt 0 0) (Row.newEq _ _ _ _ _ rfl rfl) (by rw [flt_size]; exact cellsF) rfl (all_one (flt_one _ _)) ?_))
  have hk0 := blw_new1 w1 (.cells #[.int .i64 0, .int .i64 0] 28) (flt 4 k)
  have hk := up_call hb1 hk0
  refine wp_world (F := fun W => Row W w.heap.size 26 (bcs A (pack l).length cp n) ∧ Row W w1.heap.size 28 (flt 4 k) ∧ Sl W W.heap.size A (pack l).length (bl (pack l)) ∧ Sl W W.heap.size B m (zl zs) ∧ Below w.heap.size w W)
    ⟨r0.below hk r0.lt, row_new1 _ _ _ _, hS.up hk, hP.up hk, up_call hb hk⟩ ?_
  have hl6 : w.heap.size < w1.heap.size := Nat.lt_of_lt_of_le r0.lt hb1.size
  generalize w1.heap.size = g6 at hl6
  clear hk hk0 hb1 r0 hS hP hb w1
  rintro W1 ⟨r0, r6, hS, hP, hb⟩
  go_upto_region 3 with (first
    | (refine wpList_store_row rfl 28 _ _ rfl W1.heap.size (flt 0 0) rfl rfl 28 (flt 0 0) (Row.newEq _ _ _ _ _ rfl rfl) (by rw [flt_size]; exact cellsF) rfl (all_one (flt_one _ _)) ?_))
  have hk := blw_new1 W1 (.cells #[.int .i64 0, .int .i64 0] 28) (flt 0 0)
  refine wp_world (F := fun W => Row W w.heap.size 26 (bcs A (pack l).length cp n) ∧ Row W g6 28 (flt 4 k) ∧ Row W W1.heap.size 28 (flt 0 0) ∧ Sl W W.heap.size A (pack l).length (bl (pack l)) ∧ Sl W W.heap.size B m (zl zs) ∧ Below w.heap.size w W)
    ⟨r0.below hk r0.lt, r6.below hk r6.lt, row_new1 _ _ _ _, hS.up hk, hP.up hk, up_call hb hk⟩ ?_
  have hl7 : g6 < W1.heap.size := r6.lt
  generalize W1.heap.size = g7 at hl7
  clear hk r0 r6 hS hP hb
  rintro W2 ⟨r0, r6, r7, hS, hP, hb⟩
  go_upto_region 8 with (first
    | (refine wpList_load_row rfl 26 _ rfl w.heap.size rfl 26 (bcs A (pack l).length cp n) (0, 0) _ r0 Try.underlying26 rfl (by rw [bcs_size]; exact cellsB) ?_)
    | (go_at_call 24; refine (hok _ hS).mono ?_; rintro e w3 ⟨rfl, hb3⟩; have q0 := r0.below hb3 r0.lt; have q6 := r6.below hb3 r6.lt; have q7 := r7.below hb3 r7.lt; have pS := hS.up hb3; have pP := hP.up hb3; have hba := up_call hb hb3))
  clear r0 r6 r7 hS hP hb hd hok hb3 q0 pS
  go_loopw [8] (fun i wr => ∃ j : Nat, i = .int .i64 j ∧ j ≤ m ∧ ((j ≤ k ∧ Row wr g7 28 (flt 0 0)) ∨ (j = k + 1 ∧ Row wr g7 28 (flt 4 k))) ∧ Row wr g6 28 (flt 4 k) ∧ Below w.heap.size w wr) (fun i _ => m - (intOf i).toNat)
  case atStart => exact ⟨0, rfl, Nat.zero_le _, .inl ⟨Nat.zero_le _, q7⟩, q6, hba⟩
  case round =>
    clear q6 q7 pP hba
    obtain ⟨j, rfl, hjm, hor, r6, hb⟩ := hrel
    rcases hor with ⟨hjk, r7⟩ | ⟨rfl, r7⟩
    · have k0 : wr.cell? ⟨g7, 0, none⟩ = some (.int .i64 0) := (r7.cell 0).trans rfl
      have hlt : j < m := by omega
      obtain ⟨ad, rfl, hbk, hcell⟩ := (HP0.out.below hb).int hlt
      by_cases hlk : j < k
      · have hin := in_any (zs.getD j 0) 1 4095
        rw [decide_eq_true (show 1 ≤ zs.getD j 0 ∧ zs.getD j 0 ≤ 4095 from H1.out j hlk)] at hin
        obtain ⟨z, hz2⟩ : ∃ z, z = zs.getD j 0 := ⟨_, rfl⟩
        rw [← hz2] at hcell hin
        clear hz2
        go_wp2_with (first
          | (go_at_call 20; refine (hin _).mono ?_; rintro e w9 ⟨rfl, h9⟩; subst w9))
        go_roundw
        case rel => exact ⟨j + 1, by go_num, by omega, .inl ⟨by omega, r7⟩, r6, hb⟩
        case measure => simp [intOf]; omega
      · obtain rfl : j = k := by omega
        have hin := in_any (zs.getD j 0) 1 4095
        rw [decide_eq_false (show ¬ (1 ≤ zs.getD j 0 ∧ zs.getD j 0 ≤ 4095) from H2.out)] at hin
        obtain ⟨z, hz2⟩ : ∃ z, z = zs.getD j 0 := ⟨_, rfl⟩
        rw [← hz2] at hcell hin
        clear hz2
        go_wp2_with (first
          | (go_at_call 20; refine (hin _).mono ?_; rintro e w9 ⟨rfl, h9⟩; subst w9)
          | (go_at_call 16; refine (at_any 4 j _).mono ?_; rintro e w10 ⟨rfl, hb10⟩)
          | (refine wpList_store_row rfl 28 _ _ rfl g7 (flt 4 j) rfl rfl 28 (flt 0 0) (r7.below hb10 r7.lt) (by rw [flt_size]; exact cellsF) rfl (all_one (flt_one _ _)) ?_))
        go_roundw
        case rel => exact ⟨j + 1, by go_num, by omega, .inr ⟨rfl, Row.row (r7.below hb10 r7.lt) _⟩, (r6.below hb10 r6.lt).rowFar (by omega) _, blw_row (up_call hb hb10) (by omega) _⟩
        case measure => simp [intOf]; omega
    · have k0 : wr.cell? ⟨g7, 0, none⟩ = some (.int .i64 4) := (r7.cell 0).trans rfl
      by_cases hkm : k + 1 < m
      · have t0 : decide (((k + 1 : Nat) : Int) < (m : Int)) = true := decide_eq_true (by omega)
        have t1 : decide ((k : Int) + 1 < (m : Int)) = true := decide_eq_true (by omega)
        have t2 : decide (k + 1 < m) = true := decide_eq_true hkm
        clear hkm
        go_wp2_with (first
          | (go_at_call 13; refine (codes_any _).mono ?_; rintro e w14 ⟨rfl, hb14⟩; have k0 : w14.cell? ⟨g7, 0, none⟩ = some (.int .i64 4) := ((r7.below hb14 r7.lt).cell 0).trans rfl; have s6 := r6.below hb14 r6.lt; have s7 := r7.below hb14 r7.lt; have hb3 := up_call hb hb14)
          | (go_at_call 13; refine (codes_any _).mono ?_; rintro e w21 ⟨rfl, hb21⟩; have u6 := s6.below hb21 s6.lt; have u7 := s7.below hb21 s7.lt; have hb4 := up_call hb3 hb21)
          | (refine wpList_load_rowG (by simp [Region.wanted, yielded, Act.put]) 28 _ rfl g6 rfl 28 (flt 4 k) (0, 0) _ u6 Try.underlying28 rfl (by rw [flt_size]; exact cellsF) ?_)
          | (refine wpList_load_rowG (by simp [Region.wanted, yielded, Act.put]) 28 _ rfl g7 rfl 28 (flt 4 k) (0, 0) _ u7 Try.underlying28 rfl (by rw [flt_size]; exact cellsF) ?_))
        go_ret
        exact ⟨rfl, hb4⟩
      · have t0 : decide (((k + 1 : Nat) : Int) < (m : Int)) = false := decide_eq_false (by omega)
        have t1 : decide ((k : Int) + 1 < (m : Int)) = false := decide_eq_false (by omega)
        have t2 : decide (k + 1 < m) = false := decide_eq_false hkm
        clear hkm
        go_wp2_with (first
          | (go_at_call 13; refine (codes_any _).mono ?_; rintro e w14 ⟨rfl, hb14⟩; have k0 : w14.cell? ⟨g7, 0, none⟩ = some (.int .i64 4) := ((r7.below hb14 r7.lt).cell 0).trans rfl; have s6 := r6.below hb14 r6.lt; have s7 := r7.below hb14 r7.lt; have hb3 := up_call hb hb14)
          | (go_at_call 13; refine (codes_any _).mono ?_; rintro e w21 ⟨rfl, hb21⟩; have u6 := s6.below hb21 s6.lt; have u7 := s7.below hb21 s7.lt; have hb4 := up_call hb3 hb21)
          | (refine wpList_load_rowG (by simp [Region.wanted, yielded, Act.put]) 28 _ rfl g6 rfl 28 (flt 4 k) (0, 0) _ u6 Try.underlying28 rfl (by rw [flt_size]; exact cellsF) ?_)
          | (refine wpList_load_rowG (by simp [Region.wanted, yielded, Act.put]) 28 _ rfl g7 rfl 28 (flt 4 k) (0, 0) _ u7 Try.underlying28 rfl (by rw [flt_size]; exact cellsF) ?_))
        go_ret
        exact ⟨rfl, hb4⟩
end Go.Proofs.Ytcnokjiohbifeaa.lawDec
