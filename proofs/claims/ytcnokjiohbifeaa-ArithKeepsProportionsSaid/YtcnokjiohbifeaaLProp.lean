/-
  The walks of ArithKeepsProportions.
-/
import Derived.Test.YtcnokjiohbifeaaAArgs
namespace Go.Proofs.Ytcnokjiohbifeaa.lawProp
open Go.RowKit

set_option maxRecDepth 100000 in
set_option maxHeartbeats 4000000 in
theorem walk_bad (a b q bit p k i : Int) (h : PutF a b q bit p k i) (w : World) :
    Calls Try.prog 9 #[.agg (cds a b q), .int .i64 bit, .int .i64 p] w fun e w' => e = .returned (.bool true) ∧ Below w.heap.size w w' := by
  have hne : (k != 0) = true := bne_iff_ne.2 h.ne
  have hp := Put_bad a b q bit p k i h
  have hseq : ∀ w : World, (binOp .eql 23 (.agg (cds 0 0 0)) (.agg #[.int .i64 0, .int .i64 0, .int .i64 0])).run Try.prog w = .ok (.bool true) w := fun w => eql_cds 0 0 0 0 0 0 w
  clear h
  go_enter Try.func9, Try.ntmps9
  go_upto_region 1 with (fail)
  refine wp_world (F := fun W => Row W w.heap.size 23 (cds a b q) ∧ Below w.heap.size w W) ⟨Row.newEq _ _ _ _ _ rfl rfl, (Below.refl _ _).alloc (Nat.le_refl _) _⟩ ?_
  rintro W0 ⟨r0, hb⟩
  go_upto_region 2 with (first
    | (refine wpList_load_row rfl 23 _ rfl w.heap.size rfl 23 (cds a b q) (0, 0) _ r0 Try.underlying23 rfl (by rw [cds_size]; exact cellsCd) ?_)
    | (go_at_call 11; refine (hp _).mono ?_; rintro e w1 ⟨rfl, hb1⟩)
    | (refine wpList_out3 23 26 28 7 8 9 17 18 19 _ _ _ (cds 0 0 0) (bcs none 0 0 0) (flt k i) rfl rfl rfl rfl rfl rfl rfl rfl rfl rfl rfl rfl rfl rfl rfl rfl rfl rfl allocCd allocB allocF (by rw [cds_size]; exact cellsCd) (by rw [bcs_size]; exact cellsB) (by rw [flt_size]; exact cellsF) rfl rfl rfl (all_one (cds_one _ _ _)) (all_one (bcs_one _ _ _ _)) (all_one (flt_one _ _)) (by decide) (by simp) rfl rfl rfl ?_; intro W1 r7 r8 r9 hbk))
  have hk := up_call hb1 hbk
  replace r0 := r0.below hk r0.lt
  replace hb := up_call hb hk
  generalize w1.heap.size = g7 at r7 r8 r9 ⊢
  clear hk hbk hb1
  go_wp2_with (first
    | (go_at_call 13; refine (codes_any _).mono ?_; rintro e w14 ⟨rfl, hb14⟩; have k0 : w14.cell? ⟨g7 + 1 + 1, 0, none⟩ = some (.int .i64 k) := ((r9.below hb14 r9.lt).cell 0).trans rfl; have s7 := r7.below hb14 r7.lt; have hb2 := up_call hb hb14)
    | (go_at_call 13; refine (codes_any _).mono ?_; rintro e w21 ⟨rfl, hb21⟩; have u7 := s7.below hb21 s7.lt; have hb3 := up_call hb2 hb21)
    | (refine wpList_load_rowG (by simp [Region.wanted, yielded, Act.put]) 23 _ rfl g7 rfl 23 (cds 0 0 0) (0, 0) _ u7 Try.underlying23 rfl (by rw [cds_size]; exact cellsCd) ?_))
  go_ret
  exact ⟨rfl, hb3⟩

set_option maxRecDepth 100000 in
set_option maxHeartbeats 4000000 in
theorem walk_good (L H P p : Nat) (b : Bool) (h : CoderZ L H P) (h1 : 1 ≤ p) (h2 : p ≤ 4095) (hl : (sentN P (stepN L H p b).2.2).2 ≤ 131056) (w : World) :
    Calls Try.prog 9 #[.agg (cds L H P), .int .i64 ((b.toNat : Nat) : Int), .int .i64 p] w fun e w' => e = .returned (.bool true) ∧ Below w.heap.size w w' := by
  have hw := h.wide
  have hp := Put_ok L H P p b h h1 h2 hl
  obtain ⟨hs1, hs2, hs3, _⟩ := step_ok hw h1 h2 b
  have hps := part_size hw h1 h2 b
  obtain ⟨hlo1, hlo2⟩ := lower_bounds hw h1 h2
  have hsl := sent_length (stepN L H p b).2.2 P
  have hbd : P ≤ 131056 := by have := h.2.2; omega
  obtain ⟨fL, fH, fs, hf⟩ : ∃ fL fH fs, stepN L H p b = (fL, fH, fs) := ⟨_, _, _, rfl⟩
  rw [hf] at hp hs1 hs2 hs3 hsl hl
  obtain ⟨o, Q, hs⟩ : ∃ o Q, sentN P fs = (o, Q) := ⟨_, _, rfl⟩
  simp only at hp hs1 hs2 hs3 hsl hl
  rw [hs] at hp hsl hl
  simp only at hp hsl hl
  rw [hps] at hs3
  obtain ⟨m, hm⟩ : ∃ m, m = o.length := ⟨_, rfl⟩
  rw [← hm] at hp hsl
  obtain ⟨t, ht⟩ : ∃ t, t = fs.length := ⟨_, rfl⟩
  rw [← ht] at hs2 hs3 hsl
  obtain ⟨pw, hpw⟩ : ∃ pw, pw = 2 ^ t := ⟨_, rfl⟩
  have hpwr := power_any t (by omega) pw hpw
  have hpwb : pw ≤ 16384 := by rw [hpw]; exact Nat.pow_le_pow_right (by omega) hs2
  rw [← hpw] at hs3
  obtain ⟨hf1, hf2, hf3, hf4⟩ := hs1
  obtain ⟨hw1, hw2, hw3, hw4⟩ := hw
  have hmul : (H - L + 1) * p ≤ 65536 * 4095 := Nat.mul_le_mul (by omega) h2
  have hprod : ((H : Int) - (L : Int) + 1) * (p : Int) = (((H - L + 1) * p : Nat) : Int) := by
    rw [show (H : Int) - (L : Int) + 1 = ((H - L + 1 : Nat) : Int) by omega, ← Int.natCast_mul]
  unfold lowerN at hlo1 hlo2 hs3
  obtain ⟨x, hx⟩ : ∃ x, x = (H - L + 1) * p := ⟨_, rfl⟩
  rw [← hx] at hmul hprod hlo1 hlo2 hs3
  obtain ⟨lo, hlo⟩ : ∃ lo, lo = x / 4096 := ⟨_, rfl⟩
  rw [← hlo] at hlo1 hlo2 hs3
  have hloz : (x : Int) / 4096 = (lo : Int) := by omega
  have htt : (m : Int) + (Q : Int) - (P : Int) = (t : Int) := by omega
  have hmb : m ≤ 131072 := by omega
  have hin := in_yes (t : Int) 0 14 (by omega) (by omega)
  have HP := Lib.hid hp
  have HPW := Lib.hid hpwr
  clear h h1 h2 hf hs hps hsl hm ht hpw hp hpwr hlo hx
  cases b
  · simp only [Bool.false_eq_true, if_false] at hs3
    obtain ⟨y, hy⟩ : ∃ y, y = H - L + 1 - lo := ⟨_, rfl⟩
    rw [← hy] at hs3
    have hyz : (H : Int) - (L : Int) + 1 - (lo : Int) = (y : Int) := by omega
    have hy4 : 4 ≤ y := by omega
    have hyb : y ≤ 65536 := by omega
    clear hy
    rw [show (((false : Bool).toNat : Nat) : Int) = 0 from rfl] at HP ⊢
    have hez : (y : Int) * (pw : Int) = (fH : Int) - (fL : Int) + 1 := by
      rw [← Int.natCast_mul, ← hs3]
      omega
    have HEZ := Lib.hid hez
    have hwy : IntKind.i64.wrap ((y : Int) * (pw : Int)) = (fH : Int) - (fL : Int) + 1 := by rw [hez, IntKind.wrap_i64]; omega
    have hws : IntKind.i64.wrap ((fH : Int) - (fL : Int)) = (fH : Int) - (fL : Int) := by rw [IntKind.wrap_i64]; omega
    have hws2 : IntKind.i64.wrap ((fH : Int) - (fL : Int) + 1) = (fH : Int) - (fL : Int) + 1 := by rw [IntKind.wrap_i64]; omega
    have ty4 : decide ((4 : Int) ≤ (y : Int)) = true := decide_eq_true (by omega)
    have HW := Lib.hid (And.intro hwy (And.intro hws hws2))
    clear hez hs3 hwy hws hws2 hlo1 hlo2 hpwb hs2
    go_enter Try.func9, Try.ntmps9
    go_upto_region 1 with (fail)
    refine wp_world (F := fun W => Row W w.heap.size 23 (cds L H P) ∧ Below w.heap.size w W) ⟨Row.newEq _ _ _ _ _ rfl rfl, (Below.refl _ _).alloc (Nat.le_refl _) _⟩ ?_
    rintro W0 ⟨r0, hb⟩
    go_upto_region 2 with (first
      | (refine wpList_load_row rfl 23 _ rfl w.heap.size rfl 23 (cds L H P) (0, 0) _ r0 Try.underlying23 rfl (by rw [cds_size]; exact cellsCd) ?_)
      | (go_at_call 11; refine (HP.out _).mono ?_; rintro e w1 ⟨A1, c1, rfl, _, hb1⟩)
      | (refine wpList_out3 23 26 28 7 8 9 17 18 19 _ _ _ (cds fL fH Q) (bcs A1 (pack o).length c1 m) (flt 0 0) rfl rfl rfl rfl rfl rfl rfl rfl rfl rfl rfl rfl rfl rfl rfl rfl rfl rfl allocCd allocB allocF (by rw [cds_size]; exact cellsCd) (by rw [bcs_size]; exact cellsB) (by rw [flt_size]; exact cellsF) rfl rfl rfl (all_one (cds_one _ _ _)) (all_one (bcs_one _ _ _ _)) (all_one (flt_one _ _)) (by decide) (by simp) rfl rfl rfl ?_; intro W1 r7 r8 r9 hbk))
    have hk := up_call hb1 hbk
    replace r0 := r0.below hk r0.lt
    replace hb := up_call hb hk
    generalize w1.heap.size = g7 at r7 r8 r9 ⊢
    clear hk hbk hb1
    go_upto_region 4 with (first
      | (go_at_call 13; refine (codes_any _).mono ?_; rintro e w14 ⟨rfl, hb14⟩; have k0 : w14.cell? ⟨g7 + 1 + 1, 0, none⟩ = some (.int .i64 0) := ((r9.below hb14 r9.lt).cell 0).trans rfl))
    have s0 := r0.below hb14 r0.lt
    have s7 := r7.below hb14 r7.lt
    have s8 := r8.below hb14 r8.lt
    have hb2 := up_call hb hb14
    clear k0 r9 r0 r7 r8 hb hb14 W1
    have e0 : w14.cell? ⟨w.heap.size, 0, none⟩ = some (.int .i64 L) := (s0.cell 0).trans rfl
    have e1 : w14.cell? ⟨w.heap.size, 1, none⟩ = some (.int .i64 H) := (s0.cell 1).trans rfl
    have e2 : w14.cell? ⟨w.heap.size, 2, none⟩ = some (.int .i64 P) := (s0.cell 2).trans rfl
    have x0 : w14.cell? ⟨g7, 0, none⟩ = some (.int .i64 fL) := (s7.cell 0).trans rfl
    have x1 : w14.cell? ⟨g7, 1, none⟩ = some (.int .i64 fH) := (s7.cell 1).trans rfl
    have x2 : w14.cell? ⟨g7, 2, none⟩ = some (.int .i64 Q) := (s7.cell 2).trans rfl
    have x3 : w14.cell? ⟨g7 + 1, 1, none⟩ = some (.int .i64 m) := (s8.cell 1).trans rfl
    clear s0 s7 s8
    go_upto_region 8 with fail
    clear hprod hmul hloz htt hyz
    obtain ⟨hwy, hws, hws2⟩ := HW.out
    go_quiet (first
      | (go_at_call 20; exact Calls.quiet_of_same (hin _))
      | (go_at_call 36; exact Calls.quiet_of_same ((HPW.out _).mono fun _ _ ⟨a, b⟩ => ⟨a, b.symm⟩)))
    go_wp2
    go_ret
    exact ⟨by simp, blw_drewN hb2 _⟩
  · simp only [if_true] at hs3
    obtain ⟨y, hy⟩ : ∃ y, y = lo := ⟨_, rfl⟩
    rw [← hy] at hs3
    have hy4 : 4 ≤ y := by omega
    have hyb : y ≤ 65536 := by omega
    rw [← hy] at hloz
    clear hy
    rw [show (((true : Bool).toNat : Nat) : Int) = 1 from rfl] at HP ⊢
    have hez : (y : Int) * (pw : Int) = (fH : Int) - (fL : Int) + 1 := by
      rw [← Int.natCast_mul, ← hs3]
      omega
    have HEZ := Lib.hid hez
    have hwy : IntKind.i64.wrap ((y : Int) * (pw : Int)) = (fH : Int) - (fL : Int) + 1 := by rw [hez, IntKind.wrap_i64]; omega
    have hws : IntKind.i64.wrap ((fH : Int) - (fL : Int)) = (fH : Int) - (fL : Int) := by rw [IntKind.wrap_i64]; omega
    have hws2 : IntKind.i64.wrap ((fH : Int) - (fL : Int) + 1) = (fH : Int) - (fL : Int) + 1 := by rw [IntKind.wrap_i64]; omega
    have ty4 : decide ((4 : Int) ≤ (y : Int)) = true := decide_eq_true (by omega)
    have HW := Lib.hid (And.intro hwy (And.intro hws hws2))
    clear hez hs3 hwy hws hws2 hlo1 hlo2 hpwb hs2
    go_enter Try.func9, Try.ntmps9
    go_upto_region 1 with (fail)
    refine wp_world (F := fun W => Row W w.heap.size 23 (cds L H P) ∧ Below w.heap.size w W) ⟨Row.newEq _ _ _ _ _ rfl rfl, (Below.refl _ _).alloc (Nat.le_refl _) _⟩ ?_
    rintro W0 ⟨r0, hb⟩
    go_upto_region 2 with (first
      | (refine wpList_load_row rfl 23 _ rfl w.heap.size rfl 23 (cds L H P) (0, 0) _ r0 Try.underlying23 rfl (by rw [cds_size]; exact cellsCd) ?_)
      | (go_at_call 11; refine (HP.out _).mono ?_; rintro e w1 ⟨A1, c1, rfl, _, hb1⟩)
      | (refine wpList_out3 23 26 28 7 8 9 17 18 19 _ _ _ (cds fL fH Q) (bcs A1 (pack o).length c1 m) (flt 0 0) rfl rfl rfl rfl rfl rfl rfl rfl rfl rfl rfl rfl rfl rfl rfl rfl rfl rfl allocCd allocB allocF (by rw [cds_size]; exact cellsCd) (by rw [bcs_size]; exact cellsB) (by rw [flt_size]; exact cellsF) rfl rfl rfl (all_one (cds_one _ _ _)) (all_one (bcs_one _ _ _ _)) (all_one (flt_one _ _)) (by decide) (by simp) rfl rfl rfl ?_; intro W1 r7 r8 r9 hbk))
    have hk := up_call hb1 hbk
    replace r0 := r0.below hk r0.lt
    replace hb := up_call hb hk
    generalize w1.heap.size = g7 at r7 r8 r9 ⊢
    clear hk hbk hb1
    go_upto_region 4 with (first
      | (go_at_call 13; refine (codes_any _).mono ?_; rintro e w14 ⟨rfl, hb14⟩; have k0 : w14.cell? ⟨g7 + 1 + 1, 0, none⟩ = some (.int .i64 0) := ((r9.below hb14 r9.lt).cell 0).trans rfl))
    have s0 := r0.below hb14 r0.lt
    have s7 := r7.below hb14 r7.lt
    have s8 := r8.below hb14 r8.lt
    have hb2 := up_call hb hb14
    clear k0 r9 r0 r7 r8 hb hb14 W1
    have e0 : w14.cell? ⟨w.heap.size, 0, none⟩ = some (.int .i64 L) := (s0.cell 0).trans rfl
    have e1 : w14.cell? ⟨w.heap.size, 1, none⟩ = some (.int .i64 H) := (s0.cell 1).trans rfl
    have e2 : w14.cell? ⟨w.heap.size, 2, none⟩ = some (.int .i64 P) := (s0.cell 2).trans rfl
    have x0 : w14.cell? ⟨g7, 0, none⟩ = some (.int .i64 fL) := (s7.cell 0).trans rfl
    have x1 : w14.cell? ⟨g7, 1, none⟩ = some (.int .i64 fH) := (s7.cell 1).trans rfl
    have x2 : w14.cell? ⟨g7, 2, none⟩ = some (.int .i64 Q) := (s7.cell 2).trans rfl
    have x3 : w14.cell? ⟨g7 + 1, 1, none⟩ = some (.int .i64 m) := (s8.cell 1).trans rfl
    clear s0 s7 s8
    go_upto_region 8 with fail
    clear hprod hmul hloz htt
    obtain ⟨hwy, hws, hws2⟩ := HW.out
    go_quiet (first
      | (go_at_call 20; exact Calls.quiet_of_same (hin _))
      | (go_at_call 36; exact Calls.quiet_of_same ((HPW.out _).mono fun _ _ ⟨a, b⟩ => ⟨a, b.symm⟩)))
    go_wp2
    go_ret
    exact ⟨by simp, blw_drewN hb2 _⟩
end Go.Proofs.Ytcnokjiohbifeaa.lawProp
