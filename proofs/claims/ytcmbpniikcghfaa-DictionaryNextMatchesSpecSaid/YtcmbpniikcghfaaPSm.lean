/-
  The contracts of the package's isLiteral, size and Valid. The contract of the package's check: the first fault of a list of tokens.
-/
import Derived.Test.YtcmbpniikcghfaaTabK
import Derived.Test.YtcmbpniikcghfaaTok
import Derived.Test.YtcmbpniikcghfaaRIn
import Derived.Test.YtcmbpniikcghfaaGFlt
import Derived.Test.YtcmbpniikcghfaaGMem
import Derived.Deep.Cut
import Derived.Deep.DeepCutAuto
import Derived.RegionTactic
import Derived.BigRegion
import Derived.Deep.RegionLaw
import Derived.Deep.DeepMust
namespace Go.Proofs.Ytcmbpniikcghfaa
open Go.RowKit

set_option maxRecDepth 100000 in
theorem islit_any (d n : Int) (x : Int) (b : Bool) (hb : (n == 0) = b) (w : World) :
    Calls Try.prog 40 #[.agg #[.int .i64 d, .int .i64 n, .int .u8 x]] w fun e w' => e = .returned (.bool b) ∧ Below w.heap.size w w' := by
  go_enter Try.func40, Try.ntmps40
  go_wp2
  go_ret
  exact ⟨by rw [← hb]; rfl, (Below.refl _ _).alloc (Nat.le_refl _) _⟩
theorem islit_lit (x : Int) (w : World) : Calls Try.prog 40 #[.agg #[.int .i64 0, .int .i64 0, .int .u8 x]] w fun e w' => e = .returned (.bool true) ∧ Below w.heap.size w w' := islit_any 0 0 x true rfl w
theorem islit_mat (d n : Nat) (hn : 1 ≤ n) (w : World) : Calls Try.prog 40 #[.agg #[.int .i64 d, .int .i64 n, .int .u8 0]] w fun e w' => e = .returned (.bool false) ∧ Below w.heap.size w w' := islit_any d n 0 false (beq_eq_false_iff_ne.2 (by omega)) w
set_option maxRecDepth 100000 in
set_option maxHeartbeats 1000000 in
theorem size_len (t : Tk) (h : 1 ≤ t.len) (w : World) :
    Calls Try.prog 30 #[.agg (tcs t.z.1 t.z.2.1 t.z.2.2)] w fun e w' => e = .returned (.int .i64 (t.len : Int)) ∧ Below w.heap.size w w' := by
  cases t with
  | lit x =>
    show Calls Try.prog 30 #[.agg (tcs 0 0 x)] w _
    unfold tcs
    go_enter Try.func30, Try.ntmps30
    go_wp2_with (first
      | (go_at_call 40; refine (islit_lit _ _).mono ?_; rintro e w1 ⟨rfl, h1⟩))
    go_ret
    exact ⟨rfl, up_call ((Below.refl _ _).alloc (Nat.le_refl _) _) h1⟩
  | mat d n =>
    have h1 : 1 ≤ n := h
    show Calls Try.prog 30 #[.agg (tcs (d : Int) (n : Int) 0)] w _
    clear h
    have HI := Lib.hid (fun w => islit_mat d n h1 w)
    unfold tcs
    go_enter Try.func30, Try.ntmps30
    go_upto_region 1 with (fail)
    refine wp_world (F := fun W => Row W w.heap.size 55 #[.int .i64 (d : Int), .int .i64 (n : Int), .int .u8 0] ∧ Below w.heap.size w W) ⟨Row.newEq _ _ _ _ _ rfl rfl, (Below.refl _ _).alloc (Nat.le_refl _) _⟩ ?_
    rintro W0 ⟨r0, hb⟩
    have c0 := (r0.cell 0).trans rfl
    have c1 := (r0.cell 1).trans rfl
    have c2 := (r0.cell 2).trans rfl
    go_wp2_with (first
      | (go_at_call 40; refine (HI.out _).mono ?_; rintro e w1 ⟨rfl, h1⟩; have e1 := ((r0.below h1 r0.lt).cell 1).trans rfl))
    go_ret
    exact ⟨rfl, up_call hb h1⟩
theorem ok_len (t : Tk) (h : t.ok) : 1 ≤ t.len := by
  cases t with
  | lit x => exact Nat.le_refl _
  | mat d n => have := h.2.2.1; show 1 ≤ n; omega
theorem size_any (t : Tk) (h : t.ok) (w : World) :
    Calls Try.prog 30 #[.agg (tcs t.z.1 t.z.2.1 t.z.2.2)] w fun e w' => e = .returned (.int .i64 (t.len : Int)) ∧ Below w.heap.size w w' := size_len t (ok_len t h) w

set_option maxRecDepth 100000 in
set_option maxHeartbeats 2000000 in
theorem lzvalid_any (d n : Int) (x : UInt8) (w : World) :
    Calls Try.prog 41 #[.agg (tcs d n x)] w fun e w' => e = .returned (.bool (decide (okT (d, n, x)))) ∧ Below w.heap.size w w' := by
  have hb := byte_zero x
  by_cases h0 : d = 0 ∧ n = 0
  · have hr : decide (okT (d, n, x)) = true := decide_eq_true (.inl h0)
    rw [hr]
    obtain ⟨rfl, rfl⟩ := h0
    clear hr
    unfold tcs
    go_enter Try.func41, Try.ntmps41
    go_wp2
    go_ret
    exact ⟨rfl, (Below.refl _ _).alloc (Nat.le_refl _) _⟩
  · obtain ⟨z, hz⟩ : ∃ z : Int, z = (x.toNat : Int) := ⟨_, rfl⟩
    by_cases hd0 : d = 0
    · have hr : decide (okT (d, n, x)) = false := decide_eq_false (by unfold okT; simp only; omega)
      rw [hr]
      have e1 : (n == 0) = false := beq_eq_false_iff_ne.2 (by omega)
      subst hd0
      unfold tcs
      rw [← hz] at hb ⊢
      clear hr hz
      go_enter Try.func41, Try.ntmps41
      go_wp2
      go_ret
      exact ⟨rfl, (Below.refl _ _).alloc (Nat.le_refl _) _⟩
    · have e1 : (d == 0) = false := beq_eq_false_iff_ne.2 hd0
      by_cases h1 : 1 ≤ d
      · by_cases h2 : d ≤ 1536
        · by_cases h3 : 3 ≤ n
          · by_cases h4 : n ≤ 1024
            · have hr : decide (okT (d, n, x)) = decide (x = 0) := by
                rw [Bool.eq_iff_iff, decide_eq_true_eq, decide_eq_true_eq]
                unfold okT
                simp only
                constructor
                · rintro (⟨h, _⟩ | ⟨_, _, h⟩)
                  · exact absurd h hd0
                  · exact h
                · exact fun h => .inr ⟨⟨h1, h2⟩, ⟨h3, h4⟩, h⟩
              rw [hr]
              obtain ⟨b, hbb⟩ : ∃ b, b = decide (x = 0) := ⟨_, rfl⟩
              have d1 : decide (1 ≤ d) = true := decide_eq_true h1
              have d2 : decide (d ≤ 1536) = true := decide_eq_true h2
              have d3 : decide (3 ≤ n) = true := decide_eq_true h3
              have d4 : decide (n ≤ 1024) = true := decide_eq_true h4
              rw [← hbb] at hb ⊢
              unfold tcs
              rw [← hz] at hb ⊢
              clear hr hz hbb
              cases b
              all_goals
                go_enter Try.func41, Try.ntmps41
                go_wp2
                go_ret
                exact ⟨rfl, (Below.refl _ _).alloc (Nat.le_refl _) _⟩
            · have hr : decide (okT (d, n, x)) = false := decide_eq_false (by unfold okT; simp only; omega)
              rw [hr]
              have d1 : decide (1 ≤ d) = true := decide_eq_true h1
              have d2 : decide (d ≤ 1536) = true := decide_eq_true h2
              have d3 : decide (3 ≤ n) = true := decide_eq_true h3
              have d4 : decide (n ≤ 1024) = false := decide_eq_false h4
              unfold tcs
              rw [← hz]
              clear hr hz hb
              go_enter Try.func41, Try.ntmps41
              go_wp2
              go_ret
              exact ⟨rfl, (Below.refl _ _).alloc (Nat.le_refl _) _⟩
          · have hr : decide (okT (d, n, x)) = false := decide_eq_false (by unfold okT; simp only; omega)
            rw [hr]
            have d1 : decide (1 ≤ d) = true := decide_eq_true h1
            have d2 : decide (d ≤ 1536) = true := decide_eq_true h2
            have d3 : decide (3 ≤ n) = false := decide_eq_false h3
            unfold tcs
            rw [← hz]
            clear hr hz hb
            go_enter Try.func41, Try.ntmps41
            go_wp2
            go_ret
            exact ⟨rfl, (Below.refl _ _).alloc (Nat.le_refl _) _⟩
        · have hr : decide (okT (d, n, x)) = false := decide_eq_false (by unfold okT; simp only; omega)
          rw [hr]
          have d1 : decide (1 ≤ d) = true := decide_eq_true h1
          have d2 : decide (d ≤ 1536) = false := decide_eq_false h2
          unfold tcs
          rw [← hz]
          clear hr hz hb
          go_enter Try.func41, Try.ntmps41
          go_wp2
          go_ret
          exact ⟨rfl, (Below.refl _ _).alloc (Nat.le_refl _) _⟩
      · have hr : decide (okT (d, n, x)) = false := decide_eq_false (by unfold okT; simp only; omega)
        rw [hr]
        have d1 : decide (1 ≤ d) = false := decide_eq_false h1
        unfold tcs
        rw [← hz]
        clear hr hz hb
        go_enter Try.func41, Try.ntmps41
        go_wp2
        go_ret
        exact ⟨rfl, (Below.refl _ _).alloc (Nat.le_refl _) _⟩
end Go.Proofs.Ytcmbpniikcghfaa

namespace Go.Proofs.Ytcmbpniikcghfaa
open Go.RowKit

theorem tcs0_size (d n x : Int) : (#[Value.int .i64 d, .int .i64 n, .int .u8 x]).size = 3 := rfl
theorem all_tk (d n x : Int) : (#[Value.int .i64 d, .int .i64 n, .int .u8 x]).all (·.oneCell') = true := all_one (fun v hv => by
  simp only [List.mem_toArray, List.mem_cons, List.not_mem_nil, or_false] at hv
  rcases hv with rfl | rfl | rfl <;> rfl)
set_option maxRecDepth 100000 in
set_option maxHeartbeats 4000000 in
theorem check_many (ts : List TokZ) (h : 1024 < ts.length) (A : Option Addr) (cp : Nat) (w : World) :
    Calls Try.prog 31 #[.slice A ts.length cp] w fun e w' => e = .returned (.agg (flt 2 (-1))) ∧ Below w.heap.size w w' := by
  have t0 : decide ((1024 : Int) < (ts.length : Int)) = true := decide_eq_true (by omega)
  go_enter Try.func31, Try.ntmps31
  go_upto_region 1 with (fail)
  refine wp_world (F := fun W => Row W w.heap.size 25 (flt 0 0) ∧ Below w.heap.size w W) ⟨Row.newEq _ _ _ _ _ rfl rfl, (Below.refl _ _).alloc (Nat.le_refl _) _⟩ ?_
  rintro W0 ⟨r0, hb⟩
  go_wp2_with (first
    | (refine wpList_store_row rfl 25 _ _ rfl w.heap.size (flt 2 (-1)) rfl rfl 25 (flt 0 0) r0 (by rw [flt_size]; exact cellsF) rfl (all_one (flt_one _ _)) ?_))
  refine bodyPost_ret (results_row Try.results31 _ _ w.heap.size 25 (flt 2 (-1)) _ rfl (Row.row r0 _) Try.underlying25 rfl (by rw [flt_size]; exact cellsF)) rfl ⟨rfl, ?_⟩
  exact blw_row hb (Nat.le_refl _) _

set_option maxRecDepth 100000 in
set_option maxHeartbeats 4000000 in
theorem check_form (ts : List TokZ) (hl : ts.length ≤ 1024) (k : Nat) (hk : k < ts.length) (h1 : ∀ j, j < k → okT (ts.getD j (0, 0, 0))) (h2 : ¬ okT (ts.getD k (0, 0, 0))) (A : Option Addr) (cp : Nat) (w : World) (hS : Tks w w.heap.size A ts.length ts) :
    Calls Try.prog 31 #[.slice A ts.length cp] w fun e w' => e = .returned (.agg (flt 6 (k : Int))) ∧ Below w.heap.size w w' := by
  have t0 : decide ((1024 : Int) < (ts.length : Int)) = false := decide_eq_false (by omega)
  have HS := Lib.hid hS
  have H1 := Lib.hid h1
  have H2 := Lib.hid h2
  clear hS h1 h2
  go_enter Try.func31, Try.ntmps31
  go_upto_region 1 with (fail)
  refine wp_world (F := fun W => Row W w.heap.size 25 (flt 0 0) ∧ Below w.heap.size w W) ⟨Row.newEq _ _ _ _ _ rfl rfl, (Below.refl _ _).alloc (Nat.le_refl _) _⟩ ?_
  rintro W0 ⟨r0, hb⟩
  go_upto_region 4 with fail
  go_loopw [11] (fun i wr => ∃ j : Nat, j ≤ k ∧ i = .int .i64 j ∧ Row wr w.heap.size 25 (flt 0 0) ∧ Below w.heap.size w wr) (fun i _ => ts.length - (intOf i).toNat)
  case atStart => exact ⟨0, Nat.zero_le _, rfl, r0, hb⟩
  case round =>
    clear r0 hb
    obtain ⟨j, hj, rfl, r0, hb⟩ := hrel
    have hlt : j < ts.length := by omega
    obtain ⟨ad, rfl, hbl, k1, k2, k3⟩ := (HS.out.below hb).at_ hlt
    obtain ⟨d, n, x, ht⟩ : ∃ d n x, ts.getD j (0, 0, 0) = (d, n, x) := ⟨_, _, _, rfl⟩
    have hto := lzvalid_any d n x
    rw [← ht] at hto
    rw [ht] at k1 k2 k3
    simp only at k1 k2 k3
    obtain ⟨z, hz⟩ : ∃ z : Int, z = (x.toNat : Int) := ⟨_, rfl⟩
    unfold tcs at hto
    rw [← hz] at k3 hto
    clear ht hz
    go_upto_region 6 with (first
      | (refine wpList_store_row rfl 55 _ _ rfl wr.heap.size #[.int .i64 d, .int .i64 n, .int .u8 z] rfl rfl 55 #[.int .i64 0, .int .i64 0, .int .u8 0] (Row.newEq _ _ _ _ _ rfl rfl) cellsT rfl (all_tk _ _ _) ?_))
    refine wp_world (F := fun W => Row W wr.heap.size 55 #[.int .i64 d, .int .i64 n, .int .u8 z] ∧ Row W w.heap.size 25 (flt 0 0) ∧ Below w.heap.size w W) ⟨row_new1 _ _ _ _, r0.below (blw_new1 _ _ _) r0.lt, up_call hb (blw_new1 _ _ _)⟩ ?_
    generalize wr.heap.size = gt
    clear k1 k2 k3 r0 hb wr
    rintro W1 ⟨rt, r0, hb⟩
    have c0 := (rt.cell 0).trans rfl
    have c1 := (rt.cell 1).trans rfl
    have c2 := (rt.cell 2).trans rfl
    by_cases hjk : j < k
    · rw [decide_eq_true (H1.out j hjk)] at hto
      go_wp2_with (first
        | (go_at_call 41; refine (hto _).mono ?_; rintro e w9 ⟨rfl, h9⟩))
      go_roundw
      case rel => exact ⟨j + 1, by omega, by go_num, r0.below h9 r0.lt, up_call hb h9⟩
      case measure => simp [intOf]; omega
    · obtain rfl : j = k := by omega
      rw [decide_eq_false H2.out] at hto
      go_wp2_with (first
        | (go_at_call 41; refine (hto _).mono ?_; rintro e w9 ⟨rfl, h9⟩; have q0 := r0.below h9 r0.lt)
        | (refine wpList_store_row rfl 25 _ _ rfl w.heap.size (flt 6 j) rfl rfl 25 (flt 0 0) q0 (by rw [flt_size]; exact cellsF) rfl (all_one (flt_one _ _)) ?_))
      refine bodyPost_ret (results_row Try.results31 _ _ w.heap.size 25 (flt 6 j) _ rfl (Row.row q0 _) Try.underlying25 rfl (by rw [flt_size]; exact cellsF)) rfl ⟨rfl, ?_⟩
      exact blw_row (up_call hb h9) (Nat.le_refl _) _

set_option maxRecDepth 100000 in
set_option maxHeartbeats 4000000 in
theorem check_ok (l : List Tk) (hg : GoodT l) (n : Nat) (hn : n = l.length) (hl : n ≤ 1024) (A : Option Addr) (cp : Nat) (w : World) (hS : Tks w w.heap.size A n (tz l)) :
    Calls Try.prog 31 #[.slice A n cp] w fun e w' => e = .returned (.agg (flt 0 0)) ∧ Below w.heap.size w w' := by
  have t0 : decide ((1024 : Int) < (n : Int)) = false := decide_eq_false (by omega)
  have HS := Lib.hid hS
  have HL := Lib.hid (And.intro hn hg)
  clear hS hn hg
  go_enter Try.func31, Try.ntmps31
  go_upto_region 1 with (fail)
  refine wp_world (F := fun W => Row W w.heap.size 25 (flt 0 0) ∧ Below w.heap.size w W) ⟨Row.newEq _ _ _ _ _ rfl rfl, (Below.refl _ _).alloc (Nat.le_refl _) _⟩ ?_
  rintro W0 ⟨r0, hb⟩
  go_upto_region 4 with fail
  go_loopw [11] (fun i wr => ∃ j : Nat, j ≤ n ∧ i = .int .i64 j ∧ Row wr w.heap.size 25 (flt 0 0) ∧ Below w.heap.size w wr) (fun i _ => n - (intOf i).toNat)
  case atStart => exact ⟨0, Nat.zero_le _, rfl, r0, hb⟩
  case round =>
    clear r0 hb
    obtain ⟨j, hj, rfl, r0, hb⟩ := hrel
    by_cases hlt : j < n
    · obtain ⟨ad, rfl, hbl, k1, k2, k3⟩ := (HS.out.below hb).at_ hlt
      have hok := okT_tz l HL.out.2 j (by rw [← HL.out.1]; exact hlt)
      obtain ⟨d, m, x, ht⟩ : ∃ d m x, (tz l).getD j (0, 0, 0) = (d, m, x) := ⟨_, _, _, rfl⟩
      have hto := lzvalid_any d m x
      rw [← ht, decide_eq_true hok] at hto
      rw [ht] at k1 k2 k3
      simp only at k1 k2 k3
      obtain ⟨z, hz⟩ : ∃ z : Int, z = (x.toNat : Int) := ⟨_, rfl⟩
      unfold tcs at hto
      rw [← hz] at k3 hto
      clear ht hz hok
      go_upto_region 6 with (first
        | (refine wpList_store_row rfl 55 _ _ rfl wr.heap.size #[.int .i64 d, .int .i64 m, .int .u8 z] rfl rfl 55 #[.int .i64 0, .int .i64 0, .int .u8 0] (Row.newEq _ _ _ _ _ rfl rfl) cellsT rfl (all_tk _ _ _) ?_))
      refine wp_world (F := fun W => Row W wr.heap.size 55 #[.int .i64 d, .int .i64 m, .int .u8 z] ∧ Row W w.heap.size 25 (flt 0 0) ∧ Below w.heap.size w W) ⟨row_new1 _ _ _ _, r0.below (blw_new1 _ _ _) r0.lt, up_call hb (blw_new1 _ _ _)⟩ ?_
      generalize wr.heap.size = gt
      clear k1 k2 k3 r0 hb wr
      rintro W1 ⟨rt, r0, hb⟩
      have c0 := (rt.cell 0).trans rfl
      have c1 := (rt.cell 1).trans rfl
      have c2 := (rt.cell 2).trans rfl
      go_wp2_with (first
        | (go_at_call 41; refine (hto _).mono ?_; rintro e w9 ⟨rfl, h9⟩))
      go_roundw
      case rel => exact ⟨j + 1, by omega, by go_num, r0.below h9 r0.lt, up_call hb h9⟩
      case measure => simp [intOf]; omega
    · obtain rfl : n = j := by omega
      go_wp2_with (first
        | (refine wpList_store_row rfl 25 _ _ rfl w.heap.size (flt 0 0) rfl rfl 25 (flt 0 0) r0 (by rw [flt_size]; exact cellsF) rfl (all_one (flt_one _ _)) ?_))
      refine bodyPost_ret (results_row Try.results31 _ _ w.heap.size 25 (flt 0 0) _ rfl (Row.row r0 _) Try.underlying25 rfl (by rw [flt_size]; exact cellsF)) rfl ⟨rfl, ?_⟩
      exact blw_row hb (Nat.le_refl _) _
theorem check_bad (ts : List TokZ) (c i : Int) (h : TkF ts c i) (A : Option Addr) (cp : Nat) (w : World) (hS : Tks w w.heap.size A ts.length ts) :
    Calls Try.prog 31 #[.slice A ts.length cp] w fun e w' => e = .returned (.agg (flt c i)) ∧ Below w.heap.size w w' := by
  cases h with
  | many h => exact check_many ts h A cp w
  | form hl k hk h1 h2 => exact check_form ts hl k hk h1 h2 A cp w hS
end Go.Proofs.Ytcmbpniikcghfaa
