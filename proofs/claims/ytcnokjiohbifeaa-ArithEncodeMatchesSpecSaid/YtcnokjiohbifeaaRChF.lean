/-
  The contract of the reference's ChoiceFault.
-/
import Derived.Test.YtcnokjiohbifeaaAChs
import Derived.Test.YtcnokjiohbifeaaGNew
import Derived.Test.YtcnokjiohbifeaaRSteps
namespace Go.Proofs.Ytcnokjiohbifeaa
open Go.RowKit

set_option maxRecDepth 100000 in
set_option maxHeartbeats 4000000 in
theorem rchf_many (zs : List (Int × Int)) (h : 8192 < zs.length) (A : Option Addr) (cp : Nat) (w : World) :
    Calls Try.prog 30 #[.slice A zs.length cp] w fun e w' => e = .returned (.agg (flt 2 (-1))) ∧ Below w.heap.size w w' := by
  have t0 : decide ((8192 : Int) < (zs.length : Int)) = true := decide_eq_true (by omega)
  go_enter Try.func30, Try.ntmps30
  go_upto_region 1 with (fail)
  refine wp_world (F := fun W => Row W w.heap.size 28 (flt 0 0) ∧ Below w.heap.size w W) ⟨Row.newEq _ _ _ _ _ rfl rfl, (Below.refl _ _).alloc (Nat.le_refl _) _⟩ ?_
  rintro W0 ⟨r0, hb⟩
  go_wp2_with (first
    | (go_at_call 16; refine (at_any 2 (-1) _).mono ?_; rintro e w10 ⟨rfl, hb10⟩)
    | (refine wpList_store_row rfl 28 _ _ rfl w.heap.size (flt 2 (-1)) rfl rfl 28 (flt 0 0) (r0.below hb10 r0.lt) (by rw [flt_size]; exact cellsF) rfl (all_one (flt_one _ _)) ?_))
  refine bodyPost_ret (results_row Try.results30 _ _ w.heap.size 28 (flt 2 (-1)) _ rfl (Row.row (r0.below hb10 r0.lt) _) Try.underlying28 rfl (by rw [flt_size]; exact cellsF)) rfl ⟨rfl, ?_⟩
  exact blw_row (up_call hb hb10) (Nat.le_refl _) _

set_option maxRecDepth 100000 in
set_option maxHeartbeats 4000000 in
theorem rchf_range (zs : List (Int × Int)) (hl : zs.length ≤ 8192) (k : Nat) (hk : k < zs.length) (h1 : ∀ j, j < k → okC (zs.getD j (0, 0))) (h2 : ¬ okC (zs.getD k (0, 0))) (A : Option Addr) (cp : Nat) (w : World) (hS : Chs w w.heap.size A zs.length zs) :
    Calls Try.prog 30 #[.slice A zs.length cp] w fun e w' => e = .returned (.agg (flt 4 (k : Int))) ∧ Below w.heap.size w w' := by
  have t0 : decide ((8192 : Int) < (zs.length : Int)) = false := decide_eq_false (by omega)
  have HS := Lib.hid hS
  have H1 := Lib.hid h1
  have H2 := Lib.hid h2
  clear hS h1 h2
  go_enter Try.func30, Try.ntmps30
  go_upto_region 1 with (fail)
  refine wp_world (F := fun W => Row W w.heap.size 28 (flt 0 0) ∧ Below w.heap.size w W) ⟨Row.newEq _ _ _ _ _ rfl rfl, (Below.refl _ _).alloc (Nat.le_refl _) _⟩ ?_
  rintro W0 ⟨r0, hb⟩
  go_upto_region 4 with fail
  go_loopw [3] (fun i wr => ∃ j : Nat, j ≤ k ∧ i = .int .i64 j ∧ Row wr w.heap.size 28 (flt 0 0) ∧ Below w.heap.size w wr) (fun i _ => zs.length - (intOf i).toNat)
  case atStart => exact ⟨0, Nat.zero_le _, rfl, r0, hb⟩
  case round =>
    clear r0 hb
    obtain ⟨j, hj, rfl, r0, hb⟩ := hrel
    have hlt : j < zs.length := by omega
    by_cases hjk : j < k
    · skip
      have hok := H1.out j hjk
      obtain ⟨x, hx⟩ : ∃ x, x = (zs.getD j (0, 0)).1 := ⟨_, rfl⟩
      obtain ⟨p, hp⟩ : ∃ p, p = (zs.getD j (0, 0)).2 := ⟨_, rfl⟩
      obtain ⟨ad, rfl, hbl, k1, k2⟩ := (HS.out.below hb).at_ hlt
      rw [← hx] at k1
      rw [← hp] at k2
      have hx2 : x = 0 ∨ x = 1 := by rw [hx]; exact hok.1
      have hin := in_any p 1 4095
      rw [decide_eq_true (show 1 ≤ p ∧ p ≤ 4095 by rw [hp]; exact hok.2)] at hin
      clear hok hx hp
      rcases hx2 with rfl | rfl
      all_goals
        go_wp2_with (first
          | (go_at_call 20; refine (hin _).mono ?_; rintro e w9 ⟨rfl, h9⟩; subst w9))
        go_roundw
        case rel => exact ⟨j + 1, by omega, by go_num, r0, hb⟩
        case measure => simp [intOf]; omega
    · obtain rfl : j = k := by omega
      have hno := H2.out
      by_cases hx01 : (zs.getD j (0, 0)).1 = 0 ∨ (zs.getD j (0, 0)).1 = 1
      · have hno2 : ¬ (1 ≤ (zs.getD j (0, 0)).2 ∧ (zs.getD j (0, 0)).2 ≤ 4095) := fun h => hno ⟨hx01, h⟩
        obtain ⟨x, hx⟩ : ∃ x, x = (zs.getD j (0, 0)).1 := ⟨_, rfl⟩
        obtain ⟨p, hp⟩ : ∃ p, p = (zs.getD j (0, 0)).2 := ⟨_, rfl⟩
        obtain ⟨ad, rfl, hbl, k1, k2⟩ := (HS.out.below hb).at_ hlt
        rw [← hx] at k1 hx01
        rw [← hp] at k2 hno2
        have hin := in_any p 1 4095
        rw [decide_eq_false hno2] at hin
        clear hx hp hno hno2 H2
        rcases hx01 with rfl | rfl
        all_goals
          go_wp2_with (first
            | (go_at_call 20; refine (hin _).mono ?_; rintro e w9 ⟨rfl, h9⟩; subst w9)
            | (go_at_call 16; refine (at_any 4 j _).mono ?_; rintro e w10 ⟨rfl, hb10⟩)
            | (refine wpList_store_row rfl 28 _ _ rfl w.heap.size (flt 4 j) rfl rfl 28 (flt 0 0) (r0.below hb10 r0.lt) (by rw [flt_size]; exact cellsF) rfl (all_one (flt_one _ _)) ?_))
          refine bodyPost_ret (results_row Try.results30 _ _ w.heap.size 28 (flt 4 j) _ rfl (Row.row (r0.below hb10 r0.lt) _) Try.underlying28 rfl (by rw [flt_size]; exact cellsF)) rfl ⟨rfl, ?_⟩
          exact blw_row (up_call hb hb10) (Nat.le_refl _) _
      · skip
        obtain ⟨x, hx⟩ : ∃ x, x = (zs.getD j (0, 0)).1 := ⟨_, rfl⟩
        obtain ⟨p, hp⟩ : ∃ p, p = (zs.getD j (0, 0)).2 := ⟨_, rfl⟩
        obtain ⟨ad, rfl, hbl, k1, k2⟩ := (HS.out.below hb).at_ hlt
        rw [← hx] at k1 hx01
        rw [← hp] at k2
        have q0 : (x == 0) = false := beq_eq_false_iff_ne.2 (fun e => hx01 (.inl e))
        have q1 : (x == 1) = false := beq_eq_false_iff_ne.2 (fun e => hx01 (.inr e))
        have q2 : (x != 0) = true := by rw [bne, q0]; rfl
        have q3 : (x != 1) = true := by rw [bne, q1]; rfl
        clear hx hp hno hx01 H2
        go_wp2_with (first
          | (go_at_call 16; refine (at_any 4 j _).mono ?_; rintro e w10 ⟨rfl, hb10⟩)
          | (refine wpList_store_row rfl 28 _ _ rfl w.heap.size (flt 4 j) rfl rfl 28 (flt 0 0) (r0.below hb10 r0.lt) (by rw [flt_size]; exact cellsF) rfl (all_one (flt_one _ _)) ?_))
        refine bodyPost_ret (results_row Try.results30 _ _ w.heap.size 28 (flt 4 j) _ rfl (Row.row (r0.below hb10 r0.lt) _) Try.underlying28 rfl (by rw [flt_size]; exact cellsF)) rfl ⟨rfl, ?_⟩
        exact blw_row (up_call hb hb10) (Nat.le_refl _) _

set_option maxRecDepth 100000 in
set_option maxHeartbeats 4000000 in
theorem rchf_ok (zs : List (Int × Int)) (hl : zs.length ≤ 8192) (h1 : ∀ j, j < zs.length → okC (zs.getD j (0, 0))) (A : Option Addr) (cp : Nat) (w : World) (hS : Chs w w.heap.size A zs.length zs) :
    Calls Try.prog 30 #[.slice A zs.length cp] w fun e w' => e = .returned (.agg (flt 0 0)) ∧ Below w.heap.size w w' := by
  have t0 : decide ((8192 : Int) < (zs.length : Int)) = false := decide_eq_false (by omega)
  have HS := Lib.hid hS
  have H1 := Lib.hid h1
  clear hS h1
  go_enter Try.func30, Try.ntmps30
  go_upto_region 1 with (fail)
  refine wp_world (F := fun W => Row W w.heap.size 28 (flt 0 0) ∧ Below w.heap.size w W) ⟨Row.newEq _ _ _ _ _ rfl rfl, (Below.refl _ _).alloc (Nat.le_refl _) _⟩ ?_
  rintro W0 ⟨r0, hb⟩
  go_upto_region 4 with fail
  go_loopw [3] (fun i wr => ∃ j : Nat, j ≤ zs.length ∧ i = .int .i64 j ∧ Row wr w.heap.size 28 (flt 0 0) ∧ Below w.heap.size w wr) (fun i _ => zs.length - (intOf i).toNat)
  case atStart => exact ⟨0, Nat.zero_le _, rfl, r0, hb⟩
  case round =>
    clear r0 hb
    obtain ⟨j, hj, rfl, r0, hb⟩ := hrel
    by_cases hlt : j < zs.length
    · skip
      have hok := H1.out j hlt
      obtain ⟨x, hx⟩ : ∃ x, x = (zs.getD j (0, 0)).1 := ⟨_, rfl⟩
      obtain ⟨p, hp⟩ : ∃ p, p = (zs.getD j (0, 0)).2 := ⟨_, rfl⟩
      obtain ⟨ad, rfl, hbl, k1, k2⟩ := (HS.out.below hb).at_ hlt
      rw [← hx] at k1
      rw [← hp] at k2
      have hx2 : x = 0 ∨ x = 1 := by rw [hx]; exact hok.1
      have hin := in_any p 1 4095
      rw [decide_eq_true (show 1 ≤ p ∧ p ≤ 4095 by rw [hp]; exact hok.2)] at hin
      clear hok hx hp
      rcases hx2 with rfl | rfl
      all_goals
        go_wp2_with (first
          | (go_at_call 20; refine (hin _).mono ?_; rintro e w9 ⟨rfl, h9⟩; subst w9))
        go_roundw
        case rel => exact ⟨j + 1, by omega, by go_num, r0, hb⟩
        case measure => simp [intOf]; omega
    · obtain rfl : j = zs.length := by omega
      go_wp2_with (first
        | (refine wpList_store_row rfl 28 _ _ rfl w.heap.size (flt 0 0) rfl rfl 28 (flt 0 0) r0 (by rw [flt_size]; exact cellsF) rfl (all_one (flt_one _ _)) ?_))
      refine bodyPost_ret (results_row Try.results30 _ _ w.heap.size 28 (flt 0 0) _ rfl (Row.row r0 _) Try.underlying28 rfl (by rw [flt_size]; exact cellsF)) rfl ⟨rfl, ?_⟩
      exact blw_row hb (Nat.le_refl _) _

theorem rchf_bad (zs : List (Int × Int)) (c i : Int) (h : ChF zs c i) (A : Option Addr) (cp : Nat) (w : World) (hS : Chs w w.heap.size A zs.length zs) :
    Calls Try.prog 30 #[.slice A zs.length cp] w fun e w' => e = .returned (.agg (flt c i)) ∧ Below w.heap.size w w' := by
  cases h with
  | many h => exact rchf_many zs h A cp w
  | range hl k hk h1 h2 => exact rchf_range zs hl k hk h1 h2 A cp w hS
end Go.Proofs.Ytcnokjiohbifeaa
