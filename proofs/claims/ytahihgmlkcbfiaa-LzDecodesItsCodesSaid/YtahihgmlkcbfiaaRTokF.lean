/-
  The contracts of the reference's TokensFault, and of the statements' comparison of lists of tokens.
-/
import Derived.Test.YtahihgmlkcbfiaaRTok
import Derived.Test.YtahihgmlkcbfiaaGMem
import Derived.Deep.Cut
import Derived.Deep.DeepCutAuto
import Derived.RegionTactic
import Derived.BigRegion
import Derived.Deep.RegionLaw
import Derived.Deep.DeepMust
import Derived.Deep.RegionHeld3
namespace Go.Proofs.Ytahihgmlkcbfiaa
open Go.RowKit

set_option maxRecDepth 100000 in
set_option maxHeartbeats 4000000 in
theorem rtf_many (ts : List TokZ) (h : 1024 < ts.length) (A : Option Addr) (cp : Nat) (w : World) :
    Calls Try.prog 23 #[.slice A ts.length cp] w fun e w' => e = .returned (.agg (flt 2 (-1))) ∧ Below w.heap.size w w' := by
  have t0 : decide ((1024 : Int) < (ts.length : Int)) = true := decide_eq_true (by omega)
  go_enter Try.func23, Try.ntmps23
  go_upto_region 1 with (fail)
  refine wp_world (F := fun W => Row W w.heap.size 25 (flt 0 0) ∧ Below w.heap.size w W) ⟨Row.newEq _ _ _ _ _ rfl rfl, (Below.refl _ _).alloc (Nat.le_refl _) _⟩ ?_
  rintro W0 ⟨r0, hb⟩
  go_wp2_with (first
    | (go_at_call 29; refine (at_any 2 (-1) _).mono ?_; rintro e w10 ⟨rfl, hb10⟩)
    | (refine wpList_store_row rfl 25 _ _ rfl w.heap.size (flt 2 (-1)) rfl rfl 25 (flt 0 0) (r0.below hb10 r0.lt) (by rw [flt_size]; exact cellsF) rfl (all_one (flt_one _ _)) ?_))
  refine bodyPost_ret (results_row Try.results23 _ _ w.heap.size 25 (flt 2 (-1)) _ rfl (Row.row (r0.below hb10 r0.lt) _) Try.underlying25 rfl (by rw [flt_size]; exact cellsF)) rfl ⟨rfl, ?_⟩
  exact blw_row (up_call hb hb10) (Nat.le_refl _) _

set_option maxRecDepth 100000 in
set_option maxHeartbeats 4000000 in
theorem rtf_form (ts : List TokZ) (hl : ts.length ≤ 1024) (k : Nat) (hk : k < ts.length) (h1 : ∀ j, j < k → okT (ts.getD j (0, 0, 0))) (h2 : ¬ okT (ts.getD k (0, 0, 0))) (A : Option Addr) (cp : Nat) (w : World) (hS : Tks w w.heap.size A ts.length ts) :
    Calls Try.prog 23 #[.slice A ts.length cp] w fun e w' => e = .returned (.agg (flt 6 (k : Int))) ∧ Below w.heap.size w w' := by
  have t0 : decide ((1024 : Int) < (ts.length : Int)) = false := decide_eq_false (by omega)
  have HS := Lib.hid hS
  have H1 := Lib.hid h1
  have H2 := Lib.hid h2
  clear hS h1 h2
  go_enter Try.func23, Try.ntmps23
  go_upto_region 1 with (fail)
  refine wp_world (F := fun W => Row W w.heap.size 25 (flt 0 0) ∧ Below w.heap.size w W) ⟨Row.newEq _ _ _ _ _ rfl rfl, (Below.refl _ _).alloc (Nat.le_refl _) _⟩ ?_
  rintro W0 ⟨r0, hb⟩
  go_upto_region 4 with fail
  go_loopw [3] (fun i wr => ∃ j : Nat, j ≤ k ∧ i = .int .i64 j ∧ Row wr w.heap.size 25 (flt 0 0) ∧ Below w.heap.size w wr) (fun i _ => ts.length - (intOf i).toNat)
  case atStart => exact ⟨0, Nat.zero_le _, rfl, r0, hb⟩
  case round =>
    clear r0 hb
    obtain ⟨j, hj, rfl, r0, hb⟩ := hrel
    have hlt : j < ts.length := by omega
    obtain ⟨ad, rfl, hbl, k1, k2, k3⟩ := (HS.out.below hb).at_ hlt
    obtain ⟨d, n, x, ht⟩ : ∃ d n x, ts.getD j (0, 0, 0) = (d, n, x) := ⟨_, _, _, rfl⟩
    have hto := tokenok_any d n x
    rw [← ht] at hto
    rw [ht] at k1 k2 k3
    simp only at k1 k2 k3
    obtain ⟨z, hz⟩ : ∃ z : Int, z = (x.toNat : Int) := ⟨_, rfl⟩
    unfold tcs at hto
    rw [← hz] at k3 hto
    clear ht hz
    by_cases hjk : j < k
    · rw [decide_eq_true (H1.out j hjk)] at hto
      go_wp2_with (first
        | (go_at_call 19; refine (hto _).mono ?_; rintro e w9 ⟨rfl, h9⟩))
      go_roundw
      case rel => exact ⟨j + 1, by omega, by go_num, r0.below h9 r0.lt, up_call hb h9⟩
      case measure => simp [intOf]; omega
    · obtain rfl : j = k := by omega
      rw [decide_eq_false H2.out] at hto
      go_wp2_with (first
        | (go_at_call 19; refine (hto _).mono ?_; rintro e w9 ⟨rfl, h9⟩; have q0 := r0.below h9 r0.lt)
        | (go_at_call 29; refine (at_any 6 j _).mono ?_; rintro e w10 ⟨rfl, hb10⟩)
        | (refine wpList_store_row rfl 25 _ _ rfl w.heap.size (flt 6 j) rfl rfl 25 (flt 0 0) (q0.below hb10 q0.lt) (by rw [flt_size]; exact cellsF) rfl (all_one (flt_one _ _)) ?_))
      refine bodyPost_ret (results_row Try.results23 _ _ w.heap.size 25 (flt 6 j) _ rfl (Row.row (q0.below hb10 q0.lt) _) Try.underlying25 rfl (by rw [flt_size]; exact cellsF)) rfl ⟨rfl, ?_⟩
      exact blw_row (up_call (up_call hb h9) hb10) (Nat.le_refl _) _

set_option maxRecDepth 100000 in
set_option maxHeartbeats 4000000 in
theorem rtf_ok (l : List Tk) (hg : GoodT l) (n : Nat) (hn : n = l.length) (hl : n ≤ 1024) (A : Option Addr) (cp : Nat) (w : World) (hS : Tks w w.heap.size A n (tz l)) :
    Calls Try.prog 23 #[.slice A n cp] w fun e w' => e = .returned (.agg (flt 0 0)) ∧ Below w.heap.size w w' := by
  have t0 : decide ((1024 : Int) < (n : Int)) = false := decide_eq_false (by omega)
  have HS := Lib.hid hS
  have HL := Lib.hid (And.intro hn hg)
  clear hS hn hg
  go_enter Try.func23, Try.ntmps23
  go_upto_region 1 with (fail)
  refine wp_world (F := fun W => Row W w.heap.size 25 (flt 0 0) ∧ Below w.heap.size w W) ⟨Row.newEq _ _ _ _ _ rfl rfl, (Below.refl _ _).alloc (Nat.le_refl _) _⟩ ?_
  rintro W0 ⟨r0, hb⟩
  go_upto_region 4 with fail
  go_loopw [3] (fun i wr => ∃ j : Nat, j ≤ n ∧ i = .int .i64 j ∧ Row wr w.heap.size 25 (flt 0 0) ∧ Below w.heap.size w wr) (fun i _ => n - (intOf i).toNat)
  case atStart => exact ⟨0, Nat.zero_le _, rfl, r0, hb⟩
  case round =>
    clear r0 hb
    obtain ⟨j, hj, rfl, r0, hb⟩ := hrel
    by_cases hlt : j < n
    · obtain ⟨ad, rfl, hbl, k1, k2, k3⟩ := (HS.out.below hb).at_ hlt
      have hok := okT_tz l HL.out.2 j (by rw [← HL.out.1]; exact hlt)
      obtain ⟨d, m, x, ht⟩ : ∃ d m x, (tz l).getD j (0, 0, 0) = (d, m, x) := ⟨_, _, _, rfl⟩
      have hto := tokenok_any d m x
      rw [← ht, decide_eq_true hok] at hto
      rw [ht] at k1 k2 k3
      simp only at k1 k2 k3
      obtain ⟨z, hz⟩ : ∃ z : Int, z = (x.toNat : Int) := ⟨_, rfl⟩
      unfold tcs at hto
      rw [← hz] at k3 hto
      clear ht hz hok
      go_wp2_with (first
        | (go_at_call 19; refine (hto _).mono ?_; rintro e w9 ⟨rfl, h9⟩))
      go_roundw
      case rel => exact ⟨j + 1, by omega, by go_num, r0.below h9 r0.lt, up_call hb h9⟩
      case measure => simp [intOf]; omega
    · obtain rfl : n = j := by omega
      go_wp2_with (first
        | (refine wpList_store_row rfl 25 _ _ rfl w.heap.size (flt 0 0) rfl rfl 25 (flt 0 0) r0 (by rw [flt_size]; exact cellsF) rfl (all_one (flt_one _ _)) ?_))
      refine bodyPost_ret (results_row Try.results23 _ _ w.heap.size 25 (flt 0 0) _ rfl (Row.row r0 _) Try.underlying25 rfl (by rw [flt_size]; exact cellsF)) rfl ⟨rfl, ?_⟩
      exact blw_row hb (Nat.le_refl _) _
theorem rtf_bad (ts : List TokZ) (c i : Int) (h : TkF ts c i) (A : Option Addr) (cp : Nat) (w : World) (hS : Tks w w.heap.size A ts.length ts) :
    Calls Try.prog 23 #[.slice A ts.length cp] w fun e w' => e = .returned (.agg (flt c i)) ∧ Below w.heap.size w w' := by
  cases h with
  | many h => exact rtf_many ts h A cp w
  | form hl k hk h1 h2 => exact rtf_form ts hl k hk h1 h2 A cp w hS

theorem neq_tcs (a b c d : Int) (x y : Int) (w : World) : (binOp .neq 37 (.agg #[.int .i64 a, .int .i64 b, .int .u8 x]) (.agg #[.int .i64 c, .int .i64 d, .int .u8 y])).run Try.prog w = .ok (.bool (!(a == c && b == d && x == y))) w := by
  simp [go_sem, Try.underlying37]
  by_cases h1 : a = c <;> by_cases h2 : b = d <;> by_cases h3 : x = y <;> simp [h1, h2, h3]
theorem eqin_tcs (a b x : Int) (w : World) : (Op.equalIn 10000 37 (.agg #[.int .i64 a, .int .i64 b, .int .u8 x]) (.agg #[.int .i64 a, .int .i64 b, .int .u8 x])).run Try.prog w = .ok true w := by
  have h := neq_tcs a b a b x x w
  simp only [binOp] at h
  simp only [Op.equal, Op.maxDepth, Sem.run_bind] at h
  cases hq : (Op.equalIn 10000 37 (.agg #[.int .i64 a, .int .i64 b, .int .u8 x]) (.agg #[.int .i64 a, .int .i64 b, .int .u8 x])).run Try.prog w with
  | ok v w' =>
    rw [hq] at h
    simp only [Result.andThen_ok, Sem.run_pure, Result.ok.injEq, Value.bool.injEq] at h
    obtain ⟨h1, h2⟩ := h
    have h3 : v = true := by
      cases v with
      | true => rfl
      | false => simp at h1
    rw [h2, h3]
  | halt e w' =>
    rw [hq] at h
    simp at h
set_option maxRecDepth 100000 in
set_option maxHeartbeats 4000000 in
/-- two lists that hold the same tokens -/
theorem tokens_yes (ts : List TokZ) (n : Nat) (hl : n ≤ 100000) (A B : Option Addr) (c d : Nat) (w : World) (hA : Tks w w.heap.size A n ts) (hB : Tks w w.heap.size B n ts) :
    Calls Try.prog 14 #[.slice A n c, .slice B n d] w fun e w' => e = .returned (.bool true) ∧ Below w.heap.size w w' := by
  have HA := Lib.hid hA
  have HB := Lib.hid hB
  clear hA hB
  go_enter Try.func14, Try.ntmps14
  go_upto_region 4 with fail
  go_loopw [5] (fun i wr => ∃ j : Nat, j ≤ n ∧ i = .int .i64 j ∧ Below w.heap.size w wr) (fun i _ => n - (intOf i).toNat)
  case atStart => exact ⟨0, Nat.zero_le _, rfl, Below.refl _ _⟩
  case round =>
    obtain ⟨j, hj, rfl, hb⟩ := hrel
    by_cases hlt : j < n
    · obtain ⟨ad, rfl, hbl, k1, k2, k3⟩ := (HA.out.below hb).at_ hlt
      obtain ⟨bd, rfl, hbl2, m1, m2, m3⟩ := (HB.out.below hb).at_ hlt
      obtain ⟨p, m, x, ht⟩ : ∃ p m x, ts.getD j (0, 0, 0) = (p, m, x) := ⟨_, _, _, rfl⟩
      rw [ht] at k1 k2 k3 m1 m2 m3
      simp only at k1 k2 k3 m1 m2 m3
      obtain ⟨z, hz⟩ : ∃ z : Int, z = (x.toNat : Int) := ⟨_, rfl⟩
      rw [← hz] at k3 m3
      clear ht hz hbl hbl2
      have hne : ∀ w, (binOp .neq 37 (.agg #[.int .i64 p, .int .i64 m, .int .u8 z]) (.agg #[.int .i64 p, .int .i64 m, .int .u8 z])).run Try.prog w = .ok (.bool false) w := fun w => by rw [neq_tcs]; simp
      have hne2 : ∀ w, (Op.equalIn 10000 37 (.agg #[.int .i64 p, .int .i64 m, .int .u8 z]) (.agg #[.int .i64 p, .int .i64 m, .int .u8 z])).run Try.prog w = .ok true w := fun w => eqin_tcs p m z w
      have d1 : wr.drew.cell? (ad.add (j * 3)) = some (.int .i64 p) := k1
      have d2 : wr.drew.cell? ⟨(ad.add (j * 3)).block, (ad.add (j * 3)).off + 1, none⟩ = some (.int .i64 m) := k2
      have d3 : wr.drew.cell? ⟨(ad.add (j * 3)).block, (ad.add (j * 3)).off + 2, none⟩ = some (.int .u8 z) := k3
      have f1 : wr.drew.cell? (bd.add (j * 3)) = some (.int .i64 p) := m1
      have f2 : wr.drew.cell? ⟨(bd.add (j * 3)).block, (bd.add (j * 3)).off + 1, none⟩ = some (.int .i64 m) := m2
      have f3 : wr.drew.cell? ⟨(bd.add (j * 3)).block, (bd.add (j * 3)).off + 2, none⟩ = some (.int .u8 z) := m3
      clear k1 k2 k3 m1 m2 m3
      go_upto_region 6 with (fail)
      go_region_held3 (fun W => W.cell? (ad.add (j * 3)) = some (.int .i64 p) ∧ W.cell? ⟨(ad.add (j * 3)).block, (ad.add (j * 3)).off + 1, none⟩ = some (.int .i64 m) ∧ W.cell? ⟨(ad.add (j * 3)).block, (ad.add (j * 3)).off + 2, none⟩ = some (.int .u8 z) ∧ W.cell? (bd.add (j * 3)) = some (.int .i64 p) ∧ W.cell? ⟨(bd.add (j * 3)).block, (bd.add (j * 3)).off + 1, none⟩ = some (.int .i64 m) ∧ W.cell? ⟨(bd.add (j * 3)).block, (bd.add (j * 3)).off + 2, none⟩ = some (.int .u8 z))
        (first
          | exact ⟨d1, d2, d3, f1, f2, f3⟩)
        (first
          | (fail))
      all_goals
        go_wp2
        go_roundw
        case rel => exact ⟨j + 1, by omega, by go_num, hb.drew⟩
        case measure => simp [intOf]; omega
    · obtain rfl : n = j := by omega
      go_wp2
      go_ret
      exact ⟨rfl, hb⟩
end Go.Proofs.Ytahihgmlkcbfiaa
