/-
  The contract of the package's cost of a token.
-/
import Derived.Test.YtcmbpniikcghfaaPSm
import Derived.Test.YtcmbpniikcghfaaBGsz
import Derived.Deep.QuietTactic
import Derived.BigQuiet
namespace Go.Proofs.Ytcmbpniikcghfaa
open Go.RowKit

theorem pw (x : Int) (h : -9223372036854775808 ≤ x ∧ x ≤ 9223372036854775807) : IntKind.i64.wrap x = x := by
  rw [IntKind.wrap_i64]
  omega
set_option maxRecDepth 100000 in
set_option maxHeartbeats 2000000 in
theorem cost_lit (x : UInt8) (w : World) :
    Calls Try.prog 32 #[.agg (tcs 0 0 x)] w fun e w' => e = .returned (.int .i64 9) ∧ Below w.heap.size w w' := by
  unfold tcs
  go_enter Try.func32, Try.ntmps32
  go_wp2_with (first
    | (go_at_call 40; refine (islit_lit _ _).mono ?_; rintro e w1 ⟨rfl, h1⟩))
  go_ret
  exact ⟨rfl, up_call ((Below.refl _ _).alloc (Nat.le_refl _) _) h1⟩
set_option maxRecDepth 100000 in
set_option maxHeartbeats 2000000 in
theorem cost_mat (d n : Nat) (h : (Tk.mat d n).ok) (w : World) :
    Calls Try.prog 32 #[.agg #[.int .i64 d, .int .i64 n, .int .u8 0]] w fun e w' => e = .returned (.int .i64 (((Tk.mat d n).cost : Nat) : Int)) ∧ Below w.heap.size w w' := by
  obtain ⟨h1, h2, h3, h4⟩ := h
  have bd := log2_small d 11 h1 (by omega)
  have bn := log2_small (n - 2) 10 (by omega) (by omega)
  have hc : ((Tk.mat d n).cost : Nat) = 1 + (2 * Nat.log2 d + 1) + (2 * Nat.log2 (n - 2) + 1) := rfl
  rw [hc]
  have hs1 := (gsz_nat d h1).symm
  have hs2 := (gsz_nat (n - 2) (by omega)).symm
  have hn2 : ((n - 2 : Nat) : Int) = (n : Int) - 2 := by omega
  rw [hn2] at hs2
  obtain ⟨g1, hg1⟩ : ∃ g, g = 2 * Nat.log2 d + 1 := ⟨_, rfl⟩
  obtain ⟨g2, hg2⟩ : ∃ g, g = 2 * Nat.log2 (n - 2) + 1 := ⟨_, rfl⟩
  have b1 : g1 ≤ 25 := by omega
  have b2 : g2 ≤ 25 := by omega
  rw [← hg1] at hs1 ⊢
  rw [← hg2] at hs2 ⊢
  have HG1 : Hid (∀ w : World, Calls Try.prog 42 #[.int .i64 d] w fun e w' => e = .returned (.int .i64 g1) ∧ w' = w) := Lib.hid (fun w => (gammaSize_is (d : Int) (by omega) g1 hs1 w).mono fun _ _ h => ⟨h.1, h.2.symm⟩)
  have HG2 : Hid (∀ w : World, Calls Try.prog 42 #[.int .i64 ((n : Int) - 2)] w fun e w' => e = .returned (.int .i64 g2) ∧ w' = w) := Lib.hid (fun w => (gammaSize_is ((n : Int) - 2) (by omega) g2 hs2 w).mono fun _ _ h => ⟨h.1, h.2.symm⟩)
  have HI := Lib.hid (fun w => islit_mat d n (by omega) w)
  have ww1 : IntKind.i64.wrap ((n : Int) - 2) = (n : Int) - 2 := pw _ (by omega)
  have ww2 : IntKind.i64.wrap (1 + (g1 : Int)) = 1 + (g1 : Int) := pw _ (by omega)
  have ww3 : IntKind.i64.wrap (1 + (g1 : Int) + (g2 : Int)) = 1 + (g1 : Int) + (g2 : Int) := pw _ (by omega)
  clear hc hn2 hg1 hg2 bd bn hs1 hs2
  go_enter Try.func32, Try.ntmps32
  go_upto_region 1 with (fail)
  refine wp_world (F := fun W => Row W w.heap.size 55 #[.int .i64 (d : Int), .int .i64 (n : Int), .int .u8 0] ∧ Below w.heap.size w W) ⟨Row.newEq _ _ _ _ _ rfl rfl, (Below.refl _ _).alloc (Nat.le_refl _) _⟩ ?_
  rintro W0 ⟨r0, hb⟩
  have c0 := (r0.cell 0).trans rfl
  have c1 := (r0.cell 1).trans rfl
  have c2 := (r0.cell 2).trans rfl
  go_upto_region 3 with (first
    | (go_at_call 40; refine (HI.out _).mono ?_; rintro e w1 ⟨rfl, h1⟩; have e0 := ((r0.below h1 r0.lt).cell 0).trans rfl; have e1 := ((r0.below h1 r0.lt).cell 1).trans rfl))
  clear c0 c1 c2
  go_quiet (first
    | (go_at_call 42; with_reducible exact Calls.quiet_of_same (HG1.out _))
    | (go_at_call 42; with_reducible exact Calls.quiet_of_same (HG2.out _)))
  go_wp2
  go_ret
  exact ⟨rfl, blw_drewN (up_call hb h1) _⟩
theorem cost_any (t : Tk) (h : t.ok) (w : World) :
    Calls Try.prog 32 #[.agg (tcs t.z.1 t.z.2.1 t.z.2.2)] w fun e w' => e = .returned (.int .i64 ((t.cost : Nat) : Int)) ∧ Below w.heap.size w w' := by
  cases t with
  | lit x => exact cost_lit x w
  | mat d n => exact cost_mat d n h w
end Go.Proofs.Ytcmbpniikcghfaa
