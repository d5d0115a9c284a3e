/-
  The contracts of the reference's SizeFault and Repeats.
-/
import Derived.Test.YtahihgmlkcbfiaaRTokF
import Derived.Test.YtahihgmlkcbfiaaGMem
import Derived.BigQuiet
namespace Go.Proofs.Ytahihgmlkcbfiaa
open Go.RowKit

/-- the fault of two lengths -/
def szF (n most m : Nat) : Int × Int := if most < n then (3, -1) else if 512 < m then (3, -2) else (0, 0)

set_option maxRecDepth 100000 in
set_option maxHeartbeats 4000000 in
theorem sizefault_any (n most m : Nat) (A B : Option Addr) (c d : Nat) (w : World) :
    Calls Try.prog 12 #[.slice A n c, .int .i64 most, .slice B m d] w fun e w' => e = .returned (.agg (flt (szF n most m).1 (szF n most m).2)) ∧ Below w.heap.size w w' := by
  have ha : Below w.heap.size w (w.alloc (.cells #[.int .i64 0, .int .i64 0] 25)) := (Below.refl _ _).alloc (Nat.le_refl _) _
  by_cases h1 : most < n
  · have t1 : decide ((most : Int) < (n : Int)) = true := decide_eq_true (by omega)
    have t2 : decide (most < n) = true := decide_eq_true h1
    rw [show szF n most m = (3, -1) from if_pos h1]
    clear h1
    go_enter Try.func12, Try.ntmps12
    go_upto_region 1 with (fail)
    refine wp_world (F := fun W => Row W w.heap.size 25 (flt 0 0) ∧ Below w.heap.size w W) ⟨Row.newEq _ _ _ _ _ rfl rfl, ha⟩ ?_
    rintro W0 ⟨r0, hb⟩
    go_wp2_with (first
      | (go_at_call 29; refine (at_any 3 (-1) _).mono ?_; rintro e w10 ⟨rfl, hb10⟩)
      | (refine wpList_store_row rfl 25 _ _ rfl w.heap.size (flt 3 (-1)) rfl rfl 25 (flt 0 0) (r0.below hb10 r0.lt) (by rw [flt_size]; exact cellsF) rfl (all_one (flt_one _ _)) ?_))
    refine bodyPost_ret (results_row Try.results12 _ _ w.heap.size 25 (flt 3 (-1)) _ rfl (Row.row (r0.below hb10 r0.lt) _) Try.underlying25 rfl (by rw [flt_size]; exact cellsF)) rfl ⟨rfl, ?_⟩
    exact blw_row (up_call hb hb10) (Nat.le_refl _) _
  · have t1 : decide ((most : Int) < (n : Int)) = false := decide_eq_false (by omega)
    have t2 : decide (most < n) = false := decide_eq_false h1
    by_cases h2 : 512 < m
    · have t3 : decide ((512 : Int) < (m : Int)) = true := decide_eq_true (by omega)
      have t4 : decide (512 < m) = true := decide_eq_true h2
      rw [show szF n most m = (3, -2) by unfold szF; rw [if_neg h1, if_pos h2]]
      clear h1 h2
      go_enter Try.func12, Try.ntmps12
      go_upto_region 1 with (fail)
      refine wp_world (F := fun W => Row W w.heap.size 25 (flt 0 0) ∧ Below w.heap.size w W) ⟨Row.newEq _ _ _ _ _ rfl rfl, ha⟩ ?_
      rintro W0 ⟨r0, hb⟩
      go_wp2_with (first
        | (go_at_call 29; refine (at_any 3 (-2) _).mono ?_; rintro e w10 ⟨rfl, hb10⟩)
        | (refine wpList_store_row rfl 25 _ _ rfl w.heap.size (flt 3 (-2)) rfl rfl 25 (flt 0 0) (r0.below hb10 r0.lt) (by rw [flt_size]; exact cellsF) rfl (all_one (flt_one _ _)) ?_))
      refine bodyPost_ret (results_row Try.results12 _ _ w.heap.size 25 (flt 3 (-2)) _ rfl (Row.row (r0.below hb10 r0.lt) _) Try.underlying25 rfl (by rw [flt_size]; exact cellsF)) rfl ⟨rfl, ?_⟩
      exact blw_row (up_call hb hb10) (Nat.le_refl _) _
    · have t3 : decide ((512 : Int) < (m : Int)) = false := decide_eq_false (by omega)
      have t4 : decide (512 < m) = false := decide_eq_false h2
      rw [show szF n most m = (0, 0) by unfold szF; rw [if_neg h1, if_neg h2]]
      clear h1 h2
      go_enter Try.func12, Try.ntmps12
      go_upto_region 1 with (fail)
      refine wp_world (F := fun W => Row W w.heap.size 25 (flt 0 0) ∧ Below w.heap.size w W) ⟨Row.newEq _ _ _ _ _ rfl rfl, ha⟩ ?_
      rintro W0 ⟨r0, hb⟩
      go_wp2_with (first
        | (refine wpList_store_row rfl 25 _ _ rfl w.heap.size (flt 0 0) rfl rfl 25 (flt 0 0) r0 (by rw [flt_size]; exact cellsF) rfl (all_one (flt_one _ _)) ?_))
      refine bodyPost_ret (results_row Try.results12 _ _ w.heap.size 25 (flt 0 0) _ rfl (Row.row r0 _) Try.underlying25 rfl (by rw [flt_size]; exact cellsF)) rfl ⟨rfl, ?_⟩
      exact blw_row hb (Nat.le_refl _) _

/-- m bytes from h on are equal to those d before them, and no more are -/
def RepIs (W : List UInt8) (h d m : Nat) : Prop := h + m ≤ W.length ∧ (∀ k, k < m → W.getD (h + k) 0 = W.getD (h + k - d) 0) ∧ (h + m = W.length ∨ W.getD (h + m) 0 ≠ W.getD (h + m - d) 0)
set_option maxRecDepth 100000 in
set_option maxHeartbeats 4000000 in
theorem repeats_any (W : List UInt8) (n : Nat) (hn : n = W.length) (hl : n ≤ 100000) (h d : Nat) (hh : h ≤ n) (hd1 : 1 ≤ d) (hd2 : d ≤ h) (A : Option Addr) (c : Nat) (w : World) (hS : Sl w w.heap.size A n (bl W)) :
    Calls Try.prog 36 #[.slice A n c, .int .i64 h, .int .i64 d] w fun e w' => (∃ m, e = .returned (.int .i64 (m : Nat)) ∧ RepIs W h d m) ∧ Below w.heap.size w w' := by
  have HS := Lib.hid hS
  have HN := Lib.hid hn
  clear hS hn
  go_enter Try.func36, Try.ntmps36
  go_upto_region 2 with (fail)
  go_loopw [7] (fun i wr => ∃ j : Nat, h + j ≤ n ∧ i = .int .i64 j ∧ Hid (∀ k, k < j → W.getD (h + k) 0 = W.getD (h + k - d) 0) ∧ Below w.heap.size w wr) (fun i _ => n - (intOf i).toNat)
  case atStart => exact ⟨0, hh, rfl, Lib.hid (fun k hk => absurd hk (Nat.not_lt_zero _)), Below.refl _ _⟩
  case round =>
    obtain ⟨j, hj, rfl, HE, hb⟩ := hrel
    by_cases hlt : h + j < n
    · have s0 : decide ((h : Int) + (j : Int) < (n : Int)) = true := decide_eq_true (by omega)
      obtain ⟨ad, rfl, _, k1⟩ := (HS.out.below hb).byte hlt
      obtain ⟨q, hq⟩ : ∃ q, h + j = q + d := ⟨h + j - d, by omega⟩
      have hqn : q < n := by omega
      obtain ⟨ad2, e2, _, k2⟩ := (HS.out.below hb).byte hqn
      injection e2 with e2
      subst e2
      have hsub : (h : Int) + (j : Int) - (d : Int) = (q : Int) := by omega
      have hq2 : h + j - d = q := by omega
      obtain ⟨x, hx⟩ : ∃ x, x = W.getD (h + j) 0 := ⟨_, rfl⟩
      obtain ⟨y, hy⟩ : ∃ y, y = W.getD q 0 := ⟨_, rfl⟩
      rw [← hx] at k1
      rw [← hy] at k2
      have HXY := Lib.hid (And.intro hx hy)
      clear hx hy
      by_cases hxy : x = y
      · subst hxy
        have HNEW := Lib.hid (show ∀ k, k < j + 1 → W.getD (h + k) 0 = W.getD (h + k - d) 0 from fun k hk => by
          by_cases hkj : k < j
          · exact HE.out k hkj
          · rw [show k = j by omega, hq2, ← HXY.out.1, HXY.out.2])
        have t1 : ((x.toNat : Int) == (x.toNat : Int)) = true := beq_self_eq_true _
        obtain ⟨z, hz⟩ : ∃ z : Int, z = (x.toNat : Int) := ⟨_, rfl⟩
        rw [← hz] at k1 k2 t1
        clear hz HXY hq
        go_wp2
        go_quiet (fail)
        go_wp2
        go_roundw
        case rel => exact ⟨j + 1, by omega, by go_num, HNEW, blw_drewN hb _⟩
        case measure => simp [intOf]; omega
      · have hne : ¬ (x.toNat : Int) = (y.toNat : Int) := fun e => hxy (UInt8.toNat_inj.1 (by omega))
        have t1 : ((x.toNat : Int) == (y.toNat : Int)) = false := beq_eq_false_iff_ne.2 hne
        have HST := Lib.hid (show W.getD (h + j) 0 ≠ W.getD (h + j - d) 0 by rw [hq2, ← HXY.out.1, ← HXY.out.2]; exact hxy)
        obtain ⟨z, hz⟩ : ∃ z : Int, z = (x.toNat : Int) := ⟨_, rfl⟩
        obtain ⟨u, hu⟩ : ∃ u : Int, u = (y.toNat : Int) := ⟨_, rfl⟩
        rw [← hz] at k1 t1 hne
        rw [← hu] at k2 t1 hne
        clear hz hu HXY hq hxy
        go_wp2
        go_quiet (fail)
        go_wp2
        go_ret
        exact ⟨⟨j, rfl, by rw [← HN.out]; omega, HE.out, .inr HST.out⟩, blw_drewN hb _⟩
    · have s0 : decide ((h : Int) + (j : Int) < (n : Int)) = false := decide_eq_false (by omega)
      have hjn : h + j = n := by omega
      have HJ := Lib.hid hjn
      clear hjn
      go_wp2
      go_quiet (fail)
      go_wp2
      go_ret
      exact ⟨⟨j, rfl, by rw [← HN.out]; omega, HE.out, .inl (by rw [← HN.out]; exact HJ.out)⟩, blw_drewN hb _⟩
end Go.Proofs.Ytahihgmlkcbfiaa
