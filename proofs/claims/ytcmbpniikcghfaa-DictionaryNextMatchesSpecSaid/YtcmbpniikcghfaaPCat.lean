/-
  Parted out of others.
-/
import Derived.Test.YtcmbpniikcghfaaGFlatF
import Derived.Test.YtcmbpniikcghfaaRSub
import Derived.Test.YtcmbpniikcghfaaGMem
import Derived.Lib.SliceRun
namespace Go.Proofs.Ytcmbpniikcghfaa
open Go.RowKit

theorem own_none0 {w : World} {base : Nat} {e : TypeId} {A : Option Addr} {n c : Nat} {xs : List Value} (h : w.ownsRow base e 1 (.slice A n c) n xs) : w.ownsRow base e 1 (.slice A 0 c) 0 [] := by
  rcases h.2 with ⟨hv, h0⟩ | ⟨g, cap, cur, hv, h2, h3, h4, h5, h6, h7⟩
  · injection hv with e1 e2 e3
    subst e1 e3
    exact World.ownsRow_nil _ _ _ _
  · injection hv with e1 e2 e3
    subst e1 e3
    exact ⟨rfl, .inr ⟨g, c, cur, rfl, h2, h3, Nat.zero_le _, h5, h6, by simp⟩⟩
set_option maxRecDepth 100000 in
set_option maxHeartbeats 4000000 in
theorem grow_any (n : Nat) (hn : n ≤ 100000) (w : World) :
    Calls Try.prog 37 #[.slice none 0 0, .int .i64 n] w fun e w' => ∃ A c, e = .returned (.slice A 0 c) ∧ w'.ownsRow w.heap.size 5 1 (.slice A 0 c) 0 [] ∧ KeepT 5 w w' ∧ Below w.heap.size w w' := by
  obtain ⟨i0, hi, hz0, hz1, hz2⟩ := info_parts infoU8
  have t0 : decide ((n : Int) < 0) = false := decide_eq_false (by omega)
  by_cases h0 : n = 0
  · subst h0
    go_enter Try.func37, Try.ntmps37
    go_wp2
    go_ret
    exact ⟨none, 0, rfl, World.ownsRow_nil _ _ _ _, KeepT.refl _ _, Below.refl _ _⟩
  · have t1 : decide ((0 : Int) < (n : Int)) = true := decide_eq_true (by omega)
    have t2 : decide (0 < n) = true := decide_eq_true (by omega)
    go_enter Try.func37, Try.ntmps37
    go_wp2_with (first
      | (at_builtin; refine wpList_app_zeros _ rfl _ _ _ _ rfl w.heap.size 5 i0 (.int .u8 0) 1 .i64 .i64 Try.underlying23 Try.underlying3 hi hz0 hz1 hz2 rfl rfl _ 0 [] rfl (World.ownsRow_nil _ _ _ _) n rfl (by unfold maxLen; omega) (by omega) (Nat.le_refl _) ?_; intro v1 w1 hown1 hg1; rw [List.nil_append, Nat.zero_add] at hown1; obtain ⟨A1, c1, hv1, hc1, _⟩ := own_form hown1; subst hv1))
    go_ret
    have hown0 := World.ownsRow_nil w w.heap.size 5 1
    exact ⟨_, _, rfl, own_none0 hown1, keep_grown hown0 hg1, blw_grown (Below.refl _ _) hg1 (Nat.le_refl _) hown0 (Nat.le_refl _)⟩
set_option maxRecDepth 100000 in
set_option maxHeartbeats 8000000 in
theorem concat_any (E L : List UInt8) (D N : Nat) (hD : D ≤ 10000) (hN : N ≤ 10000) (A B : Option Addr) (ca cb g : Nat) (w : World) (hA : Sl w w.heap.size A D (bl E)) (hB : Sl w w.heap.size B N (bl L)) (hr : Row w g 23 #[.slice A D ca, .slice B N cb]) :
    Calls Try.prog 27 #[.slice (some ⟨g, 0, none⟩) 2 2] w fun e w' => ∃ v, e = .returned v ∧ w'.ownsRow w.heap.size 5 1 v (D + N) (bl (E ++ L)) ∧ KeepT 5 w w' ∧ Below w.heap.size w w' := by
  obtain ⟨i0, hi, hz0, hz1, hz2⟩ := info_parts infoU8
  have HA := Lib.hid hA
  have HB := Lib.hid hB
  have c0 := (hr.cell 0).trans rfl
  have c1 := (hr.cell 1).trans rfl
  clear hA hB
  go_enter Try.func27, Try.ntmps27
  go_upto_region 3 with (fail)
  go_loop [3, 11] (fun sv jv => ∃ j s : Nat, sv = .int .i64 s ∧ jv = .int .i64 j ∧ ((j = 0 ∧ s = 0) ∨ (j = 1 ∧ s = D) ∨ (j = 2 ∧ s = D + N))) (fun _ jv => 2 - (intOf jv).toNat)
  case atStart => exact ⟨0, 0, rfl, rfl, .inl ⟨rfl, rfl⟩⟩
  case round =>
    obtain ⟨j, s, rfl, rfl, hjs⟩ := hrel
    rcases hjs with ⟨rfl, rfl⟩ | ⟨rfl, rfl⟩ | ⟨rfl, rfl⟩
    · have t0 : decide ((D : Int) < 0) = false := decide_eq_false (by omega)
      go_wp2
      go_round
      case rel => exact ⟨1, D, by go_num, by go_num, .inr (.inl ⟨rfl, rfl⟩)⟩
      case measure => simp [intOf]
    · have t0 : decide ((s : Int) + (N : Int) < 0) = false := decide_eq_false (by omega)
      go_wp2
      go_round
      case rel => exact ⟨2, s + N, by go_num, by go_num, .inr (.inr ⟨rfl, rfl⟩)⟩
      case measure => simp [intOf]
    · have hgr := grow_any (D + N) (by omega)
      go_upto_region 11 with (first
        | (go_at_call 37; refine (hgr _).mono ?_; rintro e w2 ⟨A2, k2, rfl, hown2, hk2, hb2⟩))
      have HV2 := Lib.hid hown2
      clear hown2 c0 c1
      go_loopw [6, 27] (fun v jv wr => ∃ (j m : Nat) (W : List UInt8), jv = .int .i64 j ∧ ((j = 0 ∧ W = [] ∧ m = 0) ∨ (j = 1 ∧ W = E ∧ m = D) ∨ (j = 2 ∧ W = E ++ L ∧ m = D + N)) ∧ Hid (wr.ownsRow w.heap.size 5 1 v m (bl W)) ∧ Hid (KeepT 5 w wr) ∧ Below w.heap.size w wr) (fun _ jv _ => 2 - (intOf jv).toNat)
      case atStart => exact ⟨0, 0, [], rfl, .inl ⟨rfl, rfl, rfl⟩, Lib.hid (by rw [bl_nil]; exact HV2.out), Lib.hid hk2, hb2⟩
      case round =>
        clear HV2 hk2 hb2
        obtain ⟨j, m, W, rfl, hjs, HV, HK, hb⟩ := hrel
        have q := hr.below hb hr.lt
        have c0 := (q.cell 0).trans rfl
        have c1 := (q.cell 1).trans rfl
        obtain ⟨A3, k3, hv3, _, _⟩ := own_form HV.out
        subst hv3
        rcases hjs with ⟨rfl, rfl, rfl⟩ | ⟨rfl, rfl, rfl⟩ | ⟨rfl, rfl, rfl⟩
        · go_wp2_with (first
            | (at_builtin; refine wpList_app _ rfl _ _ _ rfl w.heap.size 5 i0 (.int .u8 0) 1 Try.underlying23 hi hz0 hz1 hz2 rfl _ 0 _ rfl HV.out _ _ D _ _ rfl (HA.out.below hb) (fun u hu => bl_one _ u hu) (by unfold maxLen; omega) (by omega) hb.size ?_; intro v5 w5 hown5 hg5))
          rw [bl_nil, List.nil_append, Nat.zero_add] at hown5
          have hb5 := blw_grown hb hg5 hb.size HV.out (Nat.le_refl _)
          have hk5 := HK.out.trans (keep_grown HV.out hg5)
          go_roundw
          case rel => exact ⟨1, D, E, by go_num, .inr (.inl ⟨rfl, rfl, rfl⟩), Lib.hid hown5, Lib.hid hk5, hb5⟩
          case measure => simp [intOf]
        · go_wp2_with (first
            | (at_builtin; refine wpList_app _ rfl _ _ _ rfl w.heap.size 5 i0 (.int .u8 0) 1 Try.underlying23 hi hz0 hz1 hz2 rfl _ _ _ rfl HV.out _ _ N _ _ rfl (HB.out.below hb) (fun u hu => bl_one _ u hu) (by unfold maxLen; omega) (by omega) hb.size ?_; intro v5 w5 hown5 hg5))
          rw [← bl_append] at hown5
          have hb5 := blw_grown hb hg5 hb.size HV.out (Nat.le_refl _)
          have hk5 := HK.out.trans (keep_grown HV.out hg5)
          go_roundw
          case rel => exact ⟨2, _, _, by go_num, .inr (.inr ⟨rfl, rfl, rfl⟩), Lib.hid hown5, Lib.hid hk5, hb5⟩
          case measure => simp [intOf]
        · go_wp2
          go_ret
          exact ⟨_, rfl, HV.out, HK.out, hb⟩
end Go.Proofs.Ytcmbpniikcghfaa
