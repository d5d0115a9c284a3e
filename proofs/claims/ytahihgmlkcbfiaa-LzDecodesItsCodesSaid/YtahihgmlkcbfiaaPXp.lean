/-
  The contracts of slices.Clone on bytes and of the package's expand. The contracts of slices.Grow (of nothing) and slices.Concat (of two) on bytes.
-/
import Derived.Test.YtahihgmlkcbfiaaPSm
import Derived.Test.YtahihgmlkcbfiaaTPlain
import Derived.Test.YtahihgmlkcbfiaaGMem
import Derived.Test.YtahihgmlkcbfiaaBExt
import Derived.Test.YtahihgmlkcbfiaaRSub
import Derived.Lib.SliceRun
namespace Go.Proofs.Ytahihgmlkcbfiaa
open Go.RowKit

theorem eql_nil (A : Option Addr) (n c : Nat) (w : World) : (binOp .eql 22 (.slice A n c) (.slice none 0 0)).run Try.prog w = .ok (.bool A.isNone) w :=
  Lib.run_eql_slice_nil w _ _ A n c 0 0 Try.underlying22
set_option maxRecDepth 100000 in
set_option maxHeartbeats 4000000 in
theorem clone_any (L : List UInt8) (D : Nat) (hD : D ≤ 100000) (A : Option Addr) (c : Nat) (w : World) (hS : Sl w w.heap.size A D (bl L)) :
    Calls Try.prog 40 #[.slice A D c] w fun e w' => ∃ v, e = .returned v ∧ w'.ownsRow w.heap.size 5 1 v D (bl L) ∧ KeepT 5 w w' ∧ Below w.heap.size w w' := by
  obtain ⟨i0, hi, hz0, hz1, hz2⟩ := info_parts infoU8
  have HS := Lib.hid hS
  clear hS
  rcases A with _ | ad
  · obtain rfl : D = 0 := by
      rcases Nat.eq_zero_or_pos D with h | h
      · exact h
      · obtain ⟨ad, h1, _⟩ := HS.out.2 h
        cases h1
    have hl : bl L = [] := List.eq_nil_of_length_eq_zero HS.out.1
    have HL := Lib.hid hl
    have hne : ∀ w, (binOp .eql 22 (.slice none 0 c) (.slice none 0 0)).run Try.prog w = .ok (.bool true) w := fun w => eql_nil none 0 c w
    clear hl
    go_enter Try.func40, Try.ntmps40
    go_wp2
    go_ret
    refine ⟨_, rfl, ?_, KeepT.refl _ _, Below.refl _ _⟩
    rw [HL.out]
    exact World.ownsRow_nil _ _ _ _
  · have hne : ∀ w, (binOp .eql 22 (.slice (some ad) D c) (.slice none 0 0)).run Try.prog w = .ok (.bool false) w := fun w => eql_nil (some ad) D c w
    go_enter Try.func40, Try.ntmps40
    go_wp2_with (first
      | (at_builtin; refine wpList_app _ rfl _ _ _ rfl w.heap.size 5 i0 (.int .u8 0) 1 Try.underlying22 hi hz0 hz1 hz2 rfl _ 0 [] rfl (own_lit (Row.new w 5 #[]) w.heap.size 0 (Nat.le_refl _) rfl (by unfold maxLen; omega)) _ _ D _ _ rfl (HS.out.below ((Below.refl _ _).alloc (Nat.le_refl _) _)) (fun u hu => bl_one _ u hu) (by unfold maxLen; omega) (by omega) (by simp) ?_; intro v1 w1 hown1 hg1))
    go_ret
    have hb := blw_grown ((Below.refl w.heap.size w).alloc (Nat.le_refl _) (.cells #[] 5)) hg1 (by simp) (own_lit (Row.new w 5 #[]) w.heap.size 0 (Nat.le_refl _) rfl (by unfold maxLen; omega)) (Nat.le_refl _)
    have hk := ((KeepT.refl 5 w).alloc (.cells #[] 5)).trans (keep_grown (own_lit (Row.new w 5 #[]) w.heap.size 0 (Nat.le_refl _) rfl (by unfold maxLen; omega)) hg1)
    rw [List.nil_append, Nat.zero_add] at hown1
    exact ⟨_, rfl, hown1, hk, hb⟩

/-- what expand answers -/
def XpOut (base n : Nat) (W : List UInt8) (w : World) (e : Ending) (w' : World) : Prop :=
  ∃ v, e = .returned v ∧ w'.ownsRow base 5 1 v n (bl W) ∧ Below base w w' ∧ KeepT 5 w w'
set_option maxRecDepth 100000 in
set_option maxHeartbeats 4000000 in
theorem expand_lit (x : UInt8) (base m : Nat) (W : List UInt8) (hm2 : m ≤ 100000) (A : Option Addr) (c : Nat) (w : World) (hb : base ≤ w.heap.size) (hown : w.ownsRow base 5 1 (.slice A m c) m (bl W)) :
    Calls Try.prog 41 #[.slice A m c, .agg (tcs 0 0 x)] w (XpOut base (m + 1) (W ++ [x]) w) := by
  obtain ⟨i0, hi, hz0, hz1, hz2⟩ := info_parts infoU8
  obtain ⟨z, hz⟩ : ∃ z : Int, z = (x.toNat : Int) := ⟨_, rfl⟩
  have hbv : bl W ++ [.int .u8 z] = bl (W ++ [x]) := by rw [bl_append, hz]; unfold bl; rfl
  have HBW := Lib.hid hbv
  unfold tcs
  rw [← hz]
  clear hbv hz
  go_enter Try.func41, Try.ntmps41
  go_upto_region 1 with (fail)
  refine wp_world (F := fun W0 => Row W0 w.heap.size 37 #[.int .i64 0, .int .i64 0, .int .u8 z] ∧ W0.ownsRow base 5 1 (.slice A m c) m (bl W) ∧ Below base w W0 ∧ KeepT 5 w W0 ∧ base ≤ W0.heap.size)
    ⟨Row.newEq _ _ _ _ _ rfl rfl, hown.alloc _, (Below.refl _ _).alloc hb _, (KeepT.refl _ _).alloc _, Nat.le_trans hb (by simp)⟩ ?_
  clear hown
  rintro W0 ⟨r0, hown, hb0, hk0, hbs⟩
  have c0 := (r0.cell 0).trans rfl
  have c1 := (r0.cell 1).trans rfl
  have c2 := (r0.cell 2).trans rfl
  go_wp2_with (first
    | (go_at_call 57; refine (islit_lit _ _).mono ?_; rintro e w1 ⟨rfl, h1⟩; have d2 := ((r0.below h1 r0.lt).cell 2).trans rfl; have own1 := own_below hown h1; have hb1 := blw_call hb0 hbs h1; have hk1 := hk0.below h1; have hs1 := Nat.le_trans hbs h1.size)
    | (at_builtin; refine wpList_app _ rfl _ _ _ rfl base 5 i0 (.int .u8 0) 1 Try.underlying22 hi hz0 hz1 hz2 rfl _ m _ rfl (own1.alloc _) _ _ 1 _ _ rfl (Sl.one _ _ _) (fun u hu => by obtain rfl := List.mem_singleton.1 hu; rfl) (by unfold maxLen; omega) (by omega) (Nat.le_trans hs1 (by simp)) ?_; intro v5 w5 hown5 hg5))
  go_ret
  rw [HBW.out] at hown5
  unfold XpOut
  exact ⟨_, rfl, hown5, blw_grown (hb1.alloc hs1 (.cells #[.int .u8 z] 5)) hg5 (Nat.le_trans hs1 (by simp)) (own1.alloc _) (Nat.le_refl _), (hk1.alloc (.cells #[.int .u8 z] 5)).trans (keep_grown (own1.alloc _) hg5)⟩

set_option maxRecDepth 100000 in
set_option maxHeartbeats 4000000 in
theorem expand_mat (d n : Nat) (hd : 1 ≤ d) (hn : 1 ≤ n) (hn2 : n ≤ 1024) (base m : Nat) (W : List UInt8) (hm : m = W.length) (hm2 : m ≤ 10000) (hdm : d ≤ m) (A : Option Addr) (c : Nat) (w : World) (hb : base ≤ w.heap.size) (hown : w.ownsRow base 5 1 (.slice A m c) m (bl W)) :
    Calls Try.prog 41 #[.slice A m c, .agg #[.int .i64 d, .int .i64 n, .int .u8 0]] w (XpOut base (m + n) (copyN d n W) w) := by
  obtain ⟨i0, hi, hz0, hz1, hz2⟩ := info_parts infoU8
  have HI := Lib.hid (fun w => islit_mat d n hn w)
  have HM := Lib.hid hm
  clear hm
  go_enter Try.func41, Try.ntmps41
  go_upto_region 1 with (fail)
  refine wp_world (F := fun W0 => Row W0 w.heap.size 37 #[.int .i64 d, .int .i64 n, .int .u8 0] ∧ W0.ownsRow base 5 1 (.slice A m c) m (bl W) ∧ Below base w W0 ∧ KeepT 5 w W0 ∧ base ≤ W0.heap.size)
    ⟨Row.newEq _ _ _ _ _ rfl rfl, hown.alloc _, (Below.refl _ _).alloc hb _, (KeepT.refl _ _).alloc _, Nat.le_trans hb (by simp)⟩ ?_
  clear hown
  rintro W0 ⟨r0, hown, hb0, hk0, hbs⟩
  have c0 := (r0.cell 0).trans rfl
  have c1 := (r0.cell 1).trans rfl
  have c2 := (r0.cell 2).trans rfl
  go_upto_region 4 with (first
    | (go_at_call 57; refine (HI.out _).mono ?_; rintro e w1 ⟨rfl, h1⟩; have q0 := r0.below h1 r0.lt; have d1 := (q0.cell 1).trans rfl; have own1 := own_below hown h1; have hb1 := blw_call hb0 hbs h1; have hk1 := hk0.below h1; have hs1 := Nat.le_trans hbs h1.size))
  have HV1 := Lib.hid own1
  clear c0 c1 c2 r0 hown hb0 hk0 hbs h1 d1 own1 W0 HI
  go_loopw [0, 14] (fun v i wr => ∃ (q p : Nat) (V : List UInt8), q ≤ n ∧ i = .int .i64 q ∧ p = m + q ∧ Hid (V = copyN d q W ∧ p = V.length) ∧ Hid (wr.ownsRow base 5 1 v p (bl V)) ∧ Row wr w.heap.size 37 #[.int .i64 d, .int .i64 n, .int .u8 0] ∧ Below base w wr ∧ Hid (KeepT 5 w wr) ∧ base ≤ wr.heap.size) (fun _ i _ => n - (intOf i).toNat)
  case atStart => exact ⟨0, m, W, Nat.zero_le _, rfl, rfl, Lib.hid ⟨rfl, HM.out⟩, HV1, q0, hb1, Lib.hid hk1, hs1⟩
  case round =>
    clear HV1 q0 hb1 hk1 hs1
    obtain ⟨q, p, V, hq, rfl, hp, HVV, HV2, r2, hb2, HK2, hs2⟩ := hrel
    obtain ⟨A6, c6, hv6, _, _⟩ := own_form HV2.out
    subst hv6
    by_cases hqn : q < n
    · obtain ⟨k, hk⟩ : ∃ k, p = k + d := ⟨p - d, by omega⟩
      have hk1 : k < p := by omega
      have hp2 : p ≤ 20000 := by omega
      have HPP := Lib.hid hp
      clear hp
      obtain ⟨ad3, rfl, hbl3, k4⟩ := (Sl.of_own HV2.out).byte hk1
      have hsn : copyN d (q + 1) W = V ++ [V.getD k 0] := by rw [copyN_snoc, ← HVV.out.1, ← HVV.out.2, hk, Nat.add_sub_cancel]
      obtain ⟨y, hy⟩ : ∃ y, y = V.getD k 0 := ⟨_, rfl⟩
      rw [← hy] at hsn k4
      have HSN := Lib.hid hsn
      have hbv : bl V ++ [.int .u8 (y.toNat : Int)] = bl (V ++ [y]) := by rw [bl_append]; unfold bl; rfl
      have HBV := Lib.hid hbv
      have c0 := (r2.cell 0).trans rfl
      clear hsn hy hbl3 hbv
      subst hk
      go_wp2_with (first
        | (at_builtin; refine wpList_app _ rfl _ _ _ rfl base 5 i0 (.int .u8 0) 1 Try.underlying22 hi hz0 hz1 hz2 rfl _ (k + d) _ rfl (HV2.out.alloc _) _ _ 1 _ _ rfl (Sl.one _ _ _) (fun u hu => by obtain rfl := List.mem_singleton.1 hu; rfl) (by unfold maxLen; omega) (by omega) (Nat.le_trans hs2 (by simp)) ?_; intro v8 w8 hown8 hg8))
      rw [HBV.out] at hown8
      have HV8 := Lib.hid hown8
      have hk8 := keep_grown (HV2.out.alloc (.cells #[.int .u8 (y.toNat : Int)] 5)) hg8
      have r8 := hk8 _ _ _ (by decide) (r2.alloc _)
      have HK8 := Lib.hid ((HK2.out.alloc _).trans hk8)
      have hb8 := blw_grown (hb2.alloc hs2 (.cells #[.int .u8 (y.toNat : Int)] 5)) hg8 (Nat.le_trans hs2 (by simp)) (HV2.out.alloc _) (Nat.le_refl _)
      have hs8 : base ≤ w8.heap.size := Nat.le_trans (Nat.le_trans hs2 (by simp)) hg8.size
      clear hown8 hg8 hk8
      go_roundw
      case rel => exact ⟨q + 1, k + d + 1, V ++ [y], by omega, by go_num, by have := HPP.out; omega, Lib.hid ⟨HSN.out.symm, by rw [List.length_append, ← HVV.out.2]; rfl⟩, HV8, r8, hb8, HK8, hs8⟩
      case measure => simp [intOf]; omega
    · obtain rfl : n = q := by omega
      go_wp2
      go_ret
      unfold XpOut
      rw [← HVV.out.1, ← hp]
      exact ⟨_, rfl, HV2.out, hb2, HK2.out⟩
theorem expand_any (t : Tk) (h : t.ok) (base m : Nat) (W : List UInt8) (hm : m = W.length) (hm2 : m ≤ 10000) (hdm : t.dist ≤ m) (A : Option Addr) (c : Nat) (w : World) (hb : base ≤ w.heap.size) (hown : w.ownsRow base 5 1 (.slice A m c) m (bl W)) :
    Calls Try.prog 41 #[.slice A m c, .agg (tcs t.z.1 t.z.2.1 t.z.2.2)] w (XpOut base (m + t.len) (t.put W) w) := by
  cases t with
  | lit x => exact expand_lit x base m W (by omega) A c w hb hown
  | mat d n => exact expand_mat d n h.1 (by have := h.2.2.1; omega) h.2.2.2 base m W hm hm2 hdm A c w hb hown
end Go.Proofs.Ytahihgmlkcbfiaa

namespace Go.Proofs.Ytahihgmlkcbfiaa
open Go.RowKit

theorem own_none0 {w : World} {base : Nat} {e : TypeId} {A : Option Addr} {n c : Nat} {xs : List Value} (h : w.ownsRow base e 1 (.slice A n c) n xs) : w.ownsRow base e 1 (.slice A 0 c) 0 [] := by
  rcases h.2 with ⟨hv, h0⟩ | ⟨g, cap, cur, hv, h2, h3, h4, h5, h6, h7⟩
  · injection hv with e1 e2 e3
    subst e1 e3
    exact World.ownsRow_nil _ _ _ _
  · injection hv with e1 e2 e3
    subst e1 e3
    exact ⟨rfl, .inr ⟨g, c, cur, rfl, h2, h3, Nat.zero_le _, h5, h6, by simp⟩⟩
set_option maxRecDepth 100000 in
set_option maxHeartbeats 4000000 in
theorem grow_any (n : Nat) (hn : n ≤ 100000) (w : World) :
    Calls Try.prog 69 #[.slice none 0 0, .int .i64 n] w fun e w' => ∃ A c, e = .returned (.slice A 0 c) ∧ w'.ownsRow w.heap.size 5 1 (.slice A 0 c) 0 [] ∧ KeepT 5 w w' ∧ Below w.heap.size w w' := by
  obtain ⟨i0, hi, hz0, hz1, hz2⟩ := info_parts infoU8
  have t0 : decide ((n : Int) < 0) = false := decide_eq_false (by omega)
  by_cases h0 : n = 0
  · subst h0
    go_enter Try.func69, Try.ntmps69
    go_wp2
    go_ret
    exact ⟨none, 0, rfl, World.ownsRow_nil _ _ _ _, KeepT.refl _ _, Below.refl _ _⟩
  · have t1 : decide ((0 : Int) < (n : Int)) = true := decide_eq_true (by omega)
    have t2 : decide (0 < n) = true := decide_eq_true (by omega)
    go_enter Try.func69, Try.ntmps69
    go_wp2_with (first
      | (at_builtin; refine wpList_app_zeros _ rfl _ _ _ _ rfl w.heap.size 5 i0 (.int .u8 0) 1 .i64 .i64 Try.underlying22 Try.underlying3 hi hz0 hz1 hz2 rfl rfl _ 0 [] rfl (World.ownsRow_nil _ _ _ _) n rfl (by unfold maxLen; omega) (by omega) (Nat.le_refl _) ?_; intro v1 w1 hown1 hg1; rw [List.nil_append, Nat.zero_add] at hown1; obtain ⟨A1, c1, hv1, hc1, _⟩ := own_form hown1; subst hv1))
    go_ret
    have hown0 := World.ownsRow_nil w w.heap.size 5 1
    exact ⟨_, _, rfl, own_none0 hown1, keep_grown hown0 hg1, blw_grown (Below.refl _ _) hg1 (Nat.le_refl _) hown0 (Nat.le_refl _)⟩

set_option maxRecDepth 100000 in
set_option maxHeartbeats 8000000 in
theorem concat_any (E L : List UInt8) (D N : Nat) (hD : D ≤ 10000) (hN : N ≤ 10000) (A B : Option Addr) (ca cb g : Nat) (w : World) (hA : Sl w w.heap.size A D (bl E)) (hB : Sl w w.heap.size B N (bl L)) (hr : Row w g 22 #[.slice A D ca, .slice B N cb]) :
    Calls Try.prog 54 #[.slice (some ⟨g, 0, none⟩) 2 2] w fun e w' => ∃ v, e = .returned v ∧ w'.ownsRow w.heap.size 5 1 v (D + N) (bl (E ++ L)) ∧ KeepT 5 w w' ∧ Below w.heap.size w w' := by
  obtain ⟨i0, hi, hz0, hz1, hz2⟩ := info_parts infoU8
  have HA := Lib.hid hA
  have HB := Lib.hid hB
  have c0 := (hr.cell 0).trans rfl
  have c1 := (hr.cell 1).trans rfl
  clear hA hB
  go_enter Try.func54, Try.ntmps54
  go_upto_region 3 with (fail)
  go_loop [3, 11] (fun sv jv => ∃ j s : Nat, sv = .int .i64 s ∧ jv = .int .i64 j ∧ ((j = 0 ∧ s = 0) ∨ (j = 1 ∧ s = D) ∨ (j = 2 ∧ s = D + N))) (fun _ jv => 2 - (intOf jv).toNat)
  case atStart => exact ⟨0, 0, rfl, rfl, .inl ⟨rfl, rfl⟩⟩
  case round =>
    obtain ⟨j, s, rfl, rfl, hjs⟩ := hrel
    rcases hjs with ⟨rfl, rfl⟩ | ⟨rfl, rfl⟩ | ⟨rfl, rfl⟩
    · have t0 : decide ((D : Int) < 0) = false := decide_eq_false (by omega)
      go_wp2
      go_round
      case rel => exact ⟨1, D, by go_num, by go_num, .inr (.inl ⟨rfl, rfl⟩)⟩
      case measure => simp [intOf]
    · have t0 : decide ((s : Int) + (N : Int) < 0) = false := decide_eq_false (by omega)
      go_wp2
      go_round
      case rel => exact ⟨2, s + N, by go_num, by go_num, .inr (.inr ⟨rfl, rfl⟩)⟩
      case measure => simp [intOf]
    · have hgr := grow_any (D + N) (by omega)
      go_upto_region 11 with (first
        | (go_at_call 69; refine (hgr _).mono ?_; rintro e w2 ⟨A2, k2, rfl, hown2, hk2, hb2⟩))
      have HV2 := Lib.hid hown2
      clear hown2 c0 c1
      go_loopw [6, 27] (fun v jv wr => ∃ (j m : Nat) (W : List UInt8), jv = .int .i64 j ∧ ((j = 0 ∧ W = [] ∧ m = 0) ∨ (j = 1 ∧ W = E ∧ m = D) ∨ (j = 2 ∧ W = E ++ L ∧ m = D + N)) ∧ Hid (wr.ownsRow w.heap.size 5 1 v m (bl W)) ∧ Hid (KeepT 5 w wr) ∧ Below w.heap.size w wr) (fun _ jv _ => 2 - (intOf jv).toNat)
      case atStart => exact ⟨0, 0, [], rfl, .inl ⟨rfl, rfl, rfl⟩, Lib.hid (by rw [bl_nil]; exact HV2.out), Lib.hid hk2, hb2⟩
      case round =>
        clear HV2 hk2 hb2
        obtain ⟨j, m, W, rfl, hjs, HV, HK, hb⟩ := hrel
        have q := hr.below hb hr.lt
        have c0 := (q.cell 0).trans rfl
        have c1 := (q.cell 1).trans rfl
        obtain ⟨A3, k3, hv3, _, _⟩ := own_form HV.out
        subst hv3
        rcases hjs with ⟨rfl, rfl, rfl⟩ | ⟨rfl, rfl, rfl⟩ | ⟨rfl, rfl, rfl⟩
        · go_wp2_with (first
            | (at_builtin; refine wpList_app _ rfl _ _ _ rfl w.heap.size 5 i0 (.int .u8 0) 1 Try.underlying22 hi hz0 hz1 hz2 rfl _ 0 _ rfl HV.out _ _ D _ _ rfl (HA.out.below hb) (fun u hu => bl_one _ u hu) (by unfold maxLen; omega) (by omega) hb.size ?_; intro v5 w5 hown5 hg5))
          rw [bl_nil, List.nil_append, Nat.zero_add] at hown5
          have hb5 := blw_grown hb hg5 hb.size HV.out (Nat.le_refl _)
          have hk5 := HK.out.trans (keep_grown HV.out hg5)
          go_roundw
          case rel => exact ⟨1, D, E, by go_num, .inr (.inl ⟨rfl, rfl, rfl⟩), Lib.hid hown5, Lib.hid hk5, hb5⟩
          case measure => simp [intOf]
        · go_wp2_with (first
            | (at_builtin; refine wpList_app _ rfl _ _ _ rfl w.heap.size 5 i0 (.int .u8 0) 1 Try.underlying22 hi hz0 hz1 hz2 rfl _ _ _ rfl HV.out _ _ N _ _ rfl (HB.out.below hb) (fun u hu => bl_one _ u hu) (by unfold maxLen; omega) (by omega) hb.size ?_; intro v5 w5 hown5 hg5))
          rw [← bl_append] at hown5
          have hb5 := blw_grown hb hg5 hb.size HV.out (Nat.le_refl _)
          have hk5 := HK.out.trans (keep_grown HV.out hg5)
          go_roundw
          case rel => exact ⟨2, _, _, by go_num, .inr (.inr ⟨rfl, rfl, rfl⟩), Lib.hid hown5, Lib.hid hk5, hb5⟩
          case measure => simp [intOf]
        · go_wp2
          go_ret
          exact ⟨_, rfl, HV.out, HK.out, hb⟩
end Go.Proofs.Ytahihgmlkcbfiaa
