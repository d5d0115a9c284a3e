/-
  The contracts of the reference's Wide, SplitOf, Twice, CoderOk, DecoderOk and Steps. The contract of the reference's Steps.
-/
import Derived.Test.YtcnokjiohbifeaaAPlain
import Derived.Test.YtcnokjiohbifeaaIL
import Derived.Test.YtcnokjiohbifeaaRIn
import Derived.OwnWalk
namespace Go.Proofs.Ytcnokjiohbifeaa
open Go.RowKit

/-- a wide range, in integers -/
def WideZ (a b : Int) : Prop := 0 ≤ a ∧ a < 32768 ∧ 32768 ≤ b ∧ b < 65536 ∧ (a < 16384 ∨ 49152 ≤ b)
instance (a b : Int) : Decidable (WideZ a b) := inferInstanceAs (Decidable (0 ≤ a ∧ a < 32768 ∧ 32768 ≤ b ∧ b < 65536 ∧ (a < 16384 ∨ 49152 ≤ b)))
theorem WideZ.nat {a b : Int} (h : WideZ a b) : ∃ L H : Nat, a = L ∧ b = H ∧ WideR L H := by
  obtain ⟨h1, h2, h3, h4, h5⟩ := h
  exact ⟨a.toNat, b.toNat, by omega, by omega, by omega, by omega, by omega, by omega⟩
theorem WideR.int {L H : Nat} (h : WideR L H) : WideZ (L : Int) (H : Int) := by
  obtain ⟨h1, h2, h3, h4⟩ := h
  refine ⟨by omega, by omega, by omega, by omega, by omega⟩

/-- In, whatever the number -/
theorem in_any (n a b : Int) (w : World) :
    Calls Try.prog 20 #[.int .i64 n, .int .i64 a, .int .i64 b] w fun e w' => e = .returned (.bool (decide (a ≤ n ∧ n ≤ b))) ∧ w' = w := by
  by_cases h : a ≤ n ∧ n ≤ b
  · rw [decide_eq_true h]
    exact in_yes n a b h.1 h.2 w
  · rw [decide_eq_false h]
    exact in_no n a b (by omega) w

theorem wide_any (a b : Int) (w : World) :
    Calls Try.prog 44 #[.int .i64 a, .int .i64 b] w fun e w' => e = .returned (.bool (decide (WideZ a b))) ∧ w' = w := by
  by_cases h1 : 0 ≤ a ∧ a ≤ 32767
  · have c1 := in_yes a 0 32767 h1.1 h1.2
    by_cases h2 : 32768 ≤ b ∧ b ≤ 65535
    · have c2 := in_yes b 32768 65535 h2.1 h2.2
      by_cases h3 : a < 16384
      · rw [decide_eq_true (show WideZ a b from ⟨h1.1, by omega, h2.1, by omega, .inl h3⟩)]
        go_enter Try.func44, Try.ntmps44
        go_wp2_with (first
          | (go_at_call 20; (first | (with_reducible refine (c1 _).mono ?_) | (with_reducible refine (c2 _).mono ?_)); rintro e w9 ⟨rfl, h9⟩; subst w9))
        go_ret
        exact ⟨rfl, rfl⟩
      · by_cases h4 : 49152 ≤ b
        · rw [decide_eq_true (show WideZ a b from ⟨h1.1, by omega, h2.1, by omega, .inr h4⟩)]
          go_enter Try.func44, Try.ntmps44
          go_wp2_with (first
            | (go_at_call 20; (first | (with_reducible refine (c1 _).mono ?_) | (with_reducible refine (c2 _).mono ?_)); rintro e w9 ⟨rfl, h9⟩; subst w9))
          go_ret
          exact ⟨rfl, rfl⟩
        · rw [decide_eq_false (show ¬ WideZ a b from fun h => by obtain ⟨_, _, _, _, h5⟩ := h; omega)]
          go_enter Try.func44, Try.ntmps44
          go_wp2_with (first
            | (go_at_call 20; (first | (with_reducible refine (c1 _).mono ?_) | (with_reducible refine (c2 _).mono ?_)); rintro e w9 ⟨rfl, h9⟩; subst w9))
          go_ret
          exact ⟨by rw [decide_eq_false (by omega : ¬ a < 16384), decide_eq_false (by omega : ¬ 49152 ≤ b)]; rfl, rfl⟩
    · have c2 := in_no b 32768 65535 (by omega)
      rw [decide_eq_false (show ¬ WideZ a b from fun h => by obtain ⟨_, _, h3, h4, _⟩ := h; omega)]
      go_enter Try.func44, Try.ntmps44
      go_wp2_with (first
        | (go_at_call 20; (first | (with_reducible refine (c1 _).mono ?_) | (with_reducible refine (c2 _).mono ?_)); rintro e w9 ⟨rfl, h9⟩; subst w9))
      go_ret
      exact ⟨rfl, rfl⟩
  · have c1 := in_no a 0 32767 (by omega)
    rw [decide_eq_false (show ¬ WideZ a b from fun h => by obtain ⟨h3, h4, _⟩ := h; omega)]
    go_enter Try.func44, Try.ntmps44
    go_wp2_with (first
      | (go_at_call 20; refine (c1 _).mono ?_; rintro e w9 ⟨rfl, h9⟩; subst w9))
    go_ret
    exact ⟨rfl, rfl⟩

set_option maxRecDepth 100000 in
theorem split_any (L H p : Nat) (h : WideR L H) (h1 : 1 ≤ p) (h2 : p ≤ 4095) (w : World) :
    Calls Try.prog 28 #[.int .i64 L, .int .i64 H, .int .i64 p] w fun e w' => e = .returned (.int .i64 (splitN L H p : Nat)) ∧ w' = w := by
  obtain ⟨hs1, hs2⟩ := h.size
  obtain ⟨hl1, hl2⟩ := lower_bounds h h1 h2
  obtain ⟨hw1, hw2, hw3, hw4⟩ := h
  have hmul : (H - L + 1) * p ≤ 65536 * 4095 := Nat.mul_le_mul (by omega) h2
  have hprod : ((H : Int) - (L : Int) + 1) * (p : Int) = (((H - L + 1) * p : Nat) : Int) := by
    rw [show (H : Int) - (L : Int) + 1 = ((H - L + 1 : Nat) : Int) by omega, ← Int.natCast_mul]
  unfold splitN
  unfold lowerN at hl1 hl2 ⊢
  generalize (H - L + 1) * p = x at *
  go_enter Try.func28, Try.ntmps28
  go_wp2
  go_ret
  exact ⟨ret_int (by omega), rfl⟩

/-- what Twice answers -/
def twZ (L H : Nat) : Int := match twN L H with | none => -1 | some k => (k : Int)
set_option maxRecDepth 100000 in
theorem twice_any (L H : Nat) (hL : L < 65536) (hH : H < 65536) (w : World) :
    Calls Try.prog 46 #[.int .i64 L, .int .i64 H] w fun e w' => e = .returned (.int .i64 (twZ L H)) ∧ w' = w := by
  by_cases c1 : H < 32768
  · have e : twZ L H = 0 := by unfold twZ twN; rw [if_pos c1]; rfl
    rw [e]
    have t1 : decide ((H : Int) < 32768) = true := decide_eq_true (by omega)
    clear e hL hH c1
    go_enter Try.func46, Try.ntmps46
    go_wp2
    go_ret
    exact ⟨rfl, rfl⟩
  · by_cases c2 : 32768 ≤ L
    · have e : twZ L H = 2 := by unfold twZ twN; rw [if_neg c1, if_pos c2]; rfl
      rw [e]
      have t1 : decide ((H : Int) < 32768) = false := decide_eq_false (by omega)
      have t2 : decide ((32768 : Int) ≤ (L : Int)) = true := decide_eq_true (by omega)
      clear e hL hH c1 c2
      go_enter Try.func46, Try.ntmps46
      go_wp2
      go_ret
      exact ⟨rfl, rfl⟩
    · by_cases c3 : 16384 ≤ L
      · by_cases c4 : H < 49152
        · have e : twZ L H = 1 := by unfold twZ twN; rw [if_neg c1, if_neg c2, if_pos ⟨c3, c4⟩]; rfl
          rw [e]
          have t1 : decide ((H : Int) < 32768) = false := decide_eq_false (by omega)
          have t2 : decide ((32768 : Int) ≤ (L : Int)) = false := decide_eq_false (by omega)
          have t3 : decide ((16384 : Int) ≤ (L : Int)) = true := decide_eq_true (by omega)
          have t4 : decide ((H : Int) < 49152) = true := decide_eq_true (by omega)
          clear e hL hH c1 c2 c3 c4
          go_enter Try.func46, Try.ntmps46
          go_wp2
          go_ret
          exact ⟨rfl, rfl⟩
        · have e : twZ L H = -1 := by unfold twZ twN; rw [if_neg c1, if_neg c2, if_neg (by omega)]
          rw [e]
          have t1 : decide ((H : Int) < 32768) = false := decide_eq_false (by omega)
          have t2 : decide ((32768 : Int) ≤ (L : Int)) = false := decide_eq_false (by omega)
          have t3 : decide ((16384 : Int) ≤ (L : Int)) = true := decide_eq_true (by omega)
          have t4 : decide ((H : Int) < 49152) = false := decide_eq_false (by omega)
          clear e hL hH c1 c2 c3 c4
          go_enter Try.func46, Try.ntmps46
          go_wp2
          go_ret
          exact ⟨rfl, rfl⟩
      · have e : twZ L H = -1 := by unfold twZ twN; rw [if_neg c1, if_neg c2, if_neg (by omega)]
        rw [e]
        have t1 : decide ((H : Int) < 32768) = false := decide_eq_false (by omega)
        have t2 : decide ((32768 : Int) ≤ (L : Int)) = false := decide_eq_false (by omega)
        have t3 : decide ((16384 : Int) ≤ (L : Int)) = false := decide_eq_false (by omega)
        clear e hL hH c1 c2 c3
        go_enter Try.func46, Try.ntmps46
        go_wp2
        go_ret
        exact ⟨rfl, rfl⟩
end Go.Proofs.Ytcnokjiohbifeaa

namespace Go.Proofs.Ytcnokjiohbifeaa
open Go.RowKit

theorem tw_z {L H k : Nat} (h : twN L H = some k) : twZ L H = (k : Int) := by unfold twZ; rw [h]
theorem tw_z0 {L H : Nat} (h : twN L H = none) : twZ L H = -1 := by unfold twZ; rw [h]

set_option maxRecDepth 100000 in
set_option maxHeartbeats 4000000 in
theorem steps_any (L H p : Nat) (b : Bool) (h : WideR L H) (h1 : 1 ≤ p) (h2 : p ≤ 4095) (w : World) :
    Calls Try.prog 21 #[.int .i64 L, .int .i64 H, .int .i64 ((b.toNat : Nat) : Int), .int .i64 p] w fun e w' => ∃ v, e = .returned (.tuple #[.int .i64 ((stepN L H p b).1 : Nat), .int .i64 ((stepN L H p b).2.1 : Nat), v]) ∧ w'.ownsRow w.heap.size 3 1 v (stepN L H p b).2.2.length (nl (stepN L H p b).2.2) ∧ Below w.heap.size w w' := by
  obtain ⟨i0, hi, hz0, hz1, hz2⟩ := info_parts infoI
  have hsp := split_any L H p h h1 h2
  obtain ⟨r1, r2, r3⟩ := part_room h h1 h2 b
  obtain ⟨pb1, pb2, pb3⟩ := part_bounds h h1 h2 b
  have hst : dblN 14 (partN L H p b).1 (partN L H p b).2 = stepN L H p b := rfl
  obtain ⟨fL, fH, fs, hf⟩ : ∃ fL fH fs, stepN L H p b = (fL, fH, fs) := ⟨_, _, _, rfl⟩
  rw [hf] at hst ⊢
  obtain ⟨q, hq⟩ : ∃ q, q = splitN L H p := ⟨_, rfl⟩
  rw [← hq] at hsp
  obtain ⟨hw1, hw2, hw3, hw4⟩ := h
  have HSP := Lib.hid hsp
  clear hsp hf
  cases b
  · have hp1 : (partN L H p false) = (q + 1, H) := by unfold partN; rw [← hq]; rfl
    rw [hp1] at r1 r2 r3 pb1 pb2 pb3 hst
    simp only at r1 r2 r3 pb1 pb2 pb3 hst
    have HST := Lib.hid (And.intro r3 hst)
    clear r3 hst hp1 hq
    rw [show (false : Bool).toNat = 0 from rfl]
    go_enter Try.func21, Try.ntmps21
    go_wp2_with (first
      | (go_at_call 28; refine (HSP.out _).mono ?_; rintro e w9 ⟨rfl, h9⟩; subst w9))
    go_loopw [0, 1, 11] (fun a b v wr => ∃ (x y f : Nat) (s t : List Nat), a = .int .i64 (x : Int) ∧ b = .int .i64 (y : Int) ∧ x ≤ y ∧ y < 65536 ∧ s.length + f = 14 ∧ (65536 ≤ (y - x + 1) * 2 ^ f ∧ dblN f x y = (fL, fH, t) ∧ s ++ t = fs) ∧ wr.ownsRow w.heap.size 3 1 v s.length (nl s) ∧ Below w.heap.size w wr) (fun a b _ _ => 65536 - (intOf b - intOf a).toNat)
    case atStart => exact ⟨q + 1, H, 14, [], fs, by go_num, rfl, r1, r2, rfl, ⟨HST.out.1, HST.out.2, rfl⟩, by rw [nl_nil]; exact World.ownsRow_nil _ _ _ _, Below.refl _ _⟩
    case round =>
      obtain ⟨x, y, f, s, t, rfl, rfl, hxy, hy, hsf, ⟨hroom, hdbl, hst⟩, ho, hb⟩ := hrel
      clear r1 r2 pb1 pb2 pb3 hw1 hw2 hw3 hw4
      obtain ⟨A, c, hv, _, _⟩ := own_form ho
      subst hv
      have htw := twice_any x y (by omega) hy
      cases ht : twN x y with
      | none =>
        rw [dbl_wide (tw_none hy ht)] at hdbl
        obtain ⟨rfl, rfl, rfl⟩ : x = fL ∧ y = fH ∧ t = [] := by injection hdbl with e1 e2; injection e2 with e2 e3; exact ⟨e1, e2, e3.symm⟩
        rw [List.append_nil] at hst
        subst hst
        rw [tw_z0 ht] at htw
        clear hroom hdbl ht
        go_wp2_with (first
          | (go_at_call 46; refine (htw _).mono ?_; rintro e w9 ⟨rfl, h9⟩; subst w9))
        go_ret3
        exact ⟨_, rfl, ho, hb⟩
      | some k =>
        obtain ⟨k1, k2, k3⟩ := tw_some hxy hy ht
        rw [tw_z ht] at htw
        obtain ⟨g, rfl⟩ : ∃ g, f = g + 1 := by
          refine ⟨f - 1, ?_⟩
          have hf0 : f ≠ 0 := by
            rintro rfl
            rw [Nat.pow_zero, Nat.mul_one] at hroom
            obtain rfl : x = 0 := by omega
            obtain rfl : y = 65535 := by omega
            rw [tw_wide (by decide)] at ht
            cases ht
          omega
        rw [dbl_some ht] at hdbl
        have hsz : 2 * (y - 16384 * k) + 1 - 2 * (x - 16384 * k) + 1 = (y - x + 1) * 2 := by omega
        have hroom2 : 65536 ≤ (2 * (y - 16384 * k) + 1 - 2 * (x - 16384 * k) + 1) * 2 ^ g := by rw [hsz, Nat.mul_assoc, ← Nat.pow_succ']; exact hroom
        obtain ⟨t2, ht2⟩ : ∃ t2, dblN g (2 * (x - 16384 * k)) (2 * (y - 16384 * k) + 1) = (fL, fH, t2) ∧ t = k :: t2 := by
          refine ⟨(dblN g (2 * (x - 16384 * k)) (2 * (y - 16384 * k) + 1)).2.2, ?_, ?_⟩
          · injection hdbl with e1 e2
            injection e2 with e2 e3
            rw [← e1, ← e2]
          · injection hdbl with e1 e2
            injection e2 with e2 e3
            exact e3.symm
        obtain ⟨ht2, rfl⟩ := ht2
        have hst2 : (s ++ [k]) ++ t2 = fs := by rw [← hst]; simp
        have HN := Lib.hid (And.intro hroom2 (And.intro ht2 hst2))
        have HO := Lib.hid ho
        have hsn : nl (s ++ [k]) = nl s ++ [.int .i64 (k : Int)] := by rw [nl_append, nl_one']
        have HSN := Lib.hid hsn
        obtain ⟨n, hn⟩ : ∃ n, n = s.length := ⟨_, rfl⟩
        have hsl : (s ++ [k]).length = n + 1 := by rw [hn]; simp
        have HSL := Lib.hid hsl
        rw [← hn] at HO hsf ⊢
        have hn14 : n < 14 := by omega
        have HF := Lib.hid hsf
        clear hroom hdbl ht hroom2 ht2 hst2 hst ho hsn hsl hn hsf hsz
        have hk0 : (0 : Int) ≤ (k : Int) := Int.natCast_nonneg k
        go_wp2_with (first
          | (go_at_call 46; refine (htw _).mono ?_; rintro e w9 ⟨rfl, h9⟩; subst w9)
          | (at_builtin; refine wpList_app _ rfl _ _ _ rfl w.heap.size 3 i0 (.int .i64 0) 8 Try.underlying38 hi hz0 hz1 hz2 rfl _ n _ rfl (HO.out.alloc _) (wr.heap.size + 1) _ 1 _ [_] rfl (Sl.one _ _ _) (fun u hu => by obtain rfl := List.mem_singleton.1 hu; rfl) (by unfold maxLen; omega) (by omega) (Nat.le_trans hb.size (by simp)) ?_; intro v2 w2 hown2 hg2))
        go_roundw
        case rel => exact ⟨2 * (x - 16384 * k), 2 * (y - 16384 * k) + 1, g, s ++ [k], t2, by go_num, by go_num, by omega, k3, by rw [HSL.out]; have := HF.out; omega, HN.out, by rw [HSN.out, HSL.out]; exact hown2, blw_grown (hb.alloc hb.size _) hg2 (Nat.le_trans hb.size (by simp)) (HO.out.alloc _) (Nat.le_refl _)⟩
        case measure => simp [intOf]; omega
  · have hp1 : (partN L H p true) = (L, q) := by unfold partN; rw [← hq]; rfl
    rw [hp1] at r1 r2 r3 pb1 pb2 pb3 hst
    simp only at r1 r2 r3 pb1 pb2 pb3 hst
    have HST := Lib.hid (And.intro r3 hst)
    clear r3 hst hp1 hq
    rw [show (true : Bool).toNat = 1 from rfl]
    go_enter Try.func21, Try.ntmps21
    go_wp2_with (first
      | (go_at_call 28; refine (HSP.out _).mono ?_; rintro e w9 ⟨rfl, h9⟩; subst w9))
    go_loopw [0, 1, 11] (fun a b v wr => ∃ (x y f : Nat) (s t : List Nat), a = .int .i64 (x : Int) ∧ b = .int .i64 (y : Int) ∧ x ≤ y ∧ y < 65536 ∧ s.length + f = 14 ∧ (65536 ≤ (y - x + 1) * 2 ^ f ∧ dblN f x y = (fL, fH, t) ∧ s ++ t = fs) ∧ wr.ownsRow w.heap.size 3 1 v s.length (nl s) ∧ Below w.heap.size w wr) (fun a b _ _ => 65536 - (intOf b - intOf a).toNat)
    case atStart => exact ⟨L, q, 14, [], fs, rfl, rfl, r1, r2, rfl, ⟨HST.out.1, HST.out.2, rfl⟩, by rw [nl_nil]; exact World.ownsRow_nil _ _ _ _, Below.refl _ _⟩
    case round =>
      obtain ⟨x, y, f, s, t, rfl, rfl, hxy, hy, hsf, ⟨hroom, hdbl, hst⟩, ho, hb⟩ := hrel
      clear r1 r2 pb1 pb2 pb3 hw1 hw2 hw3 hw4
      obtain ⟨A, c, hv, _, _⟩ := own_form ho
      subst hv
      have htw := twice_any x y (by omega) hy
      cases ht : twN x y with
      | none =>
        rw [dbl_wide (tw_none hy ht)] at hdbl
        obtain ⟨rfl, rfl, rfl⟩ : x = fL ∧ y = fH ∧ t = [] := by injection hdbl with e1 e2; injection e2 with e2 e3; exact ⟨e1, e2, e3.symm⟩
        rw [List.append_nil] at hst
        subst hst
        rw [tw_z0 ht] at htw
        clear hroom hdbl ht
        go_wp2_with (first
          | (go_at_call 46; refine (htw _).mono ?_; rintro e w9 ⟨rfl, h9⟩; subst w9))
        go_ret3
        exact ⟨_, rfl, ho, hb⟩
      | some k =>
        obtain ⟨k1, k2, k3⟩ := tw_some hxy hy ht
        rw [tw_z ht] at htw
        obtain ⟨g, rfl⟩ : ∃ g, f = g + 1 := by
          refine ⟨f - 1, ?_⟩
          have hf0 : f ≠ 0 := by
            rintro rfl
            rw [Nat.pow_zero, Nat.mul_one] at hroom
            obtain rfl : x = 0 := by omega
            obtain rfl : y = 65535 := by omega
            rw [tw_wide (by decide)] at ht
            cases ht
          omega
        rw [dbl_some ht] at hdbl
        have hsz : 2 * (y - 16384 * k) + 1 - 2 * (x - 16384 * k) + 1 = (y - x + 1) * 2 := by omega
        have hroom2 : 65536 ≤ (2 * (y - 16384 * k) + 1 - 2 * (x - 16384 * k) + 1) * 2 ^ g := by rw [hsz, Nat.mul_assoc, ← Nat.pow_succ']; exact hroom
        obtain ⟨t2, ht2⟩ : ∃ t2, dblN g (2 * (x - 16384 * k)) (2 * (y - 16384 * k) + 1) = (fL, fH, t2) ∧ t = k :: t2 := by
          refine ⟨(dblN g (2 * (x - 16384 * k)) (2 * (y - 16384 * k) + 1)).2.2, ?_, ?_⟩
          · injection hdbl with e1 e2
            injection e2 with e2 e3
            rw [← e1, ← e2]
          · injection hdbl with e1 e2
            injection e2 with e2 e3
            exact e3.symm
        obtain ⟨ht2, rfl⟩ := ht2
        have hst2 : (s ++ [k]) ++ t2 = fs := by rw [← hst]; simp
        have HN := Lib.hid (And.intro hroom2 (And.intro ht2 hst2))
        have HO := Lib.hid ho
        have hsn : nl (s ++ [k]) = nl s ++ [.int .i64 (k : Int)] := by rw [nl_append, nl_one']
        have HSN := Lib.hid hsn
        obtain ⟨n, hn⟩ : ∃ n, n = s.length := ⟨_, rfl⟩
        have hsl : (s ++ [k]).length = n + 1 := by rw [hn]; simp
        have HSL := Lib.hid hsl
        rw [← hn] at HO hsf ⊢
        have hn14 : n < 14 := by omega
        have HF := Lib.hid hsf
        clear hroom hdbl ht hroom2 ht2 hst2 hst ho hsn hsl hn hsf hsz
        have hk0 : (0 : Int) ≤ (k : Int) := Int.natCast_nonneg k
        go_wp2_with (first
          | (go_at_call 46; refine (htw _).mono ?_; rintro e w9 ⟨rfl, h9⟩; subst w9)
          | (at_builtin; refine wpList_app _ rfl _ _ _ rfl w.heap.size 3 i0 (.int .i64 0) 8 Try.underlying38 hi hz0 hz1 hz2 rfl _ n _ rfl (HO.out.alloc _) (wr.heap.size + 1) _ 1 _ [_] rfl (Sl.one _ _ _) (fun u hu => by obtain rfl := List.mem_singleton.1 hu; rfl) (by unfold maxLen; omega) (by omega) (Nat.le_trans hb.size (by simp)) ?_; intro v2 w2 hown2 hg2))
        go_roundw
        case rel => exact ⟨2 * (x - 16384 * k), 2 * (y - 16384 * k) + 1, g, s ++ [k], t2, by go_num, by go_num, by omega, k3, by rw [HSL.out]; have := HF.out; omega, HN.out, by rw [HSN.out, HSL.out]; exact hown2, blw_grown (hb.alloc hb.size _) hg2 (Nat.le_trans hb.size (by simp)) (HO.out.alloc _) (Nat.le_refl _)⟩
        case measure => simp [intOf]; omega
end Go.Proofs.Ytcnokjiohbifeaa
