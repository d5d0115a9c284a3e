/-
  What the walks of ArithGetMatchesSpec share.
-/
import Derived.Test.YtcnokjiohbifeaaAArgs
import Derived.Test.YtcnokjiohbifeaaRBits2
import Derived.Test.YtcnokjiohbifeaaRInts
import Derived.Test.YtcnokjiohbifeaaIL
namespace Go.Proofs.Ytcnokjiohbifeaa.lawGet
open Go.RowKit

theorem eql_dcs (a b c d e f g h : Int) (w : World) : (binOp .eql 47 (.agg (dcs a b c d)) (.agg (dcs e f g h))).run Try.prog w = .ok (.bool (a == e && b == f && c == g && d == h)) w := by
  unfold dcs
  simp [go_sem, Try.underlying47]
  by_cases h1 : a = e <;> by_cases h2 : b = f <;> by_cases h3 : c = g <;> by_cases h4 : d = h <;> simp [h1, h2, h3, h4]
theorem neq_dcs (a b c d e f g h : Int) (w : World) : (binOp .neq 47 (.agg (dcs a b c d)) (.agg (dcs e f g h))).run Try.prog w = .ok (.bool (!(a == e && b == f && c == g && d == h))) w := by
  unfold dcs
  simp [go_sem, Try.underlying47]
  by_cases h1 : a = e <;> by_cases h2 : b = f <;> by_cases h3 : c = g <;> by_cases h4 : d = h <;> simp [h1, h2, h3, h4]
theorem eqin_dcs (a b c d e f g k : Int) (w : World) : (Op.equalIn 10000 47 (.agg (dcs a b c d)) (.agg (dcs e f g k))).run Try.prog w = .ok (a == e && b == f && c == g && d == k) w := by
  have h := eql_dcs a b c d e f g k w
  simp only [binOp] at h
  simp only [Op.equal, Op.maxDepth, Sem.run_bind] at h
  cases hq : (Op.equalIn 10000 47 (.agg (dcs a b c d)) (.agg (dcs e f g k))).run Try.prog w with
  | ok v w' =>
    rw [hq] at h
    simp only [Result.andThen_ok, Sem.run_pure, Result.ok.injEq, Value.bool.injEq] at h
    rw [h.1, h.2]
  | halt e w' =>
    rw [hq] at h
    simp at h
theorem eqin_flt (a b c d : Int) (w : World) : (Op.equalIn 10000 28 (.agg (flt a b)) (.agg (flt c d))).run Try.prog w = .ok (a == c && b == d) w := by
  have h := eql_flt a b c d w
  simp only [binOp] at h
  simp only [Op.equal, Op.maxDepth, Sem.run_bind] at h
  cases hq : (Op.equalIn 10000 28 (.agg (flt a b)) (.agg (flt c d))).run Try.prog w with
  | ok v w' =>
    rw [hq] at h
    simp only [Result.andThen_ok, Sem.run_pure, Result.ok.injEq, Value.bool.injEq] at h
    rw [h.1, h.2]
  | halt e w' =>
    rw [hq] at h
    simp at h
/-- the rows of the walks: the arguments' boxes, what Open gives, what Get gives -/
def Six (W : World) (g0 g7 g10 : Nat) (D C O F X Y : Array Value) : Prop :=
  (Row W g0 47 D ∧ Row W (g0 + 1) 26 C) ∧ (Row W g7 47 O ∧ Row W (g7 + 1) 28 F) ∧ Row W g10 47 X ∧ Row W (g10 + 1) 28 Y
section
variable {w W : World} {g0 g7 g10 B : Nat} {D C O F X Y : Array Value} (h : Six w g0 g7 g10 D C O F X Y)
include h
theorem Six.r0 : Row w g0 47 D := h.1.1
theorem Six.r1 : Row w (g0 + 1) 26 C := h.1.2
theorem Six.r7 : Row w g7 47 O := h.2.1.1
theorem Six.r8 : Row w (g7 + 1) 28 F := h.2.1.2
theorem Six.r10 : Row w g10 47 X := h.2.2.1
theorem Six.r11 : Row w (g10 + 1) 28 Y := h.2.2.2
theorem Six.below (hb : Below w.heap.size w W) : Six W g0 g7 g10 D C O F X Y :=
  ⟨⟨h.r0.below hb h.r0.lt, h.r1.below hb h.r1.lt⟩, ⟨h.r7.below hb h.r7.lt, h.r8.below hb h.r8.lt⟩, h.r10.below hb h.r10.lt, h.r11.below hb h.r11.lt⟩
end
theorem isRow_drewN (w : World) (k g n : Nat) : IsRow (w.drewN k) g n = IsRow w g n := rfl
theorem rowAt_drewN (w : World) (k g : Nat) : rowAt (w.drewN k) g = rowAt w g := rfl
theorem il_pad (l : List Bool) (j : Nat) : il (l ++ List.replicate (j + 1) false) = il (l ++ List.replicate j false) ++ [.int .i64 0] := by
  rw [List.replicate_succ', ← List.append_assoc, il_append]
  unfold il
  rfl
theorem pad_getD (l : List Bool) (m j : Nat) : (l ++ List.replicate m false).getD j false = l.getD j false := by
  rw [List.getD_eq_getElem?_getD, List.getD_eq_getElem?_getD]
  by_cases h : j < l.length
  · rw [List.getElem?_append_left h]
  · rw [List.getElem?_append_right (by omega), List.getElem?_eq_none (Nat.le_of_not_lt h), List.getElem?_replicate]
    split <;> rfl
theorem pad_num (l : List Bool) (m k : Nat) (h : k ≤ l.length + m) : valB ((l ++ List.replicate m false).take k) = numF (fun j => l.getD j false) k := by
  have hl : ((l ++ List.replicate m false).take k).length = k := by rw [List.length_take, List.length_append, List.length_replicate]; omega
  unfold valB
  rw [hl]
  refine numF_congr fun i hi => ?_
  rw [List.getD_eq_getElem?_getD, List.getElem?_take, if_pos hi, ← List.getD_eq_getElem?_getD, pad_getD]
theorem own_atc {w : World} {base : Nat} {e : TypeId} {v : Value} {n : Nat} {xs : List Value} (h : w.ownsRow base e 1 v n xs) (hn : n ≠ 0) : ∃ g c, v = .slice (some ⟨g, 0, none⟩) n c ∧ n ≤ c ∧ c ≤ maxLen := by
  rcases h.2 with ⟨_, h0⟩ | ⟨g, cap, cur, h1, _, _, h2, h3, _⟩
  · exact absurd h0 hn
  · exact ⟨g, cap, h1, h2, h3⟩
theorem own_lower {w : World} {base b2 : Nat} {e : TypeId} {v : Value} {n : Nat} {xs : List Value} (h : w.ownsRow base e 1 v n xs) (hb : b2 ≤ base) : w.ownsRow b2 e 1 v n xs := by
  refine ⟨h.1, ?_⟩
  rcases h.2 with h0 | ⟨g, cap, cur, h1, h2, h3⟩
  · exact .inl h0
  · exact .inr ⟨g, cap, cur, h1, Nat.le_trans hb h2, h3⟩
theorem move_take (C : Nat → Bool) (v : Int) (i : Nat) (s : List Nat) (t : Nat) (h : t < s.length) : moveZ C v i (s.take (t + 1)) = 2 * (moveZ C v i (s.take t) - 16384 * ((s.getD t 0 : Nat) : Int)) + (((C (i + t)).toNat : Nat) : Int) := by
  rw [List.take_succ_eq_append_getElem h, moveZ_append, List.length_take, Nat.min_eq_left (Nat.le_of_lt h), moveZ, moveZ]
  simp [List.getD_eq_getElem?_getD, h]
theorem move_small (C : Nat → Bool) : ∀ (s : List Nat) (v : Int) (i B : Nat), (∀ k ∈ s, k ≤ 2) → -(B : Int) ≤ v → v ≤ B → -(((B + 65540) * 2 ^ s.length : Nat) : Int) ≤ moveZ C v i s ∧ moveZ C v i s ≤ (((B + 65540) * 2 ^ s.length : Nat) : Int)
  | [], v, i, B, _, h1, h2 => by
    rw [moveZ, List.length_nil, Nat.pow_zero, Nat.mul_one]
    omega
  | k :: s, v, i, B, hk, h1, h2 => by
    have k2 := hk k List.mem_cons_self
    have b1 : (C i).toNat < 2 := bool_lt _
    have ih := move_small C s (2 * (v - 16384 * (k : Int)) + ((C i).toNat : Int)) (i + 1) (2 * B + 65540) (fun q hq => hk q (List.mem_cons_of_mem _ hq)) (by omega) (by omega)
    have e : (2 * B + 65540 + 65540) * 2 ^ s.length = (B + 65540) * 2 ^ (k :: s).length := by
      rw [List.length_cons, Nat.pow_succ, show 2 * B + 65540 + 65540 = (B + 65540) * 2 by omega, Nat.mul_assoc, Nat.mul_comm 2]
    rw [e] at ih
    rw [moveZ]
    exact ih
theorem move_step {C : Nat → Bool} {L H v i p : Nat} (hw : WideR L H) (h1 : 1 ≤ p) (h2 : p ≤ 4095) (hv1 : L ≤ v) (hv2 : v ≤ H) : (moveN C v i (stepN L H p (decide (v ≤ splitN L H p))).2.2 : Int) = moveZ C v i (stepN L H p (decide (v ≤ splitN L H p))).2.2 := by
  obtain ⟨r1, r2, r3⟩ := part_room hw h1 h2 (decide (v ≤ splitN L H p))
  obtain ⟨p1, p2⟩ := part_of L H p v hv1 hv2
  exact (move_dbl C 14 _ _ v i p1 p2 r2).1
theorem move_room (C : Nat → Bool) (s : List Nat) (v i : Nat) (t : Nat) (hk : ∀ k ∈ s, k ≤ 2) (hv : v ≤ 65535) (ht : t ≤ 14) : -2147532800 ≤ moveZ C v i (s.take t) ∧ moveZ C v i (s.take t) ≤ 2147532800 := by
  have h := move_small C (s.take t) v i 65535 (fun k h => hk k (List.mem_of_mem_take h)) (by omega) (by omega)
  have hp : 2 ^ (s.take t).length ≤ 2 ^ 14 := Nat.pow_le_pow_right (by omega) (by rw [List.length_take]; omega)
  have hm : (65535 + 65540) * 2 ^ (s.take t).length ≤ (65535 + 65540) * 2 ^ 14 := Nat.mul_le_mul_left _ hp
  generalize (65535 + 65540) * 2 ^ (s.take t).length = z at *
  omega
end Go.Proofs.Ytcnokjiohbifeaa.lawGet
