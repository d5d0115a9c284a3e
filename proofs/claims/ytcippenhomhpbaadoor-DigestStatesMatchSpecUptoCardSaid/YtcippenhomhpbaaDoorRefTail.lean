/-
  The contract of the reference's Tail: the bytes behind the last whole block, with the padding.
-/
import Derived.Test.YtcippenhomhpbaaDoorRefMix
import Derived.Test.YtcippenhomhpbaaDoorWrites
namespace Go.Proofs.YtcippenhomhpbaaDoor
open Go.RowKit

theorem padBytes_form (n : Nat) : padBytes n = [128] ++ List.replicate (zeroCount n) 0 ++ (List.range 8).map (sizeByte n) := by
  unfold padBytes endPart
  simp
theorem zeros_more (n k l : Nat) (hl : l % 64 = n % 64) (h : k < zeroCount n) : (l + 1 + k) % 64 ≠ 56 := by
  unfold zeroCount at h
  omega
theorem zeros_done (n l : Nat) (hl : l % 64 = n % 64) : (l + 1 + zeroCount n) % 64 = 56 := by
  unfold zeroCount
  omega
/-- the bytes of a length, the last k of them laid -/
def sizePart (n k : Nat) : List UInt8 := (List.range 8).map fun j => if 8 - k ≤ j then sizeByte n j else 0
theorem sizePart_zero (n : Nat) : sizePart n 0 = List.replicate 8 0 := by
  simp only [sizePart]
  apply List.ext_getElem
  · simp
  · intro i h1 h2
    have hi : i < 8 := by simpa using h1
    simp only [List.getElem_map, List.getElem_range, List.getElem_replicate]
    rw [if_neg (by omega)]
theorem sizePart_all (n : Nat) : sizePart n 8 = (List.range 8).map (sizeByte n) := by simp [sizePart]
theorem sizePart_length (n k : Nat) : (sizePart n k).length = 8 := by simp [sizePart]
theorem sizePart_next (n k : Nat) (h : k < 8) : (sizePart n k).set (7 - k) (sizeByte n (7 - k)) = sizePart n (k + 1) := by
  apply List.ext_getElem
  · simp [sizePart]
  · intro i h1 h2
    have hi : i < 8 := by simpa [sizePart] using h2
    simp only [sizePart, List.getElem_set, List.getElem_map, List.getElem_range]
    by_cases e : 7 - k = i
    · subst e
      rw [if_pos rfl, if_pos (by omega)]
    · rw [if_neg e]
      by_cases h3 : 8 - k ≤ i
      · rw [if_pos h3, if_pos (by omega)]
      · rw [if_neg h3, if_neg (by omega)]
/-- 8n without its last k bytes -/
def sizeRest (n k : Nat) : Nat := 8 * n / 256 ^ k
theorem sizeRest_zero (n : Nat) : sizeRest n 0 = 8 * n := by simp [sizeRest]
theorem sizeRest_next (n k : Nat) : sizeRest n k / 256 = sizeRest n (k + 1) := by
  unfold sizeRest
  rw [Nat.div_div_eq_div_mul, Nat.pow_succ]
theorem sizeRest_le (n k : Nat) : sizeRest n k ≤ 8 * n := Nat.div_le_self _ _
theorem sizeRest_byte (n k : Nat) (h : k < 8) : ((sizeRest n k : Int) % 256) = ((sizeByte n (7 - k)).toNat : Int) := by
  unfold sizeRest sizeByte
  rw [show 7 - (7 - k) = k by omega, Nat.pow_mul, UInt8.toNat_ofNat']
  simp
attribute [irreducible] sizePart sizeRest
theorem cells8b : (Tryd.prog.info? 71).map (·.size) = some 8 := by kernel_rfl
theorem z8b_lit : (#[.int .u8 0, .int .u8 0, .int .u8 0, .int .u8 0, .int .u8 0, .int .u8 0, .int .u8 0, .int .u8 0] : Array Value) = bs (List.replicate 8 0) := by kernel_rfl

/-- the length of a slice -/
def lenOf : Value → Nat
  | .slice _ n _ => n
  | _ => 0
set_option maxRecDepth 100000 in
set_option maxHeartbeats 4000000 in
/-- scriptoriumref3.Tail -/
theorem refTail_any (A : Option Addr) (L : List UInt8) (l c : Nat) (n : Nat) (w : World) (hL : Sl w w.heap.size A l (bl L)) (hl : l ≤ 70368744177664) (hn : n ≤ 1125899906842624) (hm : l % 64 = n % 64) :
    Calls Tryd.prog 33 #[.slice A l c, .int .i64 n] w fun e w' => ∃ v, e = .returned v ∧ w'.ownsRow w.heap.size 5 1 v (L ++ padBytes n).length (bl (L ++ padBytes n)) ∧ Below w.heap.size w w' := by
  obtain ⟨i0, hi, hz0, hz1, hz2⟩ := info_parts infoB
  have hzl := zeroCount_le n
  have HM := Lib.hid hm
  clear hm
  go_enter Tryd.func33, Tryd.ntmps33
  go_upto_region 3 with (at_builtin; refine wpList_app _ rfl _ _ _ rfl w.heap.size 5 i0 (.int .u8 0) 1 Tryd.underlying22 hi hz0 hz1 hz2 rfl _ 0 [] rfl (World.ownsRow_nil _ _ _ _) w.heap.size _ l _ _ rfl hL (bl_one _) (by unfold maxLen; omega) (by omega) (Nat.le_refl _) ?_; intro v1 w1 hown1 hg1)
  have hb1 : Below w.heap.size w w1 := (Below.refl _ _).grown hg1 (Nat.le_refl _) (fun k hk => by cases hk)
  rw [Nat.zero_add, List.nil_append] at hown1
  clear hg1
  go_upto_region 4 with (at_builtin; refine wpList_app _ rfl _ _ _ rfl w.heap.size 5 i0 (.int .u8 0) 1 Tryd.underlying22 hi hz0 hz1 hz2 rfl _ l _ rfl (hown1.alloc _) (w1.heap.size + 1) _ 1 _ [_] rfl (Sl.one _ _ _) (fun u hu => by obtain rfl := List.mem_singleton.1 hu; rfl) (by unfold maxLen; omega) (by omega) (Nat.le_trans hb1.size (by simp)) ?_; intro v2 w2 hown2 hg2)
  have hb2 : Below w.heap.size w w2 := blw_grown (hb1.alloc hb1.size _) hg2 (Nat.le_trans hb1.size (by simp)) (hown1.alloc _) (Nat.le_refl _)
  have ho2 : w2.ownsRow w.heap.size 5 1 v2 (l + 1 + 0) (bl (L ++ [128] ++ List.replicate 0 0)) := by
    rw [List.replicate_zero, List.append_nil, bl_append, bl_cons, bl_nil]
    exact hown2
  clear hg2 hown2 hown1 hb1
  go_loopw [5] (fun v wr => ∃ k : Nat, k ≤ zeroCount n ∧ wr.ownsRow w.heap.size 5 1 v (l + 1 + k) (bl (L ++ [128] ++ List.replicate k 0)) ∧ Below w.heap.size w wr) (fun v _ => l + 1 + zeroCount n - lenOf v)
  case atStart => exact ⟨0, by omega, ho2, hb2⟩
  case round =>
    clear ho2 hb2
    obtain ⟨k, hk, ho, hb⟩ := hrel
    obtain ⟨q, hq⟩ : ∃ q, q = l + 1 + k := ⟨_, rfl⟩
    have hql : q ≤ l + 64 := by omega
    rw [← hq] at ho
    obtain ⟨A2, c2, rfl, hc2, hcm2⟩ := own_form ho
    have HQ := Lib.hid hq
    by_cases hlt : k < zeroCount n
    · have hz : ((q : Int) % 64 != 56) = true := by
        have := zeros_more n k l HM.out hlt
        rw [bne_iff_ne]
        omega
      clear hq
      go_wp2_with (at_builtin; refine wpList_app _ rfl _ _ _ rfl w.heap.size 5 i0 (.int .u8 0) 1 Tryd.underlying22 hi hz0 hz1 hz2 rfl _ q _ rfl (ho.alloc _) (wr.heap.size + 1) _ 1 _ [_] rfl (Sl.one _ _ _) (fun u hu => by obtain rfl := List.mem_singleton.1 hu; rfl) (by unfold maxLen; omega) (by omega) (Nat.le_trans hb.size (by simp)) ?_; intro v3 w3 hown3 hg3)
      go_roundw
      case rel =>
        refine ⟨k + 1, by omega, ?_, blw_grown (hb.alloc hb.size _) hg3 (Nat.le_trans hb.size (by simp)) (ho.alloc _) (Nat.le_refl _)⟩
        rw [List.replicate_succ', ← List.append_assoc, bl_append, bl_cons, bl_nil, ← Nat.add_assoc, ← HQ.out]
        exact hown3
      case measure =>
        obtain ⟨A3, c3, rfl, _, _⟩ := own_form hown3
        simp [lenOf]
        have := HQ.out
        omega
    · obtain rfl : k = zeroCount n := by omega
      have hz : ((q : Int) % 64 != 56) = false := by
        have := zeros_done n l HM.out
        rw [bne_eq_false_iff_eq]
        omega
      clear hlt hk hq
      go_wp2
      clear hz
      have HZ := Lib.hid (sizeRest_zero n)
      rw [show Value.int IntKind.i64 ((n : Int) * 8) = .int .i64 (sizeRest n 0 : Nat) by rw [HZ.out]; go_num]
      refine wp_world (F := fun W => W.ownsRow w.heap.size 5 1 (.slice A2 q c2) q (bl (L ++ [128] ++ List.replicate (zeroCount n) 0)) ∧ Row W wr.heap.size 71 (bs (List.replicate 8 0)) ∧ Below w.heap.size w W) ⟨ho.alloc _, Row.newEq _ _ _ _ _ rfl z8b_lit, hb.alloc hb.size _⟩ ?_
      have hgs := hb.size
      have hlo := ho.lt
      clear HZ
      generalize wr.heap.size = gs at *
      clear ho hb wr
      rintro W0 ⟨ho, r1, hb⟩
      go_loopw [6, 8] (fun x i wr => ∃ j : Nat, j ≤ 8 ∧ i = .int .i64 ((j : Int) - 1) ∧ x = .int .i64 (sizeRest n (8 - j) : Nat) ∧ wr.ownsRow w.heap.size 5 1 (.slice A2 q c2) q (bl (L ++ [128] ++ List.replicate (zeroCount n) 0)) ∧ Row wr gs 71 (bs (sizePart n (8 - j))) ∧ Below w.heap.size w wr) (fun _ i _ => (intOf i + 1).toNat)
      case atStart => exact ⟨8, by omega, by go_num, rfl, ho, by rw [sizePart_zero]; exact r1, hb⟩
      case round =>
        clear ho r1 hb
        obtain ⟨j, hj, rfl, rfl, ho, r1, hb⟩ := hrel
        by_cases hlt : 0 < j
        · obtain ⟨p, rfl⟩ : ∃ p, j = p + 1 := ⟨j - 1, by omega⟩
          have hp : p ≤ 7 := by omega
          rw [show 8 - (p + 1) = 7 - p by omega] at r1 ⊢
          have hle := sizeRest_le n (7 - p)
          have HB := Lib.hid (sizeRest_byte n (7 - p) (by omega))
          have HN := Lib.hid (sizeRest_next n (7 - p))
          have HP := Lib.hid (sizePart_next n (7 - p) (by omega))
          have f1 := r1.free p
          have hc1 := (r1.cell p).trans (bs_get _ _ (by rw [sizePart_length]; omega))
          generalize sizeRest n (7 - p) = x at *
          rw [show ((p + 1 : Nat) : Int) - 1 = (p : Int) by omega]
          go_wp2
          go_roundw
          case rel =>
            refine ⟨p, by omega, rfl, ?_, ownsRow_setCell_other ho (fun h => Nat.lt_irrefl _ (hlo _ h).2) _, ?_, hb.setCell (by simp; omega) _⟩
            · rw [show 8 - p = 7 - p + 1 by omega, ← HN.out]
              go_num
            · rw [show 8 - p = 7 - p + 1 by omega, ← HP.out, ← bs_set, show 7 - (7 - p) = p by omega]
              have := HB.out
              rw [show 7 - (7 - p) = p by omega] at this
              rw [← this]
              exact r1.put _ _
          case measure => simp [intOf]
        · obtain rfl : j = 0 := by omega
          have hsrc : Sl wr wr.heap.size (some ⟨gs, 0, none⟩) 8 (bl (sizePart n 8)) := by
            have h := Sl.of_head (bk := bl (sizePart n 8)) (by rw [← bs_bl]; exact r1) 8 (by rw [bl_length, sizePart_length]; omega)
            rwa [List.take_of_length_le (by rw [bl_length, sizePart_length]; omega)] at h
          go_wp2_with (at_builtin; refine wpList_app _ rfl _ _ _ rfl w.heap.size 5 i0 (.int .u8 0) 1 Tryd.underlying22 hi hz0 hz1 hz2 rfl _ q _ rfl ho wr.heap.size _ 8 _ _ rfl hsrc (bl_one _) (by unfold maxLen; omega) (by omega) hb.size ?_; intro v4 w4 hown4 hg4)
          go_ret
          refine ⟨_, rfl, ?_, blw_grown hb hg4 hb.size ho (Nat.le_refl _)⟩
          rw [padBytes_form, ← List.append_assoc, ← List.append_assoc]
          have hLl : L.length = l := by rw [← bl_length]; exact hL.1
          have e : (L ++ [128] ++ List.replicate (zeroCount n) 0 ++ List.map (sizeByte n) (List.range 8)).length = q + 8 := by
            rw [HQ.out]
            simp [hLl]
            omega
          rw [e, bl_append, ← sizePart_all]
          exact hown4
end Go.Proofs.YtcippenhomhpbaaDoor
