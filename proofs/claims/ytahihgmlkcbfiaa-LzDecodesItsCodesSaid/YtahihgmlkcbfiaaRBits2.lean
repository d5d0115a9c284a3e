/-
  The contracts of the reference's functions on bits: Power and Bit (RBit), for those that need bits too. The contracts of the reference's SameBits, BitsOk and Bits. A bit string is valid or not; two that are the same.
-/
import Derived.Test.YtahihgmlkcbfiaaBOut
import Derived.Test.YtahihgmlkcbfiaaRKit
import Derived.Test.YtahihgmlkcbfiaaRBit
namespace Go.Proofs.Ytahihgmlkcbfiaa
open Go.RowKit

set_option maxRecDepth 100000 in
set_option maxHeartbeats 1000000 in
theorem sameb_yes (L : List UInt8) (k : Int) (A B : Option Addr) (n c d : Nat) (w : World) (hL : Sl w w.heap.size A n (bl L)) (hM : Sl w w.heap.size B n (bl L)) :
    Calls Try.prog 24 #[.agg (bcs A n c k), .agg (bcs B n d k)] w fun e w' => e = .returned (.bool true) ∧ Below w.heap.size w w' := by
  have hb : Below w.heap.size w ((w.alloc (.cells (bcs A n c k) 43)).alloc (.cells (bcs B n d k) 43)) := ((Below.refl _ _).alloc (Nat.le_refl _) _).alloc (by simp) _
  have hL' := (hL.below hb).wider hb.size
  have hM' := (hM.below hb).wider hb.size
  unfold bcs at hb hL' hM' ⊢
  go_enter Try.func24, Try.ntmps24
  go_wp2_with (first
    | (go_at_call 20; refine (same_any A B L L n n c d _ hL' hM').mono ?_; rintro e w1 ⟨rfl, rfl⟩))
  go_ret
  exact ⟨by simp, hb⟩
set_option maxRecDepth 100000 in
set_option maxHeartbeats 1000000 in
theorem sameb_no (L M : List UInt8) (k j : Int) (A B : Option Addr) (n m c d : Nat) (hne : k = j → L ≠ M) (w : World) (hL : Sl w w.heap.size A n (bl L)) (hM : Sl w w.heap.size B m (bl M)) :
    Calls Try.prog 24 #[.agg (bcs A n c k), .agg (bcs B m d j)] w fun e w' => e = .returned (.bool false) ∧ Below w.heap.size w w' := by
  have hb : Below w.heap.size w ((w.alloc (.cells (bcs A n c k) 43)).alloc (.cells (bcs B m d j) 43)) := ((Below.refl _ _).alloc (Nat.le_refl _) _).alloc (by simp) _
  have hL' := (hL.below hb).wider hb.size
  have hM' := (hM.below hb).wider hb.size
  unfold bcs at hb hL' hM' ⊢
  by_cases hk : k = j
  · subst hk
    have hlm := Lib.hid (hne rfl)
    clear hne
    go_enter Try.func24, Try.ntmps24
    go_wp2_with (first
      | (go_at_call 20; refine (same_any A B L M n m c d _ hL' hM').mono ?_; rintro e w1 ⟨rfl, rfl⟩))
    go_ret
    exact ⟨ret_bool (decide_eq_false hlm.out), hb⟩
  · have h1 : (k == j) = false := beq_eq_false_iff_ne.2 hk
    clear hne
    go_enter Try.func24, Try.ntmps24
    go_wp2
    go_ret
    exact ⟨rfl, hb⟩

theorem rbit_is (L : List UInt8) (A : Option Addr) (c i : Nat) (b : Int) (hbv : b = ((bt L i).toNat : Int)) (hi : i < 8 * L.length) (hl : L.length ≤ 1000000) (w : World) (hS : Sl w w.heap.size A L.length (bl L)) :
    Calls Try.prog 48 #[.slice A L.length c, .int .i64 i] w fun e w' => e = .returned (.int .i64 b) ∧ ∃ n, w' = w.drewN n := by
  subst hbv
  exact rbit_any L A c i hi hl w hS

set_option maxRecDepth 100000 in
set_option maxHeartbeats 2000000 in
theorem ok_count (L : List UInt8) (A : Option Addr) (c : Nat) (k : Int) (hk : k < 0 ∨ 131072 < k) (w : World) :
    Calls Try.prog 28 #[.agg (bcs A L.length c k)] w fun e w' => e = .returned (.bool false) ∧ Below w.heap.size w w' := by
  unfold bcs
  have HK := Lib.hid hk
  clear hk
  go_enter Try.func28, Try.ntmps28
  go_wp2_with (go_at_call 30; refine (in_no k 0 131072 HK.out _).mono ?_; rintro e w1 ⟨rfl, rfl⟩)
  go_ret
  exact ⟨rfl, (Below.refl _ _).alloc (Nat.le_refl _) _⟩
set_option maxRecDepth 100000 in
set_option maxHeartbeats 2000000 in
theorem ok_length (L : List UInt8) (A : Option Addr) (c n : Nat) (hn : n ≤ 131072) (hl : L.length ≠ (n + 7) / 8) (w : World) :
    Calls Try.prog 28 #[.agg (bcs A L.length c n)] w fun e w' => e = .returned (.bool false) ∧ Below w.heap.size w w' := by
  obtain ⟨k, hk⟩ : ∃ k, k = L.length := ⟨_, rfl⟩
  rw [← hk] at hl ⊢
  have h3 : ((k : Int) == ((n : Int) + 7) / 8) = false := beq_eq_false_iff_ne.2 (by omega)
  have h4 : ((k : Int) != ((n : Int) + 7) / 8) = true := bne_iff_ne.2 (by omega)
  clear hk hl
  unfold bcs
  go_enter Try.func28, Try.ntmps28
  go_wp2_with (go_at_call 30; refine (in_yes n 0 131072 (by omega) (by omega) _).mono ?_; rintro e w1 ⟨rfl, rfl⟩)
  go_ret
  exact ⟨rfl, (Below.refl _ _).alloc (Nat.le_refl _) _⟩

set_option maxRecDepth 100000 in
set_option maxHeartbeats 2000000 in
/-- the bits behind the last one, up to place k, are zeros; place k is the end, or a one -/
theorem ok_upto (L : List UInt8) (A : Option Addr) (c n k : Nat) (hn : n ≤ 131072) (hl : L.length = (n + 7) / 8) (hk0 : n ≤ k) (hk : k ≤ 8 * L.length) (hz : ∀ i, n ≤ i → i < k → bt L i = false) (hend : k < 8 * L.length → bt L k = true) (w : World) (hS : Sl w w.heap.size A L.length (bl L)) :
    Calls Try.prog 28 #[.agg (bcs A L.length c n)] w fun e w' => e = .returned (.bool (decide (k = 8 * L.length))) ∧ Below w.heap.size w w' := by
  have h3 : ((L.length : Int) == ((n : Int) + 7) / 8) = true := beq_iff_eq.2 (by omega)
  have h4 : ((L.length : Int) != ((n : Int) + 7) / 8) = false := by
    rw [bne, h3]
    rfl
  have hl2 : L.length ≤ 16384 := by omega
  have HZ := Lib.hid hz
  have HE := Lib.hid hend
  clear hl hz hend
  go_enter Try.func28, Try.ntmps28
  go_upto_region 1 with (fail)
  refine wp_world (F := fun W => Row W w.heap.size 43 (bcs A L.length c n) ∧ Sl W W.heap.size A L.length (bl L) ∧ Below w.heap.size w W) ⟨Row.new _ _ _, hS.up ((Below.refl _ _).alloc (Nat.le_refl _) _), (Below.refl _ _).alloc (Nat.le_refl _) _⟩ ?_
  clear hS
  rintro W0 ⟨r0, hS, hb0⟩
  have c0 : W0.cell? ⟨w.heap.size, 0, none⟩ = some (.slice A L.length c) := (r0.cell 0).trans rfl
  have c1 : W0.cell? ⟨w.heap.size, 1, none⟩ = some (.int .i64 (n : Int)) := (r0.cell 1).trans rfl
  go_wp2_with (go_at_call 30; refine (in_yes n 0 131072 (by omega) (by omega) _).mono ?_; rintro e w1 ⟨rfl, rfl⟩)
  go_loopw [3] (fun i wr => ∃ j : Nat, n ≤ j ∧ j ≤ k ∧ i = .int .i64 j ∧ Row wr w.heap.size 43 (bcs A L.length c n) ∧ Sl wr wr.heap.size A L.length (bl L) ∧ Below w.heap.size w wr) (fun i _ => 8 * L.length - (intOf i).toNat)
  case atStart => exact ⟨n, Nat.le_refl _, hk0, rfl, r0, hS, hb0⟩
  case round =>
    clear r0 hS hb0 c0 c1
    obtain ⟨j, hj0, hj, rfl, r0, hS, hb⟩ := hrel
    have c0 : wr.cell? ⟨w.heap.size, 0, none⟩ = some (.slice A L.length c) := (r0.cell 0).trans rfl
    by_cases hlt : j < k
    · have hz : (0 : Int) = ((bt L j).toNat : Int) := by rw [HZ.out j hj0 hlt]; rfl
      have HB := Lib.hid hz
      clear hz
      go_wp2_with (go_at_call 48; refine (rbit_is L A c j 0 HB.out (by omega) (by omega) _ hS).mono ?_; rintro e w1 ⟨rfl, nq, rfl⟩)
      go_roundw
      case rel => exact ⟨j + 1, by omega, by omega, by go_num, r0.drewN _, hS.drewN _, blw_drewN hb _⟩
      case measure => simp [intOf]; omega
    · obtain rfl : j = k := by omega
      by_cases he : j < 8 * L.length
      · have hz : (1 : Int) = ((bt L j).toNat : Int) := by rw [HE.out he]; rfl
        have HB := Lib.hid hz
        clear hz
        go_wp2_with (go_at_call 48; refine (rbit_is L A c j 1 HB.out (by omega) (by omega) _ hS).mono ?_; rintro e w1 ⟨rfl, nq, rfl⟩)
        go_ret
        exact ⟨ret_bool (by rw [decide_eq_false (by omega)]), blw_drewN hb _⟩
      · have h8 : j = 8 * L.length := by omega
        have H8 := Lib.hid h8
        clear h8
        go_wp2_with fail
        go_ret
        exact ⟨ret_bool (by rw [decide_eq_true H8.out]), hb⟩

/-- where the zeros from n on end -/
theorem zeros_from (L : List UInt8) (n : Nat) : ∀ d, n + d ≤ 8 * L.length → ∃ k, n ≤ k ∧ k ≤ n + d ∧ (∀ i, n ≤ i → i < k → bt L i = false) ∧ (k < n + d → bt L k = true)
  | 0, _ => ⟨n, Nat.le_refl _, Nat.le_refl _, fun i h1 h2 => absurd h2 (by omega), fun h => absurd h (by omega)⟩
  | d + 1, h => by
    obtain ⟨k, h1, h2, h3, h4⟩ := zeros_from L n d (by omega)
    by_cases hk : k < n + d
    · exact ⟨k, h1, by omega, h3, fun _ => h4 hk⟩
    · cases hb : bt L k with
      | true => exact ⟨k, h1, by omega, h3, fun _ => hb⟩
      | false =>
        refine ⟨k + 1, by omega, by omega, fun i h5 h6 => ?_, fun h => absurd h (by omega)⟩
        by_cases hik : i = k
        · rw [hik]; exact hb
        · exact h3 i h5 (by omega)
/-- BitsOk of a valid bit string -/
theorem ok_yes (L : List UInt8) (l : List Bool) (hR : Rep L l) (hl : l.length ≤ 131072) (A : Option Addr) (c : Nat) (w : World) (hS : Sl w w.heap.size A L.length (bl L)) :
    Calls Try.prog 28 #[.agg (bcs A L.length c l.length)] w fun e w' => e = .returned (.bool true) ∧ Below w.heap.size w w' := by
  have hln := hR.len
  refine (ok_upto L A c l.length (8 * L.length) hl hln (by omega) (Nat.le_refl _) (fun i h1 _ => ?_) (fun h => absurd h (Nat.lt_irrefl _)) w hS).mono fun e w' ⟨he, hb⟩ => ⟨by rw [he, decide_eq_true rfl], hb⟩
  rw [hR.2, List.getD_eq_getElem?_getD, List.getElem?_eq_none h1]
  rfl
/-- BitsOk of what is none -/
theorem ok_no (L : List UInt8) (k : Int) (hG : ¬ Good L k) (A : Option Addr) (c : Nat) (w : World) (hS : Sl w w.heap.size A L.length (bl L)) :
    Calls Try.prog 28 #[.agg (bcs A L.length c k)] w fun e w' => e = .returned (.bool false) ∧ Below w.heap.size w w' := by
  by_cases hk : k < 0 ∨ 131072 < k
  · exact ok_count L A c k hk w
  · obtain ⟨n, rfl⟩ : ∃ n : Nat, k = n := ⟨k.toNat, by omega⟩
    by_cases hl : L.length = (n + 7) / 8
    · obtain ⟨m, h1, h2, h3, h4⟩ := zeros_from L n (8 * L.length - n) (by omega)
      have h5 : n + (8 * L.length - n) = 8 * L.length := by omega
      rw [h5] at h2 h4
      refine (ok_upto L A c n m (by omega) hl h1 h2 h3 h4 w hS).mono fun e w' ⟨he, hb⟩ => ⟨?_, hb⟩
      rw [he, decide_eq_false]
      intro hm
      subst hm
      refine hG ⟨cutB L 0 n, by rw [cutB_length], by rw [cutB_length]; omega, rep_of L n hl fun i hi => ?_⟩
      by_cases hi8 : i < 8 * L.length
      · exact h3 i hi hi8
      · exact bt_out L i (by omega)
    · exact ok_length L A c n (by omega) hl w
end Go.Proofs.Ytahihgmlkcbfiaa

namespace Go.Proofs.Ytahihgmlkcbfiaa
open Go.RowKit

theorem good_dec (L : List UInt8) (k : Int) : (∃ l : List Bool, k = (l.length : Int) ∧ l.length ≤ 131072 ∧ L = pack l) ∨ ¬ Good L k := by
  by_cases h : Good L k
  · obtain ⟨l, h1, h2, h3⟩ := h
    exact .inl ⟨l, h1, h2, h3.pack⟩
  · exact .inr h
theorem good_pack (l : List Bool) (hl : l.length ≤ 131072) : Good (pack l) l.length := ⟨l, rfl, hl, pack_rep l⟩
/-- two bit strings that are the same -/
theorem same_pack (l : List Bool) (k : Int) (A B : Option Addr) (c d : Nat) (w : World) (hL : Sl w w.heap.size A (pack l).length (bl (pack l))) (hM : Sl w w.heap.size B (pack l).length (bl (pack l))) :
    Calls Try.prog 24 #[.agg (bcs A (pack l).length c k), .agg (bcs B (pack l).length d k)] w fun e w' => e = .returned (.bool true) ∧ Below w.heap.size w w' :=
  sameb_yes (pack l) k A B _ c d w hL hM
/-- no bits are the same as no bits -/
theorem same_none (w : World) : Calls Try.prog 24 #[.agg (bcs none 0 0 0), .agg #[.slice none 0 0, .int .i64 0]] w fun e w' => e = .returned (.bool true) ∧ Below w.heap.size w w' :=
  sameb_yes [] 0 none none 0 0 0 w (by rw [bl_nil]; exact Sl.nil _ _ _) (by rw [bl_nil]; exact Sl.nil _ _ _)
end Go.Proofs.Ytahihgmlkcbfiaa
