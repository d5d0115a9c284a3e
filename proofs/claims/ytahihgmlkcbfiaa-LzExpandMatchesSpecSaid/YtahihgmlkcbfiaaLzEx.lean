/-
  The walk of LzExpandMatchesSpec.
-/
import Derived.Test.YtahihgmlkcbfiaaLzPs
import Derived.Deep.RegionHeld3
namespace Go.Proofs.Ytahihgmlkcbfiaa.lawLzExp
open Go.RowKit

set_option maxRecDepth 100000 in
set_option maxHeartbeats 8000000 in
theorem walk (H : LZ) (ts : List TokZ) (n : Nat) (hn : n ≤ 9223372036854775807) (E : List UInt8) (m : Nat) (A B : Option Addr) (c d : Nat) (w : World) (hA : Tks w w.heap.size A n ts) (hB : Sl w w.heap.size B m (bl E)) (R : List UInt8) (q : Nat) (k i : Int)
    (hex : ∀ w, Tks w w.heap.size A n ts → Sl w w.heap.size B m (bl E) → Calls Try.prog 16 #[.slice A n c, .slice B m d] w fun e w' => ∃ G g, e = .returned (.tuple #[.slice G q g, .agg (flt k i)]) ∧ Sl w' w'.heap.size G q (bl R) ∧ Below w.heap.size w w')
    (hrf : ∀ w, Tks w w.heap.size A n ts → Sl w w.heap.size B m (bl E) → Calls Try.prog 17 #[.slice A n c, .slice B m d] w fun e w' => ∃ G g, e = .returned (.tuple #[.slice G q g, .agg (flt k i)]) ∧ Sl w' w'.heap.size G q (bl R) ∧ Below w.heap.size w w') :
    Calls Try.prog 4 #[.slice A n c, .slice B m d] w fun e w' => e = .returned (.bool true) ∧ Below w.heap.size w w' := by
  have hee : ∀ w : World, (binOp .eql 25 (.agg (flt k i)) (.agg (flt k i))).run Try.prog w = .ok (.bool true) w := fun w => by have h := eql_flt k i k i w; simp only [beq_self_eq_true, Bool.and_self] at h; exact h
  have HR := Lib.hid hrf
  have HA := Lib.hid (And.intro hA hB)
  have HX := Lib.hid hex
  clear hrf hex hA hB
  go_enter Try.func4, Try.ntmps4
  go_upto_region 2 with (first
    | (go_at_call 16; refine (HX.out _ HA.out.1 HA.out.2).mono ?_; rintro e w1 ⟨G1, c1, rfl, s1, hb1⟩)
    | (refine wpList_store_row rfl 25 _ _ rfl w1.heap.size (flt k i) rfl rfl 25 (flt 0 0) ((Row.newEq _ _ _ _ _ rfl rfl)) (by rw [flt_size]; exact cellsF) rfl (all_one (flt_one _ _)) ?_))
  have hkw := blw_new1 w1 (.cells #[.int .i64 0, .int .i64 0] 25) (flt k i)
  have hk2 := up_call hb1 hkw
  refine wp_world (F := fun W => Row W w1.heap.size 25 (flt k i) ∧ Sl W W.heap.size G1 q (bl R) ∧ Tks W W.heap.size A n ts ∧ Sl W W.heap.size B m (bl E) ∧ Below w.heap.size w W) ⟨row_new1 _ _ _ _, s1.up hkw, HA.out.1.up hk2, HA.out.2.up hk2, hk2⟩ ?_
  generalize w1.heap.size = g6
  clear hkw hk2 hb1 s1 HA HX w1
  rintro W1 ⟨r6, s1, sA, sB, hb⟩
  go_upto_region 3 with (first
    | (go_at_call 17; refine (HR.out _ sA sB).mono ?_; rintro e w2 ⟨G2, c2, rfl, s2, hb2⟩)
    | (refine wpList_store_row rfl 25 _ _ rfl w2.heap.size (flt k i) rfl rfl 25 (flt 0 0) ((Row.newEq _ _ _ _ _ rfl rfl)) (by rw [flt_size]; exact cellsF) rfl (all_one (flt_one _ _)) ?_))
  have hkw := blw_new1 w2 (.cells #[.int .i64 0, .int .i64 0] 25) (flt k i)
  have hk2 := up_call hb2 hkw
  refine wp_world (F := fun W => Row W w2.heap.size 25 (flt k i) ∧ Row W g6 25 (flt k i) ∧ Sl W W.heap.size G2 q (bl R) ∧ Sl W W.heap.size G1 q (bl R) ∧ Tks W W.heap.size A n ts ∧ Below w.heap.size w W) ⟨row_new1 _ _ _ _, r6.below hk2 r6.lt, s2.up hkw, s1.up hk2, sA.up hk2, up_call hb hk2⟩ ?_
  generalize w2.heap.size = g8
  clear hkw hk2 hb2 s1 s2 sA sB r6 hb HR w2
  rintro W2 ⟨r8, r6, s2, s1, sA, hb⟩
  have HS := Lib.hid (And.intro r8 (And.intro r6 (And.intro s2 (And.intro s1 sA))))
  clear r8 r6 s2 s1 sA
  go_upto_region 4 with (fail)
  go_loopw [9] (fun x wr => ∃ j : Nat, j ≤ n ∧ x = .int .i64 j ∧ Below W2.heap.size W2 wr) (fun x _ => n - (intOf x).toNat)
  case atStart => exact ⟨0, Nat.zero_le _, rfl, Below.refl _ _⟩
  case round =>
    obtain ⟨j, hj, rfl, hbr⟩ := hrel
    by_cases hlt : j < n
    · obtain ⟨ad, rfl, hbl, k1, k2, k3⟩ := (HS.out.2.2.2.2.up hbr).at_ hlt
      obtain ⟨x, y, z, ht⟩ : ∃ x y z, ts.getD j (0, 0, 0) = (x, y, z) := ⟨_, _, _, rfl⟩
      rw [ht] at k1 k2 k3
      simp only at k1 k2 k3
      have hv := H.valid x y z
      have ho := tokenok_any x y z
      obtain ⟨b, hbq⟩ : ∃ b, b = decide (okT (x, y, z)) := ⟨_, rfl⟩
      rw [← hbq] at hv ho
      obtain ⟨zz, hzz⟩ : ∃ zz : Int, zz = (z.toNat : Int) := ⟨_, rfl⟩
      unfold tcs at hv ho
      rw [← hzz] at k3 hv ho
      have hadb : (ad.add (j * 3)).block < wr.heap.size := by rw [add_block]; exact hbl
      have HV := Lib.hid hv
      have HO := Lib.hid ho
      have hkeep : ∀ W, Below wr.heap.size wr W → W.cell? (ad.add (j * 3)) = some (.int .i64 x) ∧ W.cell? ⟨(ad.add (j * 3)).block, (ad.add (j * 3)).off + 1, none⟩ = some (.int .i64 y) ∧ W.cell? ⟨(ad.add (j * 3)).block, (ad.add (j * 3)).off + 2, none⟩ = some (.int .u8 zz) := fun W h =>
        ⟨(h.cell (p := ad.add (j * 3)) hadb).trans k1, (h.cell (p := ⟨(ad.add (j * 3)).block, (ad.add (j * 3)).off + 1, none⟩) hadb).trans k2, (h.cell (p := ⟨(ad.add (j * 3)).block, (ad.add (j * 3)).off + 2, none⟩) hadb).trans k3⟩
      have HK := Lib.hid hkeep
      clear hkeep k1 k2 k3 hv ho ht hbq hzz hbl
      have kk0 : Below wr.heap.size wr wr.drew := (Below.refl wr.heap.size wr).drew
      go_upto_region 6 with (fail)
      go_region_held3 (fun W => W.cell? (ad.add (j * 3)) = some (.int .i64 x) ∧ W.cell? ⟨(ad.add (j * 3)).block, (ad.add (j * 3)).off + 1, none⟩ = some (.int .i64 y) ∧ W.cell? ⟨(ad.add (j * 3)).block, (ad.add (j * 3)).off + 2, none⟩ = some (.int .u8 zz))
        (first
          | exact HK.out _ kk0
          | exact HK.out _ (up_call kk0 hb4)
          | exact HK.out _ (up_call (up_call kk0 hb4) hb5))
        (first
          | (go_at_call 18; refine (HV.out _).mono ?_; rintro e w4 ⟨rfl, hb4⟩)
          | (go_at_call 19; refine (HO.out _).mono ?_; rintro e w5 ⟨rfl, hb5⟩))
      all_goals
        have kk := up_call (up_call kk0 hb4) hb5
        cases b
        all_goals
          go_wp2
          go_roundw
          case rel => exact ⟨j + 1, by omega, by go_num, up_call hbr kk⟩
          case measure => simp [intOf]; omega
    · obtain rfl : n = j := by omega
      obtain ⟨r8, r6, s2, s1, sA⟩ := HS.out
      have q8 := r8.below hbr r8.lt
      have q6 := r6.below hbr r6.lt
      have p1 := s1.up hbr
      have p2 := s2.up hbr
      have hbw := up_call hb hbr
      clear r8 r6 s2 s1 sA HS
      have hsame := fun w hL hM => same_any G1 G2 R R q q c1 c2 w hL hM
      rw [show decide (R = R) = true by simp] at hsame
      have HSM := Lib.hid hsame
      clear hsame
      go_wp2_with (first
        | (go_at_call 13; refine (matches_any H wr).mono ?_; rintro e w7 ⟨rfl, hb7⟩; have u6 := q6.below hb7 q6.lt; have u8 := q8.below hb7 q8.lt; have v1 := p1.up hb7; have v2 := p2.up hb7)
        | (refine wpList_load_rowG (by simp [Region.wanted, yielded, Act.put]) 25 _ rfl g6 rfl 25 (flt k i) (0, 0) _ (u6) Try.underlying25 rfl (by rw [flt_size]; exact cellsF) ?_)
        | (refine wpList_load_rowG (by simp [Region.wanted, yielded, Act.put]) 25 _ rfl g8 rfl 25 (flt k i) (0, 0) _ (u8) Try.underlying25 rfl (by rw [flt_size]; exact cellsF) ?_)
        | (go_at_call 20; refine (HSM.out _ v1 v2).mono ?_; rintro e w9 ⟨rfl, h9⟩; subst w9))
      go_ret
      exact ⟨rfl, up_call hbw hb7⟩
end Go.Proofs.Ytahihgmlkcbfiaa.lawLzExp
