/-
  The contract of the reference's Packed.
-/
import Derived.Test.YtahihgmlkcbfiaaRBits3
namespace Go.Proofs.Ytahihgmlkcbfiaa
open Go.RowKit

/-- the call made the bits l, alone -/
def BitsOne (w : World) (l : List Bool) (e : Ending) (w' : World) : Prop :=
  ∃ A c, e = .returned (.agg (bcs A (pack l).length c l.length)) ∧ Sl w' w'.heap.size A (pack l).length (bl (pack l)) ∧ Below w.heap.size w w'
theorem byte_snoc (l : List Bool) (j : Nat) (h : j < (pack l).length) (x : UInt8) (hx : x = (pack l).getD j 0) : bl ((pack l).take (j + 1)) = bl ((pack l).take j) ++ [.int .u8 (x.toNat : Int)] := by
  subst hx
  rw [List.take_succ_eq_append_getElem h, bl_append]
  unfold bl
  simp [List.getD_eq_getElem?_getD, h]

set_option maxRecDepth 100000 in
set_option maxHeartbeats 2000000 in
theorem packed_any (l : List Bool) (hl : l.length ≤ 1000000) (A : Option Addr) (c : Nat) (n : Nat) (hn : n = l.length) (w : World) (hS : Sl w w.heap.size A n (il l)) :
    Calls Try.prog 26 #[.slice A n c] w (BitsOne w l) := by
  obtain ⟨i0, hi, hz0, hz1, hz2⟩ := info_parts infoU8
  have HL := Lib.hid (pack_length l)
  have hpl : 8 * (pack l).length ≤ n + 7 ∧ n ≤ 8 * (pack l).length := by rw [pack_length]; omega
  obtain ⟨hp1, hp2⟩ := hpl
  have hnl : n ≤ 1000000 := by omega
  have HN := Lib.hid hn
  clear hn hl
  go_enter Try.func26, Try.ntmps26
  go_upto_region 1 with (fail)
  refine wp_world (F := fun W => Row W w.heap.size 43 (bcs none 0 0 0) ∧ Below w.heap.size w W) ⟨Row.newEq _ _ _ _ _ rfl rfl, (Below.refl _ _).alloc (Nat.le_refl _) _⟩ ?_
  rintro W0 ⟨r0, hb0⟩
  go_wp2
  go_loopw [3, 4] (fun v i wr => ∃ j : Nat, j ≤ (pack l).length ∧ i = .int .i64 ((8 * j : Nat) : Int) ∧ wr.ownsRow (w.heap.size + 1) 5 1 v j (bl ((pack l).take j)) ∧ Row wr w.heap.size 43 (bcs none 0 0 0) ∧ Below w.heap.size w wr) (fun _ i _ => 8 * (pack l).length - (intOf i).toNat)
  case atStart => exact ⟨0, Nat.zero_le _, rfl, by rw [List.take_zero, bl_nil]; exact World.ownsRow_nil _ _ _ _, r0, hb0⟩
  case round =>
    clear r0 hb0
    obtain ⟨j, hj, rfl, ho, r0, hb⟩ := hrel
    have hrl := r0.lt
    by_cases hlt : j < (pack l).length
    · have hSr := hS.below hb
      have h8 : 8 * j < n := by omega
      have HLT := Lib.hid hlt
      obtain ⟨i, hii⟩ : ∃ i, i = 8 * j := ⟨_, rfl⟩
      rw [← hii] at h8 ⊢
      have HI := Lib.hid hii
      have h8i : i + 8 ≤ 8 * (pack l).length := by omega
      clear hlt hii
      go_wp2
      go_loop [5, 6] (fun q kk => ∃ t : Nat, t ≤ 8 ∧ kk = .int .i64 ((i + t : Nat) : Int) ∧ q = .int .i64 (numF (fun u => l.getD (i + u) false) t)) (fun _ kk => i + 8 - (intOf kk).toNat)
      case atStart => exact ⟨0, Nat.zero_le _, rfl, rfl⟩
      case round =>
        obtain ⟨t, ht, rfl, rfl⟩ := hrel
        by_cases ht8 : t < 8
        · have hq2 := numF_lt (fun u => l.getD (i + u) false) t
          have h60 : 2 ^ t ≤ 2 ^ 8 := Nat.pow_le_pow_right (by omega) (by omega)
          have hs := numF_succ (fun u => l.getD (i + u) false) t
          obtain ⟨q, hq⟩ : ∃ q, q = numF (fun u => l.getD (i + u) false) t := ⟨_, rfl⟩
          rw [← hq] at hq2 hs ⊢
          have hq3 : q < 256 := Nat.lt_of_lt_of_le hq2 h60
          by_cases hin : i + t < n
          · obtain ⟨ad, rfl, hbl, hcell⟩ := hSr.bit hin
            obtain ⟨b, hbv⟩ : ∃ b, b = (l.getD (i + t) false).toNat := ⟨_, rfl⟩
            have hb2 : b < 2 := by rw [hbv]; exact bool_lt _
            rw [← hbv] at hs hcell
            have HSS := Lib.hid hs
            clear hq hs hbv hq2 h60
            go_wp2
            go_round
            case rel => exact ⟨t + 1, by omega, by go_num, by rw [HSS.out]; go_num⟩
            case measure => simp [intOf]; omega
          · have hz : l.getD (i + t) false = false := by
              rw [List.getD_eq_getElem?_getD, List.getElem?_eq_none (by rw [← HN.out]; omega)]
              rfl
            rw [hz] at hs
            have HSS := Lib.hid hs
            clear hq hs hq2 h60 hz
            go_wp2
            go_round
            case rel => exact ⟨t + 1, by omega, by go_num, by rw [HSS.out]; go_num⟩
            case measure => simp [intOf]; omega
        · obtain rfl : t = 8 := by omega
          have hx := pack_getD l j (by rw [← HL.out]; exact HLT.out)
          have hbn := byte_num (fun k => l.getD (8 * j + k) false)
          rw [← hx, ← HI.out] at hbn
          obtain ⟨x, hxx⟩ : ∃ x, x = (pack l).getD j 0 := ⟨_, rfl⟩
          rw [← hxx] at hbn
          obtain ⟨q, hq⟩ : ∃ q, q = numF (fun k => l.getD (i + k) false) 8 := ⟨_, rfl⟩
          have hq2 := numF_lt (fun u => l.getD (i + u) false) 8
          rw [← hq] at hbn hq2 ⊢
          have hx2 := x.toNat_lt
          have HBN := Lib.hid hbn
          have HX := Lib.hid (byte_snoc l j HLT.out x hxx)
          clear hbn hxx hq hx
          go_wp2_with (at_builtin; refine wpList_app _ rfl _ _ _ rfl (w.heap.size + 1) 5 i0 (.int .u8 0) 1 Try.underlying22 hi hz0 hz1 hz2 rfl _ j _ rfl (ho.alloc _) (wr.heap.size + 1) _ 1 _ [_] rfl (Sl.one _ _ _) (fun u hu => by obtain rfl := List.mem_singleton.1 hu; rfl) (by unfold maxLen; omega) (by omega) (Nat.le_trans hrl (by simp)) ?_; intro v2 w2 hown2 hg2)
          go_roundw
          case rel =>
            refine ⟨j + 1, HLT.out, ?_, by rw [HX.out, HBN.out]; exact hown2, ?_, ?_⟩
            · rw [HI.out]
              go_num
            · exact (r0.alloc _).grown hg2 (fun h => Nat.lt_irrefl _ (ho.lt _ h.symm).1)
            · exact blw_grown (hb.alloc hb.size _) hg2 (Nat.le_trans hb.size (by simp)) (ho.alloc _) (Nat.le_succ _)
          case measure =>
            have hi8 : i + 8 ≤ 8 * (pack l).length := by have := HLT.out; have := HI.out; omega
            simp [intOf]
            omega
    · obtain rfl : j = (pack l).length := by omega
      rw [List.take_length] at ho
      obtain ⟨A2, c2, hv2, _, _⟩ := own_form ho
      subst hv2
      have hs2 := Sl.of_own ho
      go_wp2_with (first
        | (refine wpList_store_row rfl 43 _ _ rfl w.heap.size (bcs A2 (pack l).length c2 n) rfl rfl 43 (bcs none 0 0 0) r0 (by rw [bcs_size]; exact cellsB) rfl (all_one (bcs_one _ _ _ _)) ?_))
      refine bodyPost_ret (results_row Try.results26 _ _ w.heap.size 43 (bcs A2 (pack l).length c2 n) _ rfl (Row.row r0 _) Try.underlying43 rfl (by rw [bcs_size]; exact cellsB)) rfl ?_
      refine ⟨A2, c2, by rw [HN.out], ?_, blw_row hb (Nat.le_refl _) _⟩
      exact Sl.keepRow hs2 (fun b hbk => (ho.lt b hbk).1) (Nat.lt_succ_self _) _
end Go.Proofs.Ytahihgmlkcbfiaa
