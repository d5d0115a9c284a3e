/-
  The contract of the reference's AllBits.
-/
import Derived.Test.YtgpacgmgdnongaaRBit
import Derived.Test.YtgpacgmgdnongaaIL
namespace Go.Proofs.Ytgpacgmgdnongaa
open Go.RowKit

/-- the bits of bytes -/
def allB (L : List UInt8) : List Bool := (List.range (8 * L.length)).map fun i => bt L i
theorem allB_length (L : List UInt8) : (allB L).length = 8 * L.length := by simp [allB]

set_option maxRecDepth 100000 in
set_option maxHeartbeats 4000000 in
theorem allbits_any (L : List UInt8) (hl : L.length ≤ 100000) (A : Option Addr) (c : Nat) (w : World) (hS : Sl w w.heap.size A L.length (bl L)) :
    Calls Try.prog 17 #[.slice A L.length c] w fun e w' => ∃ v, e = .returned v ∧ w'.ownsRow w.heap.size 3 1 v (8 * L.length) (il (allB L)) ∧ Below w.heap.size w w' := by
  obtain ⟨i0, hi, hz0, hz1, hz2⟩ := info_parts infoI
  have hn : (allB L).length = 8 * L.length := allB_length L
  obtain ⟨n, hnn⟩ : ∃ n, n = L.length := ⟨_, rfl⟩
  have HL := Lib.hid (And.intro hn hnn)
  have HS := Lib.hid hS
  rw [← hnn] at hl ⊢
  clear hn hS hnn
  go_enter Try.func17, Try.ntmps17
  go_wp2
  go_loopw [3, 4] (fun v i wr => ∃ j : Nat, j ≤ 8 * n ∧ i = .int .i64 j ∧ wr.ownsRow w.heap.size 3 1 v j (il ((allB L).take j)) ∧ Below w.heap.size w wr) (fun _ i _ => 8 * n - (intOf i).toNat)
  case atStart => exact ⟨0, Nat.zero_le _, rfl, by rw [List.take_zero, il_nil]; exact World.ownsRow_nil _ _ _ _, Below.refl _ _⟩
  case round =>
    obtain ⟨j, hj, rfl, ho, hb⟩ := hrel
    by_cases hlt : j < 8 * n
    · have hbit := rbit_any L A c j (by rw [← HL.out.2]; exact hlt) (by have := HL.out.2; omega) wr (HS.out.up hb)
      have hsn := il_snoc (allB L) j (by rw [HL.out.1, ← HL.out.2]; exact hlt) _ rfl
      have hgd : (allB L).getD j false = bt L j := by
        unfold allB
        rw [List.getD_eq_getElem?_getD, List.getElem?_map, List.getElem?_range (by rw [← HL.out.2]; exact hlt)]
        rfl
      rw [hgd] at hsn
      rw [← HL.out.2] at hbit
      obtain ⟨x, hx⟩ : ∃ x, x = (((bt L j).toNat : Nat) : Int) := ⟨_, rfl⟩
      rw [← hx] at hbit hsn
      have HB := Lib.hid hbit
      have HSN := Lib.hid hsn
      have HO := Lib.hid ho
      clear hbit hsn hgd hx ho
      have hj2 : (j : Int) < 8 * (n : Int) := by omega
      go_wp2_with (first
        | (go_at_call 25; refine HB.out.mono ?_; rintro e w15 ⟨rfl, nq, rfl⟩)
        | (at_builtin; refine wpList_app _ rfl _ _ _ rfl w.heap.size 3 i0 (.int .i64 0) 8 Try.underlying22 hi hz0 hz1 hz2 rfl _ j _ rfl ((own_drewN HO.out nq).alloc _) (wr.heap.size + 1) _ 1 _ [_] rfl (Sl.one _ _ _) (fun u hu => by obtain rfl := List.mem_singleton.1 hu; rfl) (by unfold maxLen; omega) (by omega) (Nat.le_trans hb.size (by simp)) ?_; intro v2 w2 hown2 hg2))
      go_roundw
      case rel => exact ⟨j + 1, by omega, by go_num, by rw [HSN.out]; exact hown2, blw_grown ((blw_drewN hb nq).alloc hb.size _) hg2 (Nat.le_trans hb.size (by simp)) ((own_drewN HO.out nq).alloc _) (Nat.le_refl _)⟩
      case measure => simp [intOf]; omega
    · obtain rfl : j = 8 * n := by omega
      have hj2 : ¬ (((8 * n : Nat) : Int) < 8 * (n : Int)) := by omega
      go_wp2
      go_ret
      exact ⟨_, rfl, by rw [List.take_of_length_le (by rw [HL.out.1, ← HL.out.2]; exact Nat.le_refl _)] at ho; exact ho, hb⟩
end Go.Proofs.Ytgpacgmgdnongaa
