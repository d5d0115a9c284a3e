/-
  The contracts of the reference's Bits, Digits and Number.
-/
import Derived.Test.YtahihgmlkcbfiaaRBits2
import Derived.Test.YtahihgmlkcbfiaaIL
namespace Go.Proofs.Ytahihgmlkcbfiaa
open Go.RowKit

set_option maxRecDepth 100000 in
set_option maxHeartbeats 2000000 in
/-- Bits of a valid bit string -/
theorem rbits_any (L : List UInt8) (l : List Bool) (hR : Rep L l) (hl : l.length ≤ 131072) (A : Option Addr) (c : Nat) (w : World) (hS : Sl w w.heap.size A L.length (bl L)) :
    Calls Try.prog 32 #[.agg (bcs A L.length c l.length)] w fun e w' => ∃ v, e = .returned v ∧ w'.ownsRow (w.heap.size + 1) 3 1 v l.length (il l) ∧ Below w.heap.size w w' := by
  obtain ⟨i0, hi, hz0, hz1, hz2⟩ := info_parts infoI
  have hln := hR.len
  have hl1 : L.length ≤ 16384 := by omega
  have hl2 : l.length ≤ 8 * L.length := by omega
  have HT := Lib.hid hR
  clear hln hR
  go_enter Try.func32, Try.ntmps32
  go_upto_region 1 with (fail)
  refine wp_world (F := fun W => Row W w.heap.size 43 (bcs A L.length c l.length) ∧ w.heap.size < W.heap.size ∧ Below w.heap.size w W) ⟨Row.new _ _ _, (by simp), (Below.refl _ _).alloc (Nat.le_refl _) _⟩ ?_
  rintro W0 ⟨r0, hgt, hb0⟩
  go_wp2
  go_loopw [3, 4] (fun v i wr => ∃ j : Nat, j ≤ l.length ∧ i = .int .i64 j ∧ wr.ownsRow (w.heap.size + 1) 3 1 v j (il (l.take j)) ∧ Row wr w.heap.size 43 (bcs A L.length c l.length) ∧ Below w.heap.size w wr) (fun _ i _ => l.length - (intOf i).toNat)
  case atStart => exact ⟨0, Nat.zero_le _, rfl, by rw [List.take_zero, il_nil]; exact World.ownsRow_nil _ _ _ _, r0, hb0⟩
  case round =>
    clear r0 hb0
    obtain ⟨j, hj, rfl, ho, r0, hb⟩ := hrel
    have c0 : wr.cell? ⟨w.heap.size, 0, none⟩ = some (.slice A L.length c) := (r0.cell 0).trans rfl
    have c1 : wr.cell? ⟨w.heap.size, 1, none⟩ = some (.int .i64 (l.length : Int)) := (r0.cell 1).trans rfl
    have hrl := r0.lt
    by_cases hlt : j < l.length
    · have hSr := (hS.below hb).wider hb.size
      obtain ⟨b, hbv⟩ : ∃ b : Int, b = (((l.getD j false).toNat : Nat) : Int) := ⟨_, rfl⟩
      have hb2 : b = ((bt L j).toNat : Int) := by rw [HT.out.2]; exact hbv
      have HB := Lib.hid hb2
      have HN := Lib.hid (il_snoc l j hlt b hbv)
      clear hb2 hbv
      go_wp2_with (first
        | (go_at_call 48; refine (rbit_is L A c j b HB.out (by omega) (by omega) _ hSr).mono ?_; rintro e w1 ⟨rfl, nq, rfl⟩)
        | (at_builtin; refine wpList_app _ rfl _ _ _ rfl (w.heap.size + 1) 3 i0 (.int .i64 0) 8 Try.underlying48 hi hz0 hz1 hz2 rfl _ j _ rfl ((own_drewN ho nq).alloc _) (wr.heap.size + 1) _ 1 _ [_] rfl (Sl.one _ _ _) (fun u hu => by obtain rfl := List.mem_singleton.1 hu; rfl) (by unfold maxLen; omega) (by omega) (Nat.le_trans hrl (by simp)) ?_; intro v2 w2 hown2 hg2))
      go_roundw
      case rel =>
        refine ⟨j + 1, by omega, by go_num, by rw [HN.out]; exact hown2, ?_, ?_⟩
        · exact ((r0.drewN nq).alloc _).grown hg2 (fun h => Nat.lt_irrefl _ (ho.lt _ h.symm).1)
        · exact blw_grown ((blw_drewN hb nq).alloc hb.size _) hg2 (Nat.le_trans hb.size (by simp)) ((own_drewN ho nq).alloc _) (Nat.le_succ _)
      case measure => simp [intOf]; omega
    · obtain rfl : j = l.length := by omega
      rw [List.take_length] at ho
      go_wp2
      go_ret
      exact ⟨_, rfl, ho, hb⟩
end Go.Proofs.Ytahihgmlkcbfiaa
