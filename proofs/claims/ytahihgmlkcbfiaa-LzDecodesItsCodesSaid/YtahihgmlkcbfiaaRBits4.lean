/-
  The contracts of the reference's Digits.
-/
import Derived.Test.YtahihgmlkcbfiaaRBits3
import Derived.Test.YtahihgmlkcbfiaaRNum
namespace Go.Proofs.Ytahihgmlkcbfiaa
open Go.RowKit

/-- the digits behind some rounds -/
def dgB (v m j : Nat) : List Bool := (List.range m).map fun i => decide (j ≤ i) && v.testBit (m - 1 - i)
theorem dgB_length (v m j : Nat) : (dgB v m j).length = m := by simp [dgB]
theorem dgB_last (v m : Nat) : dgB v m m = List.replicate m false := by
  apply List.ext_getElem
  · simp [dgB]
  · intro i h1 h2
    have hi : i < m := by simpa [dgB] using h1
    simp only [dgB, List.getElem_map, List.getElem_range, List.getElem_replicate]
    rw [decide_eq_false (by omega)]
    rfl
theorem dgB_first (v m : Nat) : dgB v m 0 = digB v m := by
  unfold dgB digB
  simp
theorem dgB_next (v m j : Nat) (_h : j < m) : dgB v m j = (dgB v m (j + 1)).set j (v.testBit (m - 1 - j)) := by
  apply List.ext_getElem
  · simp [dgB]
  · intro i h1 h2
    have hi : i < m := by simpa [dgB] using h1
    rw [List.getElem_set]
    by_cases hij : j = i
    · subst hij
      simp [dgB]
    · rw [if_neg hij]
      simp only [dgB, List.getElem_map, List.getElem_range]
      congr 1
      exact decide_eq_decide.2 (by omega)
theorem made_int (n : Nat) : (madeCells #[Value.int .i64 0] n) = (il (List.replicate n false)).toArray := by
  apply Array.ext
  · rw [size_madeCells]
    simp [il_length]
  · intro i h1 h2
    unfold il
    simp [madeCells, Nat.mod_one]

set_option maxRecDepth 100000 in
set_option maxHeartbeats 2000000 in
theorem digits_any (v m : Nat) (hv : v < 9223372036854775808) (hm : m ≤ 64) (w : World) :
    Calls Try.prog 58 #[.int .i64 v, .int .i64 m] w fun e w' => ∃ g, e = .returned (.slice (some ⟨g, 0, none⟩) m m) ∧ w.heap.size ≤ g ∧ Row w' g 3 (il (digB v m)).toArray ∧ Below w.heap.size w w' := by
  have hv1 : v ≤ 9223372036854775807 := by omega
  have hD := Lib.hid (dgB_first v m)
  have hmk : ∀ w, (Instr.makeSlice 48 (.int .i64 (m : Int)) (.int .i64 (m : Int))).run Try.prog w = .ok (.slice (some ⟨w.heap.size, 0, none⟩) m m) (w.alloc (.cells (il (List.replicate m false)).toArray 3)) := by
    intro w
    rw [run_make_row' 48 3 (.int .i64 0) 8 Try.underlying48 infoI rfl .i64 .i64 m (by omega) (by omega) w, made_int]
  clear hv
  go_enter Try.func58, Try.ntmps58
  go_wp2
  refine wp_world (F := fun W => Row W w.heap.size 3 (il (List.replicate m false)).toArray ∧ Below w.heap.size w W) ⟨Row.new _ _ _, (Below.refl _ _).alloc (Nat.le_refl _) _⟩ ?_
  rintro W0 ⟨r0, hb0⟩
  clear hmk
  go_loopw [0, 6] (fun q i wr => ∃ j : Nat, j ≤ m ∧ i = .int .i64 ((j : Int) - 1) ∧ q = .int .i64 ((v / 2 ^ (m - j) : Nat) : Int) ∧ Row wr w.heap.size 3 (il (dgB v m j)).toArray ∧ Below w.heap.size w wr) (fun _ i _ => (intOf i + 1).toNat)
  case atStart => exact ⟨m, Nat.le_refl _, rfl, by rw [Nat.sub_self, Nat.pow_zero, Nat.div_one], by rw [dgB_last]; exact r0, hb0⟩
  case round =>
    clear r0 hb0
    obtain ⟨j, hj, rfl, rfl, r0, hb⟩ := hrel
    have hqv := Nat.div_le_self v (2 ^ (m - j))
    by_cases hlt : 1 ≤ j
    · obtain ⟨k, rfl⟩ : ∃ k, j = k + 1 := ⟨j - 1, by omega⟩
      have hN := Lib.hid (dgB_next v m k (by omega))
      have hb1 := bit_mod v (m - (k + 1))
      rw [show m - (k + 1) = m - 1 - k by omega] at hb1 hqv ⊢
      have hh : v / 2 ^ (m - k) = v / 2 ^ (m - 1 - k) / 2 := by
        rw [show m - k = (m - 1 - k) + 1 by omega, Nat.pow_succ, Nat.div_div_eq_div_mul]
      obtain ⟨q, hq⟩ : ∃ q, q = v / 2 ^ (m - 1 - k) := ⟨_, rfl⟩
      rw [← hq] at hb1 hqv hh ⊢
      have HB := Lib.hid hb1
      have HH := Lib.hid hh
      have hcl : (il (dgB v m (k + 1))).toArray[k]? = some (.int .i64 ((((dgB v m (k + 1)).getD k false).toNat : Nat) : Int)) := by simpa using il_get (dgB v m (k + 1)) k (by rw [dgB_length]; omega)
      have c0 := (r0.cell k).trans hcl
      have f0 := r0.free k
      clear hb1 hh hq hcl
      go_wp2
      go_roundw
      case rel =>
        refine ⟨k, by omega, rfl, ?_, ?_, hb.setCell (Nat.le_refl _) _⟩
        · rw [HH.out]
          go_num
        · rw [hN.out]
          have hval : (q : Int) % 2 = (((v.testBit (m - 1 - k)).toNat : Nat) : Int) := by rw [← HB.out]; omega
          rw [hval]
          have := r0.put k (.int .i64 (((v.testBit (m - 1 - k)).toNat : Nat) : Int))
          rw [List.setIfInBounds_toArray] at this
          unfold il at this ⊢
          rw [List.map_set]
          exact this
      case measure => simp [intOf]
    · obtain rfl : j = 0 := by omega
      rw [hD.out] at r0
      go_wp2
      go_ret
      exact ⟨_, rfl, Nat.le_refl _, r0, hb⟩
end Go.Proofs.Ytahihgmlkcbfiaa
