/-
  The contracts of the reference's Bits, Digits and Number.
-/
import Derived.Test.YtbahkidkpbabdaaRBits2
namespace Go.Proofs.Ytbahkidkpbabdaa
open Go.RowKit

/-- bits as cells of numbers -/
def il (l : List Bool) : List Value := l.map fun b => .int .i64 ((b.toNat : Nat) : Int)
theorem il_length (l : List Bool) : (il l).length = l.length := by simp [il]
theorem il_append (l m : List Bool) : il (l ++ m) = il l ++ il m := by simp [il]
theorem il_nil : il [] = [] := rfl
theorem il_one (l : List Bool) : ∀ v ∈ il l, v.oneCell' = true := by
  intro v hv
  obtain ⟨x, _, rfl⟩ : ∃ x, x ∈ l ∧ Value.int .i64 ((x.toNat : Nat) : Int) = v := by simpa [il] using hv
  rfl
theorem il_get (l : List Bool) (i : Nat) (h : i < l.length) : (il l)[i]? = some (.int .i64 (((l.getD i false).toNat : Nat) : Int)) := by
  unfold il
  simp [List.getD_eq_getElem?_getD, h]
theorem il_snoc (l : List Bool) (j : Nat) (h : j < l.length) (b : Int) (hb : b = (((l.getD j false).toNat : Nat) : Int)) : il (l.take (j + 1)) = il (l.take j) ++ [.int .i64 b] := by
  subst hb
  rw [List.take_succ_eq_append_getElem h, il_append]
  simp [il, List.getD_eq_getElem?_getD, h]
attribute [irreducible] il
theorem il_take (l : List Bool) (k : Nat) : (il l).take k = il (l.take k) := by unfold il; rw [List.map_take]
theorem il_drop (l : List Bool) (k : Nat) : (il l).drop k = il (l.drop k) := by unfold il; rw [List.map_drop]
theorem Sl.bit {w : World} {B n : Nat} {A : Option Addr} {l : List Bool} (h : Sl w B A n (il l)) {k : Nat} (hk : k < n) : ∃ ad, A = some ad ∧ ad.block < B ∧ w.cell? (ad.add k) = some (.int .i64 (((l.getD k false).toNat : Nat) : Int)) := by
  obtain ⟨ad, u, h1, h2, h3, h4⟩ := h.at_ hk
  have hn : k < l.length := by
    have := h.1
    rw [il_length] at this
    omega
  rw [il_get l k hn] at h3
  injection h3 with h3
  exact ⟨ad, h1, h2, by rw [h4, ← h3]⟩
theorem own_drewN {w : World} {base : Nat} {e : TypeId} {v : Value} {n : Nat} {xs : List Value} (h : w.ownsRow base e 1 v n xs) (k : Nat) : (w.drewN k).ownsRow base e 1 v n xs := h
theorem infoI : (Try.prog.info? 3).map (fun i => (i.zero, i.size, i.bytes)) = some (some (.int .i64 0), 1, 8) := by kernel_rfl
theorem bit_lt2 (b : Bool) : ((b.toNat : Nat) : Int) ≤ 1 := by cases b <;> decide

set_option maxRecDepth 100000 in
set_option maxHeartbeats 2000000 in
/-- Bits of a valid bit string -/
theorem rbits_any (L : List UInt8) (l : List Bool) (hR : Rep L l) (hl : l.length ≤ 131072) (A : Option Addr) (c : Nat) (w : World) (hS : Sl w w.heap.size A L.length (bl L)) :
    Calls Try.prog 23 #[.agg (bcs A L.length c l.length)] w fun e w' => ∃ v, e = .returned v ∧ w'.ownsRow (w.heap.size + 1) 3 1 v l.length (il l) ∧ Below w.heap.size w w' := by
  obtain ⟨i0, hi, hz0, hz1, hz2⟩ := info_parts infoI
  have hln := hR.len
  have hl1 : L.length ≤ 16384 := by omega
  have hl2 : l.length ≤ 8 * L.length := by omega
  have HT := Lib.hid hR
  clear hln hR
  go_enter Try.func23, Try.ntmps23
  go_upto_region 1 with (fail)
  refine wp_world (F := fun W => Row W w.heap.size 24 (bcs A L.length c l.length) ∧ w.heap.size < W.heap.size ∧ Below w.heap.size w W) ⟨Row.new _ _ _, (by simp), (Below.refl _ _).alloc (Nat.le_refl _) _⟩ ?_
  rintro W0 ⟨r0, hgt, hb0⟩
  go_wp2
  go_loopw [3, 4] (fun v i wr => ∃ j : Nat, j ≤ l.length ∧ i = .int .i64 j ∧ wr.ownsRow (w.heap.size + 1) 3 1 v j (il (l.take j)) ∧ Row wr w.heap.size 24 (bcs A L.length c l.length) ∧ Below w.heap.size w wr) (fun _ i _ => l.length - (intOf i).toNat)
  case atStart => exact ⟨0, Nat.zero_le _, rfl, by rw [List.take_zero, il_nil]; exact World.ownsRow_nil _ _ _ _, r0, hb0⟩
  case round =>
    clear r0 hb0
    obtain ⟨j, hj, rfl, ho, r0, hb⟩ := hrel
    have c0 : wr.cell? ⟨w.heap.size, 0, none⟩ = some (.slice A L.length c) := (r0.cell 0).trans rfl
    have c1 : wr.cell? ⟨w.heap.size, 1, none⟩ = some (.int .i64 (l.length : Int)) := (r0.cell 1).trans rfl
    have hrl := r0.lt
    by_cases hlt : j < l.length
    · have hSr := (hS.below hb).wider hb.size
      obtain ⟨b, hbv⟩ : ∃ b : Int, b = (((l.getD j false).toNat : Nat) : Int) := ⟨_, rfl⟩
      have hb2 : b = ((bt L j).toNat : Int) := by rw [HT.out.2]; exact hbv
      have HB := Lib.hid hb2
      have HN := Lib.hid (il_snoc l j hlt b hbv)
      clear hb2 hbv
      go_wp2_with (first
        | (go_at_call 40; refine (rbit_is L A c j b HB.out (by omega) (by omega) _ hSr).mono ?_; rintro e w1 ⟨rfl, nq, rfl⟩)
        | (at_builtin; refine wpList_app _ rfl _ _ _ rfl (w.heap.size + 1) 3 i0 (.int .i64 0) 8 Try.underlying35 hi hz0 hz1 hz2 rfl _ j _ rfl ((own_drewN ho nq).alloc _) (wr.heap.size + 1) _ 1 _ [_] rfl (Sl.one _ _ _) (fun u hu => by obtain rfl := List.mem_singleton.1 hu; rfl) (by unfold maxLen; omega) (by omega) (Nat.le_trans hrl (by simp)) ?_; intro v2 w2 hown2 hg2))
      go_roundw
      case rel =>
        refine ⟨j + 1, by omega, by go_num, by rw [HN.out]; exact hown2, ?_, ?_⟩
        · exact ((r0.drewN nq).alloc _).grown hg2 (fun h => Nat.lt_irrefl _ (ho.lt _ h.symm).1)
        · exact blw_grown ((blw_drewN hb nq).alloc hb.size _) hg2 (Nat.le_trans hb.size (by simp)) ((own_drewN ho nq).alloc _) (Nat.le_succ _)
      case measure => simp [intOf]; omega
    · obtain rfl : j = l.length := by omega
      rw [List.take_length] at ho
      go_wp2
      go_ret
      exact ⟨_, rfl, ho, hb⟩
end Go.Proofs.Ytbahkidkpbabdaa
