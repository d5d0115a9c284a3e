/-
  The contract of the model's context.
-/
import Derived.Test.YtgpacgmgdnongaaMCnt
import Derived.Deep.RegionLaw
import Derived.Deep.Cut
import Derived.Deep.RegionHeld3
namespace Go.Proofs.Ytgpacgmgdnongaa
open Go.RowKit

/-- a model's cells -/
def mcs (d gb c1 c2 g : Nat) : Array Value := #[.int .i64 d, .map (some gb), .int .i64 c1, .int .i64 c2, .int .i64 g]
theorem mcs_size (d gb c1 c2 g : Nat) : (mcs d gb c1 c2 g).size = 5 := rfl
theorem mcs_one (d gb c1 c2 g : Nat) : ∀ v ∈ mcs d gb c1 c2 g, v.oneCell' = true := by
  intro v hv
  simp only [mcs, List.mem_toArray, List.mem_cons, List.not_mem_nil, or_false] at hv
  rcases hv with rfl | rfl | rfl | rfl | rfl <;> rfl
theorem infoI1 : (Try.prog.info? 3).map (·.size) = some 1 := by kernel_rfl

set_option maxRecDepth 100000 in
set_option maxHeartbeats 4000000 in
theorem context_any (gm d gb c1 c2 g o : Nat) (ho : o ≤ 2) (_hg : g < 256) (w : World) (hM : Row w gm 56 (mcs d gb c1 c2 g)) :
    Calls Try.prog 27 #[.pointer (some ⟨gm, 0, none⟩), .int .i64 o] w fun e w' => e = .returned (.agg (kcs ⟨o, if 1 ≤ o then c1 else 0, if 2 ≤ o then c2 else 0, g⟩)) ∧ Below w.heap.size w w' := by
  obtain ⟨kk, hkk⟩ : ∃ kk : Ctx, kk = ⟨o, if 1 ≤ o then c1 else 0, if 2 ≤ o then c2 else 0, g⟩ := ⟨_, rfl⟩
  have HKK := Lib.hid hkk
  rw [← hkk]
  clear hkk
  have hlt := hM.lt
  go_enter Try.func27, Try.ntmps27
  go_upto_region 1 with fail
  refine wp_world (F := fun W => Row W w.heap.size 60 (kcs ⟨0, 0, 0, 0⟩) ∧ Row W gm 56 (mcs d gb c1 c2 g) ∧ Below w.heap.size w W) ⟨Row.newEq _ _ _ _ _ rfl rfl, hM.alloc _, (Below.refl _ _).alloc (Nat.le_refl _) _⟩ ?_
  clear hM
  rintro W0 ⟨r0, hM, hb0⟩
  have a3 : W0.cell? ⟨gm, 4, none⟩ = some (.int .i64 g) := (hM.cell 4).trans rfl
  go_upto_region 2 with fail
  refine wp_world (F := fun W => Row W W0.heap.size 60 (kcs ⟨o, 0, 0, g⟩) ∧ Row W w.heap.size 60 (kcs ⟨0, 0, 0, 0⟩) ∧ Row W gm 56 (mcs d gb c1 c2 g) ∧ Below w.heap.size w W) ⟨Row.newEq _ _ _ _ _ rfl rfl, r0.alloc _, hM.alloc _, hb0.alloc hb0.size _⟩ ?_
  have hgt := r0.lt
  have hgtm := hM.lt
  generalize W0.heap.size = g1 at *
  clear r0 hM hb0 a3 W0
  rintro W1 ⟨r1, r0, hM, hb⟩
  have ho' : (o : Int) ≤ 2 := by omega
  have hsl : Sl W1 W1.heap.size (some ⟨gm, 2, none⟩) 2 [.int .i64 c1, .int .i64 c2] := Sl.of_row hM 2 2 (by rw [mcs_size]; omega)
  have hone : ∀ u ∈ [Value.int .i64 (c1 : Int), Value.int .i64 (c2 : Int)], u.oneCell' = true := by
    intro u hu
    simp only [List.mem_cons, List.not_mem_nil, or_false] at hu
    rcases hu with rfl | rfl <;> rfl
  have q1 : Row W1.drew g1 60 [Value.int .i64 o, .int .i64 ((0 : Nat) : Int), .int .i64 ((0 : Nat) : Int), .int .i64 g].toArray := r1
  have q2 : Sl W1.drew W1.heap.size (some ⟨gm, 2, none⟩) 2 [.int .i64 c1, .int .i64 c2] := hsl
  obtain ⟨cur, hcur⟩ : ∃ cur, cur = [Value.int .i64 (o : Int), .int .i64 ((0 : Nat) : Int), .int .i64 ((0 : Nat) : Int), .int .i64 g] := ⟨_, rfl⟩
  rw [← hcur] at q1
  have hfit : 1 + o ≤ cur.length := by rw [hcur]; simp; omega
  have hend : (splice cur 1 ([Value.int .i64 c1, .int .i64 c2].take o)).toArray = kcs kk := by
    rw [hcur, HKK.out]
    unfold splice kcs
    obtain rfl | rfl | rfl : o = 0 ∨ o = 1 ∨ o = 2 := by omega
    all_goals rfl
  have HE := Lib.hid hend
  clear hcur hend
  have hmin : o = Nat.min 2 o := (Nat.min_eq_right (by omega)).symm
  have HS := Lib.hid hsl
  have HO := Lib.hid hone
  clear hsl hone
  have HM := Lib.hid hmin
  have ho0 : (0 : Int) ≤ (o : Int) := by omega
  clear hmin HS
  go_region_law (refine step_copy _ rfl (.tmp 14) (.tmp 18) _ _ rfl 3 Try.underlying22 infoI1 g1 1 o 2 (by simp [Act.eval, Act.put]) cur 60 q1 W1.heap.size (some ⟨gm, 2, none⟩) 2 2 (by simp [Act.eval, Act.put]) [.int .i64 c1, .int .i64 c2] q2 HO.out o HM.out hfit ?_)
  rw [HE.out]
  rename_i hK
  refine hK _ _ ?_
  refine wp_world (F := fun W => Row W g1 60 (kcs kk) ∧ Row W w.heap.size 60 (kcs ⟨0, 0, 0, 0⟩) ∧ Below w.heap.size w W) ⟨Row.row (cs := cur.toArray) q1 _, Row.rowFar r0.drew (by omega) _, blw_row hb.drew (by omega) _⟩ ?_
  clear q1 q2 HE HO HM r1 r0 hM hb hfit W1 ho0 ho'
  rintro W2 ⟨r1, r0, hb⟩
  go_upto_region 4 with (first
    | (refine wpList_load_row rfl 60 _ rfl g1 rfl 60 (kcs kk) (0, 0) _ r1 Try.underlying60 rfl (by rw [kcs_size]; exact cellsK) ?_)
    | (refine wpList_store_row rfl 60 _ _ rfl w.heap.size (kcs kk) rfl rfl 60 (kcs ⟨0, 0, 0, 0⟩) r0 (by rw [kcs_size]; exact cellsK) rfl (all_one (kcs_one _)) ?_))
  refine bodyPost_ret (results_row Try.results27 _ _ w.heap.size 60 (kcs kk) _ rfl (Row.row r0 _) Try.underlying60 rfl (by rw [kcs_size]; exact cellsK)) rfl ⟨rfl, blw_row hb (Nat.le_refl _) _⟩
end Go.Proofs.Ytgpacgmgdnongaa
