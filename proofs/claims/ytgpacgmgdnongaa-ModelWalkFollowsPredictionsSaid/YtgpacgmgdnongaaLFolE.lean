/-
  ModelWalkFollowsPredictions: the cases together.
-/
import Derived.Test.YtgpacgmgdnongaaLFolO
import Derived.Test.YtgpacgmgdnongaaLFolL
import Derived.Test.YtgpacgmgdnongaaLFolF
import Derived.Test.YtgpacgmgdnongaaLFolB
import Derived.Test.YtgpacgmgdnongaaLFolN
namespace Go.Proofs.Ytgpacgmgdnongaa.lawFol
open Go.RowKit

theorem bits_before (zs : List Int) (k : Nat) (h : ∀ j, j < k → isB (zs.getD j 0)) : ∃ l : List Bool, l.length = k ∧ ∀ j, j < k → zs.getD j 0 = (((l.getD j false).toNat : Nat) : Int) := by
  refine ⟨(List.range k).map fun j => decide (zs.getD j 0 = 1), by simp, fun j hj => ?_⟩
  rw [List.getD_eq_getElem?_getD (l := (List.range k).map _), List.getElem?_map, List.getElem?_range hj]
  simp only [Option.map_some, Option.getD_some]
  rcases h j hj with h | h
  · rw [h]; rfl
  · rw [h]; rfl

theorem walk_any (d : Int) (zs : List Int) (last : Int) (A : Option Addr) (cp : Nat) (hcp : zs.length ≤ cp) (hcm : cp ≤ maxLen) (w : World) (hS : Sl w w.heap.size A zs.length (zl zs)) :
    Calls Try.prog 6 #[.int .i64 d, .slice A zs.length cp, .int .i64 last] w fun e w' => e = .returned (.bool true) ∧ Below w.heap.size w w' := by
  rcases pf_or d zs with ⟨k, i, h⟩ | ⟨D, l, rfl, hD, hz, hl⟩
  · cases h with
    | order h => exact walk_o d zs last h A cp hcp w hS
    | long h hl =>
      refine walk_l d zs last h hl ?_ A cp hcp w hS
      have hm : zs.length ≤ 9223372036854775807 := Nat.le_trans hcp hcm
      unfold wrap64
      omega
    | form h hl k hk h1 h2 =>
      obtain ⟨l, hl1, hl2⟩ := bits_before zs k h1
      obtain ⟨D, rfl⟩ : ∃ D : Nat, d = D := ⟨d.toNat, by omega⟩
      exact walk_f D (by omega) zs last hl k hk h1 h2 l hl1 hl2 A cp hcp w hS
  · have hzl : zs.length = l.length := by rw [hz, bz_length]
    by_cases hb : isB last
    · rcases hb with hb | hb
      · exact walk_b D hD l hl zs hz hzl last false hb A cp hcp w hS
      · exact walk_b D hD l hl zs hz hzl last true hb A cp hcp w hS
    · exact walk_n D hD l hl zs hz hzl last hb A cp hcp w hS
end Go.Proofs.Ytgpacgmgdnongaa.lawFol
