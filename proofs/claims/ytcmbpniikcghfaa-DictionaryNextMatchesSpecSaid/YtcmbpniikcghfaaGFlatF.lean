/-
  Parted out of others.
-/
import Derived.Test.YtcmbpniikcghfaaRIn
import Derived.Deep.Cut
import Derived.Deep.DeepCutAuto
import Derived.RegionTactic
import Derived.BigRegion
import Derived.Deep.RegionLaw
import Derived.Deep.DeepMust
import Derived.Deep.RegionHeld3
import Derived.OwnWalk
import Derived.Deep.OwnRows
import Derived.BigQuiet
import Derived.Deep.QuietTactic
namespace Go.Proofs.Ytcmbpniikcghfaa
open Go.RowKit
theorem rowAt_set_eq {W : World} {g k : Nat} {cs : Array Value} (hg : g ≠ k) : rowAt (W.setRow k cs) g = rowAt W g := by
  unfold rowAt
  rw [setRow_other W k g cs hg]
theorem isRow_drewN (w : World) (k g n : Nat) : IsRow (w.drewN k) g n = IsRow w g n := rfl
theorem rowAt_drewN (w : World) (k g : Nat) : rowAt (w.drewN k) g = rowAt w g := rfl
theorem flat_flt (a b : Int) : Flat (.agg (flt a b)) 2 := ⟨_, rfl, flt_size _ _, flt_one _ _⟩
theorem flat_lit : Flat (.agg #[.int .i64 0, .int .i64 0]) 2 := flat_flt 0 0
def NoU8 (cs : Array Value) : Prop := ∀ z, Value.int .u8 z ∉ cs
theorem no_flt (a b : Int) : NoU8 (flt a b) := fun z h => by simp [flt] at h
/-- a slice of bytes, where a block without bytes is written -/
theorem Sl.rowFar {w : World} {B n g : Nat} {A : Option Addr} {t : TypeId} {cs : Array Value} {L : List UInt8} (h : Sl w B A n (bl L)) (r : Row w g t cs) (hx : NoU8 cs) (ds : Array Value) : Sl (w.setRow g ds) B A n (bl L) := by
  refine ⟨h.1, fun hn => ?_⟩
  obtain ⟨ad, e, hb, hc⟩ := h.2 hn
  refine ⟨ad, e, hb, fun j u hu => ?_⟩
  have hcj := hc j u hu
  by_cases hg : (ad.add j).block = g
  · exfalso
    have hu2 : ∃ z, u = .int .u8 z := by
      have hm := List.mem_of_getElem? hu
      unfold bl at hm
      obtain ⟨x, _, rfl⟩ := List.mem_map.1 hm
      exact ⟨_, rfl⟩
    obtain ⟨z, rfl⟩ := hu2
    unfold World.cell? at hcj
    rw [hg, show w.heap[g]? = some (.cells cs t (0, 0)) from r] at hcj
    simp only at hcj
    split at hcj
    · cases hcj
    · exact hx z (Array.mem_of_getElem? hcj)
  · rw [← hcj]
    unfold World.cell?
    rw [show (w.setRow g ds).heap[(ad.add j).block]? = w.heap[(ad.add j).block]? from setRow_other w g _ ds hg]
theorem infoU8 : (Try.prog.info? 5).map (fun i => (i.zero, i.size, i.bytes)) = some (some (.int .u8 0), 1, 1) := by kernel_rfl
theorem infoU8s : (Try.prog.info? 5).map (·.size) = some 1 := by kernel_rfl
end Go.Proofs.Ytcmbpniikcghfaa
