/-
  What calls of package bits share: the bits as a result, a put of known size, bytes made anew, a number of one bit.
-/
import Derived.Test.YtahihgmlkcbfiaaBValid
import Derived.Test.YtahihgmlkcbfiaaGMem
import Derived.Deep.DeepCutAuto
import Derived.Deep.DeepMust
import Derived.RegionTactic
import Derived.BigRegion
import Derived.Deep.RegionLaw
namespace Go.Proofs.Ytahihgmlkcbfiaa
open Go.RowKit

theorem put_is (L : List UInt8) (n : Nat) (hLn : L.length = n) (g : Nat) (c : Nat) (k : Int) (p v m : Nat) (hm : m ≤ 60) (hf : p + m ≤ 8 * n) (hl : n ≤ 16384) (hv : v < 9223372036854775808) (w : World) (hR : Row w g 5 (bl L).toArray) :
    Calls Try.prog 63 #[.agg (bcs (some ⟨g, 0, none⟩) n c k), .int .i64 p, .int .i64 v, .int .i64 m] w fun e w' => e = .returned (.tuple #[]) ∧ (∃ M, PutTo L p v m m M ∧ Row w' g 5 (bl M).toArray) ∧ w.grownBy w' (some g) := by
  subst hLn
  exact put_any L g c k p v m hm hf hl hv w hR

/-- the call made the bits l, and no fault -/
def BitsOut (w : World) (l : List Bool) (e : Ending) (w' : World) : Prop :=
  ∃ A c, e = .returned (.tuple #[.agg (bcs A (pack l).length c l.length), .agg (flt 0 0)]) ∧ Sl w' w'.heap.size A (pack l).length (bl (pack l)) ∧ Below w.heap.size w w'
theorem bitsOut_row {w w' : World} {l : List Bool} {M : List UInt8} {g n c : Nat} {k : Int} {e : Ending} (hR : Rep M l) (he : e = .returned (.tuple #[.agg (bcs (some ⟨g, 0, none⟩) n c k), .agg (flt 0 0)])) (hn : n = M.length) (hk : k = l.length)
    (hrow : Row w' g 5 (bl M).toArray) (hb : Below w.heap.size w w') : BitsOut w l e w' := by
  subst hn hk
  obtain rfl := hR.pack
  have := Sl.of_head hrow (pack l).length (by rw [bl_length]; exact Nat.le_refl _)
  rw [List.take_of_length_le (by rw [bl_length]; exact Nat.le_refl _)] at this
  exact ⟨_, _, he, this, hb⟩
theorem number_bit (L : List UInt8) (A : Option Addr) (c : Nat) (k : Int) (f : Nat) (b : Int) (hb : b = ((bt L f).toNat : Int)) (hf : f + 1 ≤ 8 * L.length) (hl : L.length ≤ 16384) (w : World) (hS : Sl w w.heap.size A L.length (bl L)) :
    Calls Try.prog 71 #[.agg (bcs A L.length c k), .int .i64 f, .int .i64 1] w fun e w' => e = .returned (.int .i64 b) ∧ Below w.heap.size w w' := by
  subst hb
  refine (number_any L A c k f 1 (by omega) hf hl w hS).mono fun e w' ⟨he, hw⟩ => ⟨?_, hw⟩
  rw [he]
  exact ret_int (by rw [numF_succ, numF_zero]; simp)
theorem number_m (L : List UInt8) (A : Option Addr) (c : Nat) (k : Int) (f : Nat) (m : Nat) (n : Nat) (hn : n = numF (fun i => bt L (f + i)) m) (hm : m ≤ 60) (hf : f + m ≤ 8 * L.length) (hl : L.length ≤ 16384) (w : World) (hS : Sl w w.heap.size A L.length (bl L)) :
    Calls Try.prog 71 #[.agg (bcs A L.length c k), .int .i64 f, .int .i64 m] w fun e w' => e = .returned (.int .i64 n) ∧ Below w.heap.size w w' := by
  subst hn
  exact number_any L A c k f m hm hf hl w hS
theorem byte_mod (x : UInt8) : (x.toNat : Int) % 256 = (x.toNat : Int) := by
  have := x.toNat_lt
  omega
theorem extended_nil (z : Nat) (hz : z ≤ 131072) (n : Nat) (hn : n = (z + 7) / 8) (zi : Int) (hzi : zi = (z : Int)) (w : World) :
    Calls Try.prog 52 #[.agg (bcs none 0 0 0), .int .i64 zi] w fun e w' => ∃ g, e = .returned (.agg (bcs (some ⟨g, 0, none⟩) n n (z : Int))) ∧ w.heap.size ≤ g ∧ Row w' g 5 (bl (List.replicate n 0)).toArray ∧ Below w.heap.size w w' := by
  subst hn hzi
  refine (extended_any [] none 0 0 z (by omega) (by simp) w (by rw [bl_nil]; exact Sl.nil _ _ _)).mono ?_
  rintro e w' ⟨g, he, hg, hr, hb⟩
  simp only [List.length_nil, Nat.sub_zero, List.nil_append, Nat.zero_add] at he hr
  exact ⟨g, he, hg, hr, hb⟩
end Go.Proofs.Ytahihgmlkcbfiaa
