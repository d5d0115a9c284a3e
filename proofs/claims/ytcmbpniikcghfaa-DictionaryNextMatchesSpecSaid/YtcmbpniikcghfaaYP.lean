/-
  The contracts of package dictionary as propositions.
-/
import Derived.Test.YtcmbpniikcghfaaGFlt
import Derived.Test.YtcmbpniikcghfaaSls
import Derived.Test.YtcmbpniikcghfaaYPlain
import Derived.Test.YtcmbpniikcghfaaYLay
namespace Go.Proofs.Ytcmbpniikcghfaa
open Go.RowKit

/-- the library's variable holds some number -/
def ML (w : World) : Prop := ∃ m, w.cell? ⟨containsL_ren.g 1, 0, none⟩ = some (.int .i64 m)
theorem ML.below {w W : World} (h : ML w) (hb : Below w.heap.size w W) : ML W := by
  obtain ⟨m, hm⟩ := h
  exact ⟨m, by rw [hb.cell (block_lt_of_cell hm)]; exact hm⟩
/-- an int of 64 bits -/
def i64R (z : Int) : Prop := -9223372036854775808 ≤ z ∧ z ≤ 9223372036854775807
/-- the fault of Train and of what Next looks at behind its dictionary -/
def trF (Ss : List (List UInt8)) (size k r : Int) : Int × Int := if (smF Ss k).1 = 0 then (if 0 ≤ size ∧ size ≤ 512 then (0, 0) else (4, r)) else smF Ss k
/-- the fault of Next -/
def nxF (D : Nat) (Ss : List (List UInt8)) (size : Int) : Int × Int := if 512 < D then (3, -1) else trF Ss size (-2) (-3)
/-- the fault of Worth -/
def woF (Ls : List (List UInt8)) (D : Nat) : Int × Int := if (smF Ls (-1)).1 = 0 then (if 512 < D then (3, -2) else (0, 0)) else smF Ls (-1)
def PTrainBad : Prop := ∀ (Ss : List (List UInt8)) (N : Nat) (size : Int), N = Ss.length → i64R size → (trF Ss size (-1) (-2)).1 ≠ 0 → ∀ (A : Option Addr) (c : Nat) (w : World), Sls w w.heap.size A N Ss →
  Calls Try.prog 8 #[.slice A N c, .int .i64 size] w fun e w' => (∃ G g, e = .returned (.tuple #[.slice G 0 g, .agg (flt (trF Ss size (-1) (-2)).1 (trF Ss size (-1) (-2)).2)])) ∧ Below w.heap.size w w'
def PTrain : Prop := ∀ (Ss : List (List UInt8)) (N size : Nat), N = Ss.length → trF Ss size (-1) (-2) = (0, 0) → ∀ (A : Option Addr) (c : Nat), N ≤ c → ∀ w : World, ML w → Sls w w.heap.size A N Ss →
  Calls Try.prog 8 #[.slice A N c, .int .i64 (size : Nat)] w fun e w' => (∃ R G g, TrainIs Ss size R ∧ e = .returned (.tuple #[.slice G R.length g, .agg (flt 0 0)]) ∧ R.length ≤ g ∧ Sl w' w'.heap.size G R.length (bl R)) ∧ Below w.heap.size w w'
def PNextBad : Prop := ∀ (Ss : List (List UInt8)) (N D : Nat) (size : Int), N = Ss.length → i64R size → (nxF D Ss size).1 ≠ 0 → ∀ (A B : Option Addr) (c d : Nat) (w : World), Sls w w.heap.size A N Ss →
  Calls Try.prog 16 #[.slice B D d, .slice A N c, .int .i64 size] w fun e w' => (∃ G g, e = .returned (.tuple #[.slice G 0 g, .agg (flt (nxF D Ss size).1 (nxF D Ss size).2)])) ∧ Below w.heap.size w w'
/-- the last bytes -/
def lastL (size : Nat) (L : List UInt8) : List UInt8 := L.drop (L.length - size)
def PNext : Prop := ∀ (E : List UInt8) (Ss : List (List UInt8)) (N D size : Nat), N = Ss.length → D = E.length → nxF D Ss size = (0, 0) → ∀ (A B : Option Addr) (c d : Nat), N ≤ c → D ≤ d → ∀ w : World, ML w → Sls w w.heap.size A N Ss → Sl w w.heap.size B D (bl E) →
  Calls Try.prog 16 #[.slice B D d, .slice A N c, .int .i64 (size : Nat)] w fun e w' => (∃ R G g, TrainIs Ss size R ∧ e = .returned (.tuple #[.slice G (lastL size (E ++ R)).length g, .agg (flt 0 0)]) ∧ (lastL size (E ++ R)).length ≤ g ∧ Sl w' w'.heap.size G (lastL size (E ++ R)).length (bl (lastL size (E ++ R)))) ∧ Below w.heap.size w w'
def PWorthBad : Prop := ∀ (Ss : List (List UInt8)) (N D : Nat), N = Ss.length → (woF Ss D).1 ≠ 0 → ∀ (A B : Option Addr) (c d : Nat) (w : World), Sls w w.heap.size A N Ss →
  Calls Try.prog 19 #[.slice A N c, .slice B D d] w fun e w' => e = .returned (.tuple #[.int .i64 0, .agg (flt (woF Ss D).1 (woF Ss D).2)]) ∧ Below w.heap.size w w'
def PWorth : Prop := ∀ (Ss : List (List UInt8)) (E : List UInt8) (N D : Nat), N = Ss.length → D = E.length → woF Ss D = (0, 0) → ∀ (A B : Option Addr) (c d : Nat), N ≤ c → D ≤ d → ∀ w : World, Sls w w.heap.size A N Ss → Sl w w.heap.size B D (bl E) →
  Calls Try.prog 19 #[.slice A N c, .slice B D d] w fun e w' => (∃ x y, costsAre Ss E x y ∧ e = .returned (.tuple #[.int .i64 (sumD x y N), .agg (flt 0 0)])) ∧ Below w.heap.size w w'
/-- all that the statements ask of package dictionary -/
structure DI : Prop where
  trainBad : PTrainBad
  train : PTrain
  nextBad : PNextBad
  next : PNext
  worthBad : PWorthBad
  worth : PWorth
/-- the closed examples hold -/
def PTrains : Prop := ∀ w : World, ML w → Calls Try.prog 12 #[] w fun e w' => e = .returned (.bool true) ∧ Below w.heap.size w w'
theorem smF_ok {Ss : List (List UInt8)} {k : Int} (h : (smF Ss k).1 = 0) : smF Ss k = (0, 0) ∧ Ss.length ≤ 64 ∧ ∀ X ∈ Ss, X.length ≤ 1024 := by
  unfold smF at h ⊢
  by_cases h1 : 64 < Ss.length
  · rw [if_pos h1] at h
    exact absurd h (show ¬ ((2 : Int) = 0) by decide)
  · rw [if_neg h1] at h ⊢
    rcases longF_kind Ss 0 with ⟨h2, h3⟩ | h2
    · exact ⟨h2, by omega, h3⟩
    · rw [h2] at h
      exact absurd h (by decide)
theorem trF_ok {Ss : List (List UInt8)} {size : Int} {k r : Int} (h : ¬ (trF Ss size k r).1 ≠ 0) : trF Ss size k r = (0, 0) ∧ Ss.length ≤ 64 ∧ (∀ X ∈ Ss, X.length ≤ 1024) ∧ 0 ≤ size ∧ size ≤ 512 := by
  have h : (trF Ss size k r).1 = 0 := Classical.not_not.1 h
  unfold trF at h ⊢
  by_cases h1 : (smF Ss k).1 = 0
  · rw [if_pos h1] at h ⊢
    obtain ⟨_, h3, h4⟩ := smF_ok h1
    by_cases h2 : 0 ≤ size ∧ size ≤ 512
    · rw [if_pos h2]
      exact ⟨rfl, h3, h4, h2.1, h2.2⟩
    · rw [if_neg h2] at h
      exact absurd h (show ¬ ((4 : Int) = 0) by decide)
  · rw [if_neg h1] at h
    exact absurd h h1
theorem nxF_ok {D : Nat} {Ss : List (List UInt8)} {size : Int} (h : ¬ (nxF D Ss size).1 ≠ 0) : nxF D Ss size = (0, 0) ∧ D ≤ 512 ∧ Ss.length ≤ 64 ∧ (∀ X ∈ Ss, X.length ≤ 1024) ∧ 0 ≤ size ∧ size ≤ 512 := by
  unfold nxF at h ⊢
  by_cases h1 : 512 < D
  · rw [if_pos h1] at h
    exact absurd (by decide) h
  · rw [if_neg h1] at h ⊢
    obtain ⟨h2, h3⟩ := trF_ok h
    exact ⟨h2, by omega, h3⟩
theorem woF_ok {Ls : List (List UInt8)} {D : Nat} (h : ¬ (woF Ls D).1 ≠ 0) : woF Ls D = (0, 0) ∧ D ≤ 512 ∧ Ls.length ≤ 64 ∧ ∀ X ∈ Ls, X.length ≤ 1024 := by
  have h : (woF Ls D).1 = 0 := Classical.not_not.1 h
  unfold woF at h ⊢
  by_cases h1 : (smF Ls (-1)).1 = 0
  · rw [if_pos h1] at h ⊢
    obtain ⟨_, h3, h4⟩ := smF_ok h1
    by_cases h2 : 512 < D
    · rw [if_pos h2] at h
      exact absurd h (by decide)
    · rw [if_neg h2]
      exact ⟨rfl, by omega, h3, h4⟩
  · rw [if_neg h1] at h
    exact absurd h h1
theorem trF_zero {Ss : List (List UInt8)} {size k r : Int} (h : (smF Ss k).1 = 0) (h2 : 0 ≤ size ∧ size ≤ 512) : ¬ (trF Ss size k r).1 ≠ 0 := by
  have h3 : trF Ss size k r = (0, 0) := by unfold trF; rw [if_pos h, if_pos h2]
  rw [h3]
  exact fun h => h rfl
theorem nxF_zero {D : Nat} {Ss : List (List UInt8)} {size : Int} (hD : D ≤ 512) (h : (smF Ss (-2)).1 = 0) (h2 : 0 ≤ size ∧ size ≤ 512) : ¬ (nxF D Ss size).1 ≠ 0 := by
  unfold nxF
  rw [if_neg (by omega)]
  exact trF_zero h h2
theorem woF_zero {D : Nat} {Ss : List (List UInt8)} (hD : D ≤ 512) (h : (smF Ss (-1)).1 = 0) : ¬ (woF Ss D).1 ≠ 0 := by
  have h3 : woF Ss D = (0, 0) := by unfold woF; rw [if_pos h, if_neg (by omega)]
  rw [h3]
  exact fun h => h rfl
end Go.Proofs.Ytcmbpniikcghfaa
