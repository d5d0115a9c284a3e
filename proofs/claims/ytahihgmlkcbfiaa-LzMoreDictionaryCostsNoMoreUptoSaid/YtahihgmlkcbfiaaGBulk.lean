/-
  The second form's bound, taken apart: a slice among the arguments is no longer than the bulk. Helper text: it proves nothing of the program by itself.
-/
import Derived.Test.YtahihgmlkcbfiaaRows
import Derived.WalkKit
namespace Go.Proofs.Ytahihgmlkcbfiaa

section
variable {H : Type}
theorem bulk_pos (d : DataW H) : 1 ≤ Rows.uptoBulk d := by
  cases d with
  | lit l => cases l <;> simp [Rows.uptoBulk]
  | _ => simp [Rows.uptoBulk]
theorem bulk_len (l : List (DataW H)) : l.length ≤ Rows.uptoBulkAll l := by
  induction l with
  | nil => simp
  | cons x r ih => have := bulk_pos x; simp only [Rows.uptoBulkAll, List.length_cons]; omega
theorem bulk_part {d : DataW H} {l : List (DataW H)} (h : d ∈ l) : Rows.uptoBulk d ≤ Rows.uptoBulkAll l := by
  induction l with
  | nil => cases h
  | cons x r ih =>
    simp only [Rows.uptoBulkAll]
    rcases List.mem_cons.1 h with rfl | e
    · omega
    · have := ih e; omega
/-- the second form's bound, for a slice among the arguments -/
theorem bulk_slice {ds : List (DataW H)} (hk : Rows.uptoSmall H ds = true) {el sp : List (DataW H)} (h : DataW.slice el sp ∈ ds) : el.length ≤ 1048576 := by
  have h1 : Rows.uptoBulkAll ds ≤ 1048576 := of_decide_eq_true hk
  have h2 := bulk_part h
  have h3 := bulk_len el
  simp only [Rows.uptoBulk] at h2
  omega
end
end Go.Proofs.Ytahihgmlkcbfiaa
