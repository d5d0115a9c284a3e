/-
  How results are read where some lie in slots and the last in a block. Helper text: it proves nothing of the program by itself.
-/
import Derived.Test.YtcnokjiohbifeaaGMem
namespace Go.Proofs.Ytcnokjiohbifeaa
open Go.RowKit

/-- a result in a slot and one in a block -/
theorem results_tmp_row {P : Program} {fn : Func} {p q : Tmp} {u : TypeId} (h : fn.results = #[.tmp p, .cell q u]) (tmps : Array Value) (w : World)
    (x : Value) (k : Nat) (b : TypeId) (ds : Array Value) (e : TypeDesc)
    (hp : tmps.getD p undef = x) (hq : tmps.getD q undef = .pointer (some ⟨k, 0, none⟩)) (hk : Row w k b ds)
    (hv : P.underlying u = some e) (he : (match e with | .struct _ | .array _ _ => true | _ => false) = true) (hj : (P.info? u).map (·.size) = some ds.size) :
    (results fn tmps).run P w = .ok (.tuple #[x, .agg ds]) w := by
  have hp' : tmps[p]?.getD undef = x := by simpa using hp
  have hq' : tmps[q]?.getD undef = .pointer (some ⟨k, 0, none⟩) := by simpa using hq
  simp [results, h, hp', hq', asAddr, run_loadVar_row w k b u ds (0, 0) e hk hv he hj]

/-- two results in slots and one in a block -/
theorem results_tmp2_row {P : Program} {fn : Func} {p p' q : Tmp} {u : TypeId} (h : fn.results = #[.tmp p, .tmp p', .cell q u]) (tmps : Array Value) (w : World)
    (x y : Value) (k : Nat) (b : TypeId) (ds : Array Value) (e : TypeDesc)
    (hp : tmps.getD p undef = x) (hp2 : tmps.getD p' undef = y) (hq : tmps.getD q undef = .pointer (some ⟨k, 0, none⟩)) (hk : Row w k b ds)
    (hv : P.underlying u = some e) (he : (match e with | .struct _ | .array _ _ => true | _ => false) = true) (hj : (P.info? u).map (·.size) = some ds.size) :
    (results fn tmps).run P w = .ok (.tuple #[x, y, .agg ds]) w := by
  have hp' : tmps[p]?.getD undef = x := by simpa using hp
  have hp2' : tmps[p']?.getD undef = y := by simpa using hp2
  have hq' : tmps[q]?.getD undef = .pointer (some ⟨k, 0, none⟩) := by simpa using hq
  simp [results, h, hp', hp2', hq', asAddr, run_loadVar_row w k b u ds (0, 0) e hk hv he hj]
end Go.Proofs.Ytcnokjiohbifeaa
