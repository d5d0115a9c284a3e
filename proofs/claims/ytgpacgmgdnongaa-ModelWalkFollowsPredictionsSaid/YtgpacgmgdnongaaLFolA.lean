/-
  The walks of ModelWalkFollowsPredictions.
-/
import Derived.Test.YtgpacgmgdnongaaLFolC
import Derived.Deep.RegionHeld3
namespace Go.Proofs.Ytgpacgmgdnongaa.lawFol
open Go.RowKit

theorem eqin_flt (a b c d : Int) (w : World) : (Op.equalIn 10000 24 (.agg (flt a b)) (.agg (flt c d))).run Try.prog w = .ok (a == c && b == d) w := by
  have h := eql_flt a b c d w
  simp only [binOp] at h
  simp only [Op.equal, Op.maxDepth, Sem.run_bind] at h
  cases hq : (Op.equalIn 10000 24 (.agg (flt a b)) (.agg (flt c d))).run Try.prog w with
  | ok v w' =>
    rw [hq] at h
    simp only [Result.andThen_ok, Sem.run_pure, Result.ok.injEq, Value.bool.injEq] at h
    rw [h.1, h.2]
  | halt e w' =>
    rw [hq] at h
    simp at h

end Go.Proofs.Ytgpacgmgdnongaa.lawFol
