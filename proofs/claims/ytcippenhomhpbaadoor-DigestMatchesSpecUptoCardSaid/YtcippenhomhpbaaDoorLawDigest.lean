/-
  PROVED: the statement that digests are as specified (DigestMatchesSpec): the walk.
-/
import Derived.Test.YtcippenhomhpbaaDoorRefHash
namespace Go.Proofs.YtcippenhomhpbaaDoor.lawDigest
open Go.ChangeShapes Go.WideShapes Go.ChangeAt Go.RowKit

set_option maxRecDepth 100000 in
set_option maxHeartbeats 4000000 in
theorem walk (A : Option Addr) (L : List UInt8) (c : Nat) (w : World) (hK : KIs w) (hL : Sl w w.heap.size A L.length (bl L)) (hc : L.length ≤ c) (hcm : c ≤ maxLen) (hl : L.length ≤ 1048576) :
    Calls Tryd.prog 3 #[.slice A L.length c] w fun e w' => e = .returned (.bool true) ∧ Below w.heap.size w w' := by
  have HK := Lib.hid hK
  have hg := hK.lt
  have HCM := Lib.hid hcm
  have heq := eql_bs (sumOf L) (sumOf L) (sumOf_length _) (sumOf_length _)
  simp only [decide_true] at heq
  clear hK hcm
  go_enter Tryd.func3, Tryd.ntmps3
  go_wp2_with (first
    | (go_at_call 10; refine (digests_any _ HK.out).mono ?_; rintro e w1 ⟨rfl, hb1⟩)
    | (go_at_call 11; refine (sum_any A L c _ (KIs.keep HK.out hb1 hg) (hL.up hb1) hc HCM.out (by omega)).mono ?_; rintro e w2 ⟨rfl, hb2'⟩; have hb2 := blw_call hb1 hb1.size hb2')
    | (go_at_call 12; refine (refDigest_any A L c _ (hL.up hb2) (by omega)).mono ?_; rintro e w3 ⟨rfl, hb3'⟩; have hb3 := blw_call hb2 hb2.size hb3'))
  go_ret
  exact ⟨rfl, hb3⟩
end Go.Proofs.YtcippenhomhpbaaDoor.lawDigest
