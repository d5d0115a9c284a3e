/-
  PROVED: ModelLooksBackOnly answers true for every order and every two lists of integers, where the input is of bulk at most 1048576, and changes no argument. Conditions: that bound.
-/
import Derived.Test.YtgpacgmgdnongaaLBks
import Derived.Test.YtgpacgmgdnongaaGBulk
import Derived.Test.YtgpacgmgdnongaaMOpen
import Derived.JoinedCond
namespace Go.Proofs.Ytgpacgmgdnongaa.lawBks
open Go.ChangeShapes Go.WideShapes Go.ChangeAt Go.RowKit

theorem own : ownKnob Try.prog.godebug = none := by kernel_rfl

/-- WHAT THE WALKS GIVE, FOR EVERY ARGUMENT. -/
theorem contract (H : Type) (enc : TypeId × Value → H) (W : World) (base : Nat) (args : Array Value) (ds gs : List (DataW H)) (before : List MemPlace)
    (hval : ∀ (j : Nat) t v, Try.f5.params[j]? = some t → args[j]? = some v → Value.okWide Try.prog W .any base t v)
    (hW : DataW.Whole enc Try.prog Try.f5.params.toList Rows.modelLooksBackOnlySpec.vars false W args.toList ds gs before)
    (hk : Rows.uptoSmall H (ds ++ gs) = true) :
    Calls Try.prog 5 args W fun e W' => ∃ v, e = .returned v ∧ Rows.modelLooksBackOnlySpec.post enc Try.prog Try.f5 false true false false W args v W' := by
  have hW' := hW
  obtain ⟨p, q, hA0, hV, rfl, hfz, hnd⟩ := hW
  have hA : DataW.TrodAll enc Try.prog W 0 (fun _ => true) true Try.f5.params.toList args.toList ds p := hA0
  rw [Try.params5] at hA hval
  obtain ⟨v0, vs0, d0, ds0, p0, q0, hargs, rfl, rfl, h0, r0⟩ := trodAll_cons hA
  obtain ⟨v1, vs1, d1, ds1, p1, q1, rfl, rfl, rfl, h1, r1⟩ := trodAll_cons r0
  obtain ⟨v2, vs2, d2, ds2, p2, q2, rfl, rfl, rfl, h2, r2⟩ := trodAll_cons r1
  obtain ⟨rfl, rfl, rfl⟩ := trodAll_nil r2
  obtain rfl : args = #[v0, v1, v2] := by cases args; simp_all
  obtain ⟨rfl, rfl⟩ := trodVars_none hV
  obtain ⟨d, rfl, rfl, rfl, wd⟩ := open_int Try.underlying3 (hval 0 _ v0 rfl rfl) h0
  have bd := bounds_i64 wd
  obtain ⟨A, zs, c, rfl, hc, hmc, hSzs, hdzs⟩ := open_islice Try.underlying22 Try.underlying3 (by kernel_rfl) (hval 1 _ v1 rfl rfl) h1
  obtain ⟨B, ys, e, rfl, he, hme, hSys, hdys⟩ := open_islice Try.underlying22 Try.underlying3 (by kernel_rfl) (hval 2 _ v2 rfl rfl) h2
  clear hA0
  have walk : Calls Try.prog 5 #[.int .i64 d, .slice A zs.length c, .slice B ys.length e] W fun e w' => e = .returned (.bool true) ∧ Below W.heap.size W w' := by
    have hz : zs.length ≤ 1048576 := by
      rcases hdzs with ⟨rfl, _⟩ | ⟨el, sp, rfl, he⟩
      · simp
      · rw [← he]
        exact bulk_slice (el := el) (sp := sp) hk (by simp)
    have hy : ys.length ≤ 1048576 := by
      rcases hdys with ⟨rfl, _⟩ | ⟨el, sp, rfl, he⟩
      · simp
      · rw [← he]
        exact bulk_slice (el := el) (sp := sp) hk (by simp)
    exact walk_any d zs ys hz hy A c hc B e W hSzs hSys
  refine walk.mono fun e W' ⟨he, hb⟩ => ?_
  subst he
  exact ⟨_, rfl, law_post laid_out (by kernel_rfl) rfl rfl rfl Try.underlying4 hW' hb⟩

set_option maxRecDepth 100000 in
/-- THE ROW's STEP. -/
theorem lifted (os : Os) (started : os.Started) (H : Type) (enc : TypeId × Value → H) (F : Stop.Interp) :
    ReturnsInHanded {} Try.checked os 5 .any ((Rows.OpenSpec.upto Rows.modelLooksBackOnlySpec).pre6 enc Try.prog Try.f5 Rows.modelLooksBackOnlyUptoRow.domain false) (((Rows.OpenSpec.upto Rows.modelLooksBackOnlySpec).at F).post enc Try.prog Try.f5 false true false false) := by
  refine returnsInHanded_of_cond (C := Try.checked) (s := (Rows.OpenSpec.upto Rows.modelLooksBackOnlySpec)) (k := Rows.uptoSmall) rfl own started (by kernel_rfl) Try.func5
    (OpenSpec.witness (enc := enc) (C := Try.checked) (s := (Rows.OpenSpec.upto Rows.modelLooksBackOnlySpec)) (k := Rows.uptoSmall) rfl false ⟨#[], #[.int .i64 0, .slice none 0 0, .slice none 0 0], []⟩ 8 (by kernel_rfl) (by kernel_rfl) (by kernel_rfl)
      (x := ([.lit (.int .i64 0), .nil, .nil], [], [])) (by kernel_rfl) rfl (by kernel_rfl)) ?_
  intro W base args ds gs before hval hW _ hk _
  exact contract H enc W base args ds gs before hval hW hk

theorem said : Rows.ModelLooksBackOnlyUptoSaid :=
  OpenClaim.holds_of_cond 5 Try.f5 rfl rfl rfl rfl rfl rfl rfl ⟨rfl, rfl, rfl, rfl, rfl⟩ rfl rfl rfl rfl rfl (by kernel_rfl) Try.func5 (by kernel_rfl)
    (of_decide_eq_true (by kernel_rfl)) (by unfold Func.isWrapper; first | (rw [if_pos (by decide +kernel)]; kernel_rfl) | (rw [if_neg (by decide +kernel)]; exact ⟨rfl, rfl⟩))
    (fun os started H enc _ F => lifted os started H enc F)
end Go.Proofs.Ytgpacgmgdnongaa.lawBks
