/-
  PROVED: LzDecodesItsCodes answers true for every data, every dictionary and every bit string behind the code, well formed or not, and changes no argument. Conditions: none.
-/
import Derived.Test.YtahihgmlkcbfiaaPPa
import Derived.Test.YtahihgmlkcbfiaaLzIt
import Derived.Test.YtahihgmlkcbfiaaBOpen
import Derived.JoinedCond
namespace Go.Proofs.Ytahihgmlkcbfiaa.lawLzIt
open Go.ChangeShapes Go.WideShapes Go.ChangeAt Go.RowKit

theorem own : ownKnob Try.prog.godebug = none := by kernel_rfl

set_option maxRecDepth 100000 in
/-- WHAT THE WALKS GIVE, FOR EVERY ARGUMENT. -/
theorem contract (H : Type) (enc : TypeId × Value → H) (W : World) (base : Nat) (args : Array Value) (ds gs : List (DataW H)) (before : List MemPlace)
    (hval : ∀ (j : Nat) t v, Try.f10.params[j]? = some t → args[j]? = some v → Value.okWide Try.prog W .any base t v)
    (hW : DataW.Whole enc Try.prog Try.f10.params.toList Rows.lzDecodesItsCodesSpec.vars false W args.toList ds gs before) :
    Calls Try.prog 10 args W fun e W' => ∃ v, e = .returned v ∧ Rows.lzDecodesItsCodesSpec.post enc Try.prog Try.f10 false true false false W args v W' := by
  have hW' := hW
  obtain ⟨p, q, hA0, hV, rfl, hfz, hnd⟩ := hW
  have hA : DataW.TrodAll enc Try.prog W 0 (fun _ => true) true Try.f10.params.toList args.toList ds p := hA0
  rw [Try.params10] at hA hval
  obtain ⟨v0, vs0, d0, ds0, p0, q0, hargs, rfl, rfl, h0, r0⟩ := trodAll_cons hA
  obtain ⟨v1, vs1, d1, ds1, p1, q1, rfl, rfl, rfl, h1, r1⟩ := trodAll_cons r0
  obtain ⟨v2, vs2, d2, ds2, p2, q2, rfl, rfl, rfl, h2, r2⟩ := trodAll_cons r1
  obtain ⟨rfl, rfl, rfl⟩ := trodAll_nil r2
  obtain rfl : args = #[v0, v1, v2] := by cases args; simp_all
  obtain ⟨rfl, rfl⟩ := trodVars_none hV
  obtain ⟨A, L, c, rfl, hc, hmc, hSL, hdL⟩ := open_bslice Try.underlying22 Try.underlying5 (by kernel_rfl) (hval 0 _ v0 rfl rfl) h0
  obtain ⟨B, M, d, rfl, hd, hmd, hSM, hdM⟩ := open_bslice Try.underlying22 Try.underlying5 (by kernel_rfl) (hval 1 _ v1 rfl rfl) h1
  obtain ⟨C, R, e, k, rfl, hn1R, hn2R, hcR, hmR, hSR⟩ := open_bits (hval 2 _ v2 rfl rfl) h2
  clear hA0
  have walk : Calls Try.prog 10 #[.slice A L.length c, .slice B M.length d, .agg (bcs C R.length e k)] W fun e w' => e = .returned (.bool true) ∧ Below W.heap.size W w' := by
    by_cases h : (szF L.length 1024 M.length).1 ≠ 0
    · exact walk_f lz_all L M _ _ rfl rfl h A B c d C R.length e k W hSL hSM
    · rcases good_dec R k with ⟨l, rfl, hl, rfl⟩ | hG
      · by_cases h1 : 100000 < l.length
        · exact walk_m lz_all L M _ _ rfl rfl h A B c d C e l hl h1 W hSL hSM hSR
        · exact walk_g lz_all L M _ _ rfl rfl h A B c d C e l (by omega) W hSL hSM hSR
      · exact walk_n lz_all L M _ _ rfl rfl h A B c d C e R k hG W hSL hSM hSR
  refine walk.mono fun e W' ⟨he, hb⟩ => ?_
  subst he
  exact ⟨_, rfl, law_post laid_out (by kernel_rfl) rfl rfl rfl Try.underlying4 hW' hb⟩

set_option maxRecDepth 100000 in
/-- THE ROW's STEP. -/
theorem lifted (os : Os) (started : os.Started) (H : Type) (enc : TypeId × Value → H) :
    ReturnsInHanded {} Try.checked os 10 .any (Rows.lzDecodesItsCodesSpec.pre6 enc Try.prog Try.f10 Rows.lzDecodesItsCodesRow.domain false) (Rows.lzDecodesItsCodesSpec.post enc Try.prog Try.f10 false true false false) := by
  refine returnsInHanded_of_change (C := Try.checked) own started (by kernel_rfl) Try.func10
    (ChangeSpec.witness6 (enc := enc) (C := Try.checked) false ⟨#[], #[.slice none 0 0, .slice none 0 0, .agg (bcs none 0 0 0)], []⟩ 8 (by kernel_rfl) (by kernel_rfl) (by kernel_rfl) (by kernel_rfl)) ?_
  intro W base args ds gs before hval0 hW _ _
  exact contract H enc W base args ds gs before hval0 hW

theorem said : Rows.LzDecodesItsCodesSaid :=
  OpenClaim.holds_of_wide 10 Try.f10 rfl rfl rfl rfl rfl rfl rfl ⟨rfl, rfl, rfl, rfl, rfl⟩ rfl rfl rfl rfl rfl (by kernel_rfl) Try.func10 (by kernel_rfl)
    (of_decide_eq_true (by kernel_rfl)) (by unfold Func.isWrapper; first | (rw [if_pos (by decide +kernel)]; kernel_rfl) | (rw [if_neg (by decide +kernel)]; exact ⟨rfl, rfl⟩))
    (fun os started H enc _ => lifted os started H enc)
end Go.Proofs.Ytahihgmlkcbfiaa.lawLzIt
