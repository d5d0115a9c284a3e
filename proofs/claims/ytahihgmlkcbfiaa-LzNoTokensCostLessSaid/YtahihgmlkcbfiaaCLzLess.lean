/-
  PROVED: LzNoTokensCostLess answers true for every list of tokens, valid or not, and every dictionary, and changes no argument. Conditions: none.
-/
import Derived.Test.YtahihgmlkcbfiaaPPa
import Derived.Test.YtahihgmlkcbfiaaLzNo
import Derived.Test.YtahihgmlkcbfiaaBOpen
import Derived.JoinedCond
namespace Go.Proofs.Ytahihgmlkcbfiaa.lawLzLess
open Go.ChangeShapes Go.WideShapes Go.ChangeAt Go.RowKit

theorem own : ownKnob Try.prog.godebug = none := by kernel_rfl

set_option maxRecDepth 100000 in
/-- WHAT THE WALKS GIVE, FOR EVERY ARGUMENT. -/
theorem contract (H : Type) (enc : TypeId × Value → H) (W : World) (base : Nat) (args : Array Value) (ds gs : List (DataW H)) (before : List MemPlace)
    (hval : ∀ (j : Nat) t v, Try.f6.params[j]? = some t → args[j]? = some v → Value.okWide Try.prog W .any base t v)
    (hW : DataW.Whole enc Try.prog Try.f6.params.toList Rows.lzNoTokensCostLessSpec.vars false W args.toList ds gs before) :
    Calls Try.prog 6 args W fun e W' => ∃ v, e = .returned v ∧ Rows.lzNoTokensCostLessSpec.post enc Try.prog Try.f6 false true false false W args v W' := by
  have hW' := hW
  obtain ⟨p, q, hA0, hV, rfl, hfz, hnd⟩ := hW
  have hA : DataW.TrodAll enc Try.prog W 0 (fun _ => true) true Try.f6.params.toList args.toList ds p := hA0
  rw [Try.params6] at hA hval
  obtain ⟨v0, vs0, d0, ds0, p0, q0, hargs, rfl, rfl, h0, r0⟩ := trodAll_cons hA
  obtain ⟨v1, vs1, d1, ds1, p1, q1, rfl, rfl, rfl, h1, r1⟩ := trodAll_cons r0
  obtain ⟨rfl, rfl, rfl⟩ := trodAll_nil r1
  obtain rfl : args = #[v0, v1] := by cases args; simp_all
  obtain ⟨rfl, rfl⟩ := trodVars_none hV
  obtain ⟨A, ts, c, rfl, hc, hm, hSts⟩ := open_tokens (hval 0 _ v0 rfl rfl) h0
  obtain ⟨B, M, d, rfl, hd, hmd, hSM, hdM⟩ := open_bslice Try.underlying22 Try.underlying5 (by kernel_rfl) (hval 1 _ v1 rfl rfl) h1
  clear hA0
  have walk : Calls Try.prog 6 #[.slice A ts.length c, .slice B M.length d] W fun e w' => e = .returned (.bool true) ∧ Below W.heap.size W w' := by
    rcases tkf_or ts with ⟨k, i, h⟩ | ⟨l, rfl, hg, hl⟩
    · exact walk_err lz_all k i h.ne A B ts.length c M.length d W (lz_all.expandBad ts k i h A B c d M.length W hSts)
    · have hl' : (tz l).length ≤ 1024 := by rw [tz_length]; exact hl
      by_cases h5 : 512 < M.length
      · exact walk_err lz_all 3 (-2) (by decide) A B (tz l).length c M.length d W (lz_all.expandLong l hg _ (tz_length l) hl' A B c d M.length h5 W hSts)
      · cases hq : runT M.length l M 0 with
        | inl Y => exact walk_good lz_all l hg _ (tz_length l) hl' M Y M.length rfl (by omega) hq A B c d W hSts hSM
        | inr z =>
          obtain ⟨k, i⟩ := z
          have hx := lz_all.expand l hg _ (tz_length l) hl' M M.length rfl (by omega) A B c d W hSts hSM
          rw [hq] at hx
          exact walk_err lz_all k i (runT_code _ l M 0 k i hq) A B (tz l).length c M.length d W hx
  refine walk.mono fun e W' ⟨he, hb⟩ => ?_
  subst he
  exact ⟨_, rfl, law_post laid_out (by kernel_rfl) rfl rfl rfl Try.underlying4 hW' hb⟩

set_option maxRecDepth 100000 in
/-- THE ROW's STEP. -/
theorem lifted (os : Os) (started : os.Started) (H : Type) (enc : TypeId × Value → H) :
    ReturnsInHanded {} Try.checked os 6 .any (Rows.lzNoTokensCostLessSpec.pre6 enc Try.prog Try.f6 Rows.lzNoTokensCostLessRow.domain false) (Rows.lzNoTokensCostLessSpec.post enc Try.prog Try.f6 false true false false) := by
  refine returnsInHanded_of_change (C := Try.checked) own started (by kernel_rfl) Try.func6
    (ChangeSpec.witness6 (enc := enc) (C := Try.checked) false ⟨#[], #[.slice none 0 0, .slice none 0 0], []⟩ 8 (by kernel_rfl) (by kernel_rfl) (by kernel_rfl) (by kernel_rfl)) ?_
  intro W base args ds gs before hval0 hW _ _
  exact contract H enc W base args ds gs before hval0 hW

theorem said : Rows.LzNoTokensCostLessSaid :=
  OpenClaim.holds_of_wide 6 Try.f6 rfl rfl rfl rfl rfl rfl rfl ⟨rfl, rfl, rfl, rfl, rfl⟩ rfl rfl rfl rfl rfl (by kernel_rfl) Try.func6 (by kernel_rfl)
    (of_decide_eq_true (by kernel_rfl)) (by unfold Func.isWrapper; first | (rw [if_pos (by decide +kernel)]; kernel_rfl) | (rw [if_neg (by decide +kernel)]; exact ⟨rfl, rfl⟩))
    (fun os started H enc _ => lifted os started H enc)
end Go.Proofs.Ytahihgmlkcbfiaa.lawLzLess
