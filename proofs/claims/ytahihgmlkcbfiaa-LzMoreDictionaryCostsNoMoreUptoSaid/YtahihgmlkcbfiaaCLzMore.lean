/-
  PROVED: LzMoreDictionaryCostsNoMore answers true for every data and every two parts of a dictionary, where the input is of bulk at most 1048576, and changes no argument. Conditions: that bound.
-/
import Derived.Test.YtahihgmlkcbfiaaPPa
import Derived.Test.YtahihgmlkcbfiaaLzMo
import Derived.Test.YtahihgmlkcbfiaaGBulk
import Derived.Test.YtahihgmlkcbfiaaBOpen
import Derived.JoinedCond
namespace Go.Proofs.Ytahihgmlkcbfiaa.lawLzMore
open Go.ChangeShapes Go.WideShapes Go.ChangeAt Go.RowKit

theorem own : ownKnob Try.prog.godebug = none := by kernel_rfl

set_option maxRecDepth 100000 in
/-- WHAT THE WALKS GIVE, FOR EVERY ARGUMENT. -/
theorem contract (H : Type) (enc : TypeId × Value → H) (W : World) (base : Nat) (args : Array Value) (ds gs : List (DataW H)) (before : List MemPlace)
    (hval : ∀ (j : Nat) t v, Try.f7.params[j]? = some t → args[j]? = some v → Value.okWide Try.prog W .any base t v)
    (hW : DataW.Whole enc Try.prog Try.f7.params.toList Rows.lzMoreDictionaryCostsNoMoreSpec.vars false W args.toList ds gs before)
    (hk : Rows.uptoSmall H (ds ++ gs) = true) :
    Calls Try.prog 7 args W fun e W' => ∃ v, e = .returned v ∧ Rows.lzMoreDictionaryCostsNoMoreSpec.post enc Try.prog Try.f7 false true false false W args v W' := by
  have hW' := hW
  obtain ⟨p, q, hA0, hV, rfl, hfz, hnd⟩ := hW
  have hA : DataW.TrodAll enc Try.prog W 0 (fun _ => true) true Try.f7.params.toList args.toList ds p := hA0
  rw [Try.params7] at hA hval
  obtain ⟨v0, vs0, d0, ds0, p0, q0, hargs, rfl, rfl, h0, r0⟩ := trodAll_cons hA
  obtain ⟨v1, vs1, d1, ds1, p1, q1, rfl, rfl, rfl, h1, r1⟩ := trodAll_cons r0
  obtain ⟨v2, vs2, d2, ds2, p2, q2, rfl, rfl, rfl, h2, r2⟩ := trodAll_cons r1
  obtain ⟨rfl, rfl, rfl⟩ := trodAll_nil r2
  obtain rfl : args = #[v0, v1, v2] := by cases args; simp_all
  obtain ⟨rfl, rfl⟩ := trodVars_none hV
  obtain ⟨A, L, c, rfl, hc, hmc, hSL, hdL⟩ := open_bslice Try.underlying22 Try.underlying5 (by kernel_rfl) (hval 0 _ v0 rfl rfl) h0
  obtain ⟨B, M, d, rfl, hd, hmd, hSM, hdM⟩ := open_bslice Try.underlying22 Try.underlying5 (by kernel_rfl) (hval 1 _ v1 rfl rfl) h1
  obtain ⟨C, E, e, rfl, he, hme, hSE, hdE⟩ := open_bslice Try.underlying22 Try.underlying5 (by kernel_rfl) (hval 2 _ v2 rfl rfl) h2
  clear hA0
  have walk : Calls Try.prog 7 #[.slice A L.length c, .slice B M.length d, .slice C E.length e] W fun e w' => e = .returned (.bool true) ∧ Below W.heap.size W w' := by
    have hl : L.length ≤ 1048576 := by
      rcases hdL with ⟨rfl, _⟩ | ⟨el, sp, rfl, he⟩
      · simp
      · rw [← he]
        exact bulk_slice (el := el) (sp := sp) hk (by simp)
    have hm : M.length ≤ 1048576 := by
      rcases hdM with ⟨rfl, _⟩ | ⟨el, sp, rfl, he⟩
      · simp
      · rw [← he]
        exact bulk_slice (el := el) (sp := sp) hk (by simp)
    have hn : E.length ≤ 1048576 := by
      rcases hdE with ⟨rfl, _⟩ | ⟨el, sp, rfl, he⟩
      · simp
      · rw [← he]
        exact bulk_slice (el := el) (sp := sp) hk (by simp)
    by_cases h1 : (szF L.length 1024 E.length).1 ≠ 0
    · exact walk_bb lz_all L M E _ _ _ rfl rfl rfl hl hm hn h1 (no_bg h1) A B C c d e W hSL hSM hSE
    · by_cases h2 : (szF L.length 1024 (M.length + E.length)).1 ≠ 0
      · exact walk_gb lz_all L M E _ _ _ rfl rfl rfl hl hm hn h1 h2 A B C c d e W hSL hSM hSE
      · exact walk_gg lz_all L M E _ _ _ rfl rfl rfl hl hm hn h1 h2 A B C c d e W hSL hSM hSE
  refine walk.mono fun e W' ⟨he, hb⟩ => ?_
  subst he
  exact ⟨_, rfl, law_post laid_out (by kernel_rfl) rfl rfl rfl Try.underlying4 hW' hb⟩

set_option maxRecDepth 100000 in
/-- THE ROW's STEP. -/
theorem lifted (os : Os) (started : os.Started) (H : Type) (enc : TypeId × Value → H) (F : Stop.Interp) :
    ReturnsInHanded {} Try.checked os 7 .any ((Rows.OpenSpec.upto Rows.lzMoreDictionaryCostsNoMoreSpec).pre6 enc Try.prog Try.f7 Rows.lzMoreDictionaryCostsNoMoreUptoRow.domain false) (((Rows.OpenSpec.upto Rows.lzMoreDictionaryCostsNoMoreSpec).at F).post enc Try.prog Try.f7 false true false false) := by
  refine returnsInHanded_of_cond (C := Try.checked) (s := (Rows.OpenSpec.upto Rows.lzMoreDictionaryCostsNoMoreSpec)) (k := Rows.uptoSmall) rfl own started (by kernel_rfl) Try.func7
    (OpenSpec.witness (enc := enc) (C := Try.checked) (s := (Rows.OpenSpec.upto Rows.lzMoreDictionaryCostsNoMoreSpec)) (k := Rows.uptoSmall) rfl false ⟨#[], #[.slice none 0 0, .slice none 0 0, .slice none 0 0], []⟩ 8 (by kernel_rfl) (by kernel_rfl) (by kernel_rfl)
      (x := ([.nil, .nil, .nil], [], [])) (by kernel_rfl) rfl (by kernel_rfl)) ?_
  intro W base args ds gs before hval hW _ hk _
  exact contract H enc W base args ds gs before hval hW hk

theorem said : Rows.LzMoreDictionaryCostsNoMoreUptoSaid :=
  OpenClaim.holds_of_cond 7 Try.f7 rfl rfl rfl rfl rfl rfl rfl ⟨rfl, rfl, rfl, rfl, rfl⟩ rfl rfl rfl rfl rfl (by kernel_rfl) Try.func7 (by kernel_rfl)
    (of_decide_eq_true (by kernel_rfl)) (by unfold Func.isWrapper; first | (rw [if_pos (by decide +kernel)]; kernel_rfl) | (rw [if_neg (by decide +kernel)]; exact ⟨rfl, rfl⟩))
    (fun os started H enc _ F => lifted os started H enc F)
end Go.Proofs.Ytahihgmlkcbfiaa.lawLzMore
