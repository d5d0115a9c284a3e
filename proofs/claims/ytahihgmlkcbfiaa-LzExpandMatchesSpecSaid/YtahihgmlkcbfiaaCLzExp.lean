/-
  PROVED: LzExpandMatchesSpec answers true for every list of tokens, valid or not, and every dictionary, and changes no argument. Conditions: none.
-/
import Derived.Test.YtahihgmlkcbfiaaPPa
import Derived.Test.YtahihgmlkcbfiaaLzEx
import Derived.Test.YtahihgmlkcbfiaaBOpen
import Derived.JoinedCond
namespace Go.Proofs.Ytahihgmlkcbfiaa.lawLzExp
open Go.ChangeShapes Go.WideShapes Go.ChangeAt Go.RowKit

theorem own : ownKnob Try.prog.godebug = none := by kernel_rfl

set_option maxRecDepth 100000 in
/-- WHAT THE WALKS GIVE, FOR EVERY ARGUMENT. -/
theorem contract (H : Type) (enc : TypeId × Value → H) (W : World) (base : Nat) (args : Array Value) (ds gs : List (DataW H)) (before : List MemPlace)
    (hval : ∀ (j : Nat) t v, Try.f4.params[j]? = some t → args[j]? = some v → Value.okWide Try.prog W .any base t v)
    (hW : DataW.Whole enc Try.prog Try.f4.params.toList Rows.lzExpandMatchesSpecSpec.vars false W args.toList ds gs before) :
    Calls Try.prog 4 args W fun e W' => ∃ v, e = .returned v ∧ Rows.lzExpandMatchesSpecSpec.post enc Try.prog Try.f4 false true false false W args v W' := by
  have hW' := hW
  obtain ⟨p, q, hA0, hV, rfl, hfz, hnd⟩ := hW
  have hA : DataW.TrodAll enc Try.prog W 0 (fun _ => true) true Try.f4.params.toList args.toList ds p := hA0
  rw [Try.params4] at hA hval
  obtain ⟨v0, vs0, d0, ds0, p0, q0, hargs, rfl, rfl, h0, r0⟩ := trodAll_cons hA
  obtain ⟨v1, vs1, d1, ds1, p1, q1, rfl, rfl, rfl, h1, r1⟩ := trodAll_cons r0
  obtain ⟨rfl, rfl, rfl⟩ := trodAll_nil r1
  obtain rfl : args = #[v0, v1] := by cases args; simp_all
  obtain ⟨rfl, rfl⟩ := trodVars_none hV
  obtain ⟨A, ts, c, rfl, hc, hm, hSts⟩ := open_tokens (hval 0 _ v0 rfl rfl) h0
  obtain ⟨B, M, d, rfl, hd, hmd, hSM, hdM⟩ := open_bslice Try.underlying22 Try.underlying5 (by kernel_rfl) (hval 1 _ v1 rfl rfl) h1
  clear hA0
  have walk : Calls Try.prog 4 #[.slice A ts.length c, .slice B M.length d] W fun e w' => e = .returned (.bool true) ∧ Below W.heap.size W w' := by
    have hn : ts.length ≤ 9223372036854775807 := by have h := Nat.le_trans hc hm; unfold maxLen at h; omega
    have nil : ∀ (w : World) (G : Option Addr), Sl w w.heap.size G 0 (bl []) := fun w G => by rw [bl_nil]; exact Sl.nil _ _ _
    rcases tkf_or ts with ⟨k, i, h⟩ | ⟨l, rfl, hg, hl⟩
    · refine walk lz_all ts ts.length hn M M.length A B c d W hSts hSM [] 0 k i (fun w hA _ => ?_) (fun w hA _ => ?_)
      · refine (lz_all.expandBad ts k i h A B c d M.length w hA).mono ?_
        rintro e w' ⟨⟨G, g, he⟩, hb⟩
        exact ⟨G, g, he, nil _ _, hb⟩
      · refine (expanded_bad ts k i h A B c d M.length w hA).mono ?_
        rintro e w' ⟨he, hb⟩
        exact ⟨none, 0, he, nil _ _, hb⟩
    · have hl' : (tz l).length ≤ 1024 := by rw [tz_length]; exact hl
      by_cases h5 : 512 < M.length
      · refine walk lz_all (tz l) (tz l).length hn M M.length A B c d W hSts hSM [] 0 3 (-2) (fun w hA _ => ?_) (fun w hA _ => ?_)
        · refine (lz_all.expandLong l hg _ (tz_length l) hl' A B c d M.length h5 w hA).mono ?_
          rintro e w' ⟨⟨G, g, he⟩, hb⟩
          exact ⟨G, g, he, nil _ _, hb⟩
        · refine (expanded_long l hg _ (tz_length l) hl' A B c d M.length h5 w hA).mono ?_
          rintro e w' ⟨he, hb⟩
          exact ⟨none, 0, he, nil _ _, hb⟩
      · have hx := fun w hA hB => lz_all.expand l hg _ (tz_length l) hl' M M.length rfl (by omega) A B c d w hA hB
        have hr := fun w hA hB => expanded_any l hg _ (tz_length l) hl' M M.length rfl (by omega) A B c d w hA hB
        cases hq : runT M.length l M 0 with
        | inl Y =>
          rw [hq] at hx hr
          refine walk lz_all (tz l) (tz l).length hn M M.length A B c d W hSts hSM (Y.drop M.length) (Y.length - M.length) 0 0 (fun w hA hB => (hx w hA hB).mono ?_) (fun w hA hB => (hr w hA hB).mono ?_)
          · rintro e w' ⟨⟨G, g, he, hs⟩, hb⟩
            exact ⟨G, g, he, hs, hb⟩
          · rintro e w' ⟨⟨G, g, he, hs⟩, hb⟩
            exact ⟨G, g, he, hs, hb⟩
        | inr z =>
          obtain ⟨k, i⟩ := z
          rw [hq] at hx hr
          refine walk lz_all (tz l) (tz l).length hn M M.length A B c d W hSts hSM [] 0 k i (fun w hA hB => (hx w hA hB).mono ?_) (fun w hA hB => (hr w hA hB).mono ?_)
          · rintro e w' ⟨⟨G, g, he⟩, hb⟩
            exact ⟨G, g, he, nil _ _, hb⟩
          · rintro e w' ⟨he, hb⟩
            exact ⟨none, 0, he, nil _ _, hb⟩
  refine walk.mono fun e W' ⟨he, hb⟩ => ?_
  subst he
  exact ⟨_, rfl, law_post laid_out (by kernel_rfl) rfl rfl rfl Try.underlying4 hW' hb⟩

set_option maxRecDepth 100000 in
/-- THE ROW's STEP. -/
theorem lifted (os : Os) (started : os.Started) (H : Type) (enc : TypeId × Value → H) :
    ReturnsInHanded {} Try.checked os 4 .any (Rows.lzExpandMatchesSpecSpec.pre6 enc Try.prog Try.f4 Rows.lzExpandMatchesSpecRow.domain false) (Rows.lzExpandMatchesSpecSpec.post enc Try.prog Try.f4 false true false false) := by
  refine returnsInHanded_of_change (C := Try.checked) own started (by kernel_rfl) Try.func4
    (ChangeSpec.witness6 (enc := enc) (C := Try.checked) false ⟨#[], #[.slice none 0 0, .slice none 0 0], []⟩ 8 (by kernel_rfl) (by kernel_rfl) (by kernel_rfl) (by kernel_rfl)) ?_
  intro W base args ds gs before hval0 hW _ _
  exact contract H enc W base args ds gs before hval0 hW

theorem said : Rows.LzExpandMatchesSpecSaid :=
  OpenClaim.holds_of_wide 4 Try.f4 rfl rfl rfl rfl rfl rfl rfl ⟨rfl, rfl, rfl, rfl, rfl⟩ rfl rfl rfl rfl rfl (by kernel_rfl) Try.func4 (by kernel_rfl)
    (of_decide_eq_true (by kernel_rfl)) (by unfold Func.isWrapper; first | (rw [if_pos (by decide +kernel)]; kernel_rfl) | (rw [if_neg (by decide +kernel)]; exact ⟨rfl, rfl⟩))
    (fun os started H enc _ => lifted os started H enc)
end Go.Proofs.Ytahihgmlkcbfiaa.lawLzExp
