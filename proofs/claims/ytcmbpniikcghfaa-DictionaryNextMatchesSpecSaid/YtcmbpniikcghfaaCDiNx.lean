/-
  PROVED: DictionaryNextMatchesSpec answers true for every dictionary, all slices of samples and every size, and changes no argument. Conditions: none.
-/
import Derived.Test.YtcmbpniikcghfaaPDi
import Derived.Test.YtcmbpniikcghfaaYM
import Derived.Test.YtcmbpniikcghfaaYNx
import Derived.Test.YtcmbpniikcghfaaSqO
import Derived.JoinedCond
import Derived.HandedShaped
namespace Go.Proofs.Ytcmbpniikcghfaa.lawDiNx
open Go.ChangeShapes Go.WideShapes Go.ChangeAt Go.RowKit

theorem own : ownKnob Try.prog.godebug = none := by kernel_rfl

set_option maxRecDepth 100000 in
/-- WHAT THE WALKS GIVE, FOR EVERY ARGUMENT. -/
theorem contract (H : Type) (enc : TypeId × Value → H) (W : World) (base : Nat) (args : Array Value) (ds gs : List (DataW H)) (before : List MemPlace)
    (hval : ∀ (j : Nat) t v, Try.f4.params[j]? = some t → args[j]? = some v → Value.okWide Try.prog W .any base t v)
    (hW : DataW.Whole enc Try.prog Try.f4.params.toList Rows.dictionaryNextMatchesSpecSpec.vars false W args.toList ds gs before)
    (hsh : W.ShapedOpen Try.prog) :
    Calls Try.prog 4 args W fun e W' => ∃ v, e = .returned v ∧ Rows.dictionaryNextMatchesSpecSpec.post enc Try.prog Try.f4 false true false false W args v W' := by
  have hW' := hW
  obtain ⟨p, q, hA0, hV, rfl, hfz, hnd⟩ := hW
  have hA : DataW.TrodAll enc Try.prog W 0 (fun _ => true) true Try.f4.params.toList args.toList ds p := hA0
  rw [Try.params4] at hA hval
  obtain ⟨v0, vs0, d0, ds0, p0, q0, hargs, rfl, rfl, h0, r0⟩ := trodAll_cons hA
  obtain ⟨v1, vs1, d1, ds1, p1, q1, rfl, rfl, rfl, h1, r1⟩ := trodAll_cons r0
  obtain ⟨v2, vs2, d2, ds2, p2, q2, rfl, rfl, rfl, h2, r2⟩ := trodAll_cons r1
  obtain ⟨rfl, rfl, rfl⟩ := trodAll_nil r2
  obtain rfl : args = #[v0, v1, v2] := by cases args; simp_all
  obtain ⟨rfl, rfl⟩ := trodVars_none hV
  obtain ⟨B, M, d, rfl, hd, hmd, hSM, hdM⟩ := open_bslice Try.underlying23 Try.underlying5 (by kernel_rfl) (hval 0 _ v0 rfl rfl) h0
  obtain ⟨A2, n, cc, Ls, rfl, pn, pc, hB⟩ := open_bslices (hval 1 _ v1 rfl rfl) h1
  obtain ⟨z, rfl, rfl, rfl, wz⟩ := open_int Try.underlying3 (hval 2 _ v2 rfl rfl) h2
  have bz := bounds_i64 wz
  clear hA0
  have hml : ML W := containsM.s1_3 W hsh
  have walk : Calls Try.prog 4 #[.slice B M.length d, .slice A2 n cc, .int .i64 z] W fun e w' => e = .returned (.bool true) ∧ Below W.heap.size W w' := by
    by_cases hD : 512 < M.length
    · exact walk_bad1 (lawDiM.trains_any di_all) di_all.nextBad Ls n M.length z hB.1.symm bz hD A2 B cc d W hml hB
    · by_cases h : (smF Ls (-2)).1 = 0
      · by_cases h2 : 0 ≤ z ∧ z ≤ 512
        · obtain ⟨s, rfl⟩ : ∃ s : Nat, z = s := ⟨z.toNat, by omega⟩
          exact walk_ok (lawDiM.trains_any di_all) di_all.next di_all.train M Ls n M.length s hB.1.symm rfl (nxF_zero (by omega) h h2) A2 B cc d pn hd W hml hB hSM
        · exact walk_bad3 (lawDiM.trains_any di_all) di_all.nextBad Ls n M.length z hB.1.symm bz (by omega) h h2 A2 B cc d W hml hB
      · exact walk_bad2 (lawDiM.trains_any di_all) di_all.nextBad Ls n M.length z hB.1.symm bz (by omega) h A2 B cc d W hml hB
  refine walk.mono fun e W' ⟨he, hb⟩ => ?_
  subst he
  exact ⟨_, rfl, law_post laid_out (by kernel_rfl) rfl rfl rfl Try.underlying4 hW' hb⟩

set_option maxRecDepth 100000 in
/-- THE ROW's STEP. -/
theorem lifted (os : Os) (started : os.Started) (H : Type) (enc : TypeId × Value → H) :
    ReturnsInHanded {} Try.checked os 4 .any (Rows.dictionaryNextMatchesSpecSpec.pre6 enc Try.prog Try.f4 Rows.dictionaryNextMatchesSpecRow.domain false) (Rows.dictionaryNextMatchesSpecSpec.post enc Try.prog Try.f4 false true false false) := by
  refine returnsInHanded_of_change_shaped (C := Try.checked) own started (by kernel_rfl) Try.func4
    (ChangeSpec.witness6 (enc := enc) (C := Try.checked) false ⟨#[], #[.slice none 0 0, .slice none 0 0, .int .i64 0], []⟩ 8 (by kernel_rfl) (by kernel_rfl) (by kernel_rfl) (by kernel_rfl)) ?_
  intro W base args ds gs before hval0 hW _ _ hsh _
  exact contract H enc W base args ds gs before hval0 hW hsh

theorem said : Rows.DictionaryNextMatchesSpecSaid :=
  OpenClaim.holds_of_wide 4 Try.f4 rfl rfl rfl rfl rfl rfl rfl ⟨rfl, rfl, rfl, rfl, rfl⟩ rfl rfl rfl rfl rfl (by kernel_rfl) Try.func4 (by kernel_rfl)
    (of_decide_eq_true (by kernel_rfl)) (by unfold Func.isWrapper; first | (rw [if_pos (by decide +kernel)]; kernel_rfl) | (rw [if_neg (by decide +kernel)]; exact ⟨rfl, rfl⟩))
    (fun os started H enc _ => lifted os started H enc)
end Go.Proofs.Ytcmbpniikcghfaa.lawDiNx
