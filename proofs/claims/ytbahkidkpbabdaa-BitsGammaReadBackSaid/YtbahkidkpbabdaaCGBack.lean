/-
  PROVED: BitsGammaReadBack answers true for every bit string, every number and every rest, and changes no argument. Conditions: none.
-/
import Derived.Test.YtbahkidkpbabdaaLGBack
import Derived.Test.YtbahkidkpbabdaaBOpen
import Derived.JoinedCond
namespace Go.Proofs.Ytbahkidkpbabdaa.lawGBack
open Go.ChangeShapes Go.WideShapes Go.ChangeAt Go.RowKit

theorem own : ownKnob Try.prog.godebug = none := by kernel_rfl

/-- WHAT THE WALKS GIVE, FOR EVERY ARGUMENT. -/
theorem contract (H : Type) (enc : TypeId × Value → H) (W : World) (base : Nat) (args : Array Value) (ds gs : List (DataW H)) (before : List MemPlace)
    (hval : ∀ (j : Nat) t v, Try.f7.params[j]? = some t → args[j]? = some v → Value.okWide Try.prog W .any base t v)
    (hW : DataW.Whole enc Try.prog Try.f7.params.toList Rows.bitsGammaReadBackSpec.vars false W args.toList ds gs before) :
    Calls Try.prog 7 args W fun e W' => ∃ v, e = .returned v ∧ Rows.bitsGammaReadBackSpec.post enc Try.prog Try.f7 false true false false W args v W' := by
  have hW' := hW
  obtain ⟨p, q, hA0, hV, rfl, hfz, hnd⟩ := hW
  have hA : DataW.TrodAll enc Try.prog W 0 (fun _ => true) true Try.f7.params.toList args.toList ds p := hA0
  rw [Try.params7] at hA hval
  obtain ⟨v0, vs0, d0, ds0, p0, q0, hargs, rfl, rfl, h0, r0⟩ := trodAll_cons hA
  obtain ⟨v1, vs1, d1, ds1, p1, q1, rfl, rfl, rfl, h1, r1⟩ := trodAll_cons r0
  obtain ⟨v2, vs2, d2, ds2, p2, q2, rfl, rfl, rfl, h2, r2⟩ := trodAll_cons r1
  obtain ⟨rfl, rfl, rfl⟩ := trodAll_nil r2
  obtain rfl : args = #[v0, v1, v2] := by cases args; simp_all
  obtain ⟨rfl, rfl⟩ := trodVars_none hV
  obtain ⟨A, L, c, k, rfl, hn1L, hn2L, hcL, hmL, hSL⟩ := open_bits (hval 0 _ v0 rfl rfl) h0
  obtain ⟨n, rfl, rfl, rfl, wn⟩ := open_int Try.underlying3 (hval 1 _ v1 rfl rfl) h1
  have bn := bounds_i64 wn
  obtain ⟨A2, M, c2, j, rfl, hn1M, hn2M, hcM, hmM, hSM⟩ := open_bits (hval 2 _ v2 rfl rfl) h2
  clear hA0
  have walk : Calls Try.prog 7 #[.agg (bcs A L.length c k), .int .i64 n, .agg (bcs A2 M.length c2 j)] W fun e w' => e = .returned (.bool true) ∧ Below W.heap.size W w' := by
    rcases gf_or L k n with ⟨e, i, h⟩ | ⟨l, v, s, rfl, rfl, rfl, h1, h2, h3, h4⟩
    · exact walk_bad L M k n e i j h bn A A2 c c2 W hSL hSM
    · rcases good_dec M j with ⟨m, hj, hm, hM⟩ | hG
      · by_cases hx : 131072 < l.length + s + m.length
        · exact walk_large l v s h1 h2 h3 h4 m M hM j hj hm hx A A2 c c2 W hSL hSM
        · exact walk_good l v s h1 h2 h3 h4 m M hM j hj hm (by omega) A A2 c c2 W hSL hSM
      · exact walk_norest l v s h1 h2 h3 h4 M j hG A A2 c c2 W hSL hSM
  refine walk.mono fun e W' ⟨he, hb⟩ => ?_
  subst he
  exact ⟨_, rfl, law_post laid_out (by kernel_rfl) rfl rfl rfl Try.underlying4 hW' hb⟩

set_option maxRecDepth 100000 in
/-- THE ROW's STEP. -/
theorem lifted (os : Os) (started : os.Started) (H : Type) (enc : TypeId × Value → H) :
    ReturnsInHanded {} Try.checked os 7 .any (Rows.bitsGammaReadBackSpec.pre6 enc Try.prog Try.f7 Rows.bitsGammaReadBackRow.domain false) (Rows.bitsGammaReadBackSpec.post enc Try.prog Try.f7 false true false false) := by
  refine returnsInHanded_of_change (C := Try.checked) own started (by kernel_rfl) Try.func7
    (ChangeSpec.witness6 (enc := enc) (C := Try.checked) false ⟨#[], #[.agg (bcs none 0 0 0), .int .i64 0, .agg (bcs none 0 0 0)], []⟩ 8 (by kernel_rfl) (by kernel_rfl) (by kernel_rfl) (by kernel_rfl)) ?_
  intro W base args ds gs before hval0 hW _ _
  exact contract H enc W base args ds gs before hval0 hW

theorem said : Rows.BitsGammaReadBackSaid :=
  OpenClaim.holds_of_wide 7 Try.f7 rfl rfl rfl rfl rfl rfl rfl ⟨rfl, rfl, rfl, rfl, rfl⟩ rfl rfl rfl rfl rfl (by kernel_rfl) Try.func7 (by kernel_rfl)
    (of_decide_eq_true (by kernel_rfl)) (by unfold Func.isWrapper; first | (rw [if_pos (by decide +kernel)]; kernel_rfl) | (rw [if_neg (by decide +kernel)]; exact ⟨rfl, rfl⟩))
    (fun os started H enc _ => lifted os started H enc)
end Go.Proofs.Ytbahkidkpbabdaa.lawGBack
