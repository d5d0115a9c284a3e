/-
  PROVED: ArithPutMatchesSpec answers true for every state of an encoder, every bit and every probability, and changes no argument. Conditions: none.
-/
import Derived.Test.YtcnokjiohbifeaaLPutA
import Derived.Test.YtcnokjiohbifeaaLPutB
import Derived.Test.YtcnokjiohbifeaaLPutC
import Derived.Test.YtcnokjiohbifeaaLPutD
import Derived.Test.YtcnokjiohbifeaaLPutE
import Derived.Test.YtcnokjiohbifeaaAArgs
import Derived.JoinedCond
namespace Go.Proofs.Ytcnokjiohbifeaa.lawPut
open Go.ChangeShapes Go.WideShapes Go.ChangeAt Go.RowKit

theorem own : ownKnob Try.prog.godebug = none := by kernel_rfl

set_option maxRecDepth 100000 in
/-- WHAT THE WALKS GIVE, FOR EVERY ARGUMENT. -/
theorem contract (H : Type) (enc : TypeId × Value → H) (W : World) (base : Nat) (args : Array Value) (ds gs : List (DataW H)) (before : List MemPlace)
    (hval : ∀ (j : Nat) t v, Try.f3.params[j]? = some t → args[j]? = some v → Value.okWide Try.prog W .any base t v)
    (hW : DataW.Whole enc Try.prog Try.f3.params.toList Rows.arithPutMatchesSpecSpec.vars false W args.toList ds gs before) :
    Calls Try.prog 3 args W fun e W' => ∃ v, e = .returned v ∧ Rows.arithPutMatchesSpecSpec.post enc Try.prog Try.f3 false true false false W args v W' := by
  have hW' := hW
  obtain ⟨p, q, hA0, hV, rfl, hfz, hnd⟩ := hW
  have hA : DataW.TrodAll enc Try.prog W 0 (fun _ => true) true Try.f3.params.toList args.toList ds p := hA0
  rw [Try.params3] at hA hval
  obtain ⟨v0, vs0, d0, ds0, p0, q0, hargs, rfl, rfl, h0, r0⟩ := trodAll_cons hA
  obtain ⟨v1, vs1, d1, ds1, p1, q1, rfl, rfl, rfl, h1, r1⟩ := trodAll_cons r0
  obtain ⟨v2, vs2, d2, ds2, p2, q2, rfl, rfl, rfl, h2, r2⟩ := trodAll_cons r1
  obtain ⟨rfl, rfl, rfl⟩ := trodAll_nil r2
  obtain rfl : args = #[v0, v1, v2] := by cases args; simp_all
  obtain ⟨rfl, rfl⟩ := trodVars_none hV
  obtain ⟨a, b, q, rfl⟩ := open_coder (hval 0 _ v0 rfl rfl) h0
  obtain ⟨bit, rfl, rfl, rfl, wbit⟩ := open_int Try.underlying3 (hval 1 _ v1 rfl rfl) h1
  have bbit := bounds_i64 wbit
  obtain ⟨p, rfl, rfl, rfl, wp⟩ := open_int Try.underlying3 (hval 2 _ v2 rfl rfl) h2
  have bp := bounds_i64 wp
  clear hA0
  have walk : Calls Try.prog 3 #[.agg (cds a b q), .int .i64 bit, .int .i64 p] W fun e w' => e = .returned (.bool true) ∧ Below W.heap.size W w' := by
    by_cases hc : CoderZ a b q
    · obtain ⟨L, H, P, rfl, rfl, rfl, _, _⟩ := hc.nat
      by_cases hb : bit = 0 ∨ bit = 1
      · obtain ⟨x, rfl⟩ : ∃ x : Bool, bit = ((x.toNat : Nat) : Int) := by
          rcases hb with rfl | rfl
          · exact ⟨false, rfl⟩
          · exact ⟨true, rfl⟩
        by_cases hp : 1 ≤ p ∧ p ≤ 4095
        · obtain ⟨n, rfl⟩ : ∃ n : Nat, p = n := ⟨p.toNat, by omega⟩
          by_cases hl : 131056 < (sentN P (stepN L H n x).2.2).2
          · exact walk_large L H P n x hc (by omega) (by omega) hl W
          · exact walk_good L H P n x hc (by omega) (by omega) (by omega) W
        · exact walk_prob L H P x p hc hp W
      · exact walk_bit L H P bit p hc hb W
    · exact walk_form a b q bit p hc W
  refine walk.mono fun e W' ⟨he, hb⟩ => ?_
  subst he
  exact ⟨_, rfl, law_post laid_out (by kernel_rfl) rfl rfl rfl Try.underlying4 hW' hb⟩

set_option maxRecDepth 100000 in
/-- THE ROW's STEP. -/
theorem lifted (os : Os) (started : os.Started) (H : Type) (enc : TypeId × Value → H) :
    ReturnsInHanded {} Try.checked os 3 .any (Rows.arithPutMatchesSpecSpec.pre6 enc Try.prog Try.f3 Rows.arithPutMatchesSpecRow.domain false) (Rows.arithPutMatchesSpecSpec.post enc Try.prog Try.f3 false true false false) := by
  refine returnsInHanded_of_change (C := Try.checked) own started (by kernel_rfl) Try.func3
    (ChangeSpec.witness6 (enc := enc) (C := Try.checked) false ⟨#[], #[.agg (cds 0 0 0), .int .i64 0, .int .i64 0], []⟩ 8 (by kernel_rfl) (by kernel_rfl) (by kernel_rfl) (by kernel_rfl)) ?_
  intro W base args ds gs before hval0 hW _ _
  exact contract H enc W base args ds gs before hval0 hW

theorem said : Rows.ArithPutMatchesSpecSaid :=
  OpenClaim.holds_of_wide 3 Try.f3 rfl rfl rfl rfl rfl rfl rfl ⟨rfl, rfl, rfl, rfl, rfl⟩ rfl rfl rfl rfl rfl (by kernel_rfl) Try.func3 (by kernel_rfl)
    (of_decide_eq_true (by kernel_rfl)) (by unfold Func.isWrapper; first | (rw [if_pos (by decide +kernel)]; kernel_rfl) | (rw [if_neg (by decide +kernel)]; exact ⟨rfl, rfl⟩))
    (fun os started H enc _ => lifted os started H enc)
end Go.Proofs.Ytcnokjiohbifeaa.lawPut
