/-
  PROVED: ArithDecodeMatchesSpec answers true for every coded bit string, well formed or not, and every list of probabilities, and changes no argument. Conditions: none.
-/
import Derived.Test.YtcnokjiohbifeaaLDecF
import Derived.Test.YtcnokjiohbifeaaLDecG
import Derived.Test.YtcnokjiohbifeaaBGood
import Derived.Test.YtcnokjiohbifeaaAArgs
import Derived.JoinedCond
namespace Go.Proofs.Ytcnokjiohbifeaa.lawDec
open Go.ChangeShapes Go.WideShapes Go.ChangeAt Go.RowKit

theorem own : ownKnob Try.prog.godebug = none := by kernel_rfl

set_option maxRecDepth 100000 in
/-- WHAT THE WALKS GIVE, FOR EVERY ARGUMENT. -/
theorem contract (H : Type) (enc : TypeId × Value → H) (W : World) (base : Nat) (args : Array Value) (ds gs : List (DataW H)) (before : List MemPlace)
    (hval : ∀ (j : Nat) t v, Try.f6.params[j]? = some t → args[j]? = some v → Value.okWide Try.prog W .any base t v)
    (hW : DataW.Whole enc Try.prog Try.f6.params.toList Rows.arithDecodeMatchesSpecSpec.vars false W args.toList ds gs before) :
    Calls Try.prog 6 args W fun e W' => ∃ v, e = .returned v ∧ Rows.arithDecodeMatchesSpecSpec.post enc Try.prog Try.f6 false true false false W args v W' := by
  have hW' := hW
  obtain ⟨p, q, hA0, hV, rfl, hfz, hnd⟩ := hW
  have hA : DataW.TrodAll enc Try.prog W 0 (fun _ => true) true Try.f6.params.toList args.toList ds p := hA0
  rw [Try.params6] at hA hval
  obtain ⟨v0, vs0, d0, ds0, p0, q0, hargs, rfl, rfl, h0, r0⟩ := trodAll_cons hA
  obtain ⟨v1, vs1, d1, ds1, p1, q1, rfl, rfl, rfl, h1, r1⟩ := trodAll_cons r0
  obtain ⟨rfl, rfl, rfl⟩ := trodAll_nil r1
  obtain rfl : args = #[v0, v1] := by cases args; simp_all
  obtain ⟨rfl, rfl⟩ := trodVars_none hV
  obtain ⟨A, L, cp, k, rfl, hn1L, hn2L, hcL, hmL, hSL⟩ := open_bits (hval 0 _ v0 rfl rfl) h0
  obtain ⟨B, zs, dp, rfl, hdp, hmdp, hSzs, hdzs⟩ := open_islice Try.underlying38 Try.underlying3 (by kernel_rfl) (hval 1 _ v1 rfl rfl) h1
  clear hA0
  have walk : Calls Try.prog 6 #[.agg (bcs A L.length cp k), .slice B zs.length dp] W fun e w' => e = .returned (.bool true) ∧ Below W.heap.size W w' := by
    rcases good_dec L k with ⟨l, rfl, hl, rfl⟩ | hG
    · by_cases hz : 8192 < zs.length
      · exact walk_many l hl zs hz A B cp dp W hSL hSzs
      · rcases first_badP zs with ⟨ps, rfl, hps⟩ | ⟨k, hk, h1, h2⟩
        · rw [nz_length] at hz
          rw [zl_nz] at hSzs
          rw [nz_length] at hSzs ⊢
          have hz' : ps.length ≤ 8192 := by omega
          by_cases g1 : l.length < manyN (fun j => l.getD j false) 0 65535 (numF (fun j => l.getD j false) 16) 16 ps + 2
          · exact walk_trunc l ps hl hps _ rfl hz' _ rfl _ _ rfl rfl g1 A B cp dp W hSL hSzs
          · by_cases g2 : manyN (fun j => l.getD j false) 0 65535 (numF (fun j => l.getD j false) 16) 16 ps + 2 < l.length
            · exact walk_corrupt l ps hl hps _ rfl hz' _ rfl _ _ rfl rfl g2 A B cp dp W hSL hSzs
            · exact walk_good l ps hl hps _ rfl hz' _ rfl _ _ rfl rfl (by omega) A B cp dp W hSL hSzs
        · exact walk_range l hl zs (by omega) k hk h1 h2 A B cp dp W hSL hSzs
    · exact walk_form L k zs hG A B cp dp W hSL hSzs
  refine walk.mono fun e W' ⟨he, hb⟩ => ?_
  subst he
  exact ⟨_, rfl, law_post laid_out (by kernel_rfl) rfl rfl rfl Try.underlying4 hW' hb⟩

set_option maxRecDepth 100000 in
/-- THE ROW's STEP. -/
theorem lifted (os : Os) (started : os.Started) (H : Type) (enc : TypeId × Value → H) :
    ReturnsInHanded {} Try.checked os 6 .any (Rows.arithDecodeMatchesSpecSpec.pre6 enc Try.prog Try.f6 Rows.arithDecodeMatchesSpecRow.domain false) (Rows.arithDecodeMatchesSpecSpec.post enc Try.prog Try.f6 false true false false) := by
  refine returnsInHanded_of_change (C := Try.checked) own started (by kernel_rfl) Try.func6
    (ChangeSpec.witness6 (enc := enc) (C := Try.checked) false ⟨#[], #[.agg (bcs none 0 0 0), .slice none 0 0], []⟩ 8 (by kernel_rfl) (by kernel_rfl) (by kernel_rfl) (by kernel_rfl)) ?_
  intro W base args ds gs before hval0 hW _ _
  exact contract H enc W base args ds gs before hval0 hW

theorem said : Rows.ArithDecodeMatchesSpecSaid :=
  OpenClaim.holds_of_wide 6 Try.f6 rfl rfl rfl rfl rfl rfl rfl ⟨rfl, rfl, rfl, rfl, rfl⟩ rfl rfl rfl rfl rfl (by kernel_rfl) Try.func6 (by kernel_rfl)
    (of_decide_eq_true (by kernel_rfl)) (by unfold Func.isWrapper; first | (rw [if_pos (by decide +kernel)]; kernel_rfl) | (rw [if_neg (by decide +kernel)]; exact ⟨rfl, rfl⟩))
    (fun os started H enc _ => lifted os started H enc)
end Go.Proofs.Ytcnokjiohbifeaa.lawDec
