/-
  PROVED: ArithGetMatchesSpec answers true for every state of a decoder, every code, well formed or not, and every probability, and changes no argument. Conditions: none.
-/
import Derived.Test.YtcnokjiohbifeaaLGetA
import Derived.Test.YtcnokjiohbifeaaLGetB
import Derived.Test.YtcnokjiohbifeaaLGetC
import Derived.Test.YtcnokjiohbifeaaLGetD
import Derived.Test.YtcnokjiohbifeaaLGetE
import Derived.Test.YtcnokjiohbifeaaLGetF
import Derived.Test.YtcnokjiohbifeaaLGetG
import Derived.Test.YtcnokjiohbifeaaLGetH
import Derived.Test.YtcnokjiohbifeaaLGetI
import Derived.Test.YtcnokjiohbifeaaAArgs
import Derived.JoinedCond
namespace Go.Proofs.Ytcnokjiohbifeaa.lawGet
open Go.ChangeShapes Go.WideShapes Go.ChangeAt Go.RowKit

theorem own : ownKnob Try.prog.godebug = none := by kernel_rfl

set_option maxRecDepth 100000 in
/-- WHAT THE WALKS GIVE, FOR EVERY ARGUMENT. -/
theorem contract (H : Type) (enc : TypeId × Value → H) (W : World) (base : Nat) (args : Array Value) (ds gs : List (DataW H)) (before : List MemPlace)
    (hval : ∀ (j : Nat) t v, Try.f4.params[j]? = some t → args[j]? = some v → Value.okWide Try.prog W .any base t v)
    (hW : DataW.Whole enc Try.prog Try.f4.params.toList Rows.arithGetMatchesSpecSpec.vars false W args.toList ds gs before) :
    Calls Try.prog 4 args W fun e W' => ∃ v, e = .returned v ∧ Rows.arithGetMatchesSpecSpec.post enc Try.prog Try.f4 false true false false W args v W' := by
  have hW' := hW
  obtain ⟨p, q, hA0, hV, rfl, hfz, hnd⟩ := hW
  have hA : DataW.TrodAll enc Try.prog W 0 (fun _ => true) true Try.f4.params.toList args.toList ds p := hA0
  rw [Try.params4] at hA hval
  obtain ⟨v0, vs0, d0, ds0, p0, q0, hargs, rfl, rfl, h0, r0⟩ := trodAll_cons hA
  obtain ⟨v1, vs1, d1, ds1, p1, q1, rfl, rfl, rfl, h1, r1⟩ := trodAll_cons r0
  obtain ⟨v2, vs2, d2, ds2, p2, q2, rfl, rfl, rfl, h2, r2⟩ := trodAll_cons r1
  obtain ⟨rfl, rfl, rfl⟩ := trodAll_nil r2
  obtain rfl : args = #[v0, v1, v2] := by cases args; simp_all
  obtain ⟨rfl, rfl⟩ := trodVars_none hV
  obtain ⟨a, b, v, i, rfl⟩ := open_decoder (hval 0 _ v0 rfl rfl) h0
  obtain ⟨A, L, cp, k, rfl, hn1L, hn2L, hcL, hmL, hSL⟩ := open_bits (hval 1 _ v1 rfl rfl) h1
  obtain ⟨p, rfl, rfl, rfl, wp⟩ := open_int Try.underlying3 (hval 2 _ v2 rfl rfl) h2
  have bp := bounds_i64 wp
  clear hA0
  have walk : Calls Try.prog 4 #[.agg (dcs a b v i), .agg (bcs A L.length cp k), .int .i64 p] W fun e w' => e = .returned (.bool true) ∧ Below W.heap.size W w' := by
    rcases good_dec L k with ⟨l, rfl, hl, rfl⟩ | hG
    · by_cases hd : DecoderZ a b v i
      · by_cases hp : 1 ≤ p ∧ p ≤ 4095
        · obtain ⟨M, H, x, y, rfl, rfl, rfl, rfl⟩ := hd.nat
          obtain ⟨n, rfl⟩ : ∃ n : Nat, p = n := ⟨p.toNat, by omega⟩
          have hp1 : 1 ≤ n := by omega
          have hp2 : n ≤ 4095 := by omega
          by_cases ht : l.length + 14 < y + (stepN M H n (decide (x ≤ splitN M H n))).2.2.length
          · by_cases h2 : l.length < 2
            · exact walk_short_trunc M H x y n l hd hl hp1 hp2 ht h2 A cp W hSL
            · exact walk_long_trunc M H x y n l hd hl hp1 hp2 ht (Nat.le_of_not_lt h2) A cp W hSL
          · by_cases h2 : l.length < 2
            · exact walk_short_ok M H x y n l hd hl hp1 hp2 (Nat.le_of_not_lt ht) h2 A cp W hSL
            · exact walk_long_ok M H x y n l hd hl hp1 hp2 (Nat.le_of_not_lt ht) (Nat.le_of_not_lt h2) A cp W hSL
        · by_cases h2 : l.length < 2
          · exact walk_short_prob a b v i l p hd hl hp h2 A cp W hSL
          · exact walk_long_prob a b v i l p hd hl hp (Nat.le_of_not_lt h2) A cp W hSL
      · by_cases h2 : l.length < 2
        · exact walk_short_dec a b v i l p hd hl h2 A cp W hSL
        · exact walk_long_dec a b v i l p hd hl (Nat.le_of_not_lt h2) A cp W hSL
    · by_cases hd : DecoderZ a b v i
      · exact walk_form_code a b v i L k p hG hd A cp W hSL
      · exact walk_form_dec a b v i L k p hG hd A cp W hSL
  refine walk.mono fun e W' ⟨he, hb⟩ => ?_
  subst he
  exact ⟨_, rfl, law_post laid_out (by kernel_rfl) rfl rfl rfl Try.underlying4 hW' hb⟩

set_option maxRecDepth 100000 in
/-- THE ROW's STEP. -/
theorem lifted (os : Os) (started : os.Started) (H : Type) (enc : TypeId × Value → H) :
    ReturnsInHanded {} Try.checked os 4 .any (Rows.arithGetMatchesSpecSpec.pre6 enc Try.prog Try.f4 Rows.arithGetMatchesSpecRow.domain false) (Rows.arithGetMatchesSpecSpec.post enc Try.prog Try.f4 false true false false) := by
  refine returnsInHanded_of_change (C := Try.checked) own started (by kernel_rfl) Try.func4
    (ChangeSpec.witness6 (enc := enc) (C := Try.checked) false ⟨#[], #[.agg (dcs 0 0 0 0), .agg (bcs none 0 0 0), .int .i64 0], []⟩ 8 (by kernel_rfl) (by kernel_rfl) (by kernel_rfl) (by kernel_rfl)) ?_
  intro W base args ds gs before hval0 hW _ _
  exact contract H enc W base args ds gs before hval0 hW

theorem said : Rows.ArithGetMatchesSpecSaid :=
  OpenClaim.holds_of_wide 4 Try.f4 rfl rfl rfl rfl rfl rfl rfl ⟨rfl, rfl, rfl, rfl, rfl⟩ rfl rfl rfl rfl rfl (by kernel_rfl) Try.func4 (by kernel_rfl)
    (of_decide_eq_true (by kernel_rfl)) (by unfold Func.isWrapper; first | (rw [if_pos (by decide +kernel)]; kernel_rfl) | (rw [if_neg (by decide +kernel)]; exact ⟨rfl, rfl⟩))
    (fun os started H enc _ => lifted os started H enc)
end Go.Proofs.Ytcnokjiohbifeaa.lawGet
