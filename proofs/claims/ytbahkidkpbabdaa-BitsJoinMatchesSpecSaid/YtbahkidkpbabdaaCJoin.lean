/-
  PROVED: BitsJoinMatchesSpec answers true for all slices of bit strings, every bit string and every two places, and changes no argument. Conditions: none.
-/
import Derived.Test.YtbahkidkpbabdaaLJoinRN
import Derived.Test.YtbahkidkpbabdaaLJoinRF
import Derived.Test.YtbahkidkpbabdaaLJoinRT
import Derived.Test.YtbahkidkpbabdaaLJoinRO
import Derived.Test.YtbahkidkpbabdaaLJoinRZ
import Derived.Test.YtbahkidkpbabdaaLJoinON
import Derived.Test.YtbahkidkpbabdaaLJoinOF
import Derived.Test.YtbahkidkpbabdaaLJoinOT
import Derived.Test.YtbahkidkpbabdaaLJoinOO
import Derived.Test.YtbahkidkpbabdaaLJoinOZ
import Derived.Test.YtbahkidkpbabdaaBOpen
import Derived.JoinedCond
namespace Go.Proofs.Ytbahkidkpbabdaa.lawJoinB
open Go.ChangeShapes Go.WideShapes Go.ChangeAt Go.RowKit

theorem own : ownKnob Try.prog.godebug = none := by kernel_rfl

/-- WHAT THE WALKS GIVE, FOR EVERY ARGUMENT. -/
theorem contract (H : Type) (enc : TypeId × Value → H) (W : World) (base : Nat) (args : Array Value) (ds gs : List (DataW H)) (before : List MemPlace)
    (hval : ∀ (j : Nat) t v, Try.f9.params[j]? = some t → args[j]? = some v → Value.okWide Try.prog W .any base t v)
    (hW : DataW.Whole enc Try.prog Try.f9.params.toList Rows.bitsJoinMatchesSpecSpec.vars false W args.toList ds gs before) :
    Calls Try.prog 9 args W fun e W' => ∃ v, e = .returned v ∧ Rows.bitsJoinMatchesSpecSpec.post enc Try.prog Try.f9 false true false false W args v W' := by
  have hW' := hW
  obtain ⟨p, q, hA0, hV, rfl, hfz, hnd⟩ := hW
  have hA : DataW.TrodAll enc Try.prog W 0 (fun _ => true) true Try.f9.params.toList args.toList ds p := hA0
  rw [Try.params9] at hA hval
  obtain ⟨v0, vs0, d0, ds0, p0, q0, hargs, rfl, rfl, h0, r0⟩ := trodAll_cons hA
  obtain ⟨v1, vs1, d1, ds1, p1, q1, rfl, rfl, rfl, h1, r1⟩ := trodAll_cons r0
  obtain ⟨v2, vs2, d2, ds2, p2, q2, rfl, rfl, rfl, h2, r2⟩ := trodAll_cons r1
  obtain ⟨v3, vs3, d3, ds3, p3, q3, rfl, rfl, rfl, h3, r3⟩ := trodAll_cons r2
  obtain ⟨rfl, rfl, rfl⟩ := trodAll_nil r3
  obtain rfl : args = #[v0, v1, v2, v3] := by cases args; simp_all
  obtain ⟨rfl, rfl⟩ := trodVars_none hV
  obtain ⟨A2, n, cc, es, rfl, pn, pc, hB⟩ := open_bitss (hval 0 _ v0 rfl rfl) h0
  obtain ⟨A, L, c, k, rfl, hn1L, hn2L, hcL, hmL, hSL⟩ := open_bits (hval 1 _ v1 rfl rfl) h1
  obtain ⟨f, rfl, rfl, rfl, wf⟩ := open_int Try.underlying3 (hval 2 _ v2 rfl rfl) h2
  have bf := bounds_i64 wf
  obtain ⟨t, rfl, rfl, rfl, wt⟩ := open_int Try.underlying3 (hval 3 _ v3 rfl rfl) h3
  have bt := bounds_i64 wt
  clear hA0
  have walk : Calls Try.prog 9 #[.slice A2 n cc, .agg (bcs A L.length c k), .int .i64 f, .int .i64 t] W fun e w' => e = .returned (.bool true) ∧ Below W.heap.size W w' := by
    rcases join_kinds n cc es hB.1 with ⟨e, i, he, HJ, HF⟩ | ⟨m, HJ, HF, HD⟩
    · skip
      rcases good_dec L k with ⟨l, rfl, hl, rfl⟩ | hG
      · by_cases hf : f < 0 ∨ (l.length : Int) < f
        · exact walk_rf n cc es e i he HJ HF l hl f t hf A2 A c W hB hSL
        · obtain ⟨y, rfl⟩ : ∃ y : Nat, f = y := ⟨f.toNat, by omega⟩
          by_cases ht : t < y ∨ (l.length : Int) < t
          · exact walk_rt n cc es e i he HJ HF l hl y (by omega) t ht A2 A c W hB hSL
          · obtain ⟨z, rfl⟩ : ∃ z : Nat, t = z := ⟨t.toNat, by omega⟩
            by_cases hlt : y < z
            · exact walk_ro n cc es e i he HJ HF l hl y z hlt (by omega) A2 A c W hB hSL
            · exact walk_rz n cc es e i he HJ HF l hl y z (by omega) (by omega) A2 A c W hB hSL
      · exact walk_rn n cc es e i he HJ HF L k hG f t A2 A c W hB hSL
    · skip
      rcases good_dec L k with ⟨l, rfl, hl, rfl⟩ | hG
      · by_cases hf : f < 0 ∨ (l.length : Int) < f
        · exact walk_of n cc es m HJ HF HD l hl f t hf A2 A c W hB hSL
        · obtain ⟨y, rfl⟩ : ∃ y : Nat, f = y := ⟨f.toNat, by omega⟩
          by_cases ht : t < y ∨ (l.length : Int) < t
          · exact walk_ot n cc es m HJ HF HD l hl y (by omega) t ht A2 A c W hB hSL
          · obtain ⟨z, rfl⟩ : ∃ z : Nat, t = z := ⟨t.toNat, by omega⟩
            by_cases hlt : y < z
            · exact walk_oo n cc es m HJ HF HD l hl y z hlt (by omega) A2 A c W hB hSL
            · exact walk_oz n cc es m HJ HF HD l hl y z (by omega) (by omega) A2 A c W hB hSL
      · exact walk_on n cc es m HJ HF HD L k hG f t A2 A c W hB hSL
  refine walk.mono fun e W' ⟨he, hb⟩ => ?_
  subst he
  exact ⟨_, rfl, law_post laid_out (by kernel_rfl) rfl rfl rfl Try.underlying4 hW' hb⟩

set_option maxRecDepth 100000 in
/-- THE ROW's STEP. -/
theorem lifted (os : Os) (started : os.Started) (H : Type) (enc : TypeId × Value → H) :
    ReturnsInHanded {} Try.checked os 9 .any (Rows.bitsJoinMatchesSpecSpec.pre6 enc Try.prog Try.f9 Rows.bitsJoinMatchesSpecRow.domain false) (Rows.bitsJoinMatchesSpecSpec.post enc Try.prog Try.f9 false true false false) := by
  refine returnsInHanded_of_change (C := Try.checked) own started (by kernel_rfl) Try.func9
    (ChangeSpec.witness6 (enc := enc) (C := Try.checked) false ⟨#[], #[.slice none 0 0, .agg (bcs none 0 0 0), .int .i64 0, .int .i64 0], []⟩ 8 (by kernel_rfl) (by kernel_rfl) (by kernel_rfl) (by kernel_rfl)) ?_
  intro W base args ds gs before hval0 hW _ _
  exact contract H enc W base args ds gs before hval0 hW

theorem said : Rows.BitsJoinMatchesSpecSaid :=
  OpenClaim.holds_of_wide 9 Try.f9 rfl rfl rfl rfl rfl rfl rfl ⟨rfl, rfl, rfl, rfl, rfl⟩ rfl rfl rfl rfl rfl (by kernel_rfl) Try.func9 (by kernel_rfl)
    (of_decide_eq_true (by kernel_rfl)) (by unfold Func.isWrapper; first | (rw [if_pos (by decide +kernel)]; kernel_rfl) | (rw [if_neg (by decide +kernel)]; exact ⟨rfl, rfl⟩))
    (fun os started H enc _ => lifted os started H enc)
end Go.Proofs.Ytbahkidkpbabdaa.lawJoinB
