/-
  PROVED: BitsNumbersMatchSpec answers true for every bit string, every number, every width and every place, and changes no argument. Conditions: none.
-/
import Derived.Test.YtbahkidkpbabdaaLNumBB
import Derived.Test.YtbahkidkpbabdaaLNumBO
import Derived.Test.YtbahkidkpbabdaaLNumBZ
import Derived.Test.YtbahkidkpbabdaaLNumOB
import Derived.Test.YtbahkidkpbabdaaLNumOO
import Derived.Test.YtbahkidkpbabdaaLNumOZ
import Derived.Test.YtbahkidkpbabdaaBOpen
import Derived.JoinedCond
namespace Go.Proofs.Ytbahkidkpbabdaa.lawNum
open Go.ChangeShapes Go.WideShapes Go.ChangeAt Go.RowKit

theorem own : ownKnob Try.prog.godebug = none := by kernel_rfl

/-- WHAT THE WALKS GIVE, FOR EVERY ARGUMENT. -/
theorem contract (H : Type) (enc : TypeId × Value → H) (W : World) (base : Nat) (args : Array Value) (ds gs : List (DataW H)) (before : List MemPlace)
    (hval : ∀ (j : Nat) t v, Try.f4.params[j]? = some t → args[j]? = some v → Value.okWide Try.prog W .any base t v)
    (hW : DataW.Whole enc Try.prog Try.f4.params.toList Rows.bitsNumbersMatchSpecSpec.vars false W args.toList ds gs before) :
    Calls Try.prog 4 args W fun e W' => ∃ v, e = .returned v ∧ Rows.bitsNumbersMatchSpecSpec.post enc Try.prog Try.f4 false true false false W args v W' := by
  have hW' := hW
  obtain ⟨p, q, hA0, hV, rfl, hfz, hnd⟩ := hW
  have hA : DataW.TrodAll enc Try.prog W 0 (fun _ => true) true Try.f4.params.toList args.toList ds p := hA0
  rw [Try.params4] at hA hval
  obtain ⟨v0, vs0, d0, ds0, p0, q0, hargs, rfl, rfl, h0, r0⟩ := trodAll_cons hA
  obtain ⟨v1, vs1, d1, ds1, p1, q1, rfl, rfl, rfl, h1, r1⟩ := trodAll_cons r0
  obtain ⟨v2, vs2, d2, ds2, p2, q2, rfl, rfl, rfl, h2, r2⟩ := trodAll_cons r1
  obtain ⟨v3, vs3, d3, ds3, p3, q3, rfl, rfl, rfl, h3, r3⟩ := trodAll_cons r2
  obtain ⟨rfl, rfl, rfl⟩ := trodAll_nil r3
  obtain rfl : args = #[v0, v1, v2, v3] := by cases args; simp_all
  obtain ⟨rfl, rfl⟩ := trodVars_none hV
  obtain ⟨A, L, c, k, rfl, hn1L, hn2L, hcL, hmL, hSL⟩ := open_bits (hval 0 _ v0 rfl rfl) h0
  obtain ⟨v, rfl, rfl, rfl, wv⟩ := open_int Try.underlying3 (hval 1 _ v1 rfl rfl) h1
  have bv := bounds_i64 wv
  obtain ⟨m, rfl, rfl, rfl, wm⟩ := open_int Try.underlying3 (hval 2 _ v2 rfl rfl) h2
  have bm := bounds_i64 wm
  obtain ⟨f, rfl, rfl, rfl, wf⟩ := open_int Try.underlying3 (hval 3 _ v3 rfl rfl) h3
  have bf := bounds_i64 wf
  clear hA0
  have walk : Calls Try.prog 4 #[.agg (bcs A L.length c k), .int .i64 v, .int .i64 m, .int .i64 f] W fun e w' => e = .returned (.bool true) ∧ Below W.heap.size W w' := by
    rcases af_or L k v m with ⟨e, i, h⟩ | ⟨l, x, n, rfl, rfl, rfl, rfl, p1, p2, p3⟩
    · rcases rf_or L k f m with ⟨e2, i2, h'⟩ | ⟨l, y, n, rfl, rfl, rfl, rfl, g1, g2, g3⟩
      · exact walk_bb L k m v e i h f e2 i2 h' A c W hSL
      · rcases Nat.eq_zero_or_pos n with hn0 | hn0
        · exact walk_bz l g3 n g1 v e i h y g2 hn0 A c W hSL
        · exact walk_bo l g3 n g1 v e i h y g2 hn0 A c W hSL
    · have hl : l.length ≤ 131072 := Nat.le_trans (Nat.le_add_right _ _) p3
      rcases rf_or (pack l) l.length f n with ⟨e2, i2, h'⟩ | ⟨l', y, n', hk, -, rfl, hm', g1, g2, g3⟩
      · exact walk_ob l hl n p1 x p2 p3 f e2 i2 h' A c W hSL
      · have hy : y + n ≤ l.length := by clear p2; omega
        rcases Nat.eq_zero_or_pos n with hn0 | hn0
        · exact walk_oz l hl n p1 x p2 p3 y hy hn0 A c W hSL
        · exact walk_oo l hl n p1 x p2 p3 y hy hn0 A c W hSL
  refine walk.mono fun e W' ⟨he, hb⟩ => ?_
  subst he
  exact ⟨_, rfl, law_post laid_out (by kernel_rfl) rfl rfl rfl Try.underlying4 hW' hb⟩

set_option maxRecDepth 100000 in
/-- THE ROW's STEP. -/
theorem lifted (os : Os) (started : os.Started) (H : Type) (enc : TypeId × Value → H) :
    ReturnsInHanded {} Try.checked os 4 .any (Rows.bitsNumbersMatchSpecSpec.pre6 enc Try.prog Try.f4 Rows.bitsNumbersMatchSpecRow.domain false) (Rows.bitsNumbersMatchSpecSpec.post enc Try.prog Try.f4 false true false false) := by
  refine returnsInHanded_of_change (C := Try.checked) own started (by kernel_rfl) Try.func4
    (ChangeSpec.witness6 (enc := enc) (C := Try.checked) false ⟨#[], #[.agg (bcs none 0 0 0), .int .i64 0, .int .i64 0, .int .i64 0], []⟩ 8 (by kernel_rfl) (by kernel_rfl) (by kernel_rfl) (by kernel_rfl)) ?_
  intro W base args ds gs before hval0 hW _ _
  exact contract H enc W base args ds gs before hval0 hW

theorem said : Rows.BitsNumbersMatchSpecSaid :=
  OpenClaim.holds_of_wide 4 Try.f4 rfl rfl rfl rfl rfl rfl rfl ⟨rfl, rfl, rfl, rfl, rfl⟩ rfl rfl rfl rfl rfl (by kernel_rfl) Try.func4 (by kernel_rfl)
    (of_decide_eq_true (by kernel_rfl)) (by unfold Func.isWrapper; first | (rw [if_pos (by decide +kernel)]; kernel_rfl) | (rw [if_neg (by decide +kernel)]; exact ⟨rfl, rfl⟩))
    (fun os started H enc _ => lifted os started H enc)
end Go.Proofs.Ytbahkidkpbabdaa.lawNum
