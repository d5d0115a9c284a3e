/-
  PROVED: BitsGammaMatchesSpec answers true for every bit string, every number and every place, and changes no argument. Conditions: none.
-/
import Derived.Test.YtbahkidkpbabdaaLGamI
import Derived.Test.YtbahkidkpbabdaaLGamLOX
import Derived.Test.YtbahkidkpbabdaaLGamLOC
import Derived.Test.YtbahkidkpbabdaaLGamLOO
import Derived.Test.YtbahkidkpbabdaaLGamHIX
import Derived.Test.YtbahkidkpbabdaaLGamHIC
import Derived.Test.YtbahkidkpbabdaaLGamHIO
import Derived.Test.YtbahkidkpbabdaaLGamLAX
import Derived.Test.YtbahkidkpbabdaaLGamLAC
import Derived.Test.YtbahkidkpbabdaaLGamLAO
import Derived.Test.YtbahkidkpbabdaaLGamOKX
import Derived.Test.YtbahkidkpbabdaaLGamOKC
import Derived.Test.YtbahkidkpbabdaaLGamOKO
import Derived.Test.YtbahkidkpbabdaaBOpen
import Derived.JoinedCond
namespace Go.Proofs.Ytbahkidkpbabdaa.lawGam
open Go.ChangeShapes Go.WideShapes Go.ChangeAt Go.RowKit

theorem own : ownKnob Try.prog.godebug = none := by kernel_rfl

/-- WHAT THE WALKS GIVE, FOR EVERY ARGUMENT. -/
theorem contract (H : Type) (enc : TypeId × Value → H) (W : World) (base : Nat) (args : Array Value) (ds gs : List (DataW H)) (before : List MemPlace)
    (hval : ∀ (j : Nat) t v, Try.f6.params[j]? = some t → args[j]? = some v → Value.okWide Try.prog W .any base t v)
    (hW : DataW.Whole enc Try.prog Try.f6.params.toList Rows.bitsGammaMatchesSpecSpec.vars false W args.toList ds gs before) :
    Calls Try.prog 6 args W fun e W' => ∃ v, e = .returned v ∧ Rows.bitsGammaMatchesSpecSpec.post enc Try.prog Try.f6 false true false false W args v W' := by
  have hW' := hW
  obtain ⟨p, q, hA0, hV, rfl, hfz, hnd⟩ := hW
  have hA : DataW.TrodAll enc Try.prog W 0 (fun _ => true) true Try.f6.params.toList args.toList ds p := hA0
  rw [Try.params6] at hA hval
  obtain ⟨v0, vs0, d0, ds0, p0, q0, hargs, rfl, rfl, h0, r0⟩ := trodAll_cons hA
  obtain ⟨v1, vs1, d1, ds1, p1, q1, rfl, rfl, rfl, h1, r1⟩ := trodAll_cons r0
  obtain ⟨v2, vs2, d2, ds2, p2, q2, rfl, rfl, rfl, h2, r2⟩ := trodAll_cons r1
  obtain ⟨rfl, rfl, rfl⟩ := trodAll_nil r2
  obtain rfl : args = #[v0, v1, v2] := by cases args; simp_all
  obtain ⟨rfl, rfl⟩ := trodVars_none hV
  obtain ⟨A, L, c, k, rfl, hn1L, hn2L, hcL, hmL, hSL⟩ := open_bits (hval 0 _ v0 rfl rfl) h0
  obtain ⟨n, rfl, rfl, rfl, wn⟩ := open_int Try.underlying3 (hval 1 _ v1 rfl rfl) h1
  have bn := bounds_i64 wn
  obtain ⟨f, rfl, rfl, rfl, wf⟩ := open_int Try.underlying3 (hval 2 _ v2 rfl rfl) h2
  have bf := bounds_i64 wf
  clear hA0
  have walk : Calls Try.prog 6 #[.agg (bcs A L.length c k), .int .i64 n, .int .i64 f] W fun e w' => e = .returned (.bool true) ∧ Below W.heap.size W w' := by
    rcases good_dec L k with ⟨l, rfl, hl, rfl⟩ | hG
    · have hfr : (f < 0 ∨ (l.length : Int) < f) ∨ ∃ y : Nat, y ≤ l.length ∧ f = y ∧ ((∃ z, z ≠ 0 ∧ GR l y 0 0 z (-2)) ∨ ∃ x nx, GR l y x nx 0 0) := by
        by_cases hf : f < 0 ∨ (l.length : Int) < f
        · exact .inl hf
        · exact .inr ⟨f.toNat, by omega, by omega, gr_ex l f.toNat (by omega)⟩
      by_cases p1 : n < 1
      · rcases hfr with hf | ⟨y, hy, rfl, hgr⟩
        · exact walk_lo_x l hl n bn p1 f hf A c W hSL
        · rcases hgr with ⟨z, hz, hr⟩ | ⟨x, nx, hr⟩
          · exact walk_lo_c l hl n bn p1 y hy z hz hr A c W hSL
          · exact walk_lo_o l hl n bn p1 y hy x nx hr A c W hSL
      · obtain ⟨v, rfl⟩ : ∃ v : Nat, n = v := ⟨n.toNat, by omega⟩
        obtain ⟨s, hs⟩ : ∃ s, s = gsz (v : Int) := ⟨_, rfl⟩
        have hv1 : 1 ≤ v := by omega
        have hv2 : v ≤ 9223372036854775807 := by omega
        by_cases p2 : 2147483647 < v
        · rcases hfr with hf | ⟨y, hy, rfl, hgr⟩
          · exact walk_hi_x l hl v s hv1 hv2 hs p2 f hf A c W hSL
          · rcases hgr with ⟨z, hz, hr⟩ | ⟨x, nx, hr⟩
            · exact walk_hi_c l hl v s hv1 hv2 hs p2 y hy z hz hr A c W hSL
            · exact walk_hi_o l hl v s hv1 hv2 hs p2 y hy x nx hr A c W hSL
        · have p3 : v ≤ 2147483647 := by omega
          by_cases hx : 131072 < l.length + s
          · rcases hfr with hf | ⟨y, hy, rfl, hgr⟩
            · exact walk_la_x l hl v s hv1 hv2 hs p3 hx f hf A c W hSL
            · rcases hgr with ⟨z, hz, hr⟩ | ⟨x, nx, hr⟩
              · exact walk_la_c l hl v s hv1 hv2 hs p3 hx y hy z hz hr A c W hSL
              · exact walk_la_o l hl v s hv1 hv2 hs p3 hx y hy x nx hr A c W hSL
          · have hx' : l.length + s ≤ 131072 := by omega
            rcases hfr with hf | ⟨y, hy, rfl, hgr⟩
            · exact walk_ok_x l hl v s hv1 hv2 hs p3 hx' f hf A c W hSL
            · rcases hgr with ⟨z, hz, hr⟩ | ⟨x, nx, hr⟩
              · exact walk_ok_c l hl v s hv1 hv2 hs p3 hx' y hy z hz hr A c W hSL
              · exact walk_ok_o l hl v s hv1 hv2 hs p3 hx' y hy x nx hr A c W hSL
    · by_cases p1 : n < 1
      · exact walk_inlo L k hG n bn p1 f A c W hSL
      · obtain ⟨v, rfl⟩ : ∃ v : Nat, n = v := ⟨n.toNat, by omega⟩
        exact walk_inpo L k hG v _ (by omega) (by omega) rfl f A c W hSL
  refine walk.mono fun e W' ⟨he, hb⟩ => ?_
  subst he
  exact ⟨_, rfl, law_post laid_out (by kernel_rfl) rfl rfl rfl Try.underlying4 hW' hb⟩

set_option maxRecDepth 100000 in
/-- THE ROW's STEP. -/
theorem lifted (os : Os) (started : os.Started) (H : Type) (enc : TypeId × Value → H) :
    ReturnsInHanded {} Try.checked os 6 .any (Rows.bitsGammaMatchesSpecSpec.pre6 enc Try.prog Try.f6 Rows.bitsGammaMatchesSpecRow.domain false) (Rows.bitsGammaMatchesSpecSpec.post enc Try.prog Try.f6 false true false false) := by
  refine returnsInHanded_of_change (C := Try.checked) own started (by kernel_rfl) Try.func6
    (ChangeSpec.witness6 (enc := enc) (C := Try.checked) false ⟨#[], #[.agg (bcs none 0 0 0), .int .i64 0, .int .i64 0], []⟩ 8 (by kernel_rfl) (by kernel_rfl) (by kernel_rfl) (by kernel_rfl)) ?_
  intro W base args ds gs before hval0 hW _ _
  exact contract H enc W base args ds gs before hval0 hW

theorem said : Rows.BitsGammaMatchesSpecSaid :=
  OpenClaim.holds_of_wide 6 Try.f6 rfl rfl rfl rfl rfl rfl rfl ⟨rfl, rfl, rfl, rfl, rfl⟩ rfl rfl rfl rfl rfl (by kernel_rfl) Try.func6 (by kernel_rfl)
    (of_decide_eq_true (by kernel_rfl)) (by unfold Func.isWrapper; first | (rw [if_pos (by decide +kernel)]; kernel_rfl) | (rw [if_neg (by decide +kernel)]; exact ⟨rfl, rfl⟩))
    (fun os started H enc _ => lifted os started H enc)
end Go.Proofs.Ytbahkidkpbabdaa.lawGam
