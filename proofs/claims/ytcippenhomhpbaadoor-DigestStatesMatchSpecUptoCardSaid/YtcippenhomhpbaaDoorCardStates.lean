/-
  PROVED: DigestStatesMatchSpec answers true for every state and every byte string, where the input is of bulk at most 1048576, and changes no argument. Conditions: that bound; the table of constants reads as the program's text lays it (the card ties it).
-/
import Derived.Test.YtcippenhomhpbaaDoorLawStLong
import Derived.Test.YtcippenhomhpbaaDoorLawStGood
import Derived.Test.YtcippenhomhpbaaDoorLawPost
namespace Go.Proofs.YtcippenhomhpbaaDoor.lawStates
open Go.ChangeShapes Go.WideShapes Go.ChangeAt Go.RowKit

theorem own : ownKnob Tryd.prog.godebug = none := by kernel_rfl

/-- WHAT THE WALKS GIVE, FOR EVERY ARGUMENT AND EVERY WORLD THAT HOLDS THE TABLE. -/
theorem contract (H : Type) (enc : TypeId × Value → H) (W : World) (base : Nat) (args : Array Value) (ds gs : List (DataW H)) (before : List MemPlace)
    (hval : ∀ (j : Nat) t v, Tryd.f4.params[j]? = some t → args[j]? = some v → Value.okWide Tryd.prog W .any base t v)
    (hW : DataW.Whole enc Tryd.prog Tryd.f4.params.toList Rows.digestStatesMatchSpecSpec.vars false W args.toList ds gs before)
    (hk : Rows.uptoSmall H (ds ++ gs) = true)
    (hwt : (DataW.weightsEach Tryd.prog (Tryd.f4.params.toList ++ (Rows.OpenSpec.upto Rows.digestStatesMatchSpecSpec).bare.plain.varTypes Tryd.prog) (ds ++ gs)).all (· ≤ reachBytes) = true) (hL : laidMetH Tryd.prog Rows.digestStatesMatchSpecUptoRow.laid W) :
    Calls Tryd.prog 4 args W fun e W' => ∃ v, e = .returned v ∧ Rows.digestStatesMatchSpecSpec.post enc Tryd.prog Tryd.f4 false true false false W args v W' := by
  have hW' := hW
  obtain ⟨p, q, hA0, hV, rfl, hfz, hnd⟩ := hW
  have hA : DataW.TrodAll enc Tryd.prog W 0 (fun _ => true) true Tryd.f4.params.toList args.toList ds p := hA0
  rw [Tryd.params4] at hA hval
  obtain ⟨v0, v1, d0, d1, p0, p1, rfl, rfl, rfl, h0, h1⟩ := trodAll_two hA
  obtain ⟨rfl, rfl⟩ := trodVars_none hV
  obtain ⟨s, TA, T, tc, n, rfl, hn1, hn2, hTc, hTm, hT⟩ := open_hashing (hval 0 _ v0 rfl rfl) h0
  obtain ⟨A, L, c, rfl, hc, hmc, hSL, hdL⟩ := open_bslice Tryd.underlying22 Tryd.underlying5 (by kernel_rfl) (hval 1 _ v1 rfl rfl) h1
  have hK : KIs W := kis_of hL
  clear hA0
  have walk : Calls Tryd.prog 4 #[.agg (hsc s (.slice TA T.length tc) n), .slice A L.length c] W fun e w' => e = .returned (.bool true) ∧ Below W.heap.size W w' := by
    have hl : L.length ≤ 1048576 := by
      rcases hdL with ⟨rfl, _⟩ | ⟨el, sp, rfl, he⟩
      · simp
      · rw [← he]
        exact bulk_slice (el := el) (sp := sp) hk (by simp)
    by_cases hv : okH T.length n = true
    · obtain ⟨m, rfl⟩ : ∃ m : Nat, n = m := ⟨n.toNat, by have := (okH_of hv).1; omega⟩
      by_cases hbig : 1099511627776 - (m : Int) < (L.length : Int)
      · exact walk_long s m TA T tc A L.length c W hK hT hv hbig
      · exact walk_good s m TA T tc A L c W hK hT hSL hc hmc hv (by omega) hl
    · exact walk_bad s n ⟨hn1, hn2⟩ TA T.length tc _ W hK (by simpa using hv)
  refine walk.mono fun e W' ⟨he, hb⟩ => ?_
  subst he
  exact ⟨_, rfl, law_post laid_out (by kernel_rfl) rfl rfl rfl Tryd.underlying4 hW' hb⟩

/-- A WORLD FOR THE WITNESS: the settled one, with the table laid. -/
theorem laid_met (os : Os) (args : Array Value) : laidMet Tryd.prog Rows.digestStatesMatchSpecUptoRow.laid ((World.laidAll Tryd.prog os Rows.digestStatesMatchSpecUptoRow.laid).forCall (fun _ _ => 0) ⟨#[], args, []⟩).memory :=
  laidMet_laidAll _ (by kernel_rfl) (by kernel_rfl)
theorem reads (os : Os) {H : Type} (enc : TypeId × Value → H) : DataW.whole enc Tryd.prog ((World.laidAll Tryd.prog os Rows.digestStatesMatchSpecUptoRow.laid).forCall (fun _ _ => 0) ⟨#[], #[.agg zH, .slice none 0 0], []⟩).memory Tryd.f4.params.toList Rows.digestStatesMatchSpecSpec.vars false (#[.agg zH, .slice none 0 0] : Array Value).toList 8 = some ([.agg [.agg (List.replicate 8 (.lit (.int .u32 0))), .nil, .lit (.int .i64 0)], .nil], [], []) := by kernel_rfl

set_option maxRecDepth 100000 in
/-- THE ROW's STEP. -/
theorem lifted (os : Os) (started : os.Started) (H : Type) (enc : TypeId × Value → H) (F : Stop.Interp) :
    ReturnsInHanded {} Tryd.checked os 4 .any ((Rows.OpenSpec.upto Rows.digestStatesMatchSpecSpec).preRow enc Tryd.prog Tryd.f4 Rows.digestStatesMatchSpecUptoRow.domain false Rows.digestStatesMatchSpecUptoRow.laid) (((Rows.OpenSpec.upto Rows.digestStatesMatchSpecSpec).at F).post enc Tryd.prog Tryd.f4 false true false false) := by
  have hx := reads os enc
  refine returnsInHanded_of_row (C := Tryd.checked) (s := (Rows.OpenSpec.upto Rows.digestStatesMatchSpecSpec)) own started (by kernel_rfl) Tryd.func4
    (witness_row_at (enc := enc) (C := Tryd.checked) false (World.laidAll Tryd.prog os Rows.digestStatesMatchSpecUptoRow.laid) #[.agg zH, .slice none 0 0] (World.laidAll_os _ _ _) (by kernel_rfl) (by kernel_rfl) (by kernel_rfl)
      (OpenSpec.preRow_of_cond 8 hx (by kernel_rfl) (fun k hk => by cases hk; kernel_rfl) (by kernel_rfl) (laid_met os _))) ?_
  intro W base args ds gs before hval hW _ hcond hwt hL _ _
  exact contract H enc W base args ds gs before hval hW (hcond _ rfl) hwt hL

set_option maxRecDepth 100000 in
theorem said : Rows.DigestStatesMatchSpecUptoSaid :=
  OpenClaim.holds_of_cond 4 Tryd.f4 rfl rfl rfl rfl rfl rfl rfl ⟨rfl, rfl, rfl, rfl, rfl⟩ rfl rfl rfl rfl rfl (by kernel_rfl) Tryd.func4 (by kernel_rfl)
    (of_decide_eq_true (by kernel_rfl)) (by unfold Func.isWrapper; first | (rw [if_pos (by decide +kernel)]; kernel_rfl) | (rw [if_neg (by decide +kernel)]; exact ⟨rfl, rfl⟩))
    (fun os started H enc _ F => by rw [OpenClaim.pre_eq_preRow]; exact lifted os started H enc F)

/-- No parameter wants a stand-in; the program's own looks are off. -/
theorem plain (f : FuncId) (fn : Func) (hf : Tryd.pinned.checked.prog.funcNamed "scriptorium/scriptoriumlaw3.DigestStatesMatchSpec" = some f) (hfn : Tryd.pinned.checked.prog.funcs[f]? = some fn) :
    false = Tryd.pinned.checked.prog.looks [] ∧ ∀ (j : Nat) t, fn.params[j]? = some t → Tryd.pinned.checked.prog.wantsStandIn t = false := by
  obtain rfl : f = 4 := Option.some.inj ((show Tryd.prog.funcNamed "scriptorium/scriptoriumlaw3.DigestStatesMatchSpec" = some 4 by kernel_rfl).symm.trans hf) |>.symm
  obtain rfl : fn = Tryd.f4 := (Option.some.inj (Tryd.func4.symm.trans hfn)).symm
  refine ⟨by kernel_rfl, fun j t ht => ?_⟩
  have hall : (Tryd.f4.params.toList.all fun t => !Tryd.pinned.checked.prog.wantsStandIn t) = true := by kernel_rfl
  have := List.all_eq_true.1 hall t (Array.mem_toList_iff.2 (Array.mem_of_getElem? ht))
  simpa using this

/-- THE CARD -/
theorem card : Rows.DigestStatesMatchSpecUptoCardSaid :=
  Claim7.holds_tied_plain_at .later [] _ _ _ _ said (fun _ h => by cases h) (by kernel_rfl) (fun _ h => by cases h) digestStatesMatchSpecUpto_row_tie rfl ⟨rfl, rfl⟩ (by kernel_rfl) rfl plain (by kernel_rfl)
end Go.Proofs.YtcippenhomhpbaaDoor.lawStates
