/-
  The model's state, and the contract of its predict.
-/
import Derived.Test.YtgpacgmgdnongaaMCtx
namespace Go.Proofs.Ytgpacgmgdnongaa
open Go.RowKit

/-- block gm holds a model of order d that has seen the bits l, with its map in block gb -/
def Md (w : World) (gm gb d n : Nat) (l : List Bool) : Prop :=
  Row w gm 56 (mcs d gb (clsAt l 1) (clsAt l 2) (begAt l)) ∧ ∃ f, Mp w gb n f ∧ ∀ k, COk k → k.o ≤ d → f k = cnt l k
section
variable {w w' : World} {gm gb d n : Nat} {l : List Bool}
theorem Md.row (h : Md w gm gb d n l) : Row w gm 56 (mcs d gb (clsAt l 1) (clsAt l 2) (begAt l)) := h.1
theorem Md.ltm (h : Md w gm gb d n l) : gm < w.heap.size := h.1.lt
theorem Md.ltb (h : Md w gm gb d n l) : gb < w.heap.size := h.2.choose_spec.1.lt
theorem Md.ne (h : Md w gm gb d n l) : gm ≠ gb := by
  rintro rfl
  obtain ⟨h1, f, ⟨D, ⟨es, clock, hb, _⟩, _⟩, _⟩ := h
  unfold Row at h1
  rw [h1] at hb
  cases hb
theorem Md.same (h : Md w gm gb d n l) (h1 : w'.heap[gm]? = w.heap[gm]?) (h2 : w'.heap[gb]? = w.heap[gb]?) : Md w' gm gb d n l := by
  obtain ⟨hr, f, hm, hf⟩ := h
  exact ⟨h1.trans hr, f, hm.same h2, hf⟩
theorem Md.up (h : Md w gm gb d n l) (hb : Below w.heap.size w w') : Md w' gm gb d n l := h.same (hb.block _ h.ltm) (hb.block _ h.ltb)
theorem Md.look (h : Md w gm gb d n l) (o : Nat) (ho : o ≤ 2) (hd : o ≤ d) :
    (Instr.lookup 53 (.map (some gb)) (.agg (kcs (ctxOf l o))) false).run Try.prog w = .ok (.agg (ccs (cnt l (ctxOf l o)))) w := by
  obtain ⟨_, f, hm, hf⟩ := h
  rw [hm.look _ (ctxOf_ok l o ho), hf _ (ctxOf_ok l o ho) hd]
end

theorem context_md (gm gb d n o : Nat) (l : List Bool) (ho : o ≤ 2) (w : World) (h : Md w gm gb d n l) :
    Calls Try.prog 27 #[.pointer (some ⟨gm, 0, none⟩), .int .i64 o] w fun e w' => e = .returned (.agg (kcs (ctxOf l o))) ∧ Below w.heap.size w w' :=
  context_any gm d gb _ _ _ o ho (begAt_lt l) w h.1

set_option maxRecDepth 100000 in
set_option maxHeartbeats 4000000 in
theorem predict_any (gm gb d n : Nat) (l : List Bool) (hd : d ≤ 2) (w : World) (h : Md w gm gb d n l) :
    Calls Try.prog 23 #[.pointer (some ⟨gm, 0, none⟩)] w fun e w' => e = .returned (.int .i64 (predB d l)) ∧ Below w.heap.size w w' := by
  have a0 : w.cell? ⟨gm, 0, none⟩ = some (.int .i64 d) := (h.row.cell 0).trans rfl
  have hp : predB d l = sumS l (d + 1) / sumW l (d + 1) := rfl
  obtain ⟨p, hp2⟩ : ∃ p, p = predB d l := ⟨_, rfl⟩
  rw [← hp2] at hp ⊢
  have HPL := Lib.hid (show p ≤ 4087 by rw [hp2]; exact pred_high d l)
  have HP := Lib.hid hp
  have HH := Lib.hid h
  clear hp hp2 h
  go_enter Try.func23, Try.ntmps23
  go_wp2
  clear a0
  go_loopw [3, 4, 13] (fun s t i wr => ∃ j : Nat, j ≤ d + 1 ∧ i = .int .i64 j ∧ s = .int .i64 (sumS l j) ∧ t = .int .i64 (sumW l j) ∧ Below w.heap.size w wr) (fun _ _ i _ => d + 1 - (intOf i).toNat)
  case atStart => exact ⟨0, Nat.zero_le _, rfl, rfl, rfl, Below.refl _ _⟩
  case round =>
    obtain ⟨j, hj, rfl, rfl, rfl, hb⟩ := hrel
    have hbnd := sum_bounds l j
    have hwl := sumW_le l j (by omega)
    obtain ⟨s, hs⟩ : ∃ s, s = sumS l j := ⟨_, rfl⟩
    obtain ⟨t, ht⟩ : ∃ t, t = sumW l j := ⟨_, rfl⟩
    rw [← hs, ← ht] at hbnd ⊢
    rw [← ht] at hwl
    obtain ⟨hbnd1, hbnd2, hbnd3⟩ := hbnd
    have hs2 : s ≤ 2946727 := by omega
    by_cases hlt : j < d + 1
    · have hj2 : j ≤ 2 := by omega
      have hss : sumS l (j + 1) = s + weightC (cnt l (ctxOf l j)) j * shareC (cnt l (ctxOf l j)) := by rw [hs]; rfl
      have hww : sumW l (j + 1) = t + weightC (cnt l (ctxOf l j)) j := by rw [ht]; rfl
      have hcl := cnt_le l (ctxOf l j)
      have hK : ∀ W, Below w.heap.size w W → W.cell? ⟨gm, 1, none⟩ = some (.map (some gb)) ∧ (Instr.lookup 53 (.map (some gb)) (.agg (kcs (ctxOf l j))) false).run Try.prog W = .ok (.agg (ccs (cnt l (ctxOf l j)))) W := fun W hW =>
        ⟨((HH.out.up hW).row.cell 1).trans rfl, (HH.out.up hW).look j hj2 (by omega)⟩
      have hC : ∀ W, Below w.heap.size w W → Calls Try.prog 27 #[.pointer (some ⟨gm, 0, none⟩), .int .i64 j] W fun e w' => e = .returned (.agg (kcs (ctxOf l j))) ∧ Below W.heap.size W w' := fun W hW =>
        context_md gm gb d n j l hj2 W (HH.out.up hW)
      obtain ⟨K, hKK⟩ : ∃ K, K = kcs (ctxOf l j) := ⟨_, rfl⟩
      obtain ⟨z, hz⟩ : ∃ z, z = (cnt l (ctxOf l j)).1 := ⟨_, rfl⟩
      obtain ⟨o, ho⟩ : ∃ o, o = (cnt l (ctxOf l j)).2 := ⟨_, rfl⟩
      have hzo : cnt l (ctxOf l j) = (z, o) := by rw [hz, ho]
      rw [← hKK] at hK hC
      rw [hzo] at hss hww hcl hK
      have HK := Lib.hid hK
      have HC := Lib.hid hC
      have HS := Lib.hid hss
      have HW := Lib.hid hww
      clear hK hC hKK hz ho hzo hss hww hs ht
      unfold ccs at HK
      simp only at hcl
      go_upto_region 5 with (fail)
      go_region_held3 (fun W => W.cell? ⟨gm, 1, none⟩ = some (.map (some gb)) ∧ (Instr.lookup 53 (.map (some gb)) (.agg K) false).run Try.prog W = .ok (.agg #[.int .i64 z, .int .i64 o]) W)
        (first
          | exact HK.out _ hb.drew
          | exact HK.out _ (up_alloc hb.drew _)
          | exact HK.out _ (up_call hb.drew hb22)
          | exact HK.out _ (up_call (up_alloc hb.drew _) hb22)
          | exact HK.out _ (((up_call (up_alloc hb.drew _) hb22).setCell hb.size _).setCell hb.size _)
          | exact HK.out _ (up_alloc (up_call hb.drew hb22) _))
        (first
          | (go_at_call 27; refine (HC.out _ hb.drew).mono ?_; rintro e w22 ⟨rfl, hb22⟩)
          | (go_at_call 27; refine (HC.out _ (up_alloc hb.drew _)).mono ?_; rintro e w22 ⟨rfl, hb22⟩; have r6 : Row w22 wr.heap.size 58 #[.int .i64 0, .int .i64 0] := (Row.newAt wr.drew 58 #[.int .i64 0, .int .i64 0] wr.heap.size rfl).below hb22 (by simp); have k0 : w22.cell? ⟨wr.heap.size, 0, none⟩ = some (.int .i64 0) := (r6.cell 0).trans rfl; have k1 : w22.cell? ⟨wr.heap.size, 1, none⟩ = some (.int .i64 0) := (r6.cell 1).trans rfl; have k2 := r6.free 0; have k3 := r6.free 1))
      all_goals
        refine (‹∀ (a : Act) (w : World), Code.wp _ _ _ a w → _› : _) _ _ ?_
        first
          | (refine wp_world (F := fun W => Row W w22.heap.size 58 (ccs (z, o)) ∧ Below w.heap.size w W) ⟨Row.newEq _ _ _ _ _ rfl rfl, up_alloc (up_call hb.drew hb22) _⟩ ?_
             generalize w22.heap.size = g6)
          | (refine wp_world (F := fun W => Row W wr.heap.size 58 (ccs (z, o)) ∧ Below w.heap.size w W) ⟨(r6.put 0 _).put 1 _, ((up_call (up_alloc hb.drew _) hb22).setCell hb.size _).setCell hb.size _⟩ ?_
             generalize wr.heap.size = g6)
        rintro W6 ⟨r7, hb6⟩
        have c0 : W6.cell? ⟨g6, 0, none⟩ = some (.int .i64 z) := (r7.cell 0).trans rfl
        have c1 : W6.cell? ⟨g6, 1, none⟩ = some (.int .i64 o) := (r7.cell 1).trans rfl
        have hsh := share_high (z, o) hcl
        have hwe := weight_le (z, o) j hj2
        obtain ⟨sh, hsh2⟩ : ∃ sh, sh = shareC (z, o) := ⟨_, rfl⟩
        obtain ⟨we, hwe2⟩ : ∃ we, we = weightC (z, o) j := ⟨_, rfl⟩
        rw [← hsh2] at hsh
        rw [← hwe2] at hwe
        have hmul := Nat.mul_le_mul hwe hsh
        have HSW := Lib.hid (And.intro hsh2 hwe2)
        have hprod : (we : Int) * (sh : Int) = ((we * sh : Nat) : Int) := rfl
        obtain ⟨q, hq⟩ : ∃ q, q = we * sh := ⟨_, rfl⟩
        rw [← hq] at hmul hprod
        have HQ := Lib.hid hq
        clear hsh2 hwe2 hq
        go_upto_region 8 with (first
          | (go_at_call 28; refine (weight_any (z, o) hcl j hj2 _).mono ?_; rw [← HSW.out.2]; rintro e w26 ⟨rfl, hb26⟩; have d0 : w26.cell? ⟨g6, 0, none⟩ = some (.int .i64 z) := ((r7.below hb26 r7.lt).cell 0).trans rfl; have d1 : w26.cell? ⟨g6, 1, none⟩ = some (.int .i64 o) := ((r7.below hb26 r7.lt).cell 1).trans rfl)
          | (go_at_call 29; refine (share_any (z, o) hcl _).mono ?_; rw [← HSW.out.1]; rintro e w30 ⟨rfl, hb30⟩))
        have hb9 := up_call (up_call hb6 hb26) hb30
        go_wp2
        go_roundw
        case rel => exact ⟨j + 1, by omega, by go_num, by rw [HS.out, ← HSW.out.1, ← HSW.out.2, ← HQ.out]; go_num, by rw [HW.out, ← HSW.out.2]; go_num, hb9⟩
        case measure => simp [intOf]; omega
    · obtain rfl : j = d + 1 := by omega
      have hdiv : ((s : Int) / (t : Int)) = ((p : Nat) : Int) := by
        rw [HP.out, ← hs, ← ht]
        rfl
      have HD := Lib.hid hdiv
      have ht0 : (0 : Int) < t := by omega
      clear hdiv hs ht hbnd1 hbnd2
      go_wp2
      go_ret
      exact ⟨ret_int (by rw [HD.out]; exact IntWalk.wrap64_in _ (by have := HPL.out; omega)), hb⟩
end Go.Proofs.Ytgpacgmgdnongaa
