/-
  The contracts of the model's advance and update.
-/
import Derived.Test.YtgpacgmgdnongaaMPre
namespace Go.Proofs.Ytgpacgmgdnongaa
open Go.RowKit

set_option maxRecDepth 100000 in
set_option maxHeartbeats 4000000 in
theorem advance_any (gm d gb c1 c2 g : Nat) (hg : g < 256) (b : Bool) (g' c1' c2' : Nat) (h : (2 * g + b.toNat < 256 ∧ g' = 2 * g + b.toNat ∧ c1' = c1 ∧ c2' = c2) ∨ (256 ≤ 2 * g + b.toNat ∧ g' = 1 ∧ c1' = (2 * g + b.toNat - 256) % 32 ∧ c2' = c1))
    (w : World) (hM : Row w gm 56 (mcs d gb c1 c2 g)) :
    Calls Try.prog 31 #[.pointer (some ⟨gm, 0, none⟩), .int .i64 ((b.toNat : Nat) : Int)] w fun e w' => e = .returned (.tuple #[]) ∧ Row w' gm 56 (mcs d gb c1' c2' g') ∧ w.grownBy w' (some gm) := by
  have hb := bool_lt b
  obtain ⟨x, hx⟩ : ∃ x, x = b.toNat := ⟨_, rfl⟩
  rw [← hx] at h hb ⊢
  clear hx
  have a2 : w.cell? ⟨gm, 2, none⟩ = some (.int .i64 c1) := (hM.cell 2).trans rfl
  have a3 : w.cell? ⟨gm, 3, none⟩ = some (.int .i64 c2) := (hM.cell 3).trans rfl
  have a4 : w.cell? ⟨gm, 4, none⟩ = some (.int .i64 g) := (hM.cell 4).trans rfl
  have f2 := hM.free 2
  have f3 := hM.free 3
  have f4 := hM.free 4
  have HM := Lib.hid hM
  clear hM
  rcases h with ⟨h1, h2, h3, h4⟩ | ⟨h1, h2, h3, h4⟩
  · have t1 : decide ((256 : Int) ≤ 2 * (g : Int) + (x : Int)) = false := decide_eq_false (by omega)
    have H2 := Lib.hid (And.intro h2 (And.intro h3 h4))
    clear h2 h3 h4
    go_enter Try.func31, Try.ntmps31
    go_wp2
    go_end0
    refine ⟨rfl, ?_, gr_cell (gr_refl _ _) _ _⟩
    have hr := HM.out.put 4 (.int .i64 (2 * (g : Int) + (x : Int)))
    obtain ⟨rfl, rfl, rfl⟩ := H2.out
    exact hr
  · have t1 : decide ((256 : Int) ≤ 2 * (g : Int) + (x : Int)) = true := decide_eq_true (by omega)
    have H2 := Lib.hid (And.intro h2 (And.intro h3 h4))
    clear h2 h3 h4
    go_enter Try.func31, Try.ntmps31
    go_wp2
    go_end0
    refine ⟨rfl, ?_, gr_cell (gr_cell (gr_cell (gr_cell (gr_refl _ _) _ _) _ _) _ _) _ _⟩
    have hr := (((HM.out.put 4 (.int .i64 (2 * (g : Int) + (x : Int)))).put 2 (.int .i64 ((2 * (g : Int) + (x : Int) - 256) % 32))).put 3 (.int .i64 c1)).put 4 (.int .i64 1)
    obtain ⟨rfl, rfl, rfl⟩ := H2.out
    have e1 : (((2 * g + x - 256) % 32 : Nat) : Int) = (2 * (g : Int) + (x : Int) - 256) % 32 := by omega
    unfold mcs
    rw [e1]
    exact hr

/-- the cells of a model after one more bit -/
theorem cells_snoc (l : List Bool) (b : Bool) : (2 * begAt l + b.toNat < 256 ∧ begAt (l ++ [b]) = 2 * begAt l + b.toNat ∧ clsAt (l ++ [b]) 1 = clsAt l 1 ∧ clsAt (l ++ [b]) 2 = clsAt l 2) ∨ (256 ≤ 2 * begAt l + b.toNat ∧ begAt (l ++ [b]) = 1 ∧ clsAt (l ++ [b]) 1 = (2 * begAt l + b.toNat - 256) % 32 ∧ clsAt (l ++ [b]) 2 = clsAt l 1) := by
  have hb := bool_lt b
  by_cases h : l.length % 8 < 7
  · have := begAt_low l h
    exact .inl ⟨by omega, begAt_snoc l b h, clsAt_snoc l b h 1 (by omega), clsAt_snoc l b h 2 (by omega)⟩
  · have h7 : l.length % 8 = 7 := by omega
    exact .inr ⟨by rw [byte_end l b h7]; omega, begAt_end l b h7, cls1_end l b h7, cls2_end l b h7⟩

/-- only the model's two blocks have turned -/
structure Tw (gm gb : Nat) (w w' : World) : Prop where
  os : w'.os = w.os
  tape : w'.tape = w.tape
  output : w'.output = w.output
  size : w.heap.size ≤ w'.heap.size
  block : ∀ k, k < w.heap.size → k ≠ gm → k ≠ gb → w'.heap[k]? = w.heap[k]?
theorem Tw.refl (gm gb : Nat) (w : World) : Tw gm gb w w := ⟨rfl, rfl, rfl, Nat.le_refl _, fun _ _ _ _ => rfl⟩
theorem Tw.trans {gm gb : Nat} {a b c : World} (h : Tw gm gb a b) (k : Tw gm gb b c) : Tw gm gb a c :=
  ⟨k.os.trans h.os, k.tape.trans h.tape, k.output.trans h.output, Nat.le_trans h.size k.size, fun i h1 h2 h3 => (k.block i (Nat.lt_of_lt_of_le h1 h.size) h2 h3).trans (h.block i h1 h2 h3)⟩
theorem Tw.of_below {gm gb : Nat} {w w' : World} (h : Below w.heap.size w w') : Tw gm gb w w' := ⟨h.os, h.tape, h.output, h.size, fun i h1 _ _ => h.block i h1⟩
theorem Tw.of_m {gm gb : Nat} {w w' : World} (h : w.grownBy w' (some gm)) : Tw gm gb w w' := ⟨h.os, h.tape, h.output, h.size, fun i h1 h2 _ => h.block i h1 (fun e => h2 (Option.some.inj e))⟩
theorem Tw.of_b {gm gb : Nat} {w w' : World} (h : w.grownBy w' (some gb)) : Tw gm gb w w' := ⟨h.os, h.tape, h.output, h.size, fun i h1 _ h3 => h.block i h1 (fun e => h3 (Option.some.inj e))⟩

/-- the map while the counts of a bit are added: the orders below j have it -/
def Mj (w : World) (gm gb d n : Nat) (l : List Bool) (b : Bool) (j : Nat) : Prop :=
  Row w gm 56 (mcs d gb (clsAt l 1) (clsAt l 2) (begAt l)) ∧ ∃ f, Mp w gb n f ∧ ∀ k, COk k → k.o ≤ d → f k = if k.o < j then cnt (l ++ [b]) k else cnt l k
section
variable {w w' : World} {gm gb d n j : Nat} {l : List Bool} {b : Bool}
theorem Mj.of_md (h : Md w gm gb d n l) (b : Bool) : Mj w gm gb d n l b 0 := by
  obtain ⟨h1, f, h2, h3⟩ := h
  exact ⟨h1, f, h2, fun k hk hd => by rw [if_neg (by omega)]; exact h3 k hk hd⟩
theorem Mj.row (h : Mj w gm gb d n l b j) : Row w gm 56 (mcs d gb (clsAt l 1) (clsAt l 2) (begAt l)) := h.1
theorem Mj.ltm (h : Mj w gm gb d n l b j) : gm < w.heap.size := h.1.lt
theorem Mj.ltb (h : Mj w gm gb d n l b j) : gb < w.heap.size := h.2.choose_spec.1.lt
theorem Mj.up (h : Mj w gm gb d n l b j) (hb : Below w.heap.size w w') : Mj w' gm gb d n l b j := by
  obtain ⟨hr, f, hm, hf⟩ := h
  exact ⟨hr.below hb hr.lt, f, hm.below hb, hf⟩
theorem Mj.ne (h : Mj w gm gb d n l b j) : gm ≠ gb := by
  rintro rfl
  obtain ⟨h1, f, ⟨D, ⟨es, clock, hb, _⟩, _⟩, _⟩ := h
  unfold Row at h1
  rw [h1] at hb
  cases hb
theorem Mj.look (h : Mj w gm gb d n l b j) (hj : j ≤ 2) (hd : j ≤ d) :
    (Instr.lookup 53 (.map (some gb)) (.agg (kcs (ctxOf l j))) false).run Try.prog w = .ok (.agg (ccs (cnt l (ctxOf l j)))) w := by
  obtain ⟨_, f, hm, hf⟩ := h
  rw [hm.look _ (ctxOf_ok l j hj), hf _ (ctxOf_ok l j hj) hd, ctxOf_o, if_neg (Nat.lt_irrefl j)]
theorem Mj.store (h : Mj w gm gb d n l b j) (hn : n < maxLen) (hj : j ≤ 2) (_hd : j ≤ d) :
    ∃ w', (Instr.mapUpdate 53 (.map (some gb)) (.agg (kcs (ctxOf l j))) (.agg (ccs (incB b (cnt l (ctxOf l j)))))).run Try.prog w = .ok () w' ∧ Mj w' gm gb d (n + 1) l b (j + 1) ∧ w.grownBy w' (some gb) := by
  have hne := h.ne
  obtain ⟨hr, f, hm, hf⟩ := h
  obtain ⟨w', hrun, h1, h2⟩ := hm.store hn (ctxOf l j) (ctxOf_ok l j hj) (incB b (cnt l (ctxOf l j)))
  refine ⟨w', hrun, ⟨hr.grown h2 (fun e => hne (Option.some.inj e)), _, h1, fun k hk hkd => ?_⟩, h2⟩
  show (if k = ctxOf l j then incB b (cnt l (ctxOf l j)) else f k) = _
  by_cases hkj : k = ctxOf l j
  · rw [if_pos hkj, if_pos (by rw [hkj, ctxOf_o]; omega), cnt_snoc, hkj, ctxOf_o, if_pos rfl]
  · rw [if_neg hkj, hf k hk hkd]
    by_cases h3 : k.o < j
    · rw [if_pos h3, if_pos (by omega)]
    · rw [if_neg h3]
      by_cases h4 : k.o < j + 1
      · have h5 : k.o = j := by omega
        rw [if_pos h4, cnt_snoc, h5, if_neg (fun e => hkj e.symm)]
      · rw [if_neg h4]
end

set_option maxRecDepth 100000 in
set_option maxHeartbeats 8000000 in
theorem update_any (gm gb d n : Nat) (l : List Bool) (b : Bool) (hd : d ≤ 2) (hn : n ≤ 100000) (w : World) (h : Md w gm gb d n l) :
    Calls Try.prog 24 #[.pointer (some ⟨gm, 0, none⟩), .int .i64 ((b.toNat : Nat) : Int)] w fun e w' => e = .returned (.tuple #[]) ∧ Md w' gm gb d (n + 3) (l ++ [b]) ∧ Tw gm gb w w' := by
  have a0 : w.cell? ⟨gm, 0, none⟩ = some (.int .i64 d) := (h.row.cell 0).trans rfl
  have hne := h.ne
  have h0 := Mj.of_md h b
  clear h
  obtain ⟨x, hx⟩ : ∃ x, x = ((b.toNat : Nat) : Int) := ⟨_, rfl⟩
  rw [← hx]
  have HX := Lib.hid hx
  clear hx
  go_enter Try.func24, Try.ntmps24
  go_wp2
  clear a0
  go_loopw [11] (fun i wr => ∃ j : Nat, j ≤ d + 1 ∧ i = .int .i64 j ∧ Mj wr gm gb d (n + j) l b j ∧ Tw gm gb w wr) (fun i _ => d + 1 - (intOf i).toNat)
  case atStart => exact ⟨0, Nat.zero_le _, rfl, h0, Tw.refl _ _ _⟩
  case round =>
    clear h0
    obtain ⟨j, hj, rfl, hM, ht⟩ := hrel
    by_cases hlt : j < d + 1
    · have hj2 : j ≤ 2 := by omega
      have hC := context_any gm d gb _ _ _ j hj2 (begAt_lt l) _ hM.row
      have hlk := hM.look hj2 (by omega)
      have hcl := cnt_le l (ctxOf l j)
      have hst := fun W (hW : Mj W gm gb d (n + j) l b j) => hW.store (by unfold maxLen; omega) hj2 (by omega)
      obtain ⟨K, hKK⟩ : ∃ K, K = ctxOf l j := ⟨_, rfl⟩
      have hKK2 : (⟨j, if 1 ≤ j then clsAt l 1 else 0, if 2 ≤ j then clsAt l 2 else 0, begAt l⟩ : Ctx) = K := hKK.symm
      rw [hKK2] at hC
      rw [← hKK] at hlk hcl hst
      have HC := Lib.hid hC
      have HKK := Lib.hid hKK
      clear hC hKK hKK2
      obtain ⟨z, o, hzo⟩ : ∃ z o, cnt l K = (z, o) := ⟨_, _, rfl⟩
      obtain ⟨z', o', hzo'⟩ : ∃ z' o', incB b (z, o) = (z', o') := ⟨_, _, rfl⟩
      rw [hzo] at hlk hcl hst
      rw [hzo'] at hst
      have HST := Lib.hid hst
      have HW := Lib.hid hzo'
      have hlk2 := fun W (hW : Mj W gm gb d (n + j) l b j) => hW.look hj2 (by omega)
      rw [← HKK.out, hzo] at hlk2
      have HLK := Lib.hid hlk2
      clear hst hzo hzo' hlk hlk2
      go_upto_region 4 with (first
        | (go_at_call 27; refine HC.out.mono ?_; rintro e w16 ⟨rfl, hb16⟩)
        | (refine wpList_store_row rfl 60 _ _ rfl w16.heap.size (kcs K) rfl rfl 60 (kcs ⟨0, 0, 0, 0⟩) (Row.newEq _ _ _ _ _ rfl rfl) (by rw [kcs_size]; exact cellsK) rfl (all_one (kcs_one _)) ?_))
      refine wp_world (F := fun W => Row W w16.heap.size 60 (kcs K) ∧ Mj W gm gb d (n + j) l b j ∧ Tw gm gb w W) ⟨row_new1 _ _ _ _, hM.up (up_call hb16 (blw_new1 _ _ _)), ht.trans (Tw.of_below (up_call hb16 (blw_new1 _ _ _)))⟩ ?_
      generalize w16.heap.size = g5
      clear hM ht hb16 HC w16
      rintro W5 ⟨r5, hM, ht⟩
      have hM5 := hM.row
      have hlk : (Instr.lookup 53 (.map (some gb)) (.agg #[.int .i64 K.o, .int .i64 K.a, .int .i64 K.b, .int .i64 K.g]) false).run Try.prog W5.drew = .ok (.agg #[.int .i64 z, .int .i64 o]) W5.drew := HLK.out _ hM
      have hst : ∀ w29, Below W5.drew.heap.size W5.drew w29 → ∃ w', (Instr.mapUpdate 53 (.map (some gb)) (.agg #[.int .i64 K.o, .int .i64 K.a, .int .i64 K.b, .int .i64 K.g]) (.agg (ccs (z', o')))).run Try.prog w29 = .ok () w' ∧ Mj w' gm gb d (n + j + 1) l b (j + 1) ∧ w29.grownBy w' (some gb) := fun w29 h29 => HST.out w29 (hM.up (up_call (Below.refl _ _).drew h29))
      have hg5 : g5 ≠ gb := by
        rintro rfl
        obtain ⟨_, f, ⟨D, ⟨es, clock, hbk, _⟩, _⟩, _⟩ := hM
        unfold Row at r5
        rw [r5] at hbk
        cases hbk
      have hwi := with_any (z, o) hcl b
      rw [← HX.out, HW.out] at hwi
      have HWI := Lib.hid hwi
      clear hwi
      have HS5 := Lib.hid hst
      have H5 := Lib.hid (And.intro r5 (And.intro hM5 hg5))
      clear hst hM5 r5 hg5
      go_region_held3 (fun W => W.cell? ⟨gm, 1, none⟩ = some (.map (some gb)) ∧ W.cell? ⟨g5, 0, none⟩ = some (.int .i64 K.o) ∧ W.cell? ⟨g5, 1, none⟩ = some (.int .i64 K.a) ∧ W.cell? ⟨g5, 2, none⟩ = some (.int .i64 K.b) ∧ W.cell? ⟨g5, 3, none⟩ = some (.int .i64 K.g))
        (first
          | exact ⟨(H5.out.2.1.drew.cell 1).trans rfl, (H5.out.1.drew.cell 0).trans rfl, (H5.out.1.drew.cell 1).trans rfl, (H5.out.1.drew.cell 2).trans rfl, (H5.out.1.drew.cell 3).trans rfl⟩
          | exact ⟨(q6.cell 1).trans rfl, (q5.cell 0).trans rfl, (q5.cell 1).trans rfl, (q5.cell 2).trans rfl, (q5.cell 3).trans rfl⟩
          | exact ⟨((q6.grown hg30 (fun e => hne (Option.some.inj e))).cell 1).trans rfl, ((q5.grown hg30 (fun e => H5.out.2.2 (Option.some.inj e))).cell 0).trans rfl, ((q5.grown hg30 (fun e => H5.out.2.2 (Option.some.inj e))).cell 1).trans rfl, ((q5.grown hg30 (fun e => H5.out.2.2 (Option.some.inj e))).cell 2).trans rfl, ((q5.grown hg30 (fun e => H5.out.2.2 (Option.some.inj e))).cell 3).trans rfl⟩)
        (first
          | (go_at_call 30; refine (HWI.out _).mono ?_; rintro e w29 ⟨rfl, hb29⟩; have q5 := H5.out.1.drew.below hb29 H5.out.1.lt; have q6 := H5.out.2.1.drew.below hb29 H5.out.2.1.lt; obtain ⟨w30, hr30, hM30, hg30⟩ := HS5.out w29 hb29))
      have ht2 : Tw gm gb w w30 := (ht.trans (Tw.of_below (up_call (Below.refl _ _).drew hb29))).trans (Tw.of_b hg30)
      clear q5 q6 hr30 hg30 hb29 hM H5 HS5 hlk
      go_wp2
      go_roundw
      case rel => exact ⟨j + 1, by omega, by go_num, hM30, ht2⟩
      case measure => simp [intOf]; omega
    · obtain rfl : j = d + 1 := by omega
      have had := advance_any gm d gb _ _ _ (begAt_lt l) b _ _ _ (cells_snoc l b) _ hM.row
      rw [← HX.out] at had
      have HAD := Lib.hid had
      clear had
      go_wp2_with (first
        | (go_at_call 31; refine HAD.out.mono ?_; rintro e w33 ⟨rfl, hr33, hg33⟩))
      go_end0
      obtain ⟨_, f, hm, hf⟩ := hM
      refine ⟨rfl, ⟨hr33, f, (hm.kept hg33 (fun e => hne (Option.some.inj e).symm)).mono (by omega), fun k hk hkd => ?_⟩, ht.trans (Tw.of_m hg33)⟩
      rw [hf k hk hkd, if_pos (by omega)]
end Go.Proofs.Ytgpacgmgdnongaa
