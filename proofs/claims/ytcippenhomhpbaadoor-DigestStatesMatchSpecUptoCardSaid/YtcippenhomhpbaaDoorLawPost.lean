/-
  SHARED: how a statement's arguments are opened and how its row is closed: arguments stay as they were below the old memory; the result is true.
-/
import Derived.Test.YtcippenhomhpbaaDoorLawKit
import Derived.Test.YtcippenhomhpbaaDoorCards
import Derived.Test.YtcippenhomhpbaaDoorTie
import Derived.WalkKit
import Derived.ProofKit
import Derived.OpenShut
import Derived.Carry
import Derived.Deep.DeepHandedRow
import Derived.Lib.LaidTab
import Derived.Lay
import Derived.Deep.Slices
namespace Go.Proofs.YtcippenhomhpbaaDoor
open Go.ChangeShapes Go.WideShapes Go.ChangeAt Go.RowKit

section
variable {H : Type} {enc : TypeId × Value → H} {P : Program}

/-- The row's last step where only 'Below' is known of the world behind the call. -/
theorem post_of_blw {f : Func} {s : ChangeSpec} {apart fresh handsOn again : Bool} {W W' : World} {args : Array Value} {v : Value} {ds gs : List (DataW H)} {before pa pv : List MemPlace}
    (hW : DataW.Whole enc P f.params.toList s.vars apart W args.toList ds gs before)
    (hres : ∀ (b : Nat) (sp : Nat → Bool) (hd : Bool), DataW.TrodAll enc P W' b sp hd f.resultTypes.toList (v.resultList f.resultTypes.size) (s.fn H (ds ++ gs)).results [])
    (hargs : ∀ sp : Nat → Bool, (∀ p ∈ before, sp p.block = true) → DataW.TrodAll enc P W' 0 sp true f.params.toList args.toList (s.fn H (ds ++ gs)).args pa)
    (hvars : ∀ sp : Nat → Bool, (∀ p ∈ before, sp p.block = true) → DataW.TrodVars enc P W' sp s.vars (s.fn H (ds ++ gs)).vars pv)
    (hps : before = pa ++ pv) (hb : Below W.heap.size W W')
    (hok : ∀ (j : Nat) (t : TypeId) (r : Value), f.resultTypes[j]? = some t → (v.resultList f.resultTypes.size)[j]? = some r → Value.okWide P W' .any 0 t r) :
    s.post enc P f apart fresh handsOn again W args v W' := by
  have hlt : ∀ p ∈ before, p.block < W.heap.size := fun p hp => hW.lt p hp
  have hold : ∀ p ∈ before, (fun b => decide (b < W.heap.size)) p.block = true := fun p hp => by simpa using hlt p hp
  refine ⟨ds, gs, before, [], pa, pv, hW, hres _ _ _, hargs _ hold, hvars _ hold, World.keptBut_mono (fun p hp => ⟨hp, ?_⟩) (hb.frame (· ∈ before)), fun _ => ?_⟩
  · rw [hps, List.mem_append] at hp
    exact Or.inr hp
  · obtain ⟨_, _, _, _, _, hz, hn⟩ := hW
    refine ⟨hok, _, _, ([] ++ pa) ++ pv, ⟨[] ++ pa, pv, trodAll_append (hargs _ (fun _ _ => rfl)) (hres _ _ _), hvars _ (fun _ _ => rfl), rfl, ?_, ?_⟩, ?_⟩
    · intro b off hp
      have hin : MemPlace.cell b off ∈ before := by rw [hps]; simpa using hp
      rw [hb.frozen (hlt _ hin)]
      exact hz b off hin
    · intro ha
      have := hn ha
      rw [hps] at this
      simpa using this
    · intro p hp _
      rw [hps]
      simpa using hp

/-- All arguments read as they did, in a world that holds every place they reach. -/
theorem trodAll_stays (hl : laidOutB P = true) {W W' : World} {sp' : Nat → Bool} : ∀ {ts : List TypeId} {vs : List Value} {ds : List (DataW H)} {ps : List MemPlace}, (ts.all fun t => P.readableRec t && decide (t < P.types.size)) = true →
    DataW.TrodAll enc P W 0 (fun _ => true) true ts vs ds ps → (∀ p ∈ ps, W.sameAt W' p) → (∀ p ∈ ps, sp' p.block = true) → DataW.TrodAll enc P W' 0 sp' true ts vs ds ps
  | [], [], [], _, _, h, _, _ => h
  | _ :: _, _ :: _, _ :: _, _, hT, ⟨p, q, h1, h2, e⟩, hs, hp => by
    simp only [List.all_cons, Bool.and_eq_true, decide_eq_true_eq] at hT
    exact ⟨p, q, WideElems.Trod_stays hl hT.1.1 hT.1.2 h1 (fun x hx => hs x (by rw [e]; exact List.mem_append_left _ hx)) (fun x hx => hp x (by rw [e]; exact List.mem_append_left _ hx)),
      trodAll_stays hl hT.2 h2 (fun x hx => hs x (by rw [e]; exact List.mem_append_right _ hx)) (fun x hx => hp x (by rw [e]; exact List.mem_append_right _ hx)), e⟩

/-- A statement's row is closed: the call returned true and what lay below stayed. -/
theorem law_post {f : Func} {s : ChangeSpec} {apart fresh handsOn again : Bool} {W W' : World} {args : Array Value} {ds : List (DataW H)} {before : List MemPlace} {tb : TypeId}
    (hl : laidOutB P = true) (hr : (f.params.toList.all fun t => P.readableRec t && decide (t < P.types.size)) = true) (hv : s.vars = []) (hfn : s.fn H ds = { results := [.lit (.bool true)], args := ds })
    (hrt : f.resultTypes = #[tb]) (htb : P.underlying tb = some .bool)
    (hW : DataW.Whole enc P f.params.toList s.vars apart W args.toList ds [] before) (hb : Below W.heap.size W W') :
    s.post enc P f apart fresh handsOn again W args (.bool true) W' := by
  have hW' := hW
  obtain ⟨p, q, hA, hV, rfl, _, _⟩ := hW
  rw [hv] at hV
  obtain ⟨_, rfl⟩ := trodVars_none hV
  have hlt : ∀ x ∈ p, x.block < W.heap.size := fun x hx => hW'.lt x (by simpa using hx)
  have hfn' : s.fn H (ds ++ []) = { results := [.lit (.bool true)], args := ds } := by rw [List.append_nil]; exact hfn
  refine post_of_blw (pa := p) (pv := []) hW' (fun _ _ _ => ?_) (fun sp hsp => ?_) (fun _ _ => ?_) rfl hb (ok_one hrt rfl (okWide_bool_mk htb _))
  · rw [hfn', hrt]
    exact trodAll_mk1 (shut_bool htb _)
  · rw [hfn']
    exact trodAll_stays hl hr hA (fun x hx => hb.same (hlt x hx)) (fun x hx => hsp x (by simpa using hx))
  · rw [hfn', hv]
    rfl

/-- Cells that are bytes, one by one. -/
theorem bytes_of {cs : List Value} (h : ∀ (i : Nat), i < cs.length → ∃ z : Int, cs[i]? = some (.int .u8 z) ∧ 0 ≤ z ∧ z ≤ 255) :
    ∃ D : List UInt8, cs = D.map (fun b => Value.int .u8 (b.toNat : Int)) := by
  induction cs with
  | nil => exact ⟨[], rfl⟩
  | cons c cs ih =>
    obtain ⟨z, hz, h0, h1⟩ := h 0 (by simp)
    obtain ⟨D, rfl⟩ := ih (fun i hi => by simpa using h (i + 1) (by simpa using hi))
    refine ⟨UInt8.ofNat z.toNat :: D, ?_⟩
    simp only [List.getElem?_cons_zero, Option.some.injEq] at hz
    have : ((UInt8.ofNat z.toNat).toNat : Int) = z := by
      simp only [UInt8.toNat_ofNat']
      omega
    simp only [List.map_cons, hz, this]

/-- AN ARRAY OF BYTES BY VALUE. -/
theorem open_bytes {t e : TypeId} {n : Nat} (ht : P.underlying t = some (.array n e)) (he : P.underlying e = some (.int .u8)) (hce : P.cellsOf e = 1) (hct : P.cellsOf t = n) {w : World} {r : Reach} {b0 : Nat} {base : Nat} {spare : Nat → Bool} {held : Bool}
    {v : Value} {d : DataW H} {ps : List MemPlace} (hval : Value.okWide P w r b0 t v) (hd : DataW.Trod enc P w base spare held t v d ps) :
    ∃ D : List UInt8, v = .agg (bs D) ∧ D.length = n := by
  obtain ⟨cs, rfl, hsz, _⟩ : ∃ cs, v = .agg cs ∧ cs.size = P.cellsOf t ∧ Row.okWide P w r b0 t cs := by
    simpa only [Value.okWide, ht] using hval
  obtain ⟨fuel, hf⟩ := hd
  obtain ⟨xs, m, _, ex, _, hlen, hel⟩ := DataW.trod_array ht hf
  rw [hct] at hsz
  obtain ⟨l⟩ := cs
  simp only [List.size_toArray] at hsz
  obtain ⟨D, hD⟩ := bytes_of (cs := l) (fun i hi => by
    have hE := hel i (by omega)
    rw [hce, Nat.mul_one, List.getElem?_eq_getElem (by omega)] at hE
    obtain ⟨z, e1, _, hwf⟩ := DataW.trod_int he hE
    refine ⟨z, ?_, bounds_u8 hwf⟩
    have h0 := congrArg (fun c : List Value => c[0]?) e1
    simpa [Value.cells, List.getElem?_take, List.getElem?_drop] using h0)
  refine ⟨D, by rw [hD]; rfl, ?_⟩
  rw [← hsz, hD, List.length_map]
/-- A SLICE OF BYTES, nil included, off its cell. -/
theorem open_bslice_cells {t e : TypeId} (ht : P.underlying t = some (.slice e)) (he : P.underlying e = some (.int .u8)) (hce : P.cellsOf e = 1) {w : World} {base : Nat} {spare : Nat → Bool} {held : Bool} {fuel : Nat}
    {cs : List Value} {x : DataW H × List MemPlace} (hf : DataW.trod enc P w base spare held fuel t cs = some x) :
    ∃ (A : Option Addr) (L : List UInt8) (c : Nat), cs = [.slice A L.length c] ∧ L.length ≤ c ∧ c ≤ maxLen ∧ Sl w w.heap.size A L.length (bl L) ∧ ((L = [] ∧ x.1 = .nil) ∨ ∃ el sp, x.1 = .slice el sp ∧ el.length = L.length) := by
  rcases Go.Deep.open_slice1 ht hce hf with ⟨h0, hx⟩ | ⟨ad, len, cap, m, k, V, D, Pl, h0, _, hl, hm, hmm, hx, hall⟩
  · exact ⟨none, [], 0, h0, Nat.le_refl _, Nat.zero_le _, by rw [bl_nil]; exact Sl.nil _ _ _, Or.inl ⟨rfl, by rw [hx]⟩⟩
  · have hlm : len ≤ m := by rw [hmm]; split <;> omega
    obtain ⟨L, hL⟩ := bytes_of (cs := (List.range len).map V) (fun i hi => by
      have hi' : i < len := by simpa using hi
      obtain ⟨h1, h2⟩ := hall i (by omega)
      obtain ⟨z, e1, _, hwf⟩ := DataW.trod_int he h2
      refine ⟨z, ?_, bounds_u8 hwf⟩
      rw [List.getElem?_map, List.getElem?_range hi', Option.map_some]
      exact congrArg some (List.cons.inj e1).1)
    have hlen : L.length = len := by
      have := congrArg List.length hL
      simpa using this.symm
    subst hlen
    refine ⟨some ad, L, cap, h0, hl, hm, ⟨bl_length L, fun h0 => ⟨ad, rfl, ?_, fun j u hj => ?_⟩⟩, Or.inr ⟨_, _, by rw [hx], by simp⟩⟩
    · have := (hall 0 (by omega)).1
      have hb := block_lt_of_cell this
      simpa [add_block] using hb
    · have hb : bl L = (List.range L.length).map V := by rw [hL]; unfold bl; rfl
      rw [hb] at hj
      obtain ⟨i, hi, rfl⟩ := List.mem_map.1 (List.mem_of_getElem? hj)
      have hj' : j < L.length := by
        have := (List.getElem?_eq_some_iff.1 hj).1
        simpa using this
      rw [List.getElem?_map, List.getElem?_range hj', Option.map_some] at hj
      rw [(hall j (by omega)).1]
      exact hj
/-- A SLICE OF BYTES, nil included. -/
theorem open_bslice {t e : TypeId} (ht : P.underlying t = some (.slice e)) (he : P.underlying e = some (.int .u8)) (hce : P.cellsOf e = 1) {w : World} {r : Reach} {b0 : Nat} {base : Nat} {spare : Nat → Bool} {held : Bool}
    {v : Value} {d : DataW H} {ps : List MemPlace} (hval : Value.okWide P w r b0 t v) (hd : DataW.Trod enc P w base spare held t v d ps) :
    ∃ (A : Option Addr) (L : List UInt8) (c : Nat), v = .slice A L.length c ∧ L.length ≤ c ∧ c ≤ maxLen ∧ Sl w w.heap.size A L.length (bl L) ∧ ((L = [] ∧ d = .nil) ∨ ∃ el sp, d = .slice el sp ∧ el.length = L.length) := by
  obtain ⟨a, len, cap, rfl⟩ := okWide_slice ht hval
  obtain ⟨fuel, hf⟩ := hd
  obtain ⟨A, L, c, h0, h1, h2, h3, h4⟩ := open_bslice_cells ht he hce hf
  simp only [Value.cells, List.cons.injEq, Value.slice.injEq, and_true] at h0
  obtain ⟨rfl, rfl, rfl⟩ := h0
  exact ⟨_, L, _, rfl, h1, h2, h3, h4⟩
/-- words, cell by cell -/
theorem word_of {e : TypeId} (he : P.underlying e = some (.int .u32)) {w : World} {base : Nat} {spare : Nat → Bool} {held : Bool} {fuel : Nat} {cs : List Value} {x : DataW H × List MemPlace} (hf : DataW.trod enc P w base spare held fuel e cs = some x) :
    ∃ z : BitVec 32, cs = [.int .u32 (W z)] := by
  obtain ⟨z, e1, _, hwf⟩ := DataW.trod_int he hf
  have hb := bounds_u32 hwf
  refine ⟨BitVec.ofNat 32 z.toNat, ?_⟩
  rw [e1]
  unfold Go.Proofs.YtcippenhomhpbaaDoor.W
  congr 2
  rw [BitVec.toNat_ofNat]
  omega
theorem ten_of {l : List Value} (h : l.length = 10) : ∃ a b c d e f g i j k, l = [a, b, c, d, e, f, g, i, j, k] := by
  match l, h with
  | [a, b, c, d, e, f, g, i, j, k], _ => exact ⟨a, b, c, d, e, f, g, i, j, k, rfl⟩

/-- A STATE IN PIECES BY VALUE. -/
theorem open_hashing {w : World} {r : Reach} {b0 : Nat} {base : Nat} {spare : Nat → Bool} {held : Bool} {v : Value} {d : DataW H} {ps : List MemPlace} (hval : Value.okWide Tryd.prog w r b0 30 v)
    (hd : DataW.Trod enc Tryd.prog w base spare held 30 v d ps) :
    ∃ (s : St) (A : Option Addr) (T : List UInt8) (c : Nat) (n : Int), v = .agg (hsc s (.slice A T.length c) n) ∧ -9223372036854775808 ≤ n ∧ n ≤ 9223372036854775807 ∧ T.length ≤ c ∧ c ≤ maxLen ∧ Sl w w.heap.size A T.length (bl T) := by
  obtain ⟨cs, rfl, hsz⟩ := okWide_struct Tryd.underlying30 hval
  rw [show Tryd.prog.cellsOf 30 = 10 by kernel_rfl] at hsz
  obtain ⟨l⟩ := cs
  obtain ⟨a, b, c, d, e, f, g, i, j, k, rfl⟩ := ten_of (l := l) hsz
  obtain ⟨fuel, hf⟩ := hd
  obtain ⟨xs, m, _, ex, _, hlen, hel⟩ := DataW.trod_struct Tryd.underlying30 hf
  have h0 : DataW.trod enc Tryd.prog w base spare held m 28 ((([a, b, c, d, e, f, g, i, j, k] : List Value).drop 0).take (Tryd.prog.cellsOf 28)) = xs[0]? := hel 0 _ rfl
  have h1 : DataW.trod enc Tryd.prog w base spare held m 22 ((([a, b, c, d, e, f, g, i, j, k] : List Value).drop 8).take (Tryd.prog.cellsOf 22)) = xs[1]? := hel 1 _ rfl
  have h2 : DataW.trod enc Tryd.prog w base spare held m 3 ((([a, b, c, d, e, f, g, i, j, k] : List Value).drop 9).take (Tryd.prog.cellsOf 3)) = xs[2]? := hel 2 _ rfl
  have l3 : xs.length = 3 := hlen
  rw [List.getElem?_eq_getElem (by omega)] at h0 h1 h2
  simp only [show Tryd.prog.cellsOf 28 = 8 by kernel_rfl, show Tryd.prog.cellsOf 22 = 1 by kernel_rfl, show Tryd.prog.cellsOf 3 = 1 by kernel_rfl, List.drop_succ_cons, List.drop_zero, List.take_succ_cons, List.take_zero] at h0 h1 h2
  obtain ⟨ys, m', _, _, _, hl8, he8⟩ := DataW.trod_array Tryd.underlying28 h0
  simp only [show Tryd.prog.cellsOf 27 = 1 by kernel_rfl, Nat.mul_one] at he8
  have w0 := he8 0 (by omega)
  have w1 := he8 1 (by omega)
  have w2 := he8 2 (by omega)
  have w3 := he8 3 (by omega)
  have w4 := he8 4 (by omega)
  have w5 := he8 5 (by omega)
  have w6 := he8 6 (by omega)
  have w7 := he8 7 (by omega)
  rw [List.getElem?_eq_getElem (by omega)] at w0 w1 w2 w3 w4 w5 w6 w7
  simp only [List.drop_succ_cons, List.drop_zero, List.take_succ_cons, List.take_zero] at w0 w1 w2 w3 w4 w5 w6 w7
  obtain ⟨z0, e0⟩ := word_of Tryd.underlying27 w0
  obtain ⟨z1, e1⟩ := word_of Tryd.underlying27 w1
  obtain ⟨z2, e2⟩ := word_of Tryd.underlying27 w2
  obtain ⟨z3, e3⟩ := word_of Tryd.underlying27 w3
  obtain ⟨z4, e4⟩ := word_of Tryd.underlying27 w4
  obtain ⟨z5, e5⟩ := word_of Tryd.underlying27 w5
  obtain ⟨z6, e6⟩ := word_of Tryd.underlying27 w6
  obtain ⟨z7, e7⟩ := word_of Tryd.underlying27 w7
  simp only [List.cons.injEq, and_true] at e0 e1 e2 e3 e4 e5 e6 e7
  obtain ⟨A, T, cp, et, hc, hcm, hS, _⟩ := open_bslice_cells Tryd.underlying22 Tryd.underlying5 (by kernel_rfl) h1
  obtain ⟨n, en, _, hwf⟩ := DataW.trod_int Tryd.underlying3 h2
  simp only [List.cons.injEq, and_true] at et en
  subst e0 e1 e2 e3 e4 e5 e6 e7 et en
  exact ⟨⟨z0, z1, z2, z3, z4, z5, z6, z7⟩, A, T, cp, n, rfl, (bounds_i64 hwf).1, (bounds_i64 hwf).2, hc, hcm, hS⟩

theorem bulk_pos (d : DataW H) : 1 ≤ Rows.uptoBulk d := by
  cases d with
  | lit l => cases l <;> simp [Rows.uptoBulk]
  | _ => simp [Rows.uptoBulk]
theorem bulk_len (l : List (DataW H)) : l.length ≤ Rows.uptoBulkAll l := by
  induction l with
  | nil => simp
  | cons x r ih => have := bulk_pos x; simp only [Rows.uptoBulkAll, List.length_cons]; omega
theorem bulk_part {d : DataW H} {l : List (DataW H)} (h : d ∈ l) : Rows.uptoBulk d ≤ Rows.uptoBulkAll l := by
  induction l with
  | nil => cases h
  | cons x r ih =>
    simp only [Rows.uptoBulkAll]
    rcases List.mem_cons.1 h with rfl | e
    · omega
    · have := ih e; omega
/-- the second form's bound, for a slice among the arguments -/
theorem bulk_slice {ds : List (DataW H)} (hk : Rows.uptoSmall H ds = true) {el sp : List (DataW H)} (h : DataW.slice el sp ∈ ds) : el.length ≤ 1048576 := by
  have h1 : Rows.uptoBulkAll ds ≤ 1048576 := of_decide_eq_true hk
  have h2 := bulk_part h
  have h3 := bulk_len el
  simp only [Rows.uptoBulk] at h2
  omega

end

/-- Two facts on the program's tables of types. -/
theorem laid_out : laidOutB Tryd.prog = true := by kernel_rfl

/-- WHAT THE ROW's LIST GIVES: the table of constants holds the 64 words. -/
theorem kis_of {W : World} (h : laidMetH Tryd.prog [("scriptorium/digest.roundConstants", Rows.laid_scriptorium_digest_roundConstants)] W) : KIs W := by
  have h' : laidMetH Tryd.prog [("scriptorium/digest.roundConstants", Lib.tabData .u32 (kn.map Int.ofNat))] W := by
    rw [show (Lib.tabData .u32 (kn.map Int.ofNat) : DataW Unit) = Rows.laid_scriptorium_digest_roundConstants by kernel_rfl]
    exact h
  have ht : Lib.TabIs Tryd.prog W "scriptorium/digest.roundConstants" .u32 (kn.map Int.ofNat) :=
    Lib.tabIs_of_head (rest := []) (g := 0) (by kernel_rfl) (by kernel_rfl) Tryd.underlying60 Tryd.underlying27 (by kernel_rfl) (by kernel_rfl) h'
  have hk : ((List.range 64).all fun i => decide (((kn.map Int.ofNat).getD i 0) = ((kc i).toNat : Int))) = true := by kernel_rfl
  intro i hi
  have h1 := ht.cell (g := 0) (by kernel_rfl) i (by rw [show (kn.map Int.ofNat).length = 64 by kernel_rfl]; exact hi)
  have h2 := of_decide_eq_true (List.all_eq_true.1 hk i (List.mem_range.2 hi))
  rw [h1, h2]
  unfold Go.Proofs.YtcippenhomhpbaaDoor.W
  rfl
end Go.Proofs.YtcippenhomhpbaaDoor
