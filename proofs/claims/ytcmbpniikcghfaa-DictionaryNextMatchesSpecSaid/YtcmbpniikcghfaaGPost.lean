/-
  32-bit words and bytes as the walk meets them: 'W x' is the number of the word x. Helper text of plain arithmetic: it proves nothing of the program by itself. SHARED: how a statement's arguments are opened and how its row is closed: arguments stay as they were below the old memory; the result is true.
-/
import Derived.Test.YtcmbpniikcghfaaGMem
import Derived.WalkKit
import Derived.ProofKit
import Derived.OpenShut
import Derived.Carry
import Derived.Lay
import Derived.Deep.Slices
namespace Go.Proofs.Ytcmbpniikcghfaa
open Go.RowKit

/-- the number of a word -/
def W (x : BitVec 32) : Int := (x.toNat : Int)
theorem W_nonneg (x : BitVec 32) : 0 ≤ W x := by unfold W; omega
theorem W_lt (x : BitVec 32) : W x < 4294967296 := by unfold W; have := x.isLt; omega
theorem W_inj {x y : BitVec 32} : W x = W y ↔ x = y := by
  unfold W
  constructor
  · intro h
    exact BitVec.eq_of_toNat_eq (by omega)
  · rintro rfl
    rfl
theorem W_wf (x : BitVec 32) : (Lit.int .u32 (W x)).wf = true := WalkArith.wf_u32 ⟨W_nonneg x, by have := W_lt x; omega⟩

theorem W_or (x y : BitVec 32) : bits .or .u32 (W x) (W y) = W (x ||| y) := by
  unfold W; rw [u32_or_nat _ _ x.isLt y.isLt, BitVec.toNat_or]
theorem W_and (x y : BitVec 32) : bits .and .u32 (W x) (W y) = W (x &&& y) := by
  unfold W; rw [u32_and_nat _ _ x.isLt y.isLt, BitVec.toNat_and]
theorem W_xor (x y : BitVec 32) : bits .xor .u32 (W x) (W y) = W (x ^^^ y) := by
  unfold W; rw [u32_xor_nat _ _ x.isLt y.isLt, BitVec.toNat_xor]
theorem W_add (x y : BitVec 32) : (W x + W y) % (4294967296 : Int) = W (x + y) := by
  unfold W; rw [BitVec.toNat_add]; omega
theorem W_addw (x y : BitVec 32) : IntKind.u32.wrap (W x + W y) = W (x + y) := by
  rw [IntKind.wrap_u32', W_add]
theorem W_shl (x : BitVec 32) (n : Nat) : (W x * 2 ^ n) % (4294967296 : Int) = W (x <<< n) := by
  unfold W; rw [BitVec.toNat_shiftLeft, Nat.shiftLeft_eq]; simp
theorem W_shr (x : BitVec 32) (n : Nat) : W x / 2 ^ n = W (x >>> n) := by
  unfold W; rw [BitVec.toNat_ushiftRight, Nat.shiftRight_eq_div_pow]; simp
theorem W_shl8 (x : BitVec 32) : (W x * (256 : Int)) % (4294967296 : Int) = W (x <<< 8) := W_shl x 8
theorem W_shl16 (x : BitVec 32) : (W x * (65536 : Int)) % (4294967296 : Int) = W (x <<< 16) := W_shl x 16
theorem W_shl24 (x : BitVec 32) : (W x * (16777216 : Int)) % (4294967296 : Int) = W (x <<< 24) := W_shl x 24
theorem W_shr3 (x : BitVec 32) : W x / (8 : Int) = W (x >>> 3) := W_shr x 3
theorem W_shr10 (x : BitVec 32) : W x / (1024 : Int) = W (x >>> 10) := W_shr x 10
theorem W_not (x : BitVec 32) : bits .xor .u32 (W x) (-1) = W (~~~x) := by
  show IntKind.u32.wrap ((BitVec.ofInt 32 (W x) ^^^ BitVec.ofInt 32 (-1)).toNat : Int) = _
  have e : BitVec.ofInt 32 (W x) = x := by
    unfold W
    rw [BitVec.ofInt_natCast, BitVec.ofNat_toNat]
    simp
  rw [e, IntKind.wrap_u32']
  have h2 : x ^^^ BitVec.ofInt 32 (-1) = ~~~x := by
    have h3 : BitVec.ofInt 32 (-1) = BitVec.allOnes 32 := by decide
    rw [h3, BitVec.xor_allOnes]
  rw [h2]
  unfold W
  have := (~~~x).isLt
  omega

theorem W_flip (x : BitVec 32) : bits .xor .u32 (if IntKind.u32.signed = true then -1 else IntKind.u32.max) (W x) = W (~~~x) := by
  have e : (if IntKind.u32.signed = true then -1 else IntKind.u32.max) = W (BitVec.allOnes 32) := by decide +kernel
  rw [e, W_xor, BitVec.allOnes_xor]

/-- a byte as a word -/
def wide (b : UInt8) : BitVec 32 := BitVec.ofNat 32 b.toNat
theorem W_wide (b : UInt8) : (b.toNat : Int) = W (wide b) := by
  unfold W wide
  rw [BitVec.toNat_ofNat]
  have := b.toNat_lt
  omega
theorem W_or_byte (x : BitVec 32) (b : UInt8) : bits .or .u32 (W x) (b.toNat : Int) = W (x ||| wide b) := by
  rw [W_wide, W_or]
/-- the lowest byte of a word -/
def low (x : BitVec 32) : UInt8 := UInt8.ofNat x.toNat
theorem W_low (x : BitVec 32) : W x % (256 : Int) = ((low x).toNat : Int) := by
  unfold W low
  simp

/-- the word x rotated to the right -/
def rotr (x : BitVec 32) (n : Nat) : BitVec 32 := x >>> n ||| x <<< (32 - n)
theorem rotr_eq (x : BitVec 32) (n : Nat) : rotr x n = x >>> n ||| x <<< (32 - n) := rfl
attribute [irreducible] rotr W low wide

/-- arrays of words and of bytes, as cells -/
def ws (l : List (BitVec 32)) : Array Value := (l.map fun x => Value.int .u32 (W x)).toArray
def bs (l : List UInt8) : Array Value := (l.map fun b => Value.int .u8 (b.toNat : Int)).toArray
theorem ws_size (l : List (BitVec 32)) : (ws l).size = l.length := by simp [ws]
theorem bs_size (l : List UInt8) : (bs l).size = l.length := by simp [bs]
theorem ws_get (l : List (BitVec 32)) (i : Nat) (h : i < l.length) : (ws l)[i]? = some (.int .u32 (W (l.getD i 0))) := by simp [ws, h]
theorem bs_get (l : List UInt8) (i : Nat) (h : i < l.length) : (bs l)[i]? = some (.int .u8 ((l.getD i 0).toNat : Int)) := by simp [bs, h]
theorem ws_one (l : List (BitVec 32)) : ∀ v ∈ ws l, v.oneCell' = true := by
  intro v hv
  obtain ⟨x, _, rfl⟩ : ∃ x, x ∈ l ∧ Value.int .u32 (W x) = v := by simpa [ws] using hv
  rfl
theorem bs_one (l : List UInt8) : ∀ v ∈ bs l, v.oneCell' = true := by
  intro v hv
  obtain ⟨x, _, rfl⟩ : ∃ x, x ∈ l ∧ Value.int .u8 (x.toNat : Int) = v := by simpa [bs] using hv
  rfl
theorem ws_set (l : List (BitVec 32)) (i : Nat) (x : BitVec 32) : (ws l).setIfInBounds i (.int .u32 (W x)) = ws (l.set i x) := by
  simp [ws, List.map_set]
theorem bs_set (l : List UInt8) (i : Nat) (b : UInt8) : (bs l).setIfInBounds i (.int .u8 (b.toNat : Int)) = bs (l.set i b) := by
  simp [bs, List.map_set]
end Go.Proofs.Ytcmbpniikcghfaa

namespace Go.Proofs.Ytcmbpniikcghfaa
open Go.ChangeShapes Go.WideShapes Go.ChangeAt Go.RowKit

section
variable {H : Type} {enc : TypeId × Value → H} {P : Program}

/-- The row's last step where only 'Below' is known of the world behind the call. -/
theorem post_of_blw {f : Func} {s : ChangeSpec} {apart fresh handsOn again : Bool} {W W' : World} {args : Array Value} {v : Value} {ds gs : List (DataW H)} {before pa pv : List MemPlace}
    (hW : DataW.Whole enc P f.params.toList s.vars apart W args.toList ds gs before)
    (hres : ∀ (b : Nat) (sp : Nat → Bool) (hd : Bool), DataW.TrodAll enc P W' b sp hd f.resultTypes.toList (v.resultList f.resultTypes.size) (s.fn H (ds ++ gs)).results [])
    (hargs : ∀ sp : Nat → Bool, (∀ p ∈ before, sp p.block = true) → DataW.TrodAll enc P W' 0 sp true f.params.toList args.toList (s.fn H (ds ++ gs)).args pa)
    (hvars : ∀ sp : Nat → Bool, (∀ p ∈ before, sp p.block = true) → DataW.TrodVars enc P W' sp s.vars (s.fn H (ds ++ gs)).vars pv)
    (hps : before = pa ++ pv) (hb : Below W.heap.size W W')
    (hok : ∀ (j : Nat) (t : TypeId) (r : Value), f.resultTypes[j]? = some t → (v.resultList f.resultTypes.size)[j]? = some r → Value.okWide P W' .any 0 t r) :
    s.post enc P f apart fresh handsOn again W args v W' := by
  have hlt : ∀ p ∈ before, p.block < W.heap.size := fun p hp => hW.lt p hp
  have hold : ∀ p ∈ before, (fun b => decide (b < W.heap.size)) p.block = true := fun p hp => by simpa using hlt p hp
  refine ⟨ds, gs, before, [], pa, pv, hW, hres _ _ _, hargs _ hold, hvars _ hold, World.keptBut_mono (fun p hp => ⟨hp, ?_⟩) (hb.frame (· ∈ before)), fun _ => ?_⟩
  · rw [hps, List.mem_append] at hp
    exact Or.inr hp
  · obtain ⟨_, _, _, _, _, hz, hn⟩ := hW
    refine ⟨hok, _, _, ([] ++ pa) ++ pv, ⟨[] ++ pa, pv, trodAll_append (hargs _ (fun _ _ => rfl)) (hres _ _ _), hvars _ (fun _ _ => rfl), rfl, ?_, ?_⟩, ?_⟩
    · intro b off hp
      have hin : MemPlace.cell b off ∈ before := by rw [hps]; simpa using hp
      rw [hb.frozen (hlt _ hin)]
      exact hz b off hin
    · intro ha
      have := hn ha
      rw [hps] at this
      simpa using this
    · intro p hp _
      rw [hps]
      simpa using hp

/-- All arguments read as they did, in a world that holds every place they reach. -/
theorem trodAll_stays (hl : laidOutB P = true) {W W' : World} {sp' : Nat → Bool} : ∀ {ts : List TypeId} {vs : List Value} {ds : List (DataW H)} {ps : List MemPlace}, (ts.all fun t => P.readableRec t && decide (t < P.types.size)) = true →
    DataW.TrodAll enc P W 0 (fun _ => true) true ts vs ds ps → (∀ p ∈ ps, W.sameAt W' p) → (∀ p ∈ ps, sp' p.block = true) → DataW.TrodAll enc P W' 0 sp' true ts vs ds ps
  | [], [], [], _, _, h, _, _ => h
  | _ :: _, _ :: _, _ :: _, _, hT, ⟨p, q, h1, h2, e⟩, hs, hp => by
    simp only [List.all_cons, Bool.and_eq_true, decide_eq_true_eq] at hT
    exact ⟨p, q, WideElems.Trod_stays hl hT.1.1 hT.1.2 h1 (fun x hx => hs x (by rw [e]; exact List.mem_append_left _ hx)) (fun x hx => hp x (by rw [e]; exact List.mem_append_left _ hx)),
      trodAll_stays hl hT.2 h2 (fun x hx => hs x (by rw [e]; exact List.mem_append_right _ hx)) (fun x hx => hp x (by rw [e]; exact List.mem_append_right _ hx)), e⟩

/-- A statement's row is closed: the call returned true and what lay below stayed. -/
theorem law_post {f : Func} {s : ChangeSpec} {apart fresh handsOn again : Bool} {W W' : World} {args : Array Value} {ds : List (DataW H)} {before : List MemPlace} {tb : TypeId}
    (hl : laidOutB P = true) (hr : (f.params.toList.all fun t => P.readableRec t && decide (t < P.types.size)) = true) (hv : s.vars = []) (hfn : s.fn H ds = { results := [.lit (.bool true)], args := ds })
    (hrt : f.resultTypes = #[tb]) (htb : P.underlying tb = some .bool)
    (hW : DataW.Whole enc P f.params.toList s.vars apart W args.toList ds [] before) (hb : Below W.heap.size W W') :
    s.post enc P f apart fresh handsOn again W args (.bool true) W' := by
  have hW' := hW
  obtain ⟨p, q, hA, hV, rfl, _, _⟩ := hW
  rw [hv] at hV
  obtain ⟨_, rfl⟩ := trodVars_none hV
  have hlt : ∀ x ∈ p, x.block < W.heap.size := fun x hx => hW'.lt x (by simpa using hx)
  have hfn' : s.fn H (ds ++ []) = { results := [.lit (.bool true)], args := ds } := by rw [List.append_nil]; exact hfn
  refine post_of_blw (pa := p) (pv := []) hW' (fun _ _ _ => ?_) (fun sp hsp => ?_) (fun _ _ => ?_) rfl hb (ok_one hrt rfl (okWide_bool_mk htb _))
  · rw [hfn', hrt]
    exact trodAll_mk1 (shut_bool htb _)
  · rw [hfn']
    exact trodAll_stays hl hr hA (fun x hx => hb.same (hlt x hx)) (fun x hx => hsp x (by simpa using hx))
  · rw [hfn', hv]
    rfl

/-- Cells that are bytes, one by one. -/
theorem bytes_of {cs : List Value} (h : ∀ (i : Nat), i < cs.length → ∃ z : Int, cs[i]? = some (.int .u8 z) ∧ 0 ≤ z ∧ z ≤ 255) :
    ∃ D : List UInt8, cs = D.map (fun b => Value.int .u8 (b.toNat : Int)) := by
  induction cs with
  | nil => exact ⟨[], rfl⟩
  | cons c cs ih =>
    obtain ⟨z, hz, h0, h1⟩ := h 0 (by simp)
    obtain ⟨D, rfl⟩ := ih (fun i hi => by simpa using h (i + 1) (by simpa using hi))
    refine ⟨UInt8.ofNat z.toNat :: D, ?_⟩
    simp only [List.getElem?_cons_zero, Option.some.injEq] at hz
    have : ((UInt8.ofNat z.toNat).toNat : Int) = z := by
      simp only [UInt8.toNat_ofNat']
      omega
    simp only [List.map_cons, hz, this]

/-- AN ARRAY OF BYTES BY VALUE. -/
theorem open_bytes {t e : TypeId} {n : Nat} (ht : P.underlying t = some (.array n e)) (he : P.underlying e = some (.int .u8)) (hce : P.cellsOf e = 1) (hct : P.cellsOf t = n) {w : World} {r : Reach} {b0 : Nat} {base : Nat} {spare : Nat → Bool} {held : Bool}
    {v : Value} {d : DataW H} {ps : List MemPlace} (hval : Value.okWide P w r b0 t v) (hd : DataW.Trod enc P w base spare held t v d ps) :
    ∃ D : List UInt8, v = .agg (bs D) ∧ D.length = n := by
  obtain ⟨cs, rfl, hsz, _⟩ : ∃ cs, v = .agg cs ∧ cs.size = P.cellsOf t ∧ Row.okWide P w r b0 t cs := by
    simpa only [Value.okWide, ht] using hval
  obtain ⟨fuel, hf⟩ := hd
  obtain ⟨xs, m, _, ex, _, hlen, hel⟩ := DataW.trod_array ht hf
  rw [hct] at hsz
  obtain ⟨l⟩ := cs
  simp only [List.size_toArray] at hsz
  obtain ⟨D, hD⟩ := bytes_of (cs := l) (fun i hi => by
    have hE := hel i (by omega)
    rw [hce, Nat.mul_one, List.getElem?_eq_getElem (by omega)] at hE
    obtain ⟨z, e1, _, hwf⟩ := DataW.trod_int he hE
    refine ⟨z, ?_, bounds_u8 hwf⟩
    have h0 := congrArg (fun c : List Value => c[0]?) e1
    simpa [Value.cells, List.getElem?_take, List.getElem?_drop] using h0)
  refine ⟨D, by rw [hD]; rfl, ?_⟩
  rw [← hsz, hD, List.length_map]
/-- A SLICE OF BYTES, nil included, off its cell. -/
theorem open_bslice_cells {t e : TypeId} (ht : P.underlying t = some (.slice e)) (he : P.underlying e = some (.int .u8)) (hce : P.cellsOf e = 1) {w : World} {base : Nat} {spare : Nat → Bool} {held : Bool} {fuel : Nat}
    {cs : List Value} {x : DataW H × List MemPlace} (hf : DataW.trod enc P w base spare held fuel t cs = some x) :
    ∃ (A : Option Addr) (L : List UInt8) (c : Nat), cs = [.slice A L.length c] ∧ L.length ≤ c ∧ c ≤ maxLen ∧ Sl w w.heap.size A L.length (bl L) ∧ ((L = [] ∧ x.1 = .nil) ∨ ∃ el sp, x.1 = .slice el sp ∧ el.length = L.length) := by
  rcases Go.Deep.open_slice1 ht hce hf with ⟨h0, hx⟩ | ⟨ad, len, cap, m, k, V, D, Pl, h0, _, hl, hm, hmm, hx, hall⟩
  · exact ⟨none, [], 0, h0, Nat.le_refl _, Nat.zero_le _, by rw [bl_nil]; exact Sl.nil _ _ _, Or.inl ⟨rfl, by rw [hx]⟩⟩
  · have hlm : len ≤ m := by rw [hmm]; split <;> omega
    obtain ⟨L, hL⟩ := bytes_of (cs := (List.range len).map V) (fun i hi => by
      have hi' : i < len := by simpa using hi
      obtain ⟨h1, h2⟩ := hall i (by omega)
      obtain ⟨z, e1, _, hwf⟩ := DataW.trod_int he h2
      refine ⟨z, ?_, bounds_u8 hwf⟩
      rw [List.getElem?_map, List.getElem?_range hi', Option.map_some]
      exact congrArg some (List.cons.inj e1).1)
    have hlen : L.length = len := by
      have := congrArg List.length hL
      simpa using this.symm
    subst hlen
    refine ⟨some ad, L, cap, h0, hl, hm, ⟨bl_length L, fun h0 => ⟨ad, rfl, ?_, fun j u hj => ?_⟩⟩, Or.inr ⟨_, _, by rw [hx], by simp⟩⟩
    · have := (hall 0 (by omega)).1
      have hb := block_lt_of_cell this
      simpa [add_block] using hb
    · have hb : bl L = (List.range L.length).map V := by rw [hL]; unfold bl; rfl
      rw [hb] at hj
      obtain ⟨i, hi, rfl⟩ := List.mem_map.1 (List.mem_of_getElem? hj)
      have hj' : j < L.length := by
        have := (List.getElem?_eq_some_iff.1 hj).1
        simpa using this
      rw [List.getElem?_map, List.getElem?_range hj', Option.map_some] at hj
      rw [(hall j (by omega)).1]
      exact hj
/-- A SLICE OF BYTES, nil included. -/
theorem open_bslice {t e : TypeId} (ht : P.underlying t = some (.slice e)) (he : P.underlying e = some (.int .u8)) (hce : P.cellsOf e = 1) {w : World} {r : Reach} {b0 : Nat} {base : Nat} {spare : Nat → Bool} {held : Bool}
    {v : Value} {d : DataW H} {ps : List MemPlace} (hval : Value.okWide P w r b0 t v) (hd : DataW.Trod enc P w base spare held t v d ps) :
    ∃ (A : Option Addr) (L : List UInt8) (c : Nat), v = .slice A L.length c ∧ L.length ≤ c ∧ c ≤ maxLen ∧ Sl w w.heap.size A L.length (bl L) ∧ ((L = [] ∧ d = .nil) ∨ ∃ el sp, d = .slice el sp ∧ el.length = L.length) := by
  obtain ⟨a, len, cap, rfl⟩ := okWide_slice ht hval
  obtain ⟨fuel, hf⟩ := hd
  obtain ⟨A, L, c, h0, h1, h2, h3, h4⟩ := open_bslice_cells ht he hce hf
  simp only [Value.cells, List.cons.injEq, Value.slice.injEq, and_true] at h0
  obtain ⟨rfl, rfl, rfl⟩ := h0
  exact ⟨_, L, _, rfl, h1, h2, h3, h4⟩
end
end Go.Proofs.Ytcmbpniikcghfaa
