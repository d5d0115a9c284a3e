/-
  The contracts of the reference's small functions over words: turn, word, roundConstants, FirstState.
-/
import Derived.Test.YtcippenhomhpbaaDoorDrawn
import Derived.Deep.QuietTactic
import Derived.BigQuiet
import Derived.IntWalk
namespace Go.Proofs.YtcippenhomhpbaaDoor
open Go.RowKit

attribute [local go_sem] W_or W_and W_xor W_add W_addw W_shl8 W_shl16 W_shl24 W_shr3 W_shr10 W_not W_flip W_or_byte W_low

/-- the reference's rotation -/
theorem turn_any (x : BitVec 32) (n : Nat) (h0 : 0 < n) (hn : n < 32) (w : World) :
    Calls Tryd.prog 35 #[.int .u32 (W x), .int .i64 n] w fun e w' => e = .returned (.int .u32 (W (rotr x n))) ∧ ∃ m, w' = w.drewN m := by
  have hx := W_nonneg x
  have hx' := W_lt x
  have h32 : (32 : Int) - (n : Int) = ((32 - n : Nat) : Int) := by omega
  have hm1 : 32 - n < 32 := by omega
  go_enter Tryd.func35, Tryd.ntmps35
  go_wp2
  go_quiet (fail)
  go_wp2
  go_ret
  refine ⟨ret_int ?_, nq, rfl⟩
  rw [W_shl, W_shr, W_or, rotr_eq]
theorem turn_lit (x : BitVec 32) (n : Nat) (m : Int) (hm : m = (n : Int)) (h0 : 0 < n) (hn : n < 32) (w : World) :
    Calls Tryd.prog 35 #[.int .u32 (W x), .int .i64 m] w fun e w' => e = .returned (.int .u32 (W (rotr x n))) ∧ ∃ m, w' = w.drewN m := by
  subst hm
  exact turn_any x n h0 hn w

/-- four bytes as a word -/
def wordAt (L : List UInt8) (i : Nat) : BitVec 32 := wide (L.getD i 0) <<< 24 ||| wide (L.getD (i + 1) 0) <<< 16 ||| wide (L.getD (i + 2) 0) <<< 8 ||| wide (L.getD (i + 3) 0)
theorem wordAt_eq (L : List UInt8) (i : Nat) : wordAt L i = wide (L.getD i 0) <<< 24 ||| wide (L.getD (i + 1) 0) <<< 16 ||| wide (L.getD (i + 2) 0) <<< 8 ||| wide (L.getD (i + 3) 0) := rfl
attribute [irreducible] wordAt
theorem byte_cell {w : World} {B : Nat} {A : Option Addr} {L : List UInt8} {n : Nat} (h : Sl w B A n (bl L)) {ad : Addr} (hA : A = some ad) {i : Nat} (hi : i < n) : w.cell? (ad.add i) = some (.int .u8 ((L.getD i 0).toNat : Int)) := by
  obtain ⟨ad', u, h1, _, h2, h3⟩ := h.at_ hi
  rw [hA] at h1
  injection h1 with h1
  subst h1
  rw [h3, ← h2]
  have hn : L.length = n := by rw [← bl_length]; exact h.1
  unfold bl
  rw [List.getElem?_map, List.getElem?_eq_getElem (by omega), Option.map_some, List.getD_eq_getElem?_getD, List.getElem?_eq_getElem (by omega), Option.getD_some]
theorem byte_cell' {w : World} {B : Nat} {ad : Addr} {L : List UInt8} {n : Nat} (h : Sl w B (some ad) n (bl L)) {i : Nat} (hi : i + 1 < n) : w.cell? ⟨ad.block, ad.off + (i + 1), none⟩ = some (.int .u8 ((L.getD (i + 1) 0).toNat : Int)) := byte_cell h rfl hi
theorem wrap_byte (b : UInt8) : IntKind.u32.wrap (b.toNat : Int) = W (wide b) := by
  rw [IntKind.wrap_u32', ← W_wide]
  have := b.toNat_lt
  omega
theorem wrap_shl24 (x : BitVec 32) : IntKind.u32.wrap (W x * 16777216) = W (x <<< 24) := by rw [IntKind.wrap_u32', ← W_shl24]
theorem wrap_shl16 (x : BitVec 32) : IntKind.u32.wrap (W x * 65536) = W (x <<< 16) := by rw [IntKind.wrap_u32', ← W_shl16]
theorem wrap_shl8 (x : BitVec 32) : IntKind.u32.wrap (W x * 256) = W (x <<< 8) := by rw [IntKind.wrap_u32', ← W_shl8]
attribute [local go_sem] wrap_byte wrap_shl24 wrap_shl16 wrap_shl8
theorem byte_mod' (b : UInt8) : (b.toNat : Int) % (4294967296 : Int) = b.toNat := by have := b.toNat_lt; omega
attribute [local go_sem] byte_mod'

set_option maxRecDepth 100000 in
set_option maxHeartbeats 4000000 in
theorem word_any (A : Option Addr) (L : List UInt8) (n c : Nat) (i : Nat) (w : World) (hL : Sl w w.heap.size A n (bl L)) (hi : i + 4 ≤ n) (hn : n ≤ 1152921504606846975) :
    Calls Tryd.prog 34 #[.slice A n c, .int .i64 i] w fun e w' => e = .returned (.int .u32 (W (wordAt L i))) ∧ ∃ m, w' = w.drewN m := by
  obtain ⟨ad, hA⟩ : ∃ ad, A = some ad := by
    obtain ⟨ad, u, h1, _⟩ := hL.at_ (k := i) (by omega)
    exact ⟨ad, h1⟩
  subst hA
  have c0 := byte_cell hL rfl (i := i) (by omega)
  have c1 := byte_cell' hL (i := i) (by omega)
  have c2 := byte_cell' hL (i := i + 1) (by omega)
  have c3 := byte_cell' hL (i := i + 2) (by omega)
  simp only [Nat.add_assoc, Nat.reduceAdd] at c1 c2 c3
  obtain ⟨b0, h0⟩ : ∃ b, b = L.getD i 0 := ⟨_, rfl⟩
  obtain ⟨b1, h1⟩ : ∃ b, b = L.getD (i + 1) 0 := ⟨_, rfl⟩
  obtain ⟨b2, h2⟩ : ∃ b, b = L.getD (i + 2) 0 := ⟨_, rfl⟩
  obtain ⟨b3, h3⟩ : ∃ b, b = L.getD (i + 3) 0 := ⟨_, rfl⟩
  rw [← h0] at c0
  rw [← h1] at c1
  rw [← h2] at c2
  rw [← h3] at c3
  have H0 := Lib.hid h0
  have H1 := Lib.hid h1
  have H2 := Lib.hid h2
  have H3 := Lib.hid h3
  clear h0 h1 h2 h3
  have i0 : (i : Int) < (n : Int) := by omega
  have i1 : (i : Int) + 1 < (n : Int) := by omega
  have i2 : (i : Int) + 2 < (n : Int) := by omega
  have i3 : (i : Int) + 3 < (n : Int) := by omega
  have z1 : 0 ≤ (i : Int) + 1 := by omega
  have z2 : 0 ≤ (i : Int) + 2 := by omega
  have z3 : 0 ≤ (i : Int) + 3 := by omega
  have t1 : ((i : Int) + 1).toNat = i + 1 := by omega
  have t2 : ((i : Int) + 2).toNat = i + 2 := by omega
  have t3 : ((i : Int) + 3).toNat = i + 3 := by omega
  have v1 : IntKind.i64.wrap ((i : Int) + 1) = (i : Int) + 1 := IntWalk.i64_in _ (by omega)
  have v2 : IntKind.i64.wrap ((i : Int) + 2) = (i : Int) + 2 := IntWalk.i64_in _ (by omega)
  have v3 : IntKind.i64.wrap ((i : Int) + 3) = (i : Int) + 3 := IntWalk.i64_in _ (by omega)
  go_enter Tryd.func34, Tryd.ntmps34
  go_wp2
  go_quiet (fail)
  go_wp2
  go_ret
  refine ⟨?_, nq, rfl⟩
  rw [wordAt_eq, ← H0.out, ← H1.out, ← H2.out, ← H3.out]
  rfl

/-- the constants as words -/
def kcl : List (BitVec 32) := (List.range 64).map kc
theorem kcl_length : kcl.length = 64 := by simp [kcl]
theorem kcl_get (k : Nat) (h : k < 64) : kcl.getD k 0 = kc k := by simp [kcl, h]
theorem kcl_lit : (#[.int .u32 1116352408, .int .u32 1899447441, .int .u32 3049323471, .int .u32 3921009573, .int .u32 961987163, .int .u32 1508970993, .int .u32 2453635748, .int .u32 2870763221, .int .u32 3624381080, .int .u32 310598401, .int .u32 607225278, .int .u32 1426881987, .int .u32 1925078388, .int .u32 2162078206, .int .u32 2614888103, .int .u32 3248222580, .int .u32 3835390401, .int .u32 4022224774, .int .u32 264347078, .int .u32 604807628, .int .u32 770255983, .int .u32 1249150122, .int .u32 1555081692, .int .u32 1996064986, .int .u32 2554220882, .int .u32 2821834349, .int .u32 2952996808, .int .u32 3210313671, .int .u32 3336571891, .int .u32 3584528711, .int .u32 113926993, .int .u32 338241895, .int .u32 666307205, .int .u32 773529912, .int .u32 1294757372, .int .u32 1396182291, .int .u32 1695183700, .int .u32 1986661051, .int .u32 2177026350, .int .u32 2456956037, .int .u32 2730485921, .int .u32 2820302411, .int .u32 3259730800, .int .u32 3345764771, .int .u32 3516065817, .int .u32 3600352804, .int .u32 4094571909, .int .u32 275423344, .int .u32 430227734, .int .u32 506948616, .int .u32 659060556, .int .u32 883997877, .int .u32 958139571, .int .u32 1322822218, .int .u32 1537002063, .int .u32 1747873779, .int .u32 1955562222, .int .u32 2024104815, .int .u32 2227730452, .int .u32 2361852424, .int .u32 2428436474, .int .u32 2756734187, .int .u32 3204031479, .int .u32 3329325298] : Array Value) = ws kcl := by kernel_rfl
theorem first_lit : (#[.int .u32 1779033703, .int .u32 3144134277, .int .u32 1013904242, .int .u32 2773480762, .int .u32 1359893119, .int .u32 2600822924, .int .u32 528734635, .int .u32 1541459225] : Array Value) = stc first := by kernel_rfl
theorem z64_lit : (#[.int .u32 0, .int .u32 0, .int .u32 0, .int .u32 0, .int .u32 0, .int .u32 0, .int .u32 0, .int .u32 0, .int .u32 0, .int .u32 0, .int .u32 0, .int .u32 0, .int .u32 0, .int .u32 0, .int .u32 0, .int .u32 0, .int .u32 0, .int .u32 0, .int .u32 0, .int .u32 0, .int .u32 0, .int .u32 0, .int .u32 0, .int .u32 0, .int .u32 0, .int .u32 0, .int .u32 0, .int .u32 0, .int .u32 0, .int .u32 0, .int .u32 0, .int .u32 0, .int .u32 0, .int .u32 0, .int .u32 0, .int .u32 0, .int .u32 0, .int .u32 0, .int .u32 0, .int .u32 0, .int .u32 0, .int .u32 0, .int .u32 0, .int .u32 0, .int .u32 0, .int .u32 0, .int .u32 0, .int .u32 0, .int .u32 0, .int .u32 0, .int .u32 0, .int .u32 0, .int .u32 0, .int .u32 0, .int .u32 0, .int .u32 0, .int .u32 0, .int .u32 0, .int .u32 0, .int .u32 0, .int .u32 0, .int .u32 0, .int .u32 0, .int .u32 0] : Array Value) = ws (List.replicate 64 0) := by kernel_rfl
theorem z8_lit : (#[.int .u32 0, .int .u32 0, .int .u32 0, .int .u32 0, .int .u32 0, .int .u32 0, .int .u32 0, .int .u32 0] : Array Value) = stc ⟨0, 0, 0, 0, 0, 0, 0, 0⟩ := by kernel_rfl
attribute [irreducible] kcl
set_option maxRecDepth 100000 in
set_option maxHeartbeats 4000000 in
theorem refK_any (w : World) :
    Calls Tryd.prog 36 #[] w fun e w' => e = .returned (.agg (ws kcl)) ∧ Below w.heap.size w w' := by
  go_enter Tryd.func36, Tryd.ntmps36
  go_wp2_with (first
    | (refine wpList_store_row rfl 60 _ _ rfl w.heap.size (ws kcl) rfl (congrArg Value.agg kcl_lit) 60 (ws (List.replicate 64 0)) (Row.newEq _ _ _ _ _ rfl z64_lit) (by rw [ws_size, kcl_length]; exact cellsW) (by rw [ws_size, ws_size, kcl_length]; rfl) (all_one (ws_one _)) ?_))
  refine bodyPost_ret (results_row Tryd.results36 _ _ w.heap.size 60 (ws kcl) _ rfl (Row.row (Row.newEq _ _ _ _ _ rfl z64_lit) _) Tryd.underlying60 rfl (by rw [ws_size, kcl_length]; exact cellsW)) rfl ⟨rfl, ?_⟩
  exact blw_row ((Below.refl _ _).alloc (Nat.le_refl _) _) (Nat.le_refl _) _
theorem firstState_any (w : World) :
    Calls Tryd.prog 17 #[] w fun e w' => e = .returned (.agg (stc first)) ∧ Below w.heap.size w w' := by
  go_enter Tryd.func17, Tryd.ntmps17
  go_wp2_with (first
    | (refine wpList_store_row rfl 28 _ _ rfl w.heap.size (stc first) rfl (congrArg Value.agg first_lit) 28 (stc ⟨0, 0, 0, 0, 0, 0, 0, 0⟩) (Row.newEq _ _ _ _ _ rfl z8_lit) cells8 rfl (all_one (stc_one _)) ?_))
  refine bodyPost_ret (results_row Tryd.results17 _ _ w.heap.size 28 (stc first) _ rfl (Row.row (Row.newEq _ _ _ _ _ rfl z8_lit) _) Tryd.underlying28 rfl cells8) rfl ⟨rfl, ?_⟩
  exact blw_row ((Below.refl _ _).alloc (Nat.le_refl _) _) (Nat.le_refl _) _
end Go.Proofs.YtcippenhomhpbaaDoor
