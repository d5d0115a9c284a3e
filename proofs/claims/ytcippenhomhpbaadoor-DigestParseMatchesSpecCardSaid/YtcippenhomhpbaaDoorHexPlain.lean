/-
  Plain arithmetic of hexadecimal texts: digits, the text of 32 bytes, and the bytes of 64 digits. Helper text: it proves nothing of the program by itself.
-/
import Derived.WalkKit
import Derived.Lib.Bytealg
namespace Go.Proofs.YtcippenhomhpbaaDoor
open Go.RowKit

/-- the digit of a number below 16 -/
def hexc (n : Nat) : UInt8 := if n < 10 then UInt8.ofNat (48 + n) else UInt8.ofNat (87 + n)
/-- the text of bytes -/
def hexOf : List UInt8 → List UInt8
  | [] => []
  | b :: l => hexc (b.toNat / 16) :: hexc (b.toNat % 16) :: hexOf l
/-- a byte is a digit -/
def isHex (c : UInt8) : Bool := (48 ≤ c.toNat && c.toNat ≤ 57) || (97 ≤ c.toNat && c.toNat ≤ 102)
/-- the number of a digit -/
def hexVal (c : UInt8) : Nat := if c.toNat ≤ 57 then c.toNat - 48 else c.toNat - 87
/-- the digits, in order -/
def hexAll : List UInt8 := [48, 49, 50, 51, 52, 53, 54, 55, 56, 57, 97, 98, 99, 100, 101, 102]

theorem hexOf_append (l m : List UInt8) : hexOf (l ++ m) = hexOf l ++ hexOf m := by
  induction l with
  | nil => rfl
  | cons b l ih => simp [hexOf, ih]
theorem hexOf_length (l : List UInt8) : (hexOf l).length = 2 * l.length := by
  induction l with
  | nil => rfl
  | cons b l ih => simp [hexOf, ih]; omega
theorem hexOf_snoc (D : List UInt8) (k : Nat) (h : k < D.length) : hexOf (D.take (k + 1)) = hexOf (D.take k) ++ [hexc ((D.getD k 0).toNat / 16), hexc ((D.getD k 0).toNat % 16)] := by
  rw [List.take_succ_eq_append_getElem h, hexOf_append]
  simp [hexOf, List.getD_eq_getElem?_getD, h]

theorem all_bytes (p : UInt8 → Bool) (h : (List.range 256).all (fun n => p (UInt8.ofNat n)) = true) (c : UInt8) : p c = true := by
  have h1 := List.all_eq_true.1 h c.toNat (List.mem_range.2 c.toNat_lt)
  simpa using h1
/-- where IndexByte finds a byte among the digits -/
theorem index_hex (c : UInt8) : Lib.indexByte hexAll c = if isHex c = true then (hexVal c : Int) else -1 := by
  have h := all_bytes (fun c => Lib.indexByte hexAll c == if isHex c = true then (hexVal c : Int) else -1) (by decide +kernel) c
  exact eq_of_beq h
theorem hexVal_lt (c : UInt8) (h : isHex c = true) : hexVal c < 16 := by
  have h1 := all_bytes (fun c => !isHex c || decide (hexVal c < 16)) (by decide +kernel) c
  simp only [h, Bool.not_true, Bool.false_or] at h1
  exact of_decide_eq_true h1
theorem hexc_val (c : UInt8) (h : isHex c = true) : hexc (hexVal c) = c := by
  have h1 := all_bytes (fun c => !isHex c || hexc (hexVal c) == c) (by decide +kernel) c
  simp only [h, Bool.not_true, Bool.false_or] at h1
  exact eq_of_beq h1
theorem nib_lt (p : Nat → Bool) (h : (List.range 16).all p = true) (n : Nat) (hn : n < 16) : p n = true := List.all_eq_true.1 h n (List.mem_range.2 hn)
theorem isHex_hexc (n : Nat) (h : n < 16) : isHex (hexc n) = true := nib_lt (fun n => isHex (hexc n)) (by decide +kernel) n h
theorem val_hexc (n : Nat) (h : n < 16) : hexVal (hexc n) = n := eq_of_beq (nib_lt (fun n => hexVal (hexc n) == n) (by decide +kernel) n h)
/-- 'd << 4 | digit' as a byte -/
theorem nibs_or (a b : Nat) (ha : a < 16) (hb : b < 16) : bits .or .u8 ((a : Int) * 16 % 256) (b : Int) = ((16 * a + b : Nat) : Int) := by
  have h := List.all_eq_true.1 (nib_lt (fun a => (List.range 16).all fun b => bits .or .u8 ((a : Int) * 16 % 256) (b : Int) == ((16 * a + b : Nat) : Int)) (by decide +kernel) a ha) b (List.mem_range.2 hb)
  exact eq_of_beq h

/-- what is known of the bytes after k digits -/
def digPart (L : List UInt8) (k : Nat) : List UInt8 := (List.range 32).map fun i =>
  if 2 * i + 1 < k then UInt8.ofNat (16 * hexVal (L.getD (2 * i) 0) + hexVal (L.getD (2 * i + 1) 0)) else if 2 * i < k then UInt8.ofNat (hexVal (L.getD (2 * i) 0)) else 0
/-- the bytes of 64 digits -/
def parsed (L : List UInt8) : List UInt8 := (List.range 32).map fun i => UInt8.ofNat (16 * hexVal (L.getD (2 * i) 0) + hexVal (L.getD (2 * i + 1) 0))
theorem digPart_zero (L : List UInt8) : digPart L 0 = List.replicate 32 0 := by
  rfl
theorem digPart_last (L : List UInt8) : digPart L 64 = parsed L := by
  unfold digPart parsed
  apply List.map_congr_left
  intro i hi
  have := List.mem_range.1 hi
  rw [if_pos (by omega)]
theorem digPart_length (L : List UInt8) (k : Nat) : (digPart L k).length = 32 := by simp [digPart]
theorem parsed_length (L : List UInt8) : (parsed L).length = 32 := by simp [parsed]
theorem digPart_even (L : List UInt8) (m : Nat) (h : m < 32) : (digPart L (2 * m)).getD m 0 = 0 := by
  simp [digPart, h]
  omega
theorem digPart_odd (L : List UInt8) (m : Nat) (h : m < 32) : (digPart L (2 * m + 1)).getD m 0 = UInt8.ofNat (hexVal (L.getD (2 * m) 0)) := by
  simp [digPart, h]
theorem ite_alike {α : Type} {p q : Prop} [Decidable p] [Decidable q] (h : p ↔ q) {a b : α} : (if p then a else b) = if q then a else b := by
  by_cases hp : p
  · rw [if_pos hp, if_pos (h.1 hp)]
  · rw [if_neg hp, if_neg (fun hq => hp (h.2 hq))]
theorem digPart_next0 (L : List UInt8) (m : Nat) : (digPart L (2 * m)).set m (UInt8.ofNat (hexVal (L.getD (2 * m) 0))) = digPart L (2 * m + 1) := by
  apply List.ext_getElem
  · simp [digPart]
  · intro i h1 h2
    simp only [digPart, List.getElem_set, List.getElem_map, List.getElem_range]
    by_cases e : m = i
    · subst e
      rw [if_pos rfl, if_neg (by omega), if_pos (by omega)]
    · rw [if_neg e, ite_alike (show (2 * i + 1 < 2 * m) ↔ (2 * i + 1 < 2 * m + 1) by omega), ite_alike (show (2 * i < 2 * m) ↔ (2 * i < 2 * m + 1) by omega)]
theorem digPart_next1 (L : List UInt8) (m : Nat) : (digPart L (2 * m + 1)).set m (UInt8.ofNat (16 * hexVal (L.getD (2 * m) 0) + hexVal (L.getD (2 * m + 1) 0))) = digPart L (2 * m + 1 + 1) := by
  apply List.ext_getElem
  · simp [digPart]
  · intro i h1 h2
    simp only [digPart, List.getElem_set, List.getElem_map, List.getElem_range]
    by_cases e : m = i
    · subst e
      rw [if_pos rfl, if_pos (by omega)]
    · rw [if_neg e, ite_alike (show (2 * i + 1 < 2 * m + 1) ↔ (2 * i + 1 < 2 * m + 1 + 1) by omega), ite_alike (show (2 * i < 2 * m + 1) ↔ (2 * i < 2 * m + 1 + 1) by omega)]

/-- the digit at a place of a text -/
theorem hexOf_get (D : List UInt8) (i : Nat) (h : i < D.length) : (hexOf D).getD (2 * i) 0 = hexc ((D.getD i 0).toNat / 16) ∧ (hexOf D).getD (2 * i + 1) 0 = hexc ((D.getD i 0).toNat % 16) := by
  induction D generalizing i with
  | nil => simp at h
  | cons b l ih =>
    cases i with
    | zero => simp [hexOf]
    | succ i =>
      have := ih i (by simpa using h)
      rw [show 2 * (i + 1) = 2 * i + 1 + 1 by omega]
      simpa [hexOf] using this
theorem hexOf_good (D : List UInt8) (k : Nat) (h : k < 2 * D.length) : isHex ((hexOf D).getD k 0) = true := by
  have h1 := hexOf_get D (k / 2) (by omega)
  have hb := (D.getD (k / 2) 0).toNat_lt
  rcases Nat.mod_two_eq_zero_or_one k with e | e
  · rw [show k = 2 * (k / 2) by omega, h1.1]
    exact isHex_hexc _ (by omega)
  · rw [show k = 2 * (k / 2) + 1 by omega, h1.2]
    exact isHex_hexc _ (by omega)
/-- the bytes of a text are the bytes -/
theorem parsed_hexOf (D : List UInt8) (h : D.length = 32) : parsed (hexOf D) = D := by
  apply List.ext_getElem
  · rw [parsed_length, h]
  · intro i h1 h2
    have hi := hexOf_get D i h2
    have hb := (D.getD i 0).toNat_lt
    simp only [parsed, List.getElem_map, List.getElem_range, hi.1, hi.2]
    rw [val_hexc _ (by omega), val_hexc _ (by omega), show 16 * ((D.getD i 0).toNat / 16) + (D.getD i 0).toNat % 16 = (D.getD i 0).toNat by omega]
    simp [List.getD_eq_getElem?_getD, h2]
/-- the text of the bytes of digits are the digits -/
theorem hexOf_parsed (L : List UInt8) (h : L.length = 64) (hg : ∀ k, k < 64 → isHex (L.getD k 0) = true) : hexOf (parsed L) = L := by
  have hl := hexOf_length (parsed L)
  rw [parsed_length] at hl
  apply List.ext_getElem
  · rw [hl, h]
  · intro k h1 h2
    have hp := hexOf_get (parsed L) (k / 2) (by rw [parsed_length]; omega)
    have e : (parsed L).getD (k / 2) 0 = UInt8.ofNat (16 * hexVal (L.getD (2 * (k / 2)) 0) + hexVal (L.getD (2 * (k / 2) + 1) 0)) := by
      have : k / 2 < 32 := by omega
      simp [parsed, this]
    have v0 := hexVal_lt _ (hg (2 * (k / 2)) (by omega))
    have v1 := hexVal_lt _ (hg (2 * (k / 2) + 1) (by omega))
    have ev : ((parsed L).getD (k / 2) 0).toNat = 16 * hexVal (L.getD (2 * (k / 2)) 0) + hexVal (L.getD (2 * (k / 2) + 1) 0) := by
      rw [e, UInt8.toNat_ofNat']
      omega
    rw [ev] at hp
    have g1 : (hexOf (parsed L)).getD k 0 = (hexOf (parsed L))[k] := by simp [List.getD_eq_getElem?_getD, h1]
    have g2 : L.getD k 0 = L[k] := by simp [List.getD_eq_getElem?_getD, h2]
    rw [← g1, ← g2]
    rcases Nat.mod_two_eq_zero_or_one k with e2 | e2
    · have e3 : 2 * (k / 2) = k := by omega
      rw [e3] at hp v0 v1
      rw [hp.1, show (16 * hexVal (L.getD k 0) + hexVal (L.getD (k + 1) 0)) / 16 = hexVal (L.getD k 0) by omega, hexc_val _ (hg k (by omega))]
    · have e3 : 2 * (k / 2) + 1 = k := by omega
      rw [e3] at hp v1
      rw [hp.2, show (16 * hexVal (L.getD (2 * (k / 2)) 0) + hexVal (L.getD k 0)) % 16 = hexVal (L.getD k 0) by omega, hexc_val _ (hg k (by omega))]
end Go.Proofs.YtcippenhomhpbaaDoor
