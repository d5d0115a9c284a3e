/-
  32-bit words and bytes as the walk meets them: 'W x' is the number of the word x. Helper text of plain arithmetic: it proves nothing of the program by itself.
-/
import Derived.WalkKit
namespace Go.Proofs.Ytcnokjiohbifeaa
open Go.RowKit

/-- the number of a word -/
def W (x : BitVec 32) : Int := (x.toNat : Int)
theorem W_nonneg (x : BitVec 32) : 0 ≤ W x := by unfold W; omega
theorem W_lt (x : BitVec 32) : W x < 4294967296 := by unfold W; have := x.isLt; omega
theorem W_inj {x y : BitVec 32} : W x = W y ↔ x = y := by
  unfold W
  constructor
  · intro h
    exact BitVec.eq_of_toNat_eq (by omega)
  · rintro rfl
    rfl
theorem W_wf (x : BitVec 32) : (Lit.int .u32 (W x)).wf = true := WalkArith.wf_u32 ⟨W_nonneg x, by have := W_lt x; omega⟩

theorem W_or (x y : BitVec 32) : bits .or .u32 (W x) (W y) = W (x ||| y) := by
  unfold W; rw [u32_or_nat _ _ x.isLt y.isLt, BitVec.toNat_or]
theorem W_and (x y : BitVec 32) : bits .and .u32 (W x) (W y) = W (x &&& y) := by
  unfold W; rw [u32_and_nat _ _ x.isLt y.isLt, BitVec.toNat_and]
theorem W_xor (x y : BitVec 32) : bits .xor .u32 (W x) (W y) = W (x ^^^ y) := by
  unfold W; rw [u32_xor_nat _ _ x.isLt y.isLt, BitVec.toNat_xor]
theorem W_add (x y : BitVec 32) : (W x + W y) % (4294967296 : Int) = W (x + y) := by
  unfold W; rw [BitVec.toNat_add]; omega
theorem W_addw (x y : BitVec 32) : IntKind.u32.wrap (W x + W y) = W (x + y) := by
  rw [IntKind.wrap_u32', W_add]
theorem W_shl (x : BitVec 32) (n : Nat) : (W x * 2 ^ n) % (4294967296 : Int) = W (x <<< n) := by
  unfold W; rw [BitVec.toNat_shiftLeft, Nat.shiftLeft_eq]; simp
theorem W_shr (x : BitVec 32) (n : Nat) : W x / 2 ^ n = W (x >>> n) := by
  unfold W; rw [BitVec.toNat_ushiftRight, Nat.shiftRight_eq_div_pow]; simp
theorem W_shl8 (x : BitVec 32) : (W x * (256 : Int)) % (4294967296 : Int) = W (x <<< 8) := W_shl x 8
theorem W_shl16 (x : BitVec 32) : (W x * (65536 : Int)) % (4294967296 : Int) = W (x <<< 16) := W_shl x 16
theorem W_shl24 (x : BitVec 32) : (W x * (16777216 : Int)) % (4294967296 : Int) = W (x <<< 24) := W_shl x 24
theorem W_shr3 (x : BitVec 32) : W x / (8 : Int) = W (x >>> 3) := W_shr x 3
theorem W_shr10 (x : BitVec 32) : W x / (1024 : Int) = W (x >>> 10) := W_shr x 10
theorem W_not (x : BitVec 32) : bits .xor .u32 (W x) (-1) = W (~~~x) := by
  show IntKind.u32.wrap ((BitVec.ofInt 32 (W x) ^^^ BitVec.ofInt 32 (-1)).toNat : Int) = _
  have e : BitVec.ofInt 32 (W x) = x := by
    unfold W
    rw [BitVec.ofInt_natCast, BitVec.ofNat_toNat]
    simp
  rw [e, IntKind.wrap_u32']
  have h2 : x ^^^ BitVec.ofInt 32 (-1) = ~~~x := by
    have h3 : BitVec.ofInt 32 (-1) = BitVec.allOnes 32 := by decide
    rw [h3, BitVec.xor_allOnes]
  rw [h2]
  unfold W
  have := (~~~x).isLt
  omega

theorem W_flip (x : BitVec 32) : bits .xor .u32 (if IntKind.u32.signed = true then -1 else IntKind.u32.max) (W x) = W (~~~x) := by
  have e : (if IntKind.u32.signed = true then -1 else IntKind.u32.max) = W (BitVec.allOnes 32) := by decide +kernel
  rw [e, W_xor, BitVec.allOnes_xor]

/-- a byte as a word -/
def wide (b : UInt8) : BitVec 32 := BitVec.ofNat 32 b.toNat
theorem W_wide (b : UInt8) : (b.toNat : Int) = W (wide b) := by
  unfold W wide
  rw [BitVec.toNat_ofNat]
  have := b.toNat_lt
  omega
theorem W_or_byte (x : BitVec 32) (b : UInt8) : bits .or .u32 (W x) (b.toNat : Int) = W (x ||| wide b) := by
  rw [W_wide, W_or]
/-- the lowest byte of a word -/
def low (x : BitVec 32) : UInt8 := UInt8.ofNat x.toNat
theorem W_low (x : BitVec 32) : W x % (256 : Int) = ((low x).toNat : Int) := by
  unfold W low
  simp

/-- the word x rotated to the right -/
def rotr (x : BitVec 32) (n : Nat) : BitVec 32 := x >>> n ||| x <<< (32 - n)
theorem rotr_eq (x : BitVec 32) (n : Nat) : rotr x n = x >>> n ||| x <<< (32 - n) := rfl
attribute [irreducible] rotr W low wide

/-- arrays of words and of bytes, as cells -/
def ws (l : List (BitVec 32)) : Array Value := (l.map fun x => Value.int .u32 (W x)).toArray
def bs (l : List UInt8) : Array Value := (l.map fun b => Value.int .u8 (b.toNat : Int)).toArray
theorem ws_size (l : List (BitVec 32)) : (ws l).size = l.length := by simp [ws]
theorem bs_size (l : List UInt8) : (bs l).size = l.length := by simp [bs]
theorem ws_get (l : List (BitVec 32)) (i : Nat) (h : i < l.length) : (ws l)[i]? = some (.int .u32 (W (l.getD i 0))) := by simp [ws, h]
theorem bs_get (l : List UInt8) (i : Nat) (h : i < l.length) : (bs l)[i]? = some (.int .u8 ((l.getD i 0).toNat : Int)) := by simp [bs, h]
theorem ws_one (l : List (BitVec 32)) : ∀ v ∈ ws l, v.oneCell' = true := by
  intro v hv
  obtain ⟨x, _, rfl⟩ : ∃ x, x ∈ l ∧ Value.int .u32 (W x) = v := by simpa [ws] using hv
  rfl
theorem bs_one (l : List UInt8) : ∀ v ∈ bs l, v.oneCell' = true := by
  intro v hv
  obtain ⟨x, _, rfl⟩ : ∃ x, x ∈ l ∧ Value.int .u8 (x.toNat : Int) = v := by simpa [bs] using hv
  rfl
theorem ws_set (l : List (BitVec 32)) (i : Nat) (x : BitVec 32) : (ws l).setIfInBounds i (.int .u32 (W x)) = ws (l.set i x) := by
  simp [ws, List.map_set]
theorem bs_set (l : List UInt8) (i : Nat) (b : UInt8) : (bs l).setIfInBounds i (.int .u8 (b.toNat : Int)) = bs (l.set i b) := by
  simp [bs, List.map_set]
end Go.Proofs.Ytcnokjiohbifeaa
