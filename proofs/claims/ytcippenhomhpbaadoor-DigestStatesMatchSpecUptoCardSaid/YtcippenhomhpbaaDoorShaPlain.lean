/-
  The digest function as plain mathematics over words and bytes, step for step as the document describes it. Helper text: it proves nothing of the program by itself.
-/
import Derived.Test.YtcippenhomhpbaaDoorWord
namespace Go.Proofs.YtcippenhomhpbaaDoor

/-- the eight words of a state -/
structure St where
  a : BitVec 32
  b : BitVec 32
  c : BitVec 32
  d : BitVec 32
  e : BitVec 32
  f : BitVec 32
  g : BitVec 32
  h : BitVec 32

def kn : List Nat := [
  0x428a2f98, 0x71374491, 0xb5c0fbcf, 0xe9b5dba5, 0x3956c25b, 0x59f111f1, 0x923f82a4, 0xab1c5ed5,
  0xd807aa98, 0x12835b01, 0x243185be, 0x550c7dc3, 0x72be5d74, 0x80deb1fe, 0x9bdc06a7, 0xc19bf174,
  0xe49b69c1, 0xefbe4786, 0x0fc19dc6, 0x240ca1cc, 0x2de92c6f, 0x4a7484aa, 0x5cb0a9dc, 0x76f988da,
  0x983e5152, 0xa831c66d, 0xb00327c8, 0xbf597fc7, 0xc6e00bf3, 0xd5a79147, 0x06ca6351, 0x14292967,
  0x27b70a85, 0x2e1b2138, 0x4d2c6dfc, 0x53380d13, 0x650a7354, 0x766a0abb, 0x81c2c92e, 0x92722c85,
  0xa2bfe8a1, 0xa81a664b, 0xc24b8b70, 0xc76c51a3, 0xd192e819, 0xd6990624, 0xf40e3585, 0x106aa070,
  0x19a4c116, 0x1e376c08, 0x2748774c, 0x34b0bcb5, 0x391c0cb3, 0x4ed8aa4a, 0x5b9cca4f, 0x682e6ff3,
  0x748f82ee, 0x78a5636f, 0x84c87814, 0x8cc70208, 0x90befffa, 0xa4506ceb, 0xbef9a3f7, 0xc67178f2]
/-- the constants of the rounds -/
def kc (i : Nat) : BitVec 32 := BitVec.ofNat 32 (kn.getD i 0)
def first : St := ⟨0x6a09e667#32, 0xbb67ae85#32, 0x3c6ef372#32, 0xa54ff53a#32, 0x510e527f#32, 0x9b05688c#32, 0x1f83d9ab#32, 0x5be0cd19#32⟩

def sig0 (x : BitVec 32) : BitVec 32 := rotr x 7 ^^^ rotr x 18 ^^^ x >>> 3
def sig1 (x : BitVec 32) : BitVec 32 := rotr x 17 ^^^ rotr x 19 ^^^ x >>> 10
def bigE (e : BitVec 32) : BitVec 32 := rotr e 6 ^^^ rotr e 11 ^^^ rotr e 25
def bigA (a : BitVec 32) : BitVec 32 := rotr a 2 ^^^ rotr a 13 ^^^ rotr a 22
def pick (e f g : BitVec 32) : BitVec 32 := e &&& f ^^^ ~~~e &&& g
def most (a b c : BitVec 32) : BitVec 32 := a &&& b ^^^ a &&& c ^^^ b &&& c
def t1 (s : St) (k w : BitVec 32) : BitVec 32 := s.h + bigE s.e + pick s.e s.f s.g + k + w
def t2 (s : St) : BitVec 32 := bigA s.a + most s.a s.b s.c
def step (s : St) (k w : BitVec 32) : St := ⟨t1 s k w + t2 s, s.a, s.b, s.c, s.d + t1 s k w, s.e, s.f, s.g⟩
def rounds (l : List (BitVec 32)) (s : St) : Nat → St
  | 0 => s
  | n + 1 => step (rounds l s n) (kc n) (l.getD n 0)

/-- the bytes of a block as words, byte by byte -/
def ex1 (B : List UInt8) : Nat → List (BitVec 32)
  | 0 => List.replicate 64 0
  | k + 1 => (ex1 B k).set (k / 4) ((ex1 B k).getD (k / 4) 0 <<< 8 ||| wide (B.getD k 0))
theorem ex1_length (B : List UInt8) (k : Nat) : (ex1 B k).length = 64 := by
  induction k with
  | zero => simp [ex1]
  | succ k ih => simp [ex1, ih]
/-- the words from 16 on -/
def ex2 (l : List (BitVec 32)) : Nat → List (BitVec 32)
  | 0 => l
  | k + 1 => (ex2 l k).set (k + 16) ((ex2 l k).getD k 0 + sig0 ((ex2 l k).getD (k + 1) 0) + (ex2 l k).getD (k + 9) 0 + sig1 ((ex2 l k).getD (k + 14) 0))
theorem ex2_length (l : List (BitVec 32)) (k : Nat) : (ex2 l k).length = l.length := by
  induction k with
  | zero => simp [ex2]
  | succ k ih => simp [ex2, ih]
theorem ex1_zero (B : List UInt8) : ex1 B 0 = List.replicate 64 0 := rfl
theorem ex1_succ (B : List UInt8) (k : Nat) : ex1 B (k + 1) = (ex1 B k).set (k / 4) ((ex1 B k).getD (k / 4) 0 <<< 8 ||| wide (B.getD k 0)) := rfl
theorem ex2_zero (l : List (BitVec 32)) : ex2 l 0 = l := rfl
theorem ex2_succ (l : List (BitVec 32)) (k : Nat) : ex2 l (k + 1) = (ex2 l k).set (k + 16) ((ex2 l k).getD k 0 + sig0 ((ex2 l k).getD (k + 1) 0) + (ex2 l k).getD (k + 9) 0 + sig1 ((ex2 l k).getD (k + 14) 0)) := rfl
theorem rounds_zero (l : List (BitVec 32)) (s : St) : rounds l s 0 = s := rfl
theorem rounds_next (l : List (BitVec 32)) (s : St) (n : Nat) : rounds l s (n + 1) = step (rounds l s n) (kc n) (l.getD n 0) := rfl
def schedule (B : List UInt8) : List (BitVec 32) := ex2 (ex1 B 64) 48
theorem schedule_length (B : List UInt8) : (schedule B).length = 64 := by
  unfold schedule
  rw [ex2_length, ex1_length]
def addSt (s x : St) : St := ⟨s.a + x.a, s.b + x.b, s.c + x.c, s.d + x.d, s.e + x.e, s.f + x.f, s.g + x.g, s.h + x.h⟩
/-- a state after a block -/
def mixed (s : St) (B : List UInt8) : St := addSt s (rounds (schedule B) s 64)

theorem sig0_eq (x : BitVec 32) : sig0 x = rotr x 7 ^^^ rotr x 18 ^^^ x >>> 3 := rfl
theorem sig1_eq (x : BitVec 32) : sig1 x = rotr x 17 ^^^ rotr x 19 ^^^ x >>> 10 := rfl
theorem bigE_eq (e : BitVec 32) : bigE e = rotr e 6 ^^^ rotr e 11 ^^^ rotr e 25 := rfl
theorem bigA_eq (a : BitVec 32) : bigA a = rotr a 2 ^^^ rotr a 13 ^^^ rotr a 22 := rfl
theorem pick_eq (e f g : BitVec 32) : pick e f g = e &&& f ^^^ ~~~e &&& g := rfl
theorem most_eq (a b c : BitVec 32) : most a b c = a &&& b ^^^ a &&& c ^^^ b &&& c := rfl
theorem t1_eq (s : St) (k w : BitVec 32) : t1 s k w = s.h + bigE s.e + pick s.e s.f s.g + k + w := rfl
theorem t2_eq (s : St) : t2 s = bigA s.a + most s.a s.b s.c := rfl
theorem step_a (s : St) (k w : BitVec 32) : (step s k w).a = s.h + (rotr s.e 6 ^^^ rotr s.e 11 ^^^ rotr s.e 25) + (s.e &&& s.f ^^^ ~~~s.e &&& s.g) + k + w + ((rotr s.a 2 ^^^ rotr s.a 13 ^^^ rotr s.a 22) + (s.a &&& s.b ^^^ s.a &&& s.c ^^^ s.b &&& s.c)) := rfl
theorem step_e (s : St) (k w : BitVec 32) : (step s k w).e = s.d + (s.h + (rotr s.e 6 ^^^ rotr s.e 11 ^^^ rotr s.e 25) + (s.e &&& s.f ^^^ ~~~s.e &&& s.g) + k + w) := rfl
theorem mixed_eq (s : St) (B : List UInt8) : mixed s B = addSt s (rounds (schedule B) s 64) := rfl
theorem schedule_eq (B : List UInt8) : schedule B = ex2 (ex1 B 64) 48 := rfl
attribute [irreducible] ex1 ex2 rounds schedule mixed kc kn sig0 sig1 bigA bigE pick most t1 t2

/-- a state as cells -/
def stc (s : St) : Array Value := #[.int .u32 (W s.a), .int .u32 (W s.b), .int .u32 (W s.c), .int .u32 (W s.d), .int .u32 (W s.e), .int .u32 (W s.f), .int .u32 (W s.g), .int .u32 (W s.h)]
theorem stc_one (s : St) : ∀ v ∈ stc s, v.oneCell' = true := by
  intro v hv
  simp only [stc, List.mem_toArray, List.mem_cons, List.not_mem_nil, or_false] at hv
  rcases hv with rfl | rfl | rfl | rfl | rfl | rfl | rfl | rfl <;> rfl
def St.get (s : St) : Nat → BitVec 32
  | 0 => s.a
  | 1 => s.b
  | 2 => s.c
  | 3 => s.d
  | 4 => s.e
  | 5 => s.f
  | 6 => s.g
  | _ => s.h
/-- the first words of a state are increased already -/
def part (s x : St) (k : Nat) : St :=
  ⟨if 0 < k then s.a + x.a else s.a, if 1 < k then s.b + x.b else s.b, if 2 < k then s.c + x.c else s.c, if 3 < k then s.d + x.d else s.d,
   if 4 < k then s.e + x.e else s.e, if 5 < k then s.f + x.f else s.f, if 6 < k then s.g + x.g else s.g, if 7 < k then s.h + x.h else s.h⟩
theorem part_zero (s x : St) : part s x 0 = s := rfl
theorem part_eight (s x : St) : part s x 8 = addSt s x := rfl
theorem lt8 {k : Nat} (h : k < 8) : k = 0 ∨ k = 1 ∨ k = 2 ∨ k = 3 ∨ k = 4 ∨ k = 5 ∨ k = 6 ∨ k = 7 := by omega
theorem stc_get (s : St) (k : Nat) (h : k < 8) : (stc s)[k]? = some (.int .u32 (W (s.get k))) := by
  rcases lt8 h with rfl | rfl | rfl | rfl | rfl | rfl | rfl | rfl <;> rfl
theorem part_get (s x : St) (k : Nat) (h : k < 8) : (stc (part s x k))[k]? = some (.int .u32 (W (s.get k))) := by
  rcases lt8 h with rfl | rfl | rfl | rfl | rfl | rfl | rfl | rfl <;> rfl
theorem part_next (s x : St) (k : Nat) (h : k < 8) : (stc (part s x k)).setIfInBounds k (.int .u32 (W (s.get k + x.get k))) = stc (part s x (k + 1)) := by
  rcases lt8 h with rfl | rfl | rfl | rfl | rfl | rfl | rfl | rfl <;> rfl
attribute [irreducible] part addSt St.get
/-- a state of a computation in pieces, as cells: the words, the bytes behind the last whole block, the length -/
def hsc (s : St) (tail : Value) (n : Int) : Array Value :=
  #[.int .u32 (W s.a), .int .u32 (W s.b), .int .u32 (W s.c), .int .u32 (W s.d), .int .u32 (W s.e), .int .u32 (W s.f), .int .u32 (W s.g), .int .u32 (W s.h), tail, .int .i64 n]
end Go.Proofs.YtcippenhomhpbaaDoor
