/-
  Writing in pieces: what digest.Write leaves behind one byte string and then another is what it leaves behind both at once.
-/
import Derived.Test.YtcippenhomhpbaaDoorLawKit
namespace Go.Proofs.YtcippenhomhpbaaDoor
open Go.RowKit

/-- blocks that lie in the first part -/
theorem chew_more (s : St) (all more : List UInt8) : ∀ q, 64 * q ≤ all.length → chew s (all ++ more) q = chew s all q
  | 0, _ => by rw [chew_zero, chew_zero]
  | q + 1, h => by
    rw [chew_next, chew_next, chew_more s all more q (by omega), List.drop_append_of_le_length (by omega), List.take_append_of_le_length (by rw [List.length_drop]; omega)]
/-- the blocks behind it -/
theorem chew_chew (s : St) (all more : List UInt8) (q : Nat) (h : 64 * q ≤ all.length) : ∀ m, chew (chew s all q) (all.drop (64 * q) ++ more) m = chew s (all ++ more) (q + m)
  | 0 => by rw [chew_zero, Nat.add_zero, chew_more s all more q h]
  | m + 1 => by
    rw [chew_next, chew_chew s all more q h m, ← Nat.add_assoc, chew_next, ← List.drop_append_of_le_length h, List.drop_drop, Nat.mul_add]
/-- the rest behind the last whole block -/
theorem rest_rest (all more : List UInt8) (q : Nat) (h : q = all.length / 64) :
    (all.drop (64 * q) ++ more).drop (64 * ((all.drop (64 * q) ++ more).length / 64)) = (all ++ more).drop (64 * ((all ++ more).length / 64)) := by
  subst h
  have hle : 64 * (all.length / 64) ≤ all.length := by omega
  rw [← List.drop_append_of_le_length hle, List.drop_drop]
  congr 1
  rw [List.length_drop, List.length_append]
  omega
theorem count_count (all more : List UInt8) (q : Nat) (h : q = all.length / 64) : q + (all.drop (64 * q) ++ more).length / 64 = (all ++ more).length / 64 := by
  subst h
  rw [List.length_append, List.length_append, List.length_drop]
  omega
theorem tail_len (all : List UInt8) (q : Nat) (h : q = all.length / 64) : (all.drop (64 * q)).length = all.length % 64 := by
  subst h
  rw [List.length_drop]
  omega
theorem tail_tail (all more : List UInt8) (q : Nat) (h : q = all.length / 64) : (all.drop (64 * q) ++ more).length % 64 = (all ++ more).length % 64 := by
  subst h
  rw [List.length_append, List.length_append, List.length_drop]
  omega

/-- a state in pieces: s: ahead of the bytes 'all', of which n were counted ahead; its tail lies at B -/
def piece (s : St) (all : List UInt8) (B : Option Addr) (k : Nat) (n : Nat) : Array Value := hsc (chew s all (all.length / 64)) (.slice B (all.length % 64) k) (n : Int)
theorem piece_eq (s : St) (all : List UInt8) (B : Option Addr) (k : Nat) (n : Nat) : piece s all B k n = hsc (chew s all (all.length / 64)) (.slice B (all.length % 64) k) (n : Int) := rfl
theorem piece_size (s : St) (all : List UInt8) (B : Option Addr) (k : Nat) (n : Nat) : (piece s all B k n).size = 10 := rfl
theorem piece_one (s : St) (all : List UInt8) (B : Option Addr) (k : Nat) (n : Nat) : ∀ u ∈ piece s all B k n, u.oneCell' = true := hsc_one _ _ _ rfl
/-- the bytes of its tail -/
def rest (all : List UInt8) : List UInt8 := all.drop (64 * (all.length / 64))
theorem rest_eq (all : List UInt8) : rest all = all.drop (64 * (all.length / 64)) := rfl
theorem rest_length (all : List UInt8) : (rest all).length = all.length % 64 := tail_len all _ rfl
attribute [irreducible] piece rest

theorem write_len (s : St) (n : Nat) (TA : Option Addr) (tl : List UInt8) (tn : Nat) (h : tl.length = tn) (tc : Nat) (A : Option Addr) (L : List UInt8) (c : Nat) (w : World) (hk : KIs w) (hS : Sl w w.heap.size TA tn (bl tl)) (hL : Sl w w.heap.size A L.length (bl L)) (hc : L.length ≤ c) (hcm : c ≤ maxLen)
    (hv : okH tn n = true) (hl : (L.length : Int) ≤ 1099511627776 - (n : Int)) :
    Calls Tryd.prog 13 #[.agg (hsc s (.slice TA tn tc) n), .slice A L.length c] w fun e w' =>
      ∃ v, e = .returned (.tuple #[.agg (hsc (chew s (tl ++ L) ((tl ++ L).length / 64)) v ((n + L.length : Nat) : Int)), .agg (flt 0 0)]) ∧
        w'.ownsRow w.heap.size 5 1 v ((tl ++ L).length % 64) (bl ((tl ++ L).drop (64 * ((tl ++ L).length / 64)))) ∧ Below w.heap.size w w' := by
  subst h
  exact write_ok s n TA tl tc A L c w hk hS hL hc hcm hv hl

/-- digest.Write to a state that lies ahead of the bytes tl: as it came in. -/
theorem write_piece (s : St) (n : Nat) (TA : Option Addr) (tl : List UInt8) (tc : Nat) (A : Option Addr) (L : List UInt8) (c : Nat) (w : World) (hk : KIs w) (hS : Sl w w.heap.size TA tl.length (bl tl)) (hL : Sl w w.heap.size A L.length (bl L)) (hc : L.length ≤ c) (hcm : c ≤ maxLen)
    (hv : okH tl.length n = true) (hl : (L.length : Int) ≤ 1099511627776 - (n : Int)) :
    Calls Tryd.prog 13 #[.agg (hsc s (.slice TA tl.length tc) n), .slice A L.length c] w fun e w' =>
      ∃ B k, e = .returned (.tuple #[.agg (piece s (tl ++ L) B k (n + L.length)), .agg (flt 0 0)]) ∧
        w'.ownsRow w.heap.size 5 1 (.slice B ((tl ++ L).length % 64) k) ((tl ++ L).length % 64) (bl (rest (tl ++ L))) ∧ Below w.heap.size w w' := by
  refine (write_ok s n TA tl tc A L c w hk hS hL hc hcm hv hl).mono ?_
  rintro e w' ⟨v, rfl, ho, hb⟩
  obtain ⟨B, k, rfl, _, _⟩ := own_form ho
  exact ⟨B, k, by rw [piece_eq], by rw [rest_eq]; exact ho, hb⟩
/-- digest.Write to a state that was written before. -/
theorem write_again (s : St) (all : List UInt8) (n : Nat) (TA : Option Addr) (tc : Nat) (A : Option Addr) (L : List UInt8) (c : Nat) (w : World) (hk : KIs w) (hS : Sl w w.heap.size TA (all.length % 64) (bl (rest all))) (hL : Sl w w.heap.size A L.length (bl L)) (hc : L.length ≤ c) (hcm : c ≤ maxLen)
    (hv : okH (all.length % 64) n = true) (hl : (L.length : Int) ≤ 1099511627776 - (n : Int)) :
    Calls Tryd.prog 13 #[.agg (piece s all TA tc n), .slice A L.length c] w fun e w' =>
      ∃ B k, e = .returned (.tuple #[.agg (piece s (all ++ L) B k (n + L.length)), .agg (flt 0 0)]) ∧
        w'.ownsRow w.heap.size 5 1 (.slice B ((all ++ L).length % 64) k) ((all ++ L).length % 64) (bl (rest (all ++ L))) ∧ Below w.heap.size w w' := by
  rw [piece_eq]
  refine (write_len (chew s all (all.length / 64)) n TA (rest all) (all.length % 64) (rest_length all) tc A L c w hk hS hL hc hcm hv hl).mono ?_
  rintro e w' ⟨v, rfl, ho, hb⟩
  obtain ⟨B, k, rfl, _, _⟩ := own_form ho
  rw [rest_eq, rest_rest all L _ rfl, tail_tail all L _ rfl] at ho
  refine ⟨B, k, ?_, by rw [rest_eq]; exact ho, hb⟩
  rw [piece_eq, rest_eq, chew_chew s all L _ (by omega), count_count all L _ rfl, tail_tail all L _ rfl]
/-- digest.Finish of the state behind all bytes. -/
theorem finish_all (all : List UInt8) (TA : Option Addr) (tc : Nat) (w : World) (hk : KIs w) (hS : Sl w w.heap.size TA (all.length % 64) (bl (rest all))) (hl : all.length ≤ 1099511627776) :
    Calls Tryd.prog 14 #[.agg (piece first all TA tc all.length)] w fun e w' => e = .returned (.tuple #[.agg (bs (sumOf all)), .agg (flt 0 0)]) ∧ Below w.heap.size w w' := by
  have key : ∀ (tl : List UInt8) (tn : Nat), tl.length = tn → Sl w w.heap.size TA tn (bl tl) → okH tn (all.length : Int) = true →
      Calls Tryd.prog 14 #[.agg (hsc (chew first all (all.length / 64)) (.slice TA tn tc) (all.length : Int))] w fun e w' => e = .returned (.tuple #[.agg (bs (hashed (chew first all (all.length / 64)) tl all.length)), .agg (flt 0 0)]) ∧ Below w.heap.size w w' := by
    rintro tl _ rfl hS hv
    exact finish_ok _ _ TA tl tc w hk hS hv
  have h := key (rest all) (all.length % 64) (rest_length all) hS (okH_true (by omega) (by omega) (by omega))
  rw [piece_eq, sumOf_eq]
  rw [rest_eq] at h
  exact h
end Go.Proofs.YtcippenhomhpbaaDoor
