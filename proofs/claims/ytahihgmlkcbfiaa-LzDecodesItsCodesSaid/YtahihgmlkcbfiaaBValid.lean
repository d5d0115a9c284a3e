/-
  The contract of bits.Valid: it says whether bytes and a count are a valid bit string.
-/
import Derived.Test.YtahihgmlkcbfiaaBExt
import Derived.Deep.QuietTactic
import Derived.BigQuiet
namespace Go.Proofs.Ytahihgmlkcbfiaa
open Go.RowKit

/-- bytes and a count are a valid bit string -/
def Good (L : List UInt8) (k : Int) : Prop := ∃ l : List Bool, k = (l.length : Int) ∧ l.length ≤ 131072 ∧ Rep L l
theorem all_bytes (p : UInt8 → Bool) (h : (List.range 256).all (fun n => p (UInt8.ofNat n)) = true) (c : UInt8) : p c = true := by
  have h1 := List.all_eq_true.1 h c.toNat (List.mem_range.2 c.toNat_lt)
  simpa using h1
theorem last_bits (x : UInt8) (u : Nat) (hu : u < 8) : (x.toNat * 2 ^ u % 256 = 0) ↔ ∀ q, q < 8 → u ≤ q → x.toNat.testBit (7 - q) = false := by
  have h := all_bytes (fun x => (List.range 8).all fun u => decide (x.toNat * 2 ^ u % 256 = 0) == (List.range 8).all fun q => decide (q < u) || !x.toNat.testBit (7 - q)) (by decide +kernel) x
  have h2 := eq_of_beq (List.all_eq_true.1 h u (List.mem_range.2 hu))
  constructor
  · intro h0 q hq huq
    rw [decide_eq_true h0] at h2
    have := List.all_eq_true.1 h2.symm q (List.mem_range.2 hq)
    simpa [show ¬ q < u by omega] using this
  · intro h0
    refine of_decide_eq_true (h2.trans (List.all_eq_true.2 fun q hq => ?_))
    by_cases hqu : q < u
    · simp [hqu]
    · rw [h0 q (List.mem_range.1 hq) (by omega)]
      simp
theorem bool_cast (x q : Nat) : ((x : Int) * 2 ^ q % 256 == 0) = decide (x * 2 ^ q % 256 = 0) := by
  have h2 : (2 : Int) ^ q = ((2 ^ q : Nat) : Int) := by rw [Int.natCast_pow]; rfl
  have h3 : (x : Int) * ((2 ^ q : Nat) : Int) = ((x * 2 ^ q : Nat) : Int) := by rw [Int.natCast_mul]
  rw [h2, h3]
  generalize x * 2 ^ q = z
  rw [Bool.eq_iff_iff]
  simp only [beq_iff_eq, decide_eq_true_eq]
  omega
theorem good_of (L : List UInt8) (n : Nat) (hn : n ≤ 131072) (hl : L.length = (n + 7) / 8) (h : n % 8 = 0 ∨ (L.getD (L.length - 1) 0).toNat * 2 ^ (n % 8) % 256 = 0) : Good L n := by
  refine ⟨cutB L 0 n, by rw [cutB_length], by rw [cutB_length]; exact hn, rep_of L n hl fun i hi => ?_⟩
  by_cases h8 : 8 * L.length ≤ i
  · exact bt_out L i h8
  · rcases h with h | h
    · omega
    · rw [bt_eq, show i / 8 = L.length - 1 by omega]
      exact (last_bits _ _ (by omega)).1 h (i % 8) (by omega) (by omega)
theorem good_last {L : List UInt8} {l : List Bool} (h : Rep L l) (hu : l.length % 8 ≠ 0) : (L.getD (L.length - 1) 0).toNat * 2 ^ (l.length % 8) % 256 = 0 := by
  refine (last_bits _ _ (by omega)).2 fun q hq huq => ?_
  have hl := h.len
  have := h.2 (8 * (L.length - 1) + q)
  rw [bt_eq, show (8 * (L.length - 1) + q) / 8 = L.length - 1 by omega, show (8 * (L.length - 1) + q) % 8 = q by omega] at this
  rw [this, List.getD_eq_getElem?_getD, List.getElem?_eq_none (by omega)]
  rfl

set_option maxRecDepth 100000 in
set_option maxHeartbeats 4000000 in
theorem valid_count (L : List UInt8) (A : Option Addr) (c : Nat) (k : Int) (hk : k < 0 ∨ 131072 < k) (w : World) :
    Calls Try.prog 46 #[.agg (bcs A L.length c k)] w fun e w' => e = .returned (.bool false) ∧ Below w.heap.size w w' := by
  unfold bcs
  rcases hk with hk | hk
  · have h1 : decide (k < 0) = true := decide_eq_true hk
    go_enter Try.func46, Try.ntmps46
    go_wp2
    go_quiet (fail)
    go_wp2
    go_ret
    exact ⟨rfl, blw_drewN ((Below.refl _ _).alloc (Nat.le_refl _) _) _⟩
  · have h1 : decide (k < 0) = false := decide_eq_false (by omega)
    have h2 : decide (131072 < k) = true := decide_eq_true hk
    go_enter Try.func46, Try.ntmps46
    go_wp2
    go_quiet (fail)
    go_wp2
    go_ret
    exact ⟨rfl, blw_drewN ((Below.refl _ _).alloc (Nat.le_refl _) _) _⟩
theorem bytesOf_is (n m : Nat) (hm : m = (n + 7) / 8) (hn : n ≤ 1099511627776) (w : World) :
    Calls Try.prog 64 #[.int .i64 n] w fun e w' => e = .returned (.int .i64 (m : Int)) ∧ w = w' := by
  subst hm
  exact bytesOf_any n hn w

set_option maxRecDepth 100000 in
set_option maxHeartbeats 4000000 in
theorem valid_length (L : List UInt8) (A : Option Addr) (c n : Nat) (hn : n ≤ 131072) (hl : L.length ≠ (n + 7) / 8) (w : World) :
    Calls Try.prog 46 #[.agg (bcs A L.length c n)] w fun e w' => e = .returned (.bool false) ∧ Below w.heap.size w w' := by
  have h1 : decide ((n : Int) < 0) = false := decide_eq_false (by omega)
  have h2 : decide ((131072 : Int) < (n : Int)) = false := decide_eq_false (by omega)
  obtain ⟨m, hm⟩ : ∃ m, m = (n + 7) / 8 := ⟨_, rfl⟩
  obtain ⟨k, hk⟩ : ∃ k, k = L.length := ⟨_, rfl⟩
  rw [← hm, ← hk] at hl
  have h3 : ((k : Int) == (m : Int)) = false := beq_eq_false_iff_ne.2 (by omega)
  have h4 : ((k : Int) != (m : Int)) = true := bne_iff_ne.2 (by omega)
  have HM := Lib.hid hm
  rw [← hk]
  clear hm hk hl
  unfold bcs
  go_enter Try.func46, Try.ntmps46
  go_wp2
  go_quiet ((go_at_call 64; exact Calls.quiet_of_same ((bytesOf_is n m HM.out (by omega) _).mono fun _ _ ⟨a, b⟩ => ⟨a, b.symm⟩)))
  go_wp2
  go_ret
  exact ⟨rfl, blw_drewN ((Below.refl _ _).alloc (Nat.le_refl _) _) _⟩

set_option maxRecDepth 100000 in
set_option maxHeartbeats 4000000 in
theorem valid_whole (L : List UInt8) (A : Option Addr) (c n : Nat) (hn : n ≤ 131072) (hl : L.length = (n + 7) / 8) (hu : n % 8 = 0) (w : World) :
    Calls Try.prog 46 #[.agg (bcs A L.length c n)] w fun e w' => e = .returned (.bool true) ∧ Below w.heap.size w w' := by
  have h1 : decide ((n : Int) < 0) = false := decide_eq_false (by omega)
  have h2 : decide ((131072 : Int) < (n : Int)) = false := decide_eq_false (by omega)
  have h5 : ((n : Int) % 8 == 0) = true := beq_iff_eq.2 (by omega)
  obtain ⟨k, hk⟩ : ∃ k, k = L.length := ⟨_, rfl⟩
  rw [← hk] at hl
  have HM := Lib.hid hl
  rw [← hk]
  clear hk hl hu
  unfold bcs
  go_enter Try.func46, Try.ntmps46
  go_wp2
  go_quiet ((go_at_call 64; exact Calls.quiet_of_same ((bytesOf_is n k HM.out (by omega) _).mono fun _ _ ⟨a, b⟩ => ⟨a, b.symm⟩)))
  go_wp2
  go_ret
  exact ⟨rfl, blw_drewN ((Below.refl _ _).alloc (Nat.le_refl _) _) _⟩

set_option maxRecDepth 100000 in
set_option maxHeartbeats 4000000 in
theorem valid_part (L : List UInt8) (A : Option Addr) (c n : Nat) (hn : n ≤ 131072) (hl : L.length = (n + 7) / 8) (hu : n % 8 ≠ 0) (w : World) (hS : Sl w w.heap.size A L.length (bl L)) :
    Calls Try.prog 46 #[.agg (bcs A L.length c n)] w fun e w' => e = .returned (.bool (decide ((L.getD (L.length - 1) 0).toNat * 2 ^ (n % 8) % 256 = 0))) ∧ Below w.heap.size w w' := by
  have h1 : decide ((n : Int) < 0) = false := decide_eq_false (by omega)
  have h2 : decide ((131072 : Int) < (n : Int)) = false := decide_eq_false (by omega)
  have h5 : ((n : Int) % 8 == 0) = false := beq_eq_false_iff_ne.2 (by omega)
  obtain ⟨ad, rfl, hb, hcell⟩ := hS.byte (k := L.length - 1) (by omega)
  obtain ⟨x, hx⟩ : ∃ x, x = L.getD (L.length - 1) 0 := ⟨_, rfl⟩
  rw [← hx] at hcell ⊢
  obtain ⟨k, hk⟩ : ∃ k, k = L.length := ⟨_, rfl⟩
  rw [← hk] at hl hcell ⊢
  have hk1 : 1 ≤ k := by omega
  have hk2 : k ≤ 16384 := by omega
  have HM := Lib.hid hl
  have hcell' := (World.cell?_alloc_lt (w := w) (o := .cells (bcs (some ad) k c n) 43) (a := ad.add (k - 1)) (by rw [add_block]; exact hb)).trans hcell
  clear hk hl hx hS
  unfold bcs at hcell' ⊢
  go_enter Try.func46, Try.ntmps46
  go_wp2
  go_quiet ((go_at_call 64; exact Calls.quiet_of_same ((bytesOf_is n k HM.out (by omega) _).mono fun _ _ ⟨a, b⟩ => ⟨a, b.symm⟩)))
  go_wp2
  go_ret
  exact ⟨ret_bool (bool_cast _ _), blw_drewN ((Below.refl _ _).alloc (Nat.le_refl _) _) _⟩

/-- bits.Valid of a valid bit string -/
theorem valid_yes (L : List UInt8) (l : List Bool) (hR : Rep L l) (hl : l.length ≤ 131072) (A : Option Addr) (c : Nat) (w : World) (hS : Sl w w.heap.size A L.length (bl L)) :
    Calls Try.prog 46 #[.agg (bcs A L.length c l.length)] w fun e w' => e = .returned (.bool true) ∧ Below w.heap.size w w' := by
  by_cases hu : l.length % 8 = 0
  · exact valid_whole L A c l.length hl hR.len hu w
  · refine (valid_part L A c l.length hl hR.len hu w hS).mono fun e w' ⟨he, hb⟩ => ⟨?_, hb⟩
    rw [he, decide_eq_true (good_last hR hu)]
/-- bits.Valid of what is none -/
theorem valid_no (L : List UInt8) (k : Int) (hG : ¬ Good L k) (A : Option Addr) (c : Nat) (w : World) (hS : Sl w w.heap.size A L.length (bl L)) :
    Calls Try.prog 46 #[.agg (bcs A L.length c k)] w fun e w' => e = .returned (.bool false) ∧ Below w.heap.size w w' := by
  by_cases hk : k < 0 ∨ 131072 < k
  · exact valid_count L A c k hk w
  · obtain ⟨n, rfl⟩ : ∃ n : Nat, k = n := ⟨k.toNat, by omega⟩
    by_cases hl : L.length = (n + 7) / 8
    · have hu : ¬ (n % 8 = 0 ∨ (L.getD (L.length - 1) 0).toNat * 2 ^ (n % 8) % 256 = 0) := fun h => hG (good_of L n (by omega) hl h)
      refine (valid_part L A c n (by omega) hl (fun h => hu (.inl h)) w hS).mono fun e w' ⟨he, hb⟩ => ⟨?_, hb⟩
      rw [he, decide_eq_false (fun h => hu (.inr h))]
    · exact valid_length L A c n (by omega) hl w
end Go.Proofs.Ytahihgmlkcbfiaa
