/-
  The contract of the reference's Ints for equal lists; cells of a slice of numbers.
-/
import Derived.Test.YtcnokjiohbifeaaIL
import Derived.Test.YtcnokjiohbifeaaRIn
import Derived.Deep.DeepCutAuto
import Derived.BigQuiet
namespace Go.Proofs.Ytcnokjiohbifeaa
open Go.RowKit

theorem Sl.nat {w : World} {B n : Nat} {A : Option Addr} {ns : List Nat} (h : Sl w B A n (nl ns)) {k : Nat} (hk : k < n) : ∃ ad, A = some ad ∧ ad.block < B ∧ w.cell? (ad.add k) = some (.int .i64 ((ns.getD k 0 : Nat) : Int)) := by
  obtain ⟨ad, u, h1, h2, h3, h4⟩ := h.at_ hk
  have hn : k < ns.length := by
    have := h.1
    rw [nl_length] at this
    omega
  rw [nl_get ns k hn] at h3
  injection h3 with h3
  exact ⟨ad, h1, h2, by rw [h4, ← h3]⟩

theorem own_at {w : World} {base : Nat} {e : TypeId} {v : Value} {n : Nat} {xs : List Value} (h : w.ownsRow base e 1 v n xs) (hn : n ≠ 0) : ∃ g c, v = .slice (some ⟨g, 0, none⟩) n c := by
  rcases h.2 with ⟨_, h0⟩ | ⟨g, cap, cur, h1, _⟩
  · exact absurd h0 hn
  · exact ⟨g, cap, h1⟩

set_option maxRecDepth 100000 in
set_option maxHeartbeats 4000000 in
/-- Ints of two equal lists -/
theorem ints_yes (ns : List Nat) (m : Nat) (_hm : ns.length = m) (hns : m ≤ 100000) (A B : Option Addr) (c d : Nat) (w : World) (hA : Sl w w.heap.size A m (nl ns)) (hB : Sl w w.heap.size B m (nl ns)) :
    Calls Try.prog 34 #[.slice A m c, .slice B m d] w fun e w' => e = .returned (.bool true) ∧ Below w.heap.size w w' := by
  have HS := Lib.hid (And.intro hA hB)
  clear hA hB _hm
  go_enter Try.func34, Try.ntmps34
  go_wp2
  go_loopw [5] (fun k wr => ∃ j : Nat, j ≤ m ∧ k = .int .i64 j ∧ Below w.heap.size w wr) (fun k _ => m - (intOf k).toNat)
  case atStart => exact ⟨0, Nat.zero_le _, rfl, Below.refl _ _⟩
  case round =>
    obtain ⟨j, hj, rfl, hb⟩ := hrel
    by_cases hlt : j < m
    · obtain ⟨a1, rfl, _, hc1⟩ := (HS.out.1.below hb).nat hlt
      obtain ⟨a2, rfl, _, hc2⟩ := (HS.out.2.below hb).nat hlt
      obtain ⟨x, hx⟩ : ∃ x, x = ((ns.getD j 0 : Nat) : Int) := ⟨_, rfl⟩
      rw [← hx] at hc1 hc2
      clear hx
      go_upto_region 6 with fail
      go_quiet (fail)
      go_wp2
      go_roundw
      case rel => exact ⟨j + 1, by omega, by go_num, blw_drewN hb _⟩
      case measure => simp [intOf]; omega
    · obtain rfl : j = m := by omega
      go_wp2
      go_ret
      exact ⟨rfl, hb⟩
end Go.Proofs.Ytcnokjiohbifeaa
