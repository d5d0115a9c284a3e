/-
  The walks of BitsNumbersMatchSpec.
-/
import Derived.Test.YtbahkidkpbabdaaRFault
import Derived.Test.YtbahkidkpbabdaaBSpec2
import Derived.Deep.QuietTactic
import Derived.BigQuiet
import Derived.Deep.RegionLaw
namespace Go.Proofs.Ytbahkidkpbabdaa.lawNum
open Go.RowKit

theorem neq_same (c i : Int) (w : World) : (binOp .neq 26 (.agg (flt c i)) (.agg (flt c i))).run Try.prog w = .ok (.bool false) w := by
  rw [neq_flt]
  simp
theorem step_appW {P : Program} (w : World) {ops : Array Oper} {o : Oper} {a : Act} {K : Act → World → Prop} {Q : Exit → Act → World → Prop} {E : Prop} (hw : Region.wanted o (yielded ops a.tmps) = true) (s x : Operand) (t : TypeId)
    (ho : o.op = .call { callee := .builtin .append, args := #[s, x], argTypes := #[t, t] })
    (base : Nat) (e : TypeId) (i : TypeInfo) (z : Value) (bytes : Nat) (ht : P.underlying t = some (.slice e)) (hi : P.info? e = some i) (hz : i.zero = some z)
    (hsize : i.size = 1) (hby : i.bytes = bytes) (hzs : z.cells.size = 1)
    (v : Value) (n : Nat) (xs : List Value) (hs : a.eval s = v) (hown : w.ownsRow base e 1 v n xs)
    (B : Nat) (A : Option Addr) (m c : Nat) (news : List Value) (hx : a.eval x = .slice A m c) (hr : Sl w B A m news) (h1 : ∀ u ∈ news, u.oneCell' = true)
    (h63 : n + m ≤ maxLen) (hbytes : (n + m) * bytes ≤ 140737488355328) (hbase : base ≤ w.heap.size)
    (h : ∀ v' w', w'.ownsRow base e 1 v' (n + m) (xs ++ news) → w.grownBy w' v.ownBlock → K (a.put o.dst v') w') :
    if Region.wanted o (yielded ops a.tmps) = true then Oper.wp P o a w K Q else E := by
  rw [if_pos hw]
  obtain ⟨v', w', hrun, h2, h3⟩ := run_app (P := P) w base t o.type e i z bytes ht hi hz hsize hby hzs v n xs hown B A m c news hr h1 h63 hbytes hbase
  exact Lib.wp_append_run w s x t t ho v (.slice A m c) hs hx v' w' hrun (h v' w' h2 h3)
theorem rnumber_is (l : List Bool) (hl : l.length ≤ 60) (A : Option Addr) (c : Nat) (n : Nat) (hn : n = l.length) (z : Nat) (hz : z = valB l) (w : World) (hS : Sl w w.heap.size A n (il l)) :
    Calls Try.prog 25 #[.slice A n c] w fun e w' => e = .returned (.int .i64 z) ∧ w = w' := by
  subst hz
  exact rnumber_any l hl A c n hn w hS
theorem part_n {w : World} {B m : Nat} {ad : Addr} {l : List Bool} (h : Sl w B (some ad) m (il l)) {c : Nat} (y n : Nat) (hn : 1 ≤ n) (he : y + n ≤ m) (hc : m ≤ c) : Sl w B (some (ad.add y)) n (il ((l.drop y).take n)) := by
  have := h.part (c := c) y (y + n) (by omega) he hc
  rw [show y + n - y = n by omega] at this
  exact this
theorem nil_part (l : List Bool) (y n : Nat) (hn : n = 0) (w : World) (B : Nat) (A : Option Addr) : Sl w B A n (il ((l.drop y).take n)) := by
  subst hn
  rw [List.take_zero, il_nil]
  exact Sl.nil _ _ _
/-- the fault of Read -/
def RF (L : List UInt8) (k f m c i : Int) : Prop :=
  (¬ Good L k ∧ c = 6 ∧ i = -1) ∨ ∃ l : List Bool, k = (l.length : Int) ∧ l.length ≤ 131072 ∧ L = pack l ∧
    (((f < 0 ∨ (l.length : Int) < f) ∧ c = 4 ∧ i = -2) ∨ (0 ≤ f ∧ f ≤ l.length ∧ (m < 0 ∨ 32 < m) ∧ c = 4 ∧ i = -3) ∨ (0 ≤ f ∧ f ≤ l.length ∧ 0 ≤ m ∧ m ≤ 32 ∧ (l.length : Int) < f + m ∧ c = 15 ∧ i = -2))
theorem RF.ne {L : List UInt8} {k f m c i : Int} (h : RF L k f m c i) : c ≠ 0 := by
  rcases h with ⟨_, rfl, _⟩ | ⟨l, _, _, _, ⟨_, rfl, _⟩ | ⟨_, _, _, rfl, _⟩ | ⟨_, _, _, _, _, rfl, _⟩⟩ <;> decide
theorem rf_or (L : List UInt8) (k f m : Int) : (∃ c i, RF L k f m c i) ∨ ∃ (l : List Bool) (x n : Nat), k = (l.length : Int) ∧ L = pack l ∧ f = x ∧ m = n ∧ n ≤ 32 ∧ x + n ≤ l.length ∧ l.length ≤ 131072 := by
  rcases good_dec L k with ⟨l, h1, h2, h3⟩ | hG
  · by_cases ha : f < 0 ∨ (l.length : Int) < f
    · exact .inl ⟨4, -2, .inr ⟨l, h1, h2, h3, .inl ⟨ha, rfl, rfl⟩⟩⟩
    · by_cases hb : m < 0 ∨ 32 < m
      · exact .inl ⟨4, -3, .inr ⟨l, h1, h2, h3, .inr (.inl ⟨by omega, by omega, hb, rfl, rfl⟩)⟩⟩
      · by_cases hc : (l.length : Int) < f + m
        · exact .inl ⟨15, -2, .inr ⟨l, h1, h2, h3, .inr (.inr ⟨by omega, by omega, by omega, by omega, hc, rfl, rfl⟩)⟩⟩
        · exact .inr ⟨l, f.toNat, m.toNat, h1, h3, by omega, by omega, by omega, by omega, h2⟩
  · exact .inl ⟨6, -1, .inl ⟨hG, rfl, rfl⟩⟩
theorem read_bad (L : List UInt8) (k f m c i : Int) (h : RF L k f m c i) (A : Option Addr) (cp : Nat) (w : World) (hS : Sl w w.heap.size A L.length (bl L)) :
    Calls Try.prog 20 #[.agg (bcs A L.length cp k), .int .i64 f, .int .i64 m] w fun e w' => e = .returned (.tuple #[.int .i64 0, .agg (flt c i)]) ∧ Below w.heap.size w w' := by
  rcases h with ⟨hG, rfl, rfl⟩ | ⟨l, rfl, hl, rfl, h⟩
  · exact read_form L k hG f m A cp w hS
  · rcases h with ⟨h1 | h1, rfl, rfl⟩ | ⟨h0, h1, h2 | h2, rfl, rfl⟩ | ⟨h0, h1, h2, h3, h4, rfl, rfl⟩
    · exact read_neg (pack l) l (pack_rep l) hl f m h1 A cp w hS
    · exact read_far (pack l) l (pack_rep l) hl f m h1 A cp w hS
    · obtain ⟨x, rfl⟩ : ∃ x : Nat, f = x := ⟨f.toNat, by omega⟩
      exact read_narrow (pack l) l (pack_rep l) hl x m (by omega) h2 A cp w hS
    · obtain ⟨x, rfl⟩ : ∃ x : Nat, f = x := ⟨f.toNat, by omega⟩
      exact read_wide (pack l) l (pack_rep l) hl x m (by omega) h2 A cp w hS
    · obtain ⟨x, rfl⟩ : ∃ x : Nat, f = x := ⟨f.toNat, by omega⟩
      obtain ⟨n, rfl⟩ : ∃ n : Nat, m = n := ⟨m.toNat, by omega⟩
      exact read_short (pack l) l (pack_rep l) hl x n (by omega) (by omega) (by omega) A cp w hS
theorem rread_bad (L : List UInt8) (k f m c i : Int) (h : RF L k f m c i) (A : Option Addr) (cp : Nat) (w : World) (hS : Sl w w.heap.size A L.length (bl L)) :
    Calls Try.prog 22 #[.agg (bcs A L.length cp k), .int .i64 f, .int .i64 m] w fun e w' => e = .returned (.agg (flt c i)) ∧ Below w.heap.size w w' := by
  rcases h with ⟨hG, rfl, rfl⟩ | ⟨l, rfl, hl, rfl, h⟩
  · exact rrf_form L k hG f m A cp w hS
  · rcases h with ⟨h1, rfl, rfl⟩ | ⟨h0, h1, h2, rfl, rfl⟩ | ⟨h0, h1, h2, h3, h4, rfl, rfl⟩
    · exact rrf_far l hl f m h1 A cp w hS
    · obtain ⟨x, rfl⟩ : ∃ x : Nat, f = x := ⟨f.toNat, by omega⟩
      exact rrf_width l hl x m (by omega) h2 A cp w hS
    · obtain ⟨x, rfl⟩ : ∃ x : Nat, f = x := ⟨f.toNat, by omega⟩
      obtain ⟨n, rfl⟩ : ∃ n : Nat, m = n := ⟨m.toNat, by omega⟩
      exact rrf_short l hl x n (by omega) (by omega) (by omega) A cp w hS
theorem rappend_bad (L : List UInt8) (k v m c i : Int) (h : AF L k v m c i) (A : Option Addr) (cp : Nat) (w : World) (hS : Sl w w.heap.size A L.length (bl L)) :
    Calls Try.prog 21 #[.agg (bcs A L.length cp k), .int .i64 v, .int .i64 m] w fun e w' => e = .returned (.agg (flt c i)) ∧ Below w.heap.size w w' := by
  rcases h with ⟨hG, rfl, rfl⟩ | ⟨l, rfl, hl, rfl, h⟩
  · exact raf_form L k hG v m A cp w hS
  · rcases h with ⟨hv | ⟨h0, h1, h2⟩, rfl, rfl⟩ | ⟨hv, hm, rfl, rfl⟩ | ⟨hv, h0, h1, h2, h3, rfl, rfl⟩
    · exact raf_neg l hl v m hv A cp w hS
    · obtain ⟨n, rfl⟩ : ∃ n : Nat, m = n := ⟨m.toNat, by omega⟩
      rw [Int.toNat_natCast] at h2
      exact raf_great l hl v n (Int.le_trans (Int.natCast_nonneg _) h2) (by omega) h2 A cp w hS
    · exact raf_width l hl v m hv hm A cp w hS
    · obtain ⟨n, rfl⟩ : ∃ n : Nat, m = n := ⟨m.toNat, by omega⟩
      obtain ⟨x, rfl⟩ : ∃ x : Nat, v = x := ⟨v.toNat, by omega⟩
      rw [Int.toNat_natCast] at h2
      exact raf_large l hl x n (by omega) (Int.ofNat_lt.1 h2) (by omega) A cp w hS
end Go.Proofs.Ytbahkidkpbabdaa.lawNum
