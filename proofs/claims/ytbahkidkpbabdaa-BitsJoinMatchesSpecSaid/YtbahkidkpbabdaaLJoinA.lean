/-
  What the walks of BitsJoinMatchesSpec need.
-/
import Derived.Test.YtbahkidkpbabdaaLNumA
import Derived.Test.YtbahkidkpbabdaaRJoin
namespace Go.Proofs.Ytbahkidkpbabdaa.lawJoinB
open Go.RowKit

theorem eq_same (c i : Int) (w : World) : (binOp .eql 26 (.agg (flt c i)) (.agg (flt c i))).run Try.prog w = .ok (.bool true) w := by
  rw [eql_flt]
  simp
theorem bytes_farF {w : World} {g n : Nat} {A : Option Addr} {M : List UInt8} (h : Sl w w.heap.size A n (bl M)) {a b : Int} {t : TypeId} (r : Row w g t (flt a b)) (cs : Array Value) : Sl (w.setRow g cs) (w.setRow g cs).heap.size A n (bl M) := by
  refine ⟨h.1, fun hn => ?_⟩
  obtain ⟨ad, rfl, hb, hc⟩ := h.2 hn
  refine ⟨ad, rfl, by simpa using hb, fun j u hu => ?_⟩
  have h2 := hc j u hu
  have hne : (ad.add j).block ≠ g := by
    intro he
    obtain ⟨x, hx⟩ : ∃ x, u = .int .u8 x := by
      unfold bl at hu
      rw [List.getElem?_map] at hu
      obtain ⟨y, _, hy⟩ := Option.map_eq_some_iff.1 hu
      exact ⟨_, hy.symm⟩
    have h3 := h2
    unfold World.cell? at h3
    rw [he, show w.heap[g]? = some (.cells (flt a b) t (0, 0)) from r, hx] at h3
    simp only at h3
    split at h3
    · exact absurd h3 (by simp)
    unfold flt at h3
    match (ad.add j).off, h3 with
    | 0, h => simp at h
    | 1, h => simp at h
    | n + 2, h => simp at h
  rw [← h2]
  unfold World.cell?
  rw [show (w.setRow g cs).heap[(ad.add j).block]? = w.heap[(ad.add j).block]? from setRow_other w g _ cs hne]
theorem slice_out (l : List Bool) (hl : l.length ≤ 131072) (f t : Int) (hf : f < 0 ∨ (l.length : Int) < f) (A : Option Addr) (c : Nat) (w : World) (hS : Sl w w.heap.size A (pack l).length (bl (pack l))) :
    Calls Try.prog 26 #[.agg (bcs A (pack l).length c l.length), .int .i64 f, .int .i64 t] w fun e w' => e = .returned (.tuple #[.agg (bcs none 0 0 0), .agg (flt 4 (-2))]) ∧ Below w.heap.size w w' := by
  rcases hf with h | h
  · exact slice_neg (pack l) l (pack_rep l) hl f t h A c w hS
  · exact slice_far (pack l) l (pack_rep l) hl f t h A c w hS
theorem slice_off (l : List Bool) (hl : l.length ≤ 131072) (f : Nat) (hf : f ≤ l.length) (t : Int) (ht : t < f ∨ (l.length : Int) < t) (A : Option Addr) (c : Nat) (w : World) (hS : Sl w w.heap.size A (pack l).length (bl (pack l))) :
    Calls Try.prog 26 #[.agg (bcs A (pack l).length c l.length), .int .i64 f, .int .i64 t] w fun e w' => e = .returned (.tuple #[.agg (bcs none 0 0 0), .agg (flt 4 (-3))]) ∧ Below w.heap.size w w' := by
  rcases ht with h | h
  · exact slice_turned (pack l) l (pack_rep l) hl f t hf h A c w hS
  · exact slice_wide (pack l) l (pack_rep l) hl f t hf h A c w hS
theorem part_m {w : World} {B m : Nat} {ad : Addr} {l : List Bool} (h : Sl w B (some ad) m (il l)) {c : Nat} (f t : Nat) (m2 : List Bool) (e : m2 = (l.drop f).take (t - f)) (hft : f < t) (ht : t ≤ m) (hc : m ≤ c) : Sl w B (some (ad.add f)) (t - f) (il m2) := by
  rw [e]
  exact h.part (c := c) f t hft ht hc
theorem nil_m {l : List Bool} (w : World) (B f t : Nat) (m2 : List Bool) (e : m2 = (l.drop f).take (t - f)) (hft : f = t) (A : Option Addr) : Sl w B A (t - f) (il m2) := by
  subst hft e
  rw [Nat.sub_self, List.take_zero, il_nil]
  exact Sl.nil _ _ _
/-- what Join answers: a fault, or the bits of all -/
theorem join_kinds (n cc : Nat) (es : List (List UInt8 × Int)) (hlen : es.length = n) :
    (∃ c i : Int, c ≠ 0 ∧ (∀ A w, BsG w w.heap.size A n es → Calls Try.prog 33 #[.slice A n cc] w fun e w' => e = .returned (.tuple #[.agg (bcs none 0 0 0), .agg (flt c i)]) ∧ Below w.heap.size w w') ∧
      (∀ A w, BsG w w.heap.size A n es → Calls Try.prog 34 #[.slice A n cc] w fun e w' => e = .returned (.agg (flt c i)) ∧ Below w.heap.size w w')) ∨
    ∃ m : List Bool, (∀ A w, BsG w w.heap.size A n es → Calls Try.prog 33 #[.slice A n cc] w (BitsOut w m)) ∧
      (∀ A w, BsG w w.heap.size A n es → Calls Try.prog 34 #[.slice A n cc] w fun e w' => e = .returned (.agg (flt 0 0)) ∧ Below w.heap.size w w') ∧
      (∀ A w, BsG w w.heap.size A n es → Calls Try.prog 35 #[.slice A n cc] w (BitsOne w m)) := by
  by_cases h : 256 < n
  · exact .inl ⟨2, -1, by decide, fun A w _ => join_many n h A cc w, fun A w _ => jf_many n h A cc w⟩
  · have hn : n ≤ 256 := by omega
    rcases pv_or es with ⟨ls, hp⟩ | ⟨ls, j, L, k, hp, hbad, hG⟩
    · rw [hlen] at hp
      by_cases hb : 131072 < ls.flatten.length
      · exact .inl ⟨14, -1, by decide, fun A w hB => join_big es ls n hn hp hb A cc w hB, fun A w hB => jf_big es ls n hn hp hb A cc w hB⟩
      · have hle : ls.flatten.length ≤ 131072 := by omega
        exact .inr ⟨ls.flatten, fun A w hB => join_ok ls n hn hle A cc w (hB.valid hp), fun A w hB => jf_ok es ls n hn hp hle A cc w hB, fun A w hB => joined_any ls n hn hle A cc w (hB.valid hp)⟩
    · have hj : j ≤ n := by
        have := (List.getElem?_eq_some_iff.1 hbad).1
        omega
      exact .inl ⟨6, j, by decide, fun A w hB => join_bad es ls n hn j hj hp L k hbad hG A cc w hB, fun A w hB => jf_bad es ls n hn j hj hp L k hbad hG A cc w hB⟩
end Go.Proofs.Ytbahkidkpbabdaa.lawJoinB
