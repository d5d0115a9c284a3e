/-
  Maps of package dictionary: the set of a sample's segments; in how many samples each occurs. The contract of segments: the set of a sample's segments. The contract of frequencies: in how many samples each segment occurs.
-/
import Derived.Test.YtcmbpniikcghfaaYP
import Derived.Test.YtcmbpniikcghfaaROcc
import Derived.Maps.OwnOps
import Derived.Maps.Views
import Derived.Maps.OwnSet
import Derived.Maps.RangeWalk
import Derived.Sort.KeysCollected
namespace Go.Proofs.Ytcmbpniikcghfaa
open Go.RowKit Go.Maps

theorem lawS : Keyed Try.prog 9 := string_keyed Try.underlying9
theorem zeroI (w : World) : (zeroValue 3).run Try.prog w = .ok (.int .i64 0) w := by kernel_rfl
theorem key_str (P : List UInt8) (h : P.length ≤ maxLen) : keyOf Try.prog 9 (.string ⟨P.toArray⟩) = some (.string P) := WideMaps.keyOf_string_mk Try.underlying9 (s := ⟨P.toArray⟩) (by exact h)
theorem map_size {H : Type} {w : World} {P : Program} {k : TypeId} {R : Value → Option (DataW H × List MemPlace)} {b n : Nat} {D : DataW H} (h : w.ownsMap P k R b n D) : Maps.size D ≤ n := by
  obtain ⟨es, clock, hb, F, hs, rfl⟩ := h
  show List.length _ ≤ n
  rw [length_sorted, List.length_map, Array.length_toList]
  exact hs
theorem sameKey_str (P Q : List UInt8) : (Lit.string P).sameKey (.string Q) = decide (P = Q) := by
  simp [Lit.sameKey]
  by_cases h : P = Q <;> simp [h]

/-- in how many samples a segment occurs: what the program counts -/
def fqW (Ss : List (List UInt8)) (P : List UInt8) : Nat := Ss.countP fun X => decide (P ∈ win8 X)
theorem win_len {X P : List UInt8} (h : P ∈ win8 X) : P.length = 8 := by
  unfold win8 at h
  obtain ⟨k, hk, rfl⟩ := List.mem_map.1 h
  rw [List.mem_range] at hk
  rw [List.length_take, List.length_drop]
  omega
theorem fqW_8 (Ss : List (List UInt8)) {P : List UInt8} (h8 : P.length = 8) : fqW Ss P = freqB Ss P := by
  unfold fqW freqB
  refine List.countP_congr fun X _ => ?_
  rw [decide_eq_true_eq]
  exact win8_mem h8
theorem fqW_seg (Ss : List (List UInt8)) (P : List UInt8) : 2 ≤ fqW Ss P ↔ isSeg Ss P := by
  unfold isSeg
  constructor
  · intro h
    have h8 : P.length = 8 := by
      have hp : 0 < fqW Ss P := by omega
      obtain ⟨X, _, hx⟩ := List.countP_pos_iff.1 hp
      exact win_len (of_decide_eq_true hx)
    rw [fqW_8 Ss h8] at h
    exact ⟨h8, h⟩
  · rintro ⟨h8, h⟩
    rw [fqW_8 Ss h8]
    exact h
theorem fqW_le (Ss : List (List UInt8)) (P : List UInt8) : fqW Ss P ≤ Ss.length := List.countP_le_length
theorem fqW_take (Ss : List (List UInt8)) (P X : List UInt8) (i : Nat) (h : Ss[i]? = some X) : fqW (Ss.take (i + 1)) P = fqW (Ss.take i) P + (if decide (P ∈ win8 X) = true then 1 else 0) := by
  obtain ⟨hi, h⟩ := List.getElem?_eq_some_iff.1 h
  unfold fqW
  rw [List.take_succ_eq_append_getElem hi, List.countP_append, h, List.countP_singleton]
theorem seen_step {D : DataW Unit} (hD : IsMap D) {L : List (List UInt8)} (h : ∀ Q, Maps.has D (.string Q) = decide (Q ∈ L)) (P : List UInt8) (d : DataW Unit) (Q : List UInt8) : Maps.has (D.put (.string P) d) (.string Q) = decide (Q ∈ L ++ [P]) := by
  by_cases hq : Q = P
  · subst hq
    rw [has_put_same hD (by trivial)]
    exact (decide_eq_true (List.mem_append.2 (.inr (List.mem_singleton.2 rfl)))).symm
  · rw [has_put_other (fun e => hq (by injection e)), h Q]
    rw [decide_eq_decide, List.mem_append, List.mem_singleton]
    exact ⟨.inl, fun h => h.resolve_right hq⟩
/-- a map that gives each byte string a number -/
def Fm (w : World) (B n : Nat) (f : List UInt8 → Nat) : Prop :=
  ∃ D : DataW Unit, w.ownsMap Try.prog 9 (plainElem Try.prog 3) B n D ∧ ∀ P, D.atKey (.string P) (.lit (.int .i64 0)) = .lit (.int .i64 (f P))
section
variable {w w' : World} {B n : Nat} {f : List UInt8 → Nat}
theorem Fm.lt (h : Fm w B n f) : B < w.heap.size := by
  obtain ⟨D, h1, _⟩ := h
  exact h1.lt
theorem Fm.kept {row : Option Nat} (h : Fm w B n f) (hg : w.grownBy w' row) (hne : some B ≠ row) : Fm w' B n f := by
  obtain ⟨D, h1, h2⟩ := h
  exact ⟨D, h1.kept hg hne, h2⟩
theorem Fm.same (h : Fm w B n f) (hg : w'.heap[B]? = w.heap[B]?) : Fm w' B n f := by
  obtain ⟨D, ⟨es, clock, hb, F, hs, hD⟩, h2⟩ := h
  exact ⟨D, ⟨es, clock, hg.trans hb, F, hs, hD⟩, h2⟩
theorem Fm.below {C : Nat} (h : Fm w B n f) (hb : Below C w w') (hB : B < C) : Fm w' B n f := h.same (hb.block B hB)
theorem Fm.mono (h : Fm w B n f) {m : Nat} (hm : n ≤ m) : Fm w B m f := by
  obtain ⟨D, h1, h2⟩ := h
  exact ⟨D, h1.mono hm, h2⟩
theorem Fm.congr (h : Fm w B n f) {g : List UInt8 → Nat} (hf : ∀ P, f P = g P) : Fm w B n g := by
  obtain ⟨D, h1, h2⟩ := h
  exact ⟨D, h1, fun P => by rw [h2 P, hf P]⟩
theorem Fm.made (w : World) : Fm (w.alloc (.map #[] 0)) w.heap.size 0 (fun _ => 0) :=
  ⟨_, World.ownsMap_made w _ _ _, fun _ => rfl⟩
theorem Fm.look (h : Fm w B n f) (P : List UInt8) (hP : P.length ≤ maxLen) : (Instr.lookup 69 (.map (some B)) (.string ⟨P.toArray⟩) false).run Try.prog w = .ok (.int .i64 (f P : Nat)) w := by
  obtain ⟨D, h1, h2⟩ := h
  obtain ⟨c, hrun, hat, _⟩ := h1.lookup_int lawS Try.underlying69 Try.underlying3 (zeroI w) (key_str P hP)
  rw [h2 P] at hat
  simp only [DataW.lit.injEq, Lit.int.injEq, true_and] at hat
  rw [hrun, hat]
theorem Fm.store (h : Fm w B n f) (hn : n < maxLen) (P : List UInt8) (hP : P.length ≤ maxLen) (c : Nat) (hc : c < 1000000) :
    ∃ w', (Instr.mapUpdate 69 (.map (some B)) (.string ⟨P.toArray⟩) (.int .i64 (c : Nat))).run Try.prog w = .ok () w' ∧ Fm w' B (n + 1) (fun Q => if Q = P then c else f Q) ∧ w.grownBy w' (some B) := by
  obtain ⟨D, h1, h2⟩ := h
  obtain ⟨w', hrun, h3, h4⟩ := h1.update lawS Try.underlying69 hn (key_str P hP) (plainElem_int Try.underlying3 (WalkArith.wf_i64 (n := (c : Int)) (by omega)))
  refine ⟨w', hrun, ⟨_, h3, fun Q => ?_⟩, h4⟩
  by_cases he : Q = P
  · subst he
    show _ = DataW.lit (.int .i64 ((if Q = Q then c else f Q : Nat) : Int))
    rw [if_pos rfl]
    exact atKey_put_same h1.isMap (by trivial) _ _
  · show _ = DataW.lit (.int .i64 ((if Q = P then c else f Q : Nat) : Int))
    rw [if_neg he, atKey_put_other (fun e => he (by injection e)), h2 Q]
end
/-- the store at its operation, in a walk -/
theorem wpList_count {w : World} {ops : Array Oper} {rest : List Oper} {o : Oper} {a : Act} {Q : Exit → Act → World → Prop}
    (hg : o.guard = none) (m x v : Operand) (hop : o.op = Op.mapUpdate 69 m x v) {B n : Nat} {f : List UInt8 → Nat} (h : Fm w B n f) (hn : n < maxLen) (P : List UInt8) (hP : P.length ≤ maxLen) (c : Nat) (hc : c < 1000000)
    (hm : a.eval m = .map (some B)) (hx : a.eval x = .string ⟨P.toArray⟩) (hv : a.eval v = .int .i64 (c : Nat))
    (hK : ∀ w', Fm w' B (n + 1) (fun Q => if Q = P then c else f Q) → w.grownBy w' (some B) → wpList Try.prog ops Q rest (a.put o.dst undef) w') : wpList Try.prog ops Q (o :: rest) a w := by
  refine wpList_plain hg fun K' hK' => ?_
  obtain ⟨w', hrun, r1, r2⟩ := h.store hn P hP c hc
  unfold Oper.wp
  simp [execOp, hop, hm, hx, hv, hrun, Result.andThen]
  exact hK' _ _ (hK w' r1 r2)
end Go.Proofs.Ytcmbpniikcghfaa

namespace Go.Proofs.Ytcmbpniikcghfaa
open Go.RowKit Go.Maps

set_option maxRecDepth 100000 in
set_option maxHeartbeats 8000000 in
theorem segments_any (X : List UInt8) (n : Nat) (hn : n = X.length) (hn8 : n ≤ 1024) (A : Option Addr) (c : Nat) (hc : n ≤ c) (w : World) (hS : Sl w w.heap.size A n (bl X)) :
    Calls Try.prog 52 #[.slice A n c] w fun e w' => (e = .returned (.map (some w.heap.size)) ∧ ∃ D : DataW Unit, w'.ownsMap Try.prog 9 (plainElem Try.prog 4) w.heap.size 1024 D ∧ ∀ P, Maps.has D (.string P) = decide (P ∈ win8 X)) ∧ Below w.heap.size w w' := by
  have hmm := @run_makeMap Try.prog
  have HN := Lib.hid hn
  have HS := Lib.hid hS
  clear hn hS
  go_enter Try.func52, Try.ntmps52
  go_upto_region 3 with (fail)
  go_loopw [4] (fun u wr => ∃ (k : Nat) (D : DataW Unit), u = .int .i64 ((k + 8 : Nat) : Int) ∧ (k = 0 ∨ k + 7 ≤ n) ∧ wr.ownsMap Try.prog 9 (plainElem Try.prog 4) w.heap.size k D ∧ Hid (∀ P, Maps.has D (.string P) = decide (P ∈ (win8 X).take k)) ∧ Below w.heap.size w wr) (fun u _ => n + 9 - (intOf u).toNat)
  case atStart => exact ⟨0, _, rfl, .inl rfl, World.ownsMap_made _ _ _ _, Lib.hid (fun P => by rw [List.take_zero]; rfl), (Below.refl _ _).alloc (Nat.le_refl _) _⟩
  case round =>
    obtain ⟨k, D, rfl, hk, hown, HD, hb⟩ := hrel
    obtain ⟨m, hm⟩ : ∃ m, m = k + 8 := ⟨_, rfl⟩
    rw [← hm]
    by_cases hlt : k + 8 ≤ n
    · have t1 : decide ((m : Int) ≤ (n : Int)) = true := decide_eq_true (by omega)
      have t2 : decide (m ≤ n) = true := decide_eq_true (by omega)
      have hw1 : IntKind.i64.wrap ((m : Int) - 8) = (k : Int) := by
        have h1 : (m : Int) - 8 = (k : Int) := by omega
        rw [h1]
        rw [IntKind.wrap_i64]; omega
      obtain ⟨P, hP⟩ : ∃ P, P = (X.drop k).take 8 := ⟨_, rfl⟩
      have h8 : P.length = 8 := by rw [hP, List.length_take, List.length_drop, ← HN.out]; omega
      have hwn := win_take X k (by rw [← HN.out]; exact hlt)
      rw [← hP] at hwn
      have sW := (HS.out.below hb)
      obtain ⟨ad, rfl, _, _⟩ := sW.2 (by omega)
      have sP := sW.bytes k 8 (by omega) hlt hc
      rw [← hP] at sP
      have hcv : ∀ z, (convert 23 9 (.slice (some (ad.add k)) 8 z)).run Try.prog wr = .ok (.string ⟨P.toArray⟩) wr := fun z => conv_sl (P := Try.prog) wr 23 9 5 Try.underlying23 Try.underlying5 Try.underlying9 8 z sP
      have hmk : m - k = 8 := by omega
      have hne : ¬ c = k := by omega
      have HW := Lib.hid hwn
      have HP8 := Lib.hid h8
      have HM := Lib.hid hm
      clear hwn hP h8 sW sP hm
      go_wp2_with (first
        | (at_mapUpdate; refine wpList_mapUpdate_own _ rfl _ _ _ 77 rfl 9 4 lawS Try.underlying77 _ w.heap.size _ _ rfl hown (by unfold maxLen; omega) _ _ _ rfl rfl (key_str P (by rw [HP8.out]; unfold maxLen; omega)) _ [] (plainElem_bool Try.underlying4 true) ?_; intro w1 hown1 hg1))
      go_roundw
      case rel => exact ⟨k + 1, _, by rw [HM.out]; go_num, .inr (by omega), hown1, Lib.hid (fun Q => by
          rw [HW.out]
          exact seen_step hown.isMap HD.out P _ Q), hb.grown hg1 hb.size (fun j hj => by cases hj; exact Nat.le_refl _)⟩
      case measure => simp [intOf]; omega
    · have t1 : decide ((m : Int) ≤ (n : Int)) = false := decide_eq_false (by omega)
      have t2 : decide (m ≤ n) = false := decide_eq_false (by omega)
      have HE : Hid (∀ P, Maps.has D (.string P) = decide (P ∈ win8 X)) := Lib.hid (fun P => by
        rw [HD.out P, List.take_of_length_le (by rw [win8_length, ← HN.out]; omega)])
      clear HD hm
      go_wp2
      go_ret
      exact ⟨⟨rfl, D, hown.mono (by omega), HE.out⟩, hb⟩
end Go.Proofs.Ytcmbpniikcghfaa

namespace Go.Proofs.Ytcmbpniikcghfaa
open Go.RowKit Go.Maps
open Go.Proofs (encStr)

/-- what is counted while the segments of X are gone through -/
def midF (f0 : List UInt8 → Nat) (X : List UInt8) (left : Lit → Bool) (P : List UInt8) : Nat := f0 P + (if (decide (P ∈ win8 X) && !left (.string P)) = true then 1 else 0)
theorem mid_start {f0 : List UInt8 → Nat} {X : List UInt8} {D : DataW Unit} (h : ∀ P, Maps.has D (.string P) = decide (P ∈ win8 X)) (P : List UInt8) : f0 P = midF f0 X (Maps.has D) P := by
  unfold midF
  rw [h P]
  cases decide (P ∈ win8 X) <;> rfl
theorem mid_end {f0 : List UInt8 → Nat} {X : List UInt8} {left : Lit → Bool} (h : ∀ kl, left kl = false) (P : List UInt8) : midF f0 X left P = f0 P + (if decide (P ∈ win8 X) = true then 1 else 0) := by
  unfold midF
  rw [h]
  cases decide (P ∈ win8 X) <;> rfl
theorem mid_at {f0 : List UInt8 → Nat} {X x : List UInt8} {left : Lit → Bool} (h : left (.string x) = true) : midF f0 X left x = f0 x := by
  unfold midF
  rw [h]
  cases decide (x ∈ win8 X) <;> rfl
theorem mid_step {f0 : List UInt8 → Nat} {X x : List UInt8} {left : Lit → Bool} (h : left (.string x) = true) (hx : x ∈ win8 X) (Q : List UInt8) : (if Q = x then f0 x + 1 else midF f0 X left Q) = midF f0 X (fun z => left z && !z.sameKey (.string x)) Q := by
  by_cases hq : Q = x
  · subst hq
    rw [if_pos rfl]
    unfold midF
    show f0 Q + 1 = f0 Q + (if (decide (Q ∈ win8 X) && !(left (.string Q) && !(Lit.string Q).sameKey (.string Q))) = true then 1 else 0)
    rw [sameKey_str, decide_eq_true hx, decide_eq_true rfl, h]
    rfl
  · rw [if_neg hq]
    unfold midF
    show _ = f0 Q + (if (decide (Q ∈ win8 X) && !(left (.string Q) && !(Lit.string Q).sameKey (.string x))) = true then 1 else 0)
    rw [sameKey_str, decide_eq_false hq]
    cases decide (Q ∈ win8 X) <;> cases left (.string Q) <;> rfl

set_option maxRecDepth 100000 in
set_option maxHeartbeats 8000000 in
theorem frequencies_any (Ss : List (List UInt8)) (N : Nat) (hN : N ≤ 64) (h8 : ∀ X ∈ Ss, X.length ≤ 1024) (A : Option Addr) (c : Nat) (w : World) (hS : Sls w w.heap.size A N Ss) :
    Calls Try.prog 43 #[.slice A N c] w fun e w' => (e = .returned (.map (some w.heap.size)) ∧ Fm w' w.heap.size 65536 (fqW Ss)) ∧ Below w.heap.size w w' := by
  have hmm := @run_makeMap Try.prog
  have HS := Lib.hid hS
  have H8 := Lib.hid h8
  clear hS h8
  go_enter Try.func43, Try.ntmps43
  go_upto_region 3 with (fail)
  go_loopw [10] (fun u wr => ∃ i q : Nat, u = .int .i64 (i : Nat) ∧ i ≤ N ∧ q ≤ 1024 * i ∧ Fm wr w.heap.size q (fqW (Ss.take i)) ∧ Below w.heap.size w wr) (fun u _ => N - (intOf u).toNat)
  case atStart => exact ⟨0, 0, rfl, Nat.zero_le _, Nat.zero_le _, (Fm.made w).congr (fun P => rfl), (Below.refl _ _).alloc (Nat.le_refl _) _⟩
  case round =>
    obtain ⟨i, q, rfl, hi, hq, hF, hb⟩ := hrel
    by_cases hlt : i < N
    · obtain ⟨ad, X, Ai, ci, rfl, hbl, hg, hci, _, k1, hSi⟩ := (HS.out.below hb).at_ hlt
      have hX8 := H8.out X (List.mem_of_getElem? hg)
      have hft := fun P => fqW_take Ss P X i hg
      obtain ⟨n, hn⟩ : ∃ n, n = X.length := ⟨_, rfl⟩
      rw [← hn] at k1 hSi hci hX8
      have t1 : decide ((i : Int) < (N : Int)) = true := decide_eq_true (by omega)
      have t2 : decide (i < N) = true := decide_eq_true (by omega)
      obtain ⟨b2, hb2⟩ : ∃ b, b = wr.heap.size := ⟨_, rfl⟩
      have hsg := segments_any X n hn hX8 Ai ci hci wr (hSi.wider hb.size)
      have hlb : w.heap.size < b2 := by rw [hb2]; exact hF.lt
      have hb' := hb
      rw [← hb2] at hsg
      have hup := fun (W : World) (k : Below b2 wr W) => hF.below k hlb
      have hbu := fun (W : World) (k : Below b2 wr W) => hb.trans (k.mono (Nat.le_of_lt hlb))
      have hbs := fun (W : World) (k : Below b2 wr W) => (show b2 ≤ W.heap.size by rw [hb2]; exact k.size)
      obtain ⟨gB, hgB⟩ : ∃ g, g = w.heap.size := ⟨_, rfl⟩
      rw [← hgB] at hlb hup
      have HG := Lib.hid hsg
      have HU := Lib.hid hup
      have HBU := Lib.hid hbu
      have HBS := Lib.hid hbs
      have HFT := Lib.hid hft
      have HGB := Lib.hid hgB
      have hf64 : ∀ P, fqW (Ss.take i) P ≤ 64 := fun P => Nat.le_trans (fqW_le _ _) (by rw [List.length_take, HS.out.1]; omega)
      have HF64 := Lib.hid hf64
      clear hsg hup hbu hbs hft hSi hg hF hb hb' hb2 hgB hn hf64 hbl
      rw [← HGB.out]
      go_upto_region 6 with (first
        | (go_at_call 52; refine HG.out.mono ?_; rintro e w5 ⟨⟨rfl, D, hown, hD⟩, hb5⟩)
        | (at_range; refine wpList_range_own _ rfl _ 77 rfl 9 4 lawS Try.underlying77 _ b2 1024 D rfl hown ?_; intro w6 hrg6 hg6 hs6))
      go_frame
      have hF5 := HU.out _ hb5
      have hB5 := HBU.out _ hb5
      have hs5 := HBS.out _ hb5
      have hcnt := map_size hown
      have hF6 := (hF5.kept hg6 (by simp)).congr (mid_start hD)
      have hB6 := hB5.grown hg6 hB5.size (fun j hj => by cases hj)
      obtain ⟨r, hr⟩ : ∃ r, r = w5.heap.size := ⟨_, rfl⟩
      rw [← hr] at hrg6 hs5 ⊢
      rw [← HGB.out] at hB6
      have HD := Lib.hid hD
      clear hF5 hB5 hg6 hs6 hb5 HG HU HBU HBS hown hr hD
      go_loopw [6] (fun _ W => ∃ (left : Lit → Bool) (cnt q2 : Nat), W.ranges Try.prog 9 (plainElem Try.prog 4) b2 r 1024 D left cnt ∧ q2 + cnt ≤ 1024 * (i + 1) ∧ Fm W gB q2 (midF (fqW (Ss.take i)) X left) ∧ Below gB w W) (fun _ W => W.rangeLeft b2 r)
      case atStart => exact ⟨_, _, q, hrg6, by omega, hF6, hB6⟩
      case round =>
        obtain ⟨left, cnt, q2, hrg, hqc, hF, hb⟩ := hrel
        go_wp2_with (first
          | (at_next; refine wpList_next_ranges _ rfl _ rfl 9 lawS (plainElem Try.prog 4) encStr (fun v : Value => v) (fun key kl hk => by obtain ⟨x, hx, _⟩ := Maps.keyOf_str Try.underlying9 hk; exact ⟨x, hx⟩) (fun v y hv => ⟨v, rfl⟩) b2 r 1024 _ _ _ rfl hrg ?_ ?_))
        · intro hc0 hl0
          have hFE := hF.congr (g := fqW (Ss.take (i + 1))) (fun P => by rw [mid_end hl0 P, HFT.out P])
          clear hrg hF HD
          go_wp2
          go_roundw
          case rel => exact ⟨i + 1, q2, by go_num, by omega, by omega, hFE, hb⟩
          case measure => simp [intOf]; omega
        · intro x c kl yd yp w2 cnt2 hkey hlk hv hat hrg2 hlt2 hg2 hs2 hen
          obtain ⟨x', ex, rfl, hxl⟩ := Maps.keyOf_str Try.underlying9 hkey
          obtain rfl : x = x' := encStr_inj ex
          have hxw : x ∈ win8 X := of_decide_eq_true (by rw [← HD.out x]; exact has_true_of_atKey hat)
          have hF2 := hF.kept hg2 (fun e => by have := Option.some.inj e; omega)
          have hlook := hF2.look x hxl
          rw [mid_at hlk] at hlook
          have hv64 := HF64.out x
          have hstep := mid_step (f0 := fqW (Ss.take i)) hlk hxw
          obtain ⟨v0, hv0⟩ : ∃ v, v = fqW (Ss.take i) x := ⟨_, rfl⟩
          rw [← hv0] at hlook hv64 hstep
          have hb2' := hb.grown hg2 (by rw [HGB.out]; exact hb.size) (fun j hj => by cases hj; omega)
          have HST := Lib.hid hstep
          have HX := Lib.hid hxw
          have HXL := Lib.hid hxl
          clear hs2 hstep hxw hxl hv0 hkey hv hat hF ex hb
          go_wp2_with (first
            | (refine wpList_count rfl _ _ _ rfl hF2 (by unfold maxLen; omega) x HXL.out (v0 + 1) (by omega) rfl rfl rfl ?_; intro w3 hF3 hg3; go_frame))
          have hrg3 := hrg2.kept hg3 (fun e => by have := Option.some.inj e; omega) (fun e => by have := Option.some.inj e; omega)
          go_roundw
          case rel => exact ⟨_, cnt2, q2 + 1, hrg3, by omega, hF3.congr HST.out, hb2'.grown hg3 (by rw [HGB.out]; exact hb2'.size) (fun j hj => by cases hj; exact Nat.le_refl _)⟩
          case measure => rw [hrg3.left_eq, hrg.left_eq]; exact hlt2
    · obtain rfl : N = i := by omega
      have t1 : decide ((N : Int) < (N : Int)) = false := decide_eq_false (by omega)
      have t2 : decide (N < N) = false := decide_eq_false (by omega)
      have hFE := (hF.mono (m := 65536) (by omega)).congr (g := fqW Ss) (fun P => by rw [List.take_of_length_le (by rw [HS.out.1]; exact Nat.le_refl _)])
      clear hF
      go_wp2
      go_ret
      exact ⟨⟨rfl, hFE⟩, hb⟩
end Go.Proofs.Ytcmbpniikcghfaa
