/-
  A search for the cheapest token with rising distances and lengths: plain facts of no program. X: the window, D: bytes of the dictionary. The contract of the package's countEqual: the numbers of equal bytes, by distance, for one position less. The contract of the package's firstToken: the token that costs least at a position.
-/
import Derived.Test.YtcmbpniikcghfaaRCheK
import Derived.Test.YtcmbpniikcghfaaPCost
import Derived.Test.YtcmbpniikcghfaaGTk
import Derived.Test.YtcmbpniikcghfaaRSub
import Derived.BigQuiet
import Derived.Deep.RegionLaw
namespace Go.Proofs.Ytcmbpniikcghfaa

/-- a is the first of all that fit and have at most n bytes -/
def Fr (X : List UInt8) (D : Nat) (K : Nat → Nat) (i n : Nat) (a : Tk) : Prop := fits X (D + i) a ∧ a.len ≤ n ∧ ∀ b, fits X (D + i) b → b.len ≤ n → ahead K i a b
/-- no match at a lesser distance has more than n bytes -/
def Shorter (X : List UInt8) (h d n : Nat) : Prop := ∀ e m, e < d → fits X h (.mat e m) → m ≤ n
theorem fr_start (X : List UInt8) (D : Nat) (K : Nat → Nat) (i : Nat) (h : D + i < X.length) : Fr X D K i 2 (.lit (X.getD (D + i) 0)) := by
  refine ⟨⟨h, rfl⟩, by show 1 ≤ 2; omega, fun b hb hl => ?_⟩
  cases b with
  | lit x => rw [hb.2]; exact ahead_refl _ _ _
  | mat e m =>
    have := hb.2.1
    have hl' : m ≤ 2 := hl
    omega
theorem sh_start (X : List UInt8) (h n : Nat) : Shorter X h 1 n := by
  intro e m he hf
  have := hf.1.1
  omega
theorem log2_up (a b : Nat) (h1 : 1 ≤ a) (h : a ≤ b) : Nat.log2 a ≤ Nat.log2 b := by
  by_cases hc : Nat.log2 a ≤ Nat.log2 b
  · exact hc
  · have h2 : b < 2 ^ Nat.log2 a := Nat.lt_of_lt_of_le Nat.lt_log2_self (Nat.pow_le_pow_right (by omega) (by omega))
    have h3 := Nat.log2_self_le (n := a) (by omega)
    omega
theorem cost_far (K : Nat → Nat) (i d e n : Nat) (h1 : 1 ≤ d) (h : d ≤ e) : totalT K i (.mat d n) ≤ totalT K i (.mat e n) := by
  have := log2_up d e h1 h
  show 1 + (2 * Nat.log2 d + 1) + (2 * Nat.log2 (n - 2) + 1) + K (i + n) ≤ 1 + (2 * Nat.log2 e + 1) + (2 * Nat.log2 (n - 2) + 1) + K (i + n)
  omega
theorem fr_take {X : List UInt8} {D : Nat} {K : Nat → Nat} {i n d : Nat} {a : Tk} (h : Fr X D K i n a) (hs : Shorter X (D + i) d n) (hf : fits X (D + i) (.mat d (n + 1))) (hc : totalT K i (.mat d (n + 1)) ≤ totalT K i a) : Fr X D K i (n + 1) (.mat d (n + 1)) := by
  obtain ⟨h1, h2, h3⟩ := h
  refine ⟨hf, Nat.le_refl _, fun b hb hl => ?_⟩
  by_cases hbn : b.len ≤ n
  · have g := h3 b hb hbn
    unfold ahead at g ⊢
    have e1 : (Tk.mat d (n + 1)).len = n + 1 := rfl
    rw [e1]
    omega
  · cases b with
    | lit x =>
      have := hf.2.1
      have e1 : (Tk.lit x).len = 1 := rfl
      rw [e1] at hbn
      omega
    | mat e m =>
      have hm : m = n + 1 := by
        have e1 : (Tk.mat e m).len = m := rfl
        rw [e1] at hbn hl
        omega
      subst hm
      have hde : d ≤ e := by
        by_cases hde : d ≤ e
        · exact hde
        · have := hs e (n + 1) (by omega) hb
          omega
      have hco := cost_far K i d e (n + 1) hf.1.1 hde
      unfold ahead
      have e1 : (Tk.mat d (n + 1)).dist = d := rfl
      have e2 : (Tk.mat e (n + 1)).dist = e := rfl
      have e3 : (Tk.mat d (n + 1)).len = n + 1 := rfl
      have e4 : (Tk.mat e (n + 1)).len = n + 1 := rfl
      rw [e1, e2, e3, e4]
      omega
theorem fr_keep {X : List UInt8} {D : Nat} {K : Nat → Nat} {i n d : Nat} {a : Tk} (h : Fr X D K i n a) (hs : Shorter X (D + i) d n) (hf : fits X (D + i) (.mat d (n + 1))) (hc : ¬ totalT K i (.mat d (n + 1)) ≤ totalT K i a) : Fr X D K i (n + 1) a := by
  obtain ⟨h1, h2, h3⟩ := h
  refine ⟨h1, by omega, fun b hb hl => ?_⟩
  by_cases hbn : b.len ≤ n
  · exact h3 b hb hbn
  · cases b with
    | lit x =>
      have := hf.2.1
      have e1 : (Tk.lit x).len = 1 := rfl
      rw [e1] at hbn
      omega
    | mat e m =>
      have hm : m = n + 1 := by
        have e1 : (Tk.mat e m).len = m := rfl
        rw [e1] at hbn hl
        omega
      subst hm
      have hde : d ≤ e := by
        by_cases hde : d ≤ e
        · exact hde
        · have := hs e (n + 1) (by omega) hb
          omega
      have hco := cost_far K i d e (n + 1) hf.1.1 hde
      exact .inl (by omega)
theorem sh_more {X : List UInt8} {h d n : Nat} (hs : Shorter X h d n) : Shorter X h d (n + 1) := fun e m he hf => Nat.le_succ_of_le (hs e m he hf)
theorem sh_next {X : List UInt8} {h d n m : Nat} (hs : Shorter X h d n) (hr : RepIs X h d m) (hd : 1 ≤ d ∧ d ≤ h) (hm : m ≤ n) : Shorter X h (d + 1) n := by
  intro e q he hf
  by_cases hed : e < d
  · exact hs e q hed hf
  · have : e = d := by omega
    subst this
    have := ((rep_fits hr hd q).1 hf).2
    omega
theorem fr_end {X : List UInt8} {D : Nat} {K : Nat → Nat} {i n : Nat} {a : Tk} (h : Fr X D K i n a) (hn : 2 ≤ n) (hs : Shorter X (D + i) (D + i + 1) n) : ∀ b, fits X (D + i) b → ahead K i a b := by
  intro b hb
  refine h.2.2 b hb ?_
  cases b with
  | lit x => show 1 ≤ n; omega
  | mat e m => exact hs e m (by have := hb.1.2; omega) hb
/-- the numbers of equal bytes before position h, by distance -/
def EqTab (X : List UInt8) (h : Nat) (E : List Nat) : Prop := E.length = X.length ∧ ∀ d, 1 ≤ d → d ≤ h → d < X.length → RepIs X h d (E.getD d 0)
theorem eq_start (X : List UInt8) : EqTab X X.length (List.replicate X.length 0) := by
  refine ⟨List.length_replicate, fun d _ _ hd => ?_⟩
  have e : (List.replicate X.length 0).getD d 0 = 0 := by
    rw [List.getD_eq_getElem?_getD, List.getElem?_replicate]
    split <;> rfl
  rw [e]
  exact ⟨Nat.le_refl _, fun k hk => absurd hk (Nat.not_lt_zero _), .inl rfl⟩
/-- the distances up to q are done for position h -/
def EqPart (X : List UInt8) (h q : Nat) (E : List Nat) : Prop := E.length = X.length ∧ ∀ d, 1 ≤ d → d ≤ h → d < X.length → RepIs X (if d ≤ q then h else h + 1) d (E.getD d 0)
theorem part_start {X : List UInt8} {h : Nat} {E : List Nat} (hE : EqTab X (h + 1) E) : EqPart X h 0 E := by
  refine ⟨hE.1, fun d h1 h2 h3 => ?_⟩
  rw [if_neg (by omega)]
  exact hE.2 d h1 (by omega) h3
theorem part_end {X : List UInt8} {h : Nat} {E : List Nat} (hE : EqPart X h h E) : EqTab X h E := by
  refine ⟨hE.1, fun d h1 h2 h3 => ?_⟩
  have := hE.2 d h1 h2 h3
  rw [if_pos h2] at this
  exact this
theorem getN_set (E : List Nat) (i v : Nat) (j : Nat) (h : j ≠ i) : (E.set i v).getD j 0 = E.getD j 0 := by
  rw [List.getD_eq_getElem?_getD, List.getD_eq_getElem?_getD, List.getElem?_set_ne (Ne.symm h)]
theorem getN_at (E : List Nat) (i v : Nat) (h : i < E.length) : (E.set i v).getD i 0 = v := by
  rw [List.getD_eq_getElem?_getD, List.getElem?_set_self h]
  rfl
theorem part_yes {X : List UInt8} {h q : Nat} {E : List Nat} (hE : EqPart X h q E) (_hq : q + 1 ≤ h) (_hh : h < X.length) (he : X.getD h 0 = X.getD (h - (q + 1)) 0) : EqPart X h (q + 1) (E.set (q + 1) (E.getD (q + 1) 0 + 1)) := by
  refine ⟨by rw [List.length_set]; exact hE.1, fun d h1 h2 h3 => ?_⟩
  by_cases hd : d = q + 1
  · subst hd
    rw [if_pos (Nat.le_refl _), getN_at E _ _ (by rw [hE.1]; exact h3)]
    have := hE.2 (q + 1) h1 h2 h3
    rw [if_neg (by omega)] at this
    obtain ⟨r1, r2, r3⟩ := this
    refine ⟨by omega, fun k hk => ?_, ?_⟩
    · cases k with
      | zero => exact he
      | succ k =>
        have := r2 k (by omega)
        rw [show h + (k + 1) = h + 1 + k by omega]
        exact this
    · rcases r3 with r3 | r3
      · exact .inl (by omega)
      · refine .inr ?_
        rw [show h + (E.getD (q + 1) 0 + 1) = h + 1 + E.getD (q + 1) 0 by omega]
        exact r3
  · rw [getN_set E _ _ d hd]
    have := hE.2 d h1 h2 h3
    by_cases hdq : d ≤ q
    · rw [if_pos hdq] at this
      rw [if_pos (by omega)]
      exact this
    · rw [if_neg hdq] at this
      rw [if_neg (by omega)]
      exact this
theorem part_no {X : List UInt8} {h q : Nat} {E : List Nat} (hE : EqPart X h q E) (hh : h < X.length) (he : X.getD h 0 ≠ X.getD (h - (q + 1)) 0) : EqPart X h (q + 1) (E.set (q + 1) 0) := by
  refine ⟨by rw [List.length_set]; exact hE.1, fun d h1 h2 h3 => ?_⟩
  by_cases hd : d = q + 1
  · subst hd
    rw [if_pos (Nat.le_refl _), getN_at E _ _ (by rw [hE.1]; exact h3)]
    exact ⟨by omega, fun k hk => absurd hk (Nat.not_lt_zero _), .inr he⟩
  · rw [getN_set E _ _ d hd]
    have := hE.2 d h1 h2 h3
    by_cases hdq : d ≤ q
    · rw [if_pos hdq] at this
      rw [if_pos (by omega)]
      exact this
    · rw [if_neg hdq] at this
      rw [if_neg (by omega)]
      exact this
end Go.Proofs.Ytcmbpniikcghfaa

namespace Go.Proofs.Ytcmbpniikcghfaa
open Go.RowKit

theorem byte_eq (x y : UInt8) : ((x.toNat : Int) == (y.toNat : Int)) = decide (x = y) := by
  rw [Bool.eq_iff_iff, beq_iff_eq, decide_eq_true_eq]
  constructor
  · intro h
    exact UInt8.toNat_inj.1 (by omega)
  · rintro rfl
    rfl
theorem num_row {w : World} {g : Nat} {C : List Nat} (r : Row w g 3 (nl C).toArray) (i : Nat) (h : i < C.length) : w.cell? ⟨g, i, none⟩ = some (.int .i64 ((C.getD i 0 : Nat) : Int)) := by
  rw [r.cell, List.getElem?_toArray, nl_get C i h]
theorem rep_le {X : List UInt8} {h d m : Nat} (hr : RepIs X h d m) : m ≤ X.length := by have := hr.1; omega
set_option maxRecDepth 100000 in
set_option maxHeartbeats 8000000 in
theorem counteq_any (X : List UInt8) (hX : X.length ≤ 1536) (n : Nat) (hn : n = X.length) (h : Nat) (hh : h < n) (E : List Nat) (hE : EqTab X (h + 1) E) (g ce : Nat) (A : Option Addr) (ca : Nat) (w : World) (hA : Sl w g A n (bl X)) (hr : Row w g 3 (nl E).toArray) :
    Calls Try.prog 38 #[.slice (some ⟨g, 0, none⟩) n ce, .slice A n ca, .int .i64 h] w fun e w' => e = .returned (.tuple #[]) ∧ (∃ E', EqTab X h E' ∧ Row w' g 3 (nl E').toArray) ∧ Below g w w' := by
  have hx1 : n ≤ 1536 := by omega
  have HX := Lib.hid (And.intro hn hX)
  have HA := Lib.hid hA
  have HE := Lib.hid hE
  clear hn hX hA hE
  have hgl := hr.lt
  go_enter Try.func38, Try.ntmps38
  go_upto_region 1 with (fail)
  go_loopw [6] (fun i wr => ∃ (q : Nat) (F : List Nat), q ≤ h ∧ i = .int .i64 ((q : Int) + 1) ∧ Hid (EqPart X h q F) ∧ Row wr g 3 (nl F).toArray ∧ Below g w wr) (fun i _ => h + 1 - (intOf i).toNat)
  case atStart => exact ⟨0, E, Nat.zero_le _, rfl, Lib.hid (part_start HE.out), hr, Below.refl _ _⟩
  case round =>
    clear hr hgl HE
    obtain ⟨q, F, hq, rfl, HP, hr, hb⟩ := hrel
    by_cases hqh : q < h
    · obtain ⟨ad, rfl, hbl, k1⟩ := (HA.out.below hb).byte hh
      obtain ⟨p, hp⟩ : ∃ p, h = p + (q + 1) := ⟨h - (q + 1), by omega⟩
      obtain ⟨ad2, e2, _, k2⟩ := (HA.out.below hb).byte (k := p) (by omega)
      injection e2 with e2
      subst e2
      have hfl : q + 1 < F.length := by rw [HP.out.1, ← HX.out.1]; omega
      have hrp := HP.out.2 (q + 1) (by omega) (by omega) (by rw [← HX.out.1]; omega)
      have hrl := rep_le hrp
      rw [← HX.out.1] at hrl
      have k3 := num_row hr (q + 1) hfl
      have k4 := hr.free (q + 1)
      obtain ⟨u, hu⟩ : ∃ u, u = F.getD (q + 1) 0 := ⟨_, rfl⟩
      rw [← hu] at k3 hrl
      have hbe := byte_eq (X.getD h 0) (X.getD p 0)
      have hph : h - (q + 1) = p := by omega
      obtain ⟨x, hx⟩ : ∃ x : Int, x = ((X.getD h 0).toNat : Int) := ⟨_, rfl⟩
      obtain ⟨y, hy⟩ : ∃ y : Int, y = ((X.getD p 0).toNat : Int) := ⟨_, rfl⟩
      rw [← hx] at k1 hbe
      rw [← hy] at k2 hbe
      have hpq : p ≤ h := by omega
      have HPE := Lib.hid hp
      have hsub : IntKind.i64.wrap ((h : Int) - ((q : Int) + 1)) = (p : Int) := by rw [IntKind.wrap_i64]; omega
      have HU := Lib.hid hu
      have t1 : decide ((q : Int) + 1 ≤ (h : Int)) = true := decide_eq_true (by omega)
      have t2 : decide ((q : Int) < (h : Int)) = true := decide_eq_true (by omega)
      have t3 : decide (q < h) = true := decide_eq_true hqh
      by_cases he : X.getD h 0 = X.getD p 0
      · rw [decide_eq_true he] at hbe
        have HN := Lib.hid (part_yes HP.out (by omega) (by rw [← HX.out.1]; exact hh) (by rw [hph]; exact he))
        clear hrp hu he hx hy hph hbl hp
        have hpi : (p : Int) < (n : Int) := by omega
        have hpn : p < n := by omega
        go_upto_region 3 with (fail)
        have d1 : wr.drew.cell? (ad.add h) = some (.int .u8 x) := k1
        have d2 : wr.drew.cell? (ad.add p) = some (.int .u8 y) := k2
        have d3 : wr.drew.cell? ⟨g, q + 1, none⟩ = some (.int .i64 (u : Int)) := k3
        have d4 := hr.drew.free (q + 1)
        clear k1 k2 k3 k4
        go_region_law (fail)
        all_goals
          go_wp2
          go_roundw
          case rel =>
            have r2 := hr.drew.put (q + 1) (.int .i64 ((u + 1 : Nat) : Int))
            rw [nl_put] at r2
            have hn2 := HN.out
            rw [← HU.out] at hn2
            exact ⟨q + 1, _, by omega, by go_num, Lib.hid hn2, r2, hb.drew.setCell (p := ⟨g, q + 1, none⟩) (Nat.le_refl _) _⟩
          case measure => simp [intOf]; omega
      · rw [decide_eq_false he] at hbe
        have HN := Lib.hid (part_no HP.out (by rw [← HX.out.1]; exact hh) (by rw [hph]; exact he))
        clear hrp hu he hx hy hph hbl hp
        have hpi : (p : Int) < (n : Int) := by omega
        have hpn : p < n := by omega
        go_upto_region 3 with (fail)
        have d1 : wr.drew.cell? (ad.add h) = some (.int .u8 x) := k1
        have d2 : wr.drew.cell? (ad.add p) = some (.int .u8 y) := k2
        have d3 : wr.drew.cell? ⟨g, q + 1, none⟩ = some (.int .i64 (u : Int)) := k3
        have d4 := hr.drew.free (q + 1)
        clear k1 k2 k3 k4
        go_region_law (fail)
        all_goals
          go_wp2
          go_roundw
          case rel =>
            have r2 := hr.drew.put (q + 1) (.int .i64 ((0 : Nat) : Int))
            rw [nl_put] at r2
            exact ⟨q + 1, _, by omega, by go_num, HN, r2, hb.drew.setCell (p := ⟨g, q + 1, none⟩) (Nat.le_refl _) _⟩
          case measure => simp [intOf]; omega
    · obtain rfl : h = q := by omega
      have t1 : decide ((h : Int) + 1 ≤ (h : Int)) = false := decide_eq_false (by omega)
      have t2 : decide ((h : Int) < (h : Int)) = false := decide_eq_false (by omega)
      have t3 : decide (h < h) = false := decide_eq_false hqh
      go_wp2
      go_end0
      exact ⟨rfl, ⟨F, part_end HP.out, hr⟩, hb⟩
end Go.Proofs.Ytcmbpniikcghfaa

namespace Go.Proofs.Ytcmbpniikcghfaa
open Go.RowKit

attribute [local go_sem ↓] wp_store_act wp_load_flat run_load_flat wp_store_flat
attribute [local go_sem] flat_litF blkOf_ptr cells_agg sizedF sizeTF aggF flat_flt isRow_set_eq rowAt_set_eq sizedTk sizeTTk aggTk flat_tk
theorem results_row_tmp1 {P : Program} {fn : Func} {p q : Tmp} {t : TypeId} (h : fn.results = #[.cell p t, .tmp q]) (tmps : Array Value) (w : World)
    (g : Nat) (a : TypeId) (cs : Array Value) (d : TypeDesc) (x : Value)
    (hp : tmps.getD p undef = .pointer (some ⟨g, 0, none⟩)) (hq : tmps.getD q undef = x) (hg : Row w g a cs)
    (hu : P.underlying t = some d) (hd : (match d with | .struct _ | .array _ _ => true | _ => false) = true) (hi : (P.info? t).map (·.size) = some cs.size) :
    (results fn tmps).run P w = .ok (.tuple #[.agg cs, x]) w := by
  have hp' : tmps[p]?.getD undef = .pointer (some ⟨g, 0, none⟩) := by simpa using hp
  have hq' : tmps[q]?.getD undef = x := by simpa using hq
  simp [results, h, hp', hq', asAddr, run_loadVar_row w g a t cs (0, 0) d hg hu hd hi]
/-- the cells of a token -/
def tkz (t : Tk) (x : Int) : Array Value := #[.int .i64 t.z.1, .int .i64 t.z.2.1, .int .u8 x]
/-- the numbers of a part of a row, as cells -/
theorem part_row {w : World} {g o : Nat} {C : List Nat} (r : Row w g 3 (nl C).toArray) (i : Nat) (h : o + i < C.length) : w.cell? ⟨g, o + i, none⟩ = some (.int .i64 ((C.getD (o + i) 0 : Nat) : Int)) := num_row r (o + i) h

theorem mat_total (K : Nat → Nat) (p d n : Nat) : totalT K p (.mat d n) = (Tk.mat d n).cost + K (p + n) := rfl
set_option maxRecDepth 100000 in
set_option maxHeartbeats 16000000 in
/-- X: the window; p: the position in the data; E: the numbers of equal bytes by distance; K: what the best lists cost -/
theorem firsttok_any (X : List UInt8) (D N : Nat) (hX : X.length = D + N) (hN2 : N ≤ 1024) (hD2 : D ≤ 512) (p : Nat) (hp : p < N) (E : List Nat) (hE : EqTab X (D + p) E) (C : List Nat) (hC : C.length = N + 1) (K : Nat → Nat) (hK : ∀ j, p < j → j ≤ N → C.getD j 0 = K j) (hK9 : ∀ j, p < j → j ≤ N → K j ≤ 9216) (x : UInt8) (hx : x = X.getD (D + p) 0)
    (ge gc ce cc Q M : Nat) (hQ : Q = D + p + 1) (hM : M = N + 1 - p) (w : World) (hre : Row w ge 3 (nl E).toArray) (hrc : Row w gc 3 (nl C).toArray) (y : Int) (hy : y = (x.toNat : Int)) :
    Calls Try.prog 39 #[.int .u8 y, .slice (some ⟨ge, 0, none⟩) Q ce, .slice (some ⟨gc, p, none⟩) M cc] w fun e w' =>
      (∃ (a : Tk) (x1 x2 z : Int) (s : Nat), fits X (D + p) a ∧ (∀ b, fits X (D + p) b → ahead K p a b) ∧ s = totalT K p a ∧ s ≤ 9225 ∧ (x1 = a.z.1 ∧ x2 = a.z.2.1 ∧ z = (a.z.2.2.toNat : Int)) ∧ e = .returned (.tuple #[.agg #[.int .i64 x1, .int .i64 x2, .int .u8 z], .int .i64 (s : Int)])) ∧ Below w.heap.size w w' := by
  have HX := Lib.hid hX
  have HE := Lib.hid hE
  have HK := Lib.hid (And.intro hC (And.intro hK hK9))
  have hM1 : 2 ≤ M ∧ M ≤ 1025 := by omega
  obtain ⟨hM2, hM3⟩ := hM1
  have HM := Lib.hid (And.intro hQ hM)
  have hq1 : Q ≤ 1536 := by omega
  have k1 : w.cell? ⟨gc, p + 1, none⟩ = some (.int .i64 (K (p + 1) : Int)) := by
    have h := num_row hrc (p + 1) (by omega)
    rw [hK (p + 1) (by omega) (by omega)] at h
    exact h
  have hm4 : (1 : Int) < (M : Int) := by omega
  have hv9 := hK9 (p + 1) (by omega) (by omega)
  obtain ⟨v, hv⟩ : ∃ v, v = K (p + 1) := ⟨_, rfl⟩
  rw [← hv] at k1 hv9
  have HS : Hid (Fr X D K p 2 (.lit x) ∧ Shorter X (D + p) 1 2 ∧ 9 + v = totalT K p (.lit x)) := Lib.hid ⟨by rw [hx]; exact fr_start X D K p (by omega), sh_start _ _ _, by rw [hv]; rfl⟩
  have hco := cost_lit x
  unfold tcs at hco
  rw [← hy] at hco
  have HCO := Lib.hid hco
  have HY := Lib.hid hy
  have ww1 : IntKind.i64.wrap (9 + (v : Int)) = 9 + (v : Int) := pw _ (by omega)
  have hrel := hre.lt
  have hrcl := hrc.lt
  clear hX hE hC hK hK9 hQ hM hv hx hy hco
  go_enter Try.func39, Try.ntmps39
  go_upto_region 2 with (first
    | (refine wpList_store_row rfl 55 _ _ rfl (w.heap.size + 1) #[.int .i64 0, .int .i64 0, .int .u8 y] rfl rfl 55 #[.int .i64 0, .int .i64 0, .int .u8 0] (Row.newEq _ _ _ _ _ (by simp) rfl) cellsT rfl (all_tk _ _ _) ?_))
  refine wp_world (F := fun W => Row W w.heap.size 55 #[.int .i64 0, .int .i64 0, .int .u8 0] ∧ Row W (w.heap.size + 1) 55 #[.int .i64 0, .int .i64 0, .int .u8 y] ∧ Below w.heap.size w W) (by
    first
      | exact ⟨((Row.newEq _ _ _ _ _ rfl rfl).alloc _).rowFar (by omega) _, Row.row (Row.newEq _ _ _ _ _ (by simp) rfl) _, blw_row (((Below.refl _ _).alloc (Nat.le_refl _) _).alloc (by simp) _) (by omega) _⟩
      | exact ⟨(Row.newEq _ _ _ _ _ rfl rfl).alloc _, Row.newEq _ _ _ _ _ (by simp) rfl, ((Below.refl _ _).alloc (Nat.le_refl _) _).alloc (by simp) _⟩) ?_
  rintro W0 ⟨r6, r8, hb⟩
  have hkeep : ∀ W, Below W0.heap.size W0 W → W.cell? ⟨w.heap.size + 1, 0, none⟩ = some (.int .i64 0) ∧ W.cell? ⟨w.heap.size + 1, 1, none⟩ = some (.int .i64 0) ∧ W.cell? ⟨w.heap.size + 1, 2, none⟩ = some (.int .u8 y) ∧ W.cell? ⟨gc, p + 1, none⟩ = some (.int .i64 (v : Int)) := fun W h =>
    ⟨((r8.below h r8.lt).cell 0).trans rfl, ((r8.below h r8.lt).cell 1).trans rfl, ((r8.below h r8.lt).cell 2).trans rfl, (h.cell (p := ⟨gc, p + 1, none⟩) (Nat.lt_of_lt_of_le hrcl hb.size)).trans ((hb.cell (p := ⟨gc, p + 1, none⟩) hrcl).trans k1)⟩
  have HKP := Lib.hid hkeep
  clear hkeep k1
  have kk0 : Below W0.heap.size W0 W0.drew := (Below.refl _ _).drew
  go_region_held3 (fun W => W.cell? ⟨w.heap.size + 1, 0, none⟩ = some (.int .i64 0) ∧ W.cell? ⟨w.heap.size + 1, 1, none⟩ = some (.int .i64 0) ∧ W.cell? ⟨w.heap.size + 1, 2, none⟩ = some (.int .u8 y) ∧ W.cell? ⟨gc, p + 1, none⟩ = some (.int .i64 (v : Int)))
    (first
      | exact HKP.out _ kk0
      | exact HKP.out _ (up_call kk0 hb4))
    (first
      | (go_at_call 32; (with_reducible refine (HCO.out _).mono ?_); rintro e w4 ⟨rfl, hb4⟩))
  have kk := up_call kk0 hb4
  replace r6 := r6.below kk r6.lt
  replace r8 := r8.below kk r8.lt
  replace hb := up_call hb kk
  clear hb4 kk kk0 HKP W0
  go_upto_region 5 with (fail)
  go_loopw [9, 10, 11] (fun sv nv dv wr => ∃ (d n s : Nat) (a : Tk) (x1 x2 z : Int), 1 ≤ d ∧ d ≤ Q ∧ 2 ≤ n ∧ n ≤ N + 2 ∧ s ≤ 9225 ∧ sv = .int .i64 (s : Int) ∧ nv = .int .i64 (n : Int) ∧ dv = .int .i64 (d : Int) ∧ Hid (Fr X D K p n a ∧ Shorter X (D + p) d n ∧ s = totalT K p a) ∧ Hid (x1 = a.z.1 ∧ x2 = a.z.2.1 ∧ z = (a.z.2.2.toNat : Int)) ∧ Row wr w.heap.size 55 #[.int .i64 0, .int .i64 0, .int .u8 0] ∧ Row wr (w.heap.size + 1) 55 #[.int .i64 x1, .int .i64 x2, .int .u8 z] ∧ Below w.heap.size w wr) (fun _ _ dv _ => Q + 1 - (intOf dv).toNat)
  case atStart => exact ⟨1, 2, 9 + v, .lit x, 0, 0, y, Nat.le_refl _, by have := HM.out.1; omega, Nat.le_refl _, by omega, by omega, by go_num, rfl, rfl, HS, Lib.hid ⟨rfl, rfl, HY.out⟩, r6, r8, hb⟩
  case round =>
    clear r6 r8 hb HS HCO hv9 ww1
    obtain ⟨d, n, s, a, x1, x2, z, hd1, hdQ, hn2, hnN, hs, rfl, rfl, rfl, HF, HZ, r6, r8, hb⟩ := hrel
    by_cases hlt : d < Q
    · have hdp : d ≤ D + p := by have := HM.out.1; omega
      have hdX : d < X.length := by have := HX.out; omega
      have hrp := HE.out.2 d hd1 hdp hdX
      have hk := num_row hre d (by rw [HE.out.1]; exact hdX)
      obtain ⟨m, hm⟩ : ∃ m, m = E.getD d 0 := ⟨_, rfl⟩
      rw [← hm] at hrp hk
      have hmN : m ≤ N - p := by have h1 := hrp.1; have := HX.out; omega
      have HRP := Lib.hid hrp
      clear hm hrp hdX
      have hki : (d : Int) < (Q : Int) := by omega
      go_upto_region 7 with (fail)
      go_loopw [9, 10] (fun sv nv wr => ∃ (n s : Nat) (a : Tk) (x1 x2 z : Int), 2 ≤ n ∧ n ≤ N + 2 ∧ s ≤ 9225 ∧ sv = .int .i64 (s : Int) ∧ nv = .int .i64 (n : Int) ∧ Hid (Fr X D K p n a ∧ Shorter X (D + p) d n ∧ s = totalT K p a) ∧ Hid (x1 = a.z.1 ∧ x2 = a.z.2.1 ∧ z = (a.z.2.2.toNat : Int)) ∧ Row wr w.heap.size 55 #[.int .i64 0, .int .i64 0, .int .u8 0] ∧ Row wr (w.heap.size + 1) 55 #[.int .i64 x1, .int .i64 x2, .int .u8 z] ∧ Below w.heap.size w wr) (fun _ nv _ => N + 3 - (intOf nv).toNat)
      case atStart => exact ⟨n, s, a, x1, x2, z, hn2, hnN, hs, rfl, rfl, HF, HZ, r6, r8, hb⟩
      case round =>
        clear r6 r8 hb HF HZ hn2 hnN hs
        obtain ⟨n, s, a, x1, x2, z, hn2, hnN, hs, rfl, rfl, HF, HZ, r6, r8, hb⟩ := hrel
        have hkr := (hb.cell (p := ⟨ge, d, none⟩) hrel).trans hk
        by_cases hnm : n < m
        · have t1 : decide ((n : Int) < (m : Int)) = true := decide_eq_true (by omega)
          have t2 : decide (n < m) = true := decide_eq_true hnm
          have hf := (rep_fits HRP.out ⟨hd1, hdp⟩ (n + 1)).2 ⟨by omega, by omega⟩
          have hok : (Tk.mat d (n + 1)).ok := ⟨hd1, by omega, by omega, by omega⟩
          have hcm := cost_mat d (n + 1) hok
          have hcl := cost_le _ hok
          have htot := mat_total K p d (n + 1)
          obtain ⟨q, hq⟩ : ∃ q, q = (Tk.mat d (n + 1)).cost := ⟨_, rfl⟩
          rw [← hq] at hcm hcl htot
          have hu9 := HK.out.2.2 (p + (n + 1)) (by omega) (by omega)
          have hku : w.cell? ⟨gc, p + (n + 1), none⟩ = some (.int .i64 (K (p + (n + 1)) : Int)) := by
            have h := num_row hrc (p + (n + 1)) (by rw [HK.out.1]; omega)
            rw [HK.out.2.1 (p + (n + 1)) (by omega) (by omega)] at h
            exact h
          obtain ⟨u, hu⟩ : ∃ u, u = K (p + (n + 1)) := ⟨_, rfl⟩
          rw [← hu] at hu9 hku htot
          obtain ⟨cn, hcn⟩ : ∃ cn, cn = q + u := ⟨_, rfl⟩
          rw [← hcn] at htot
          have hcn9 : cn ≤ 9300 := by omega
          have HCM : Hid (∀ w : World, Calls Try.prog 32 #[.agg #[.int .i64 (d : Int), .int .i64 ((n : Int) + 1), .int .u8 0]] w fun e w' => e = .returned (.int .i64 (q : Int)) ∧ Below w.heap.size w w') := Lib.hid hcm
          have ww : IntKind.i64.wrap ((q : Int) + (u : Int)) = (cn : Int) := by rw [pw _ (by omega)]; omega
          have HT := Lib.hid (And.intro htot.symm hf)
          have hi1 : (n : Int) + 1 < (M : Int) := by have := HM.out.2; omega
          have hi2 : (0 : Int) ≤ (n : Int) + 1 := by omega
          have hi3 : n + 1 < M := by omega
          clear hcm hcl htot hq hu hcn hok hf
          go_upto_region 10 with (first
            | (refine wpList_store_row rfl 55 _ _ rfl wr.heap.size #[.int .i64 (d : Int), .int .i64 ((n : Int) + 1), .int .u8 0] rfl rfl 55 #[.int .i64 0, .int .i64 0, .int .u8 0] (Row.newEq _ _ _ _ _ rfl rfl) cellsT rfl (all_tk _ _ _) ?_))
          have hk1 := blw_new1 wr (.cells #[.int .i64 0, .int .i64 0, .int .u8 0] 55) #[.int .i64 (d : Int), .int .i64 ((n : Int) + 1), .int .u8 0]
          have hk2 := (Below.refl wr.heap.size wr).alloc (Nat.le_refl _) (.cells #[.int .i64 (d : Int), .int .i64 ((n : Int) + 1), .int .u8 0] 55)
          refine wp_world (F := fun W => Row W wr.heap.size 55 #[.int .i64 (d : Int), .int .i64 ((n : Int) + 1), .int .u8 0] ∧ Row W w.heap.size 55 #[.int .i64 0, .int .i64 0, .int .u8 0] ∧ Row W (w.heap.size + 1) 55 #[.int .i64 x1, .int .i64 x2, .int .u8 z] ∧ Below w.heap.size w W) (by
            first
              | exact ⟨row_new1 _ _ _ _, r6.below hk1 r6.lt, r8.below hk1 r8.lt, up_call hb hk1⟩
              | exact ⟨Row.new _ _ _, r6.below hk2 r6.lt, r8.below hk2 r8.lt, up_call hb hk2⟩) ?_
          have hg8 : w.heap.size + 1 < wr.heap.size := r8.lt
          generalize wr.heap.size = g at hg8
          clear hk1 hk2 r6 r8 hb hkr wr
          rintro W1 ⟨rt, r6, r8, hb⟩
          have hkeep : ∀ W, Below W1.heap.size W1 W → W.cell? ⟨g, 0, none⟩ = some (.int .i64 (d : Int)) ∧ W.cell? ⟨g, 1, none⟩ = some (.int .i64 ((n : Int) + 1)) ∧ W.cell? ⟨g, 2, none⟩ = some (.int .u8 0) ∧ W.cell? ⟨gc, p + (n + 1), none⟩ = some (.int .i64 (u : Int)) := fun W h =>
            ⟨((rt.below h rt.lt).cell 0).trans rfl, ((rt.below h rt.lt).cell 1).trans rfl, ((rt.below h rt.lt).cell 2).trans rfl, (h.cell (p := ⟨gc, p + (n + 1), none⟩) (Nat.lt_of_lt_of_le hrcl hb.size)).trans ((hb.cell (p := ⟨gc, p + (n + 1), none⟩) hrcl).trans hku)⟩
          have HKP := Lib.hid hkeep
          clear hkeep hku
          have kk0 : Below W1.heap.size W1 W1.drew := (Below.refl _ _).drew
          go_region_held3 (fun W => W.cell? ⟨g, 0, none⟩ = some (.int .i64 (d : Int)) ∧ W.cell? ⟨g, 1, none⟩ = some (.int .i64 ((n : Int) + 1)) ∧ W.cell? ⟨g, 2, none⟩ = some (.int .u8 0) ∧ W.cell? ⟨gc, p + (n + 1), none⟩ = some (.int .i64 (u : Int)))
            (first
              | exact HKP.out _ kk0
              | exact HKP.out _ (up_call kk0 hb4))
            (first
              | (go_at_call 32; (with_reducible refine (HCM.out _).mono ?_); rintro e w4 ⟨rfl, hb4⟩))
          have kk := up_call kk0 hb4
          replace rt := rt.below kk rt.lt
          replace r6 := r6.below kk r6.lt
          replace r8 := r8.below kk r8.lt
          replace hb := up_call hb kk
          have c0 := (rt.cell 0).trans rfl
          have c1 := (rt.cell 1).trans rfl
          have c2 := (rt.cell 2).trans rfl
          clear hb4 kk kk0 HKP W1 HCM ww t1 t2 hi1 hi2 hi3
          by_cases hle : cn ≤ s
          · have t3 : decide ((cn : Int) ≤ (s : Int)) = true := decide_eq_true (by omega)
            have t4 : decide (cn ≤ s) = true := decide_eq_true hle
            have HTK := Lib.hid (fr_take HF.out.1 HF.out.2.1 HT.out.2 (by rw [← HT.out.1, ← HF.out.2.2]; exact hle))
            go_wp2_with (first
              | (refine wpList_load_row rfl 55 _ rfl g rfl 55 #[.int .i64 (d : Int), .int .i64 ((n : Int) + 1), .int .u8 0] (0, 0) _ rt Try.underlying55 rfl cellsT ?_)
              | (refine wpList_store_row rfl 55 _ _ rfl (w.heap.size + 1) #[.int .i64 (d : Int), .int .i64 ((n : Int) + 1), .int .u8 0] rfl rfl 55 #[.int .i64 x1, .int .i64 x2, .int .u8 z] r8 cellsT rfl (all_tk _ _ _) ?_))
            go_roundw
            case rel => exact ⟨n + 1, cn, .mat d (n + 1), d, ((n + 1 : Nat) : Int), 0, by omega, by omega, by omega, rfl, by go_num, Lib.hid ⟨HTK.out, sh_more HF.out.2.1, HT.out.1⟩, Lib.hid ⟨rfl, rfl, rfl⟩, r6.rowFar (by omega) _, Row.row r8 _, blw_row hb (by omega) _⟩
            case measure => simp [intOf]; omega
          · have t3 : decide ((cn : Int) ≤ (s : Int)) = false := decide_eq_false (by omega)
            have t4 : decide (cn ≤ s) = false := decide_eq_false hle
            have HTK := Lib.hid (fr_keep HF.out.1 HF.out.2.1 HT.out.2 (by rw [← HT.out.1, ← HF.out.2.2]; exact hle))
            go_wp2
            go_roundw
            case rel => exact ⟨n + 1, s, a, x1, x2, z, by omega, by omega, by omega, rfl, by go_num, Lib.hid ⟨HTK.out, sh_more HF.out.2.1, HF.out.2.2⟩, HZ, r6, r8, hb⟩
            case measure => simp [intOf]; omega
        · have t1 : decide ((n : Int) < (m : Int)) = false := decide_eq_false (by omega)
          have t2 : decide (n < m) = false := decide_eq_false hnm
          have HSN := Lib.hid (sh_next HF.out.2.1 HRP.out ⟨hd1, hdp⟩ (by omega))
          go_wp2
          go_roundw
          case rel => exact ⟨d + 1, n, s, a, x1, x2, z, by omega, by omega, by omega, by omega, by omega, rfl, rfl, by go_num, Lib.hid ⟨HF.out.1, HSN.out, HF.out.2.2⟩, HZ, r6, r8, hb⟩
          case measure => simp [intOf]; omega
    · obtain rfl : Q = d := by omega
      have hend := fr_end HF.out.1 hn2 (by have h := HF.out.2.1; rw [HM.out.1] at h; exact h)
      have HEN := Lib.hid hend
      clear hend
      go_wp2_with (first
        | (refine wpList_load_row rfl 55 _ rfl (w.heap.size + 1) rfl 55 #[.int .i64 x1, .int .i64 x2, .int .u8 z] (0, 0) _ r8 Try.underlying55 rfl cellsT ?_)
        | (refine wpList_store_row rfl 55 _ _ rfl w.heap.size #[.int .i64 x1, .int .i64 x2, .int .u8 z] rfl rfl 55 #[.int .i64 0, .int .i64 0, .int .u8 0] r6 cellsT rfl (all_tk _ _ _) ?_))
      refine bodyPost_ret (results_row_tmp1 Try.results39 _ _ w.heap.size 55 #[.int .i64 x1, .int .i64 x2, .int .u8 z] _ _ rfl rfl (Row.row r6 _) Try.underlying55 rfl (by rw [tcs0_size]; exact cellsT)) rfl ?_
      exact ⟨⟨a, x1, x2, z, s, HF.out.1.1, HEN.out, HF.out.2.2, hs, HZ.out, rfl⟩, blw_row hb (Nat.le_refl _) _⟩
end Go.Proofs.Ytcmbpniikcghfaa
