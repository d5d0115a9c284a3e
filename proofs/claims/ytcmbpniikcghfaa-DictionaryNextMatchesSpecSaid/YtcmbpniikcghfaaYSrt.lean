/-
  The order of segments, as the program compares them: cmp.Compare, cmp.Or, the closure that is handed to the sort. The sort of the segments, by the library's contract.
-/
import Derived.Test.YtcmbpniikcghfaaYFrq
import Derived.Test.YtcmbpniikcghfaaYLay
import Derived.Sort.Grow
import Derived.Sort.OwnSorted
namespace Go.Proofs.Ytcmbpniikcghfaa
open Go.RowKit Go.Maps Go.Sort

def cmpN (a b : Nat) : Int := if a < b then -1 else if b < a then 1 else 0
def cmpS (P Q : List UInt8) : Int := if ltS P Q = true then -1 else if ltS Q P = true then 1 else 0
def orI (x y : Int) : Int := if x = 0 then y else x
def cfF (f : List UInt8 → Nat) (P Q : List UInt8) : Int := orI (cmpN (f Q) (f P)) (cmpS P Q)

set_option maxRecDepth 100000 in
theorem nan_int (x : Int) (w : World) : Calls Try.prog 54 #[.int .i64 x] w fun e w' => e = .returned (.bool false) ∧ w' = w := by
  go_enter Try.func54, Try.ntmps54
  go_wp2
  go_ret
  exact ⟨by simp, rfl⟩
set_option maxRecDepth 100000 in
theorem nan_string (x : ByteArray) (w : World) : Calls Try.prog 55 #[.string x] w fun e w' => e = .returned (.bool false) ∧ w' = w := by
  go_enter Try.func55, Try.ntmps55
  go_wp2
  go_ret
  exact ⟨by simp, rfl⟩
set_option maxRecDepth 100000 in
set_option maxHeartbeats 2000000 in
theorem cmp_int (a b : Nat) (w : World) : Calls Try.prog 47 #[.int .i64 a, .int .i64 b] w fun e w' => e = .returned (.int .i64 (cmpN a b)) ∧ w' = w := by
  have HN := Lib.hid nan_int
  obtain ⟨r, hr⟩ : ∃ r, r = cmpN a b := ⟨_, rfl⟩
  rw [← hr]
  rcases Nat.lt_trichotomy a b with h | h | h
  · have t1 : decide ((a : Int) < (b : Int)) = true := decide_eq_true (by omega)
    have t2 : decide (a < b) = true := decide_eq_true h
    have hR : r = -1 := by rw [hr]; unfold cmpN; rw [if_pos h]
    have HR := Lib.hid hR
    clear hr hR
    go_enter Try.func47, Try.ntmps47
    go_wp2_with (first | (go_at_call 54; refine (HN.out _ _).mono ?_; rintro e w1 ⟨rfl, rfl⟩))
    go_ret
    exact ⟨by rw [HR.out]; rfl, rfl⟩
  · have t1 : decide ((a : Int) < (b : Int)) = false := decide_eq_false (by omega)
    have t2 : decide (a < b) = false := decide_eq_false (by omega)
    have t3 : decide ((b : Int) < (a : Int)) = false := decide_eq_false (by omega)
    have t4 : decide (b < a) = false := decide_eq_false (by omega)
    have hR : r = 0 := by rw [hr]; unfold cmpN; rw [if_neg (by omega), if_neg (by omega)]
    have HR := Lib.hid hR
    clear hr hR h
    go_enter Try.func47, Try.ntmps47
    go_wp2_with (first | (go_at_call 54; refine (HN.out _ _).mono ?_; rintro e w1 ⟨rfl, rfl⟩))
    go_ret
    exact ⟨by rw [HR.out]; rfl, rfl⟩
  · have t1 : decide ((a : Int) < (b : Int)) = false := decide_eq_false (by omega)
    have t2 : decide (a < b) = false := decide_eq_false (by omega)
    have t3 : decide ((b : Int) < (a : Int)) = true := decide_eq_true (by omega)
    have t4 : decide (b < a) = true := decide_eq_true (by omega)
    have hR : r = 1 := by rw [hr]; unfold cmpN; rw [if_neg (by omega), if_pos h]
    have HR := Lib.hid hR
    clear hr hR h
    go_enter Try.func47, Try.ntmps47
    go_wp2_with (first | (go_at_call 54; refine (HN.out _ _).mono ?_; rintro e w1 ⟨rfl, rfl⟩))
    go_ret
    exact ⟨by rw [HR.out]; rfl, rfl⟩
set_option maxRecDepth 100000 in
set_option maxHeartbeats 2000000 in
theorem cmp_string (P Q : List UInt8) (w : World) : Calls Try.prog 48 #[.string ⟨P.toArray⟩, .string ⟨Q.toArray⟩] w fun e w' => e = .returned (.int .i64 (cmpS P Q)) ∧ w' = w := by
  have HN := Lib.hid nan_string
  obtain ⟨r, hr⟩ : ∃ r, r = cmpS P Q := ⟨_, rfl⟩
  rw [← hr]
  have hg := gtS P Q
  by_cases h : ltS P Q = true
  · have hR : r = -1 := by rw [hr]; unfold cmpS; rw [if_pos h]
    have t1 : Op.bytesLess P Q = true := h
    have HR := Lib.hid hR
    clear hr hR h hg
    go_enter Try.func48, Try.ntmps48
    go_wp2_with (first | (go_at_call 55; refine (HN.out _ _).mono ?_; rintro e w1 ⟨rfl, rfl⟩))
    go_ret
    exact ⟨by rw [HR.out]; rfl, rfl⟩
  · have h : ltS P Q = false := by rw [← Bool.not_eq_true]; exact h
    have t1 : Op.bytesLess P Q = false := h
    rw [h, Bool.false_or] at hg
    by_cases h2 : ltS Q P = true
    · have hR : r = 1 := by rw [hr]; unfold cmpS; rw [h, if_neg (by decide), if_pos h2]
      rw [h2] at hg
      have t2 : (P == Q) = false := by simpa using hg
      have HR := Lib.hid hR
      clear hr hR h h2 hg
      go_enter Try.func48, Try.ntmps48
      go_wp2_with (first | (go_at_call 55; refine (HN.out _ _).mono ?_; rintro e w1 ⟨rfl, rfl⟩))
      go_ret
      exact ⟨by rw [HR.out]; rfl, rfl⟩
    · have h2 : ltS Q P = false := by rw [← Bool.not_eq_true]; exact h2
      have hR : r = 0 := by rw [hr]; unfold cmpS; rw [h, h2]; rfl
      rw [h2] at hg
      have t2 : (P == Q) = true := by simpa using hg
      have HR := Lib.hid hR
      clear hr hR h h2 hg
      go_enter Try.func48, Try.ntmps48
      go_wp2_with (first | (go_at_call 55; refine (HN.out _ _).mono ?_; rintro e w1 ⟨rfl, rfl⟩))
      go_ret
      exact ⟨by rw [HR.out]; rfl, rfl⟩
set_option maxRecDepth 100000 in
set_option maxHeartbeats 2000000 in
theorem or_int (x y : Int) (g : Nat) (w : World) (h0 : w.cell? ⟨g, 0, none⟩ = some (.int .i64 x)) (h1 : w.cell? ⟨g, 1, none⟩ = some (.int .i64 y)) :
    Calls Try.prog 46 #[.slice (some ⟨g, 0, none⟩) 2 2] w fun e w' => e = .returned (.int .i64 (orI x y)) ∧ w' = w := by
  obtain ⟨r, hr⟩ : ∃ r, r = orI x y := ⟨_, rfl⟩
  rw [← hr]
  by_cases hx : x = 0
  · have hR : r = y := by rw [hr]; unfold orI; rw [if_pos hx]
    have t1 : (x == 0) = true := beq_iff_eq.2 hx
    have t2 : (x != 0) = false := by rw [bne, t1]; rfl
    have HX := Lib.hid hx
    by_cases hy : y = 0
    · have t3 : (y == 0) = true := beq_iff_eq.2 hy
      have t4 : (y != 0) = false := by rw [bne, t3]; rfl
      have HR := Lib.hid (hR.trans hy)
      clear hr hR hx hy
      go_enter Try.func46, Try.ntmps46
      go_upto_region 3 with (fail)
      refine wp_loop_rounds 3 ?_
      rw [rounds_succ]
      go_wp2
      rw [rounds_succ]
      go_wp2
      rw [rounds_succ]
      go_wp2
      go_ret
      exact ⟨by rw [HR.out]; rfl, rfl⟩
    · have t3 : (y == 0) = false := beq_eq_false_iff_ne.2 hy
      have t4 : (y != 0) = true := by rw [bne, t3]; rfl
      have HR := Lib.hid hR
      clear hr hR hx hy
      go_enter Try.func46, Try.ntmps46
      go_upto_region 3 with (fail)
      refine wp_loop_rounds 3 ?_
      rw [rounds_succ]
      go_wp2
      rw [rounds_succ]
      go_wp2
      go_ret
      exact ⟨by rw [HR.out]; rfl, rfl⟩
  · have hR : r = x := by rw [hr]; unfold orI; rw [if_neg hx]
    have t1 : (x == 0) = false := beq_eq_false_iff_ne.2 hx
    have t2 : (x != 0) = true := by rw [bne, t1]; rfl
    have HR := Lib.hid hR
    clear hr hR hx
    go_enter Try.func46, Try.ntmps46
    go_upto_region 3 with (fail)
    refine wp_loop_rounds 3 ?_
    rw [rounds_succ]
    go_wp2
    go_ret
    exact ⟨by rw [HR.out]; rfl, rfl⟩

set_option maxRecDepth 100000 in
set_option maxHeartbeats 4000000 in
/-- the closure that the sort is handed -/
theorem closure_any (f : List UInt8 → Nat) (n gB g3 : Nat) (P Q : List UInt8) (hP : P.length ≤ maxLen) (hQ : Q.length ≤ maxLen) (W : World) (hr : Row W g3 69 #[.map (some gB)]) (hF : Fm W gB n f) :
    Calls Try.prog 45 #[.string ⟨P.toArray⟩, .string ⟨Q.toArray⟩, .pointer (some ⟨g3, 0, none⟩)] W fun e w' => e = .returned (.int .i64 (cfF f P Q)) ∧ ∃ q os, w' = grow (W.drewN q) os := by
  have k0 : W.cell? ⟨g3, 0, none⟩ = some (.map (some gB)) := (hr.cell 0).trans rfl
  have l1 := hF.look P hP
  have l2 := hF.look Q hQ
  obtain ⟨a, ha⟩ : ∃ a, a = f P := ⟨_, rfl⟩
  obtain ⟨b, hb⟩ : ∃ b, b = f Q := ⟨_, rfl⟩
  rw [← ha] at l1
  rw [← hb] at l2
  have hc1 := cmp_int b a
  have hc2 := cmp_string P Q
  have hc3 := or_int (cmpN b a) (cmpS P Q)
  obtain ⟨x, hx⟩ : ∃ x, x = cmpN b a := ⟨_, rfl⟩
  obtain ⟨y, hy⟩ : ∃ y, y = cmpS P Q := ⟨_, rfl⟩
  rw [← hx] at hc1 hc3
  rw [← hy] at hc2 hc3
  have hR : cfF f P Q = orI x y := by unfold cfF; rw [hx, hy, ha, hb]
  obtain ⟨z, hz⟩ : ∃ z, z = orI x y := ⟨_, rfl⟩
  rw [← hz] at hc3
  rw [hR, ← hz]
  have HC1 := Lib.hid hc1
  have HC2 := Lib.hid hc2
  have HC3 := Lib.hid hc3
  clear hc1 hc2 hc3 ha hb hx hy hz hR hr hF hP hQ
  go_enter Try.func45, Try.ntmps45
  go_wp2_with (first
    | (go_at_call 47; refine (HC1.out _).mono ?_; rintro e w1 ⟨rfl, rfl⟩)
    | (go_at_call 48; refine (HC2.out _).mono ?_; rintro e w1 ⟨rfl, rfl⟩)
    | (go_at_call 46; refine (HC3.out _ _ (((Row.new _ _ _).cell 0).trans rfl) (((Row.new _ _ _).cell 1).trans rfl)).mono ?_; rintro e w1 ⟨rfl, rfl⟩))
  go_ret
  exact ⟨rfl, 0, #[_], alloc_eq_grow _ _⟩
end Go.Proofs.Ytcmbpniikcghfaa

namespace Go.Proofs.Ytcmbpniikcghfaa
open Go.RowKit Go.Maps Go.Sort Go.Shelf
open Go.Proofs (encStr)

/-- a segment's bytes, with a bound -/
abbrev Sg := {l : List UInt8 // l.length ≤ 64}
instance : Inhabited Sg := ⟨⟨[], Nat.zero_le _⟩⟩
def encG (s : Sg) : Value := encStr s.1
def cfG (f : List UInt8 → Nat) (x y : Sg) : Int := cfF f x.1 y.1
/-- Q comes behind P -/
def aftP (f : List UInt8 → Nat) (P Q : List UInt8) : Prop := aftF (f Q) Q (f P) P
theorem ltG (f : List UInt8 → Nat) (x y : Sg) : ltOf (cfG f) x y = true ↔ aftP f x.1 y.1 := by
  unfold ltOf cfG cfF aftP aftF
  rw [decide_eq_true_eq]
  obtain ⟨a, ha⟩ : ∃ a, a = f x.1 := ⟨_, rfl⟩
  obtain ⟨b, hb⟩ : ∃ b, b = f y.1 := ⟨_, rfl⟩
  rw [← ha, ← hb]
  unfold orI cmpN cmpS
  rcases Nat.lt_trichotomy b a with h | h | h
  · rw [if_pos h, if_neg (show ¬ (-1 : Int) = 0 by decide)]
    exact ⟨fun _ => .inl h, fun _ => by decide⟩
  · subst h
    rw [if_neg (Nat.lt_irrefl b), if_neg (Nat.lt_irrefl b), if_pos rfl]
    by_cases h1 : ltS x.1 y.1 = true
    · rw [if_pos h1]
      exact ⟨fun _ => .inr ⟨rfl, h1⟩, fun _ => by decide⟩
    · rw [if_neg h1]
      constructor
      · intro h
        split at h <;> exact absurd h (by decide)
      · rintro (h | ⟨_, h⟩)
        · omega
        · exact absurd h h1
  · rw [if_neg (show ¬ b < a by omega), if_pos h, if_neg (show ¬ (1 : Int) = 0 by decide)]
    constructor
    · intro h
      exact absurd h (by decide)
    · rintro (h2 | ⟨h2, _⟩) <;> omega
theorem ltG_false (f : List UInt8 → Nat) (x y : Sg) : ltOf (cfG f) x y = false ↔ ¬ aftP f x.1 y.1 := by
  rw [← ltG, Bool.not_eq_true]
theorem aftP_trans {f : List UInt8 → Nat} {P Q R : List UInt8} (h1 : aftP f P Q) (h2 : aftP f Q R) : aftP f P R := aft_trans h2 h1
theorem aftP_total (f : List UInt8 → Nat) (P Q : List UInt8) : aftP f P Q ∨ P = Q ∨ aftP f Q P := by
  rcases aft_total (f Q) Q (f P) P with h | ⟨_, h⟩ | h
  · exact .inl h
  · exact .inr (.inl h.symm)
  · exact .inr (.inr h)
theorem swoG (f : List UInt8 → Nat) : SWO (ltOf (cfG f)) where
  irrefl x := (ltG_false f x x).2 (aft_irrefl _ _)
  trans x y z h1 h2 := (ltG f x z).2 (aftP_trans ((ltG f x y).1 h1) ((ltG f y z).1 h2))
  ntrans x y z h1 h2 := by
    have h1 := (ltG_false f x y).1 h1
    have h2 := (ltG_false f y z).1 h2
    refine (ltG_false f x z).2 fun h => ?_
    rcases aftP_total f x.1 y.1 with h3 | h3 | h3
    · exact h1 h3
    · exact h2 (by rw [← h3]; exact h)
    · exact h2 (aftP_trans h3 h)
theorem totG (f : List UInt8 → Nat) (x y : Sg) (h1 : ltOf (cfG f) x y = false) (h2 : ltOf (cfG f) y x = false) : x = y := by
  rcases aftP_total f x.1 y.1 with h3 | h3 | h3
  · exact absurd h3 ((ltG_false f x y).1 h1)
  · exact Subtype.ext h3
  · exact absurd h3 ((ltG_false f y x).1 h2)

theorem val_get (d : Array Sg) (k : Nat) (h : k < d.size) : (d.map (·.1))[k]! = (d[k]!).1 := by
  rw [getElem!_pos _ k (by simpa using h), getElem!_pos d k h, Array.getElem_map]
theorem put_val (w : World) (blk off : Nat) (d : Array Sg) : putRow encG w blk off d = putRow encStr w blk off (d.map (·.1)) := by
  unfold putRow
  refine mapBlock_congr _ _ _ _ fun c _ _ _ => ?_
  unfold putCells
  apply Array.ext_getElem?
  intro k
  rw [Array.getElem?_mapIdx, Array.getElem?_mapIdx, Array.size_map]
  cases c[k]? with
  | none => rfl
  | some y =>
    simp only [Option.map_some]
    by_cases h : off ≤ k ∧ k < off + d.size
    · rw [if_pos h, if_pos h, val_get d (k - off) (by omega)]
      rfl
    · rw [if_neg h, if_neg h]
theorem world_val (w : World) (blk m : Nat) (d : Array Sg) (os : Array Obj) : sortWorld encG w blk 0 m d os = grow (putRow encStr (Sort.ahead w m) blk 0 (d.map (·.1))) os := by
  unfold sortWorld
  rw [put_val]
/-- these byte strings with their bounds -/
def withB (ss : List (List UInt8)) (h : ∀ P ∈ ss, P.length ≤ 64) : List Sg := ss.pmap (fun l hl => ⟨l, hl⟩) h
theorem withB_map (ss : List (List UInt8)) (h : ∀ P ∈ ss, P.length ≤ 64) : (withB ss h).map (·.1) = ss := by
  unfold withB
  rw [List.map_pmap]
  simp

theorem world_old (w : World) (g m : Nat) (os : Array Obj) (dk : Array Sg) (k : Nat) (hk : k < w.heap.size) (hne : k ≠ g) : (sortWorld encG w g 0 m dk os).heap[k]? = w.heap[k]? := by
  rw [world_val]
  obtain ⟨d, hd⟩ : ∃ d : Array (List UInt8), d = dk.map (·.1) := ⟨_, rfl⟩
  rw [← hd]
  have hg : w.grownBy (grow (putRow encStr (Sort.ahead w m) g 0 d) os) (some g) := grownBy_sorted d
  exact hg.block k hk (fun e => hne (Option.some.inj e))
theorem cmp_lays (f : List UInt8 → Nat) (n gB g3 g size : Nat) (w : World) (hr : Row w g3 69 #[.map (some gB)]) (hF : Fm w gB n f) (h3 : g3 ≠ g) (hB : gB ≠ g) :
    CmpLays1 Try.prog 45 #[.pointer (some ⟨g3, 0, none⟩)] encG (cfG f) g 0 size w := by
  intro m os dk _ x y
  have hml : ∀ z : Sg, z.1.length ≤ maxLen := fun z => Nat.le_trans z.2 (by unfold maxLen; omega)
  have h := closure_any f n gB g3 x.1 y.1 (hml x) (hml y) (sortWorld encG w g 0 m dk os) ((world_old w g m os dk g3 hr.lt h3).trans hr) (hF.same (world_old w g m os dk gB hF.lt hB))
  have e : (#[encG x, encG y] ++ #[.pointer (some ⟨g3, 0, none⟩)] : Array Value) = #[.string ⟨x.1.toArray⟩, .string ⟨y.1.toArray⟩, .pointer (some ⟨g3, 0, none⟩)] := by
    rw [← Array.toList_inj]
    simp [encG]
  rw [e]
  exact h
theorem enters_cmp : ∀ args w, (callFunc 45 args).run Try.prog w = .ok (.enter 45 args) w := enters_of Try.func45 (by kernel_rfl) rfl
theorem sort_none (A : Option Addr) (c : Nat) (fv : Value) (w : World) : Calls Try.prog 44 #[.slice A 0 c, fv] w fun e w' => e = .returned (.tuple #[]) ∧ w' = w := by
  have hS := AnyF.slices_SortFunc_none (P := Try.prog) (ρ := sortL_ren) { sortL with } A c fv w
  exact hS
theorem sort_some (f : List UInt8 → Nat) (g3 : Nat) (w : World) (g cap : Nat) (ds : Array Sg) (hcmp : CmpLays1 Try.prog 45 #[.pointer (some ⟨g3, 0, none⟩)] encG (cfG f) g 0 ds.size w) (hH : Sort.Holds encG w g 0 ds) (hgl : g < w.heap.size) (hsz : ds.size < 4611686018427387904) :
    Calls Try.prog 44 #[.slice (some ⟨g, 0, none⟩) ds.size cap, .func (.func 45) #[] #[.pointer (some ⟨g3, 0, none⟩)]] w fun e w' =>
      e = .returned (.tuple #[]) ∧ ∃ n os, w' = sortWorld encG w g 0 n (ds.toList.mergeSort fun x y => !(ltOf (cfG f)) y x).toArray os := by
  have hS := Any.slices_SortFunc_total sortL encG (fun _ => rfl) (cfG f) (swoG f) 45 #[.pointer (some ⟨g3, 0, none⟩)] g 0 cap ds w enters_cmp hcmp hH hgl hsz (totG f)
  exact hS

set_option maxRecDepth 100000 in
set_option maxHeartbeats 4000000 in
/-- slices.SortFunc with the closure: the slice owns the same byte strings in their order -/
theorem sort_any (f : List UInt8 → Nat) (n gB g3 : Nat) (w : World) (base : Nat) (v : Value) (ss : List (List UInt8)) (hrow : w.ownsRow base 9 1 v ss.length (ss.map encStr)) (hss : ∀ P ∈ ss, P.length ≤ 64) (hl : ss.length ≤ 100000)
    (hr : Row w g3 69 #[.map (some gB)]) (hF : Fm w gB n f) (h3 : g3 < base) (hB : gB < base) :
    Calls Try.prog 44 #[v, .func (.func 45) #[] #[.pointer (some ⟨g3, 0, none⟩)]] w fun e w' => e = .returned (.tuple #[]) ∧
      ∃ ts : List (List UInt8), ts.Perm ss ∧ ts.Pairwise (fun P Q => ¬ aftP f Q P) ∧ w'.ownsRow base 9 1 v ts.length (ts.map encStr) ∧ w.grownBy w' v.ownBlock := by
  by_cases h0 : ss.length = 0
  · obtain rfl : ss = [] := List.eq_nil_of_length_eq_zero h0
    obtain ⟨A, c, hv, _, _⟩ := own_form hrow
    subst hv
    have hS := sort_none A c (.func (.func 45) #[] #[.pointer (some ⟨g3, 0, none⟩)]) w
    exact hS.mono fun e w' ⟨he, hw⟩ => ⟨he, [], List.Perm.nil, .nil, by rw [hw]; exact hrow, by rw [hw]; exact ⟨rfl, rfl, rfl, Nat.le_refl _, fun _ _ _ => rfl⟩⟩
  · rcases hrow.2 with ⟨_, h⟩ | ⟨g, cap, cur, rfl, hbase, hb, h1, h2, hcs, h4⟩
    · exact absurd h h0
    obtain ⟨ds, hds⟩ : ∃ ds, ds = withB ss hss := ⟨_, rfl⟩
    have hdm : ds.map (·.1) = ss := by rw [hds]; exact withB_map ss hss
    have hdl : ds.length = ss.length := by rw [← hdm, List.length_map]
    have hgl : g < w.heap.size := (Array.getElem?_eq_some_iff.1 hb).1
    have hH0 : Sort.Holds encStr w g 0 ss.toArray := holds_of_block hb (by simpa using h4)
    have hH : Sort.Holds encG w g 0 ds.toArray := by
      intro j hj
      have hj2 : j < ds.length := by simpa using hj
      have h := hH0 j (by rw [List.size_toArray, ← hdl]; exact hj2)
      have e : ss.toArray = ds.toArray.map (·.1) := by rw [← hdm]; simp
      rw [e, val_get ds.toArray j hj] at h
      exact h
    have hS := sort_some f g3 w g cap ds.toArray (cmp_lays f n gB g3 g _ w hr hF (by omega) (by omega)) hH hgl (by rw [List.size_toArray, hdl]; omega)
    rw [List.size_toArray, hdl] at hS
    refine hS.mono fun e w' ⟨he, q, os, hw⟩ => ⟨he, (ds.mergeSort fun x y => !(ltOf (cfG f) y x)).map (·.1), ?_, ?_, ?_, ?_⟩
    · exact ((List.mergeSort_perm ds _).map _).trans (by rw [hdm])
    · have hp := List.pairwise_mergeSort (le := fun x y => !(ltOf (cfG f) y x)) (fun a b c h1 h2 => by
        simp only [Bool.not_eq_true'] at h1 h2 ⊢
        exact (swoG f).ntrans c b a h2 h1) (fun a b => by
        cases h : ltOf (cfG f) a b with
        | false => simp
        | true =>
          have h2 : ltOf (cfG f) b a = false := (ltG_false f b a).2 fun h3 => aft_irrefl _ _ (aftP_trans h3 ((ltG f a b).1 h))
          simp [h2]) ds
      refine List.pairwise_map.2 (hp.imp fun {a b} h => ?_)
      simp only [Bool.not_eq_true'] at h
      exact (ltG_false f b a).1 h
    · have hlen : ((ds.mergeSort fun x y => !(ltOf (cfG f) y x)).map (·.1)).length = ss.length := by rw [List.length_map, List.length_mergeSort, hdl]
      rw [hlen, hw, world_val]
      have e : (ds.mergeSort fun x y => !(ltOf (cfG f) y x)).toArray.map (·.1) = ((ds.mergeSort fun x y => !(ltOf (cfG f) y x)).map (·.1)).toArray := by simp
      have e2 : ds.toArray.toList = ds := rfl
      rw [e2, e]
      exact ownsRow_sorted hlen hbase hb h1 h2 hcs
    · rw [hw, world_val]
      exact grownBy_sorted _
end Go.Proofs.Ytcmbpniikcghfaa
