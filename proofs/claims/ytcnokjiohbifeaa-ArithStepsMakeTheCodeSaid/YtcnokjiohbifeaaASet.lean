/-
  The contracts of package arith's settle and finish: characters of bits are appended to a text of the caller's own.
-/
import Derived.Test.YtcnokjiohbifeaaAItv
import Derived.Test.YtcnokjiohbifeaaBText
namespace Go.Proofs.Ytcnokjiohbifeaa
open Go.RowKit

/-- rows of other types stay -/
def KeepT (e : TypeId) (w w' : World) : Prop := ∀ g t cs, t ≠ e → Row w g t cs → Row w' g t cs
theorem KeepT.refl (e : TypeId) (w : World) : KeepT e w w := fun _ _ _ _ h => h
theorem KeepT.trans {e : TypeId} {a b c : World} (h : KeepT e a b) (k : KeepT e b c) : KeepT e a c := fun g t cs ht hr => k g t cs ht (h g t cs ht hr)
theorem KeepT.alloc {e : TypeId} {a b : World} (h : KeepT e a b) (o : Obj) : KeepT e a (b.alloc o) := fun g t cs ht hr => (h g t cs ht hr).alloc o
theorem KeepT.drewN {e : TypeId} {a b : World} (h : KeepT e a b) (n : Nat) : KeepT e a (b.drewN n) := fun g t cs ht hr => (h g t cs ht hr).drewN n
theorem KeepT.below {e : TypeId} {a b c : World} (h : KeepT e a b) (k : Below b.heap.size b c) : KeepT e a c := fun g t cs ht hr => (h g t cs ht hr).below k (h g t cs ht hr).lt
theorem keep_grown {base : Nat} {e : TypeId} {v : Value} {n : Nat} {xs : List Value} {w w' : World} (hown : w.ownsRow base e 1 v n xs) (hg : w.grownBy w' v.ownBlock) : KeepT e w w' := by
  intro g t cs ht hr
  refine hr.grown hg ?_
  rcases hown.2 with ⟨rfl, _⟩ | ⟨k, cap, cur, rfl, _, hk, _⟩
  · exact fun h => by cases h
  · intro h
    have hgk : g = k := by simpa [Value.ownBlock] using h
    subst hgk
    have := hr.symm.trans hk
    simp only [Option.some.injEq, Obj.cells.injEq] at this
    exact ht this.2.1
/-- a block that is new is written -/
theorem KeepT.far {e : TypeId} {a b : World} (h : KeepT e a b) {g : Nat} (hg : a.heap.size ≤ g) (cs : Array Value) : KeepT e a (b.setRow g cs) := by
  intro k t xs ht hr
  have := hr.lt
  exact (h k t xs ht hr).rowFar (by omega) _
/-- a row of another type is not the owned one -/
theorem own_other {w : World} {base : Nat} {e t : TypeId} {v : Value} {n g : Nat} {xs : List Value} {cs : Array Value} (h : w.ownsRow base e 1 v n xs) (hr : Row w g t cs) (ht : t ≠ e) : ∀ b, v.ownBlock = some b → b ≠ g := by
  rintro b hb rfl
  rcases h.2 with ⟨rfl, _⟩ | ⟨k, cap, cur, rfl, _, hk, _⟩
  · cases hb
  · have hgk : k = b := by simpa [Value.ownBlock] using hb
    subst hgk
    have := hr.symm.trans hk
    simp only [Option.some.injEq, Obj.cells.injEq] at this
    exact ht this.2.1
theorem txL_append (l m : List Bool) : txL (l ++ m) = txL l ++ txL m := by simp [txL]
theorem bl_tx (o : List Bool) (b : Bool) (z : Int) (hz : z = ((chB b).toNat : Int)) : bl (txL (o ++ [b])) = bl (txL o) ++ [.int .u8 z] := by
  subst hz
  rw [txL_append, bl_append]
  unfold bl
  rfl

set_option maxRecDepth 100000 in
set_option maxHeartbeats 4000000 in
theorem settle_any (base : Nat) (v : Value) (o : List Bool) (m : Nat) (hm : m = o.length) (b : Bool) (P : Nat) (hl : m + P ≤ 1000000) (w : World) (hown : w.ownsRow base 5 1 v m (bl (txL o))) (hbase : base ≤ w.heap.size) :
    Calls Try.prog 60 #[v, .int .i64 ((b.toNat : Nat) : Int), .int .i64 P] w fun e w' => ∃ v', e = .returned v' ∧ w'.ownsRow base 5 1 v' (m + 1 + P) (bl (txL (o ++ b :: List.replicate P (!b)))) ∧ Below base w w' ∧ KeepT 5 w w' := by
  obtain ⟨i0, hi, hz0, hz1, hz2⟩ := info_parts infoU8
  have HM := Lib.hid hm
  clear hm
  cases b
  · have hbc := bl_tx o false 48 rfl
    have HBC := Lib.hid hbc
    have HO := Lib.hid hown
    clear hbc hown
    rw [show (false : Bool).toNat = 0 from rfl]
    go_enter Try.func60, Try.ntmps60
    go_wp2_with (first
      | (at_builtin; refine wpList_app _ rfl _ _ _ rfl base 5 i0 (.int .u8 0) 1 Try.underlying24 hi hz0 hz1 hz2 rfl _ m _ rfl (HO.out.alloc _) (w.heap.size + 1) _ 1 _ [_] rfl (Sl.one _ _ _) (fun u hu => by obtain rfl := List.mem_singleton.1 hu; rfl) (by unfold maxLen; omega) (by omega) (Nat.le_trans hbase (by simp)) ?_; intro v2 w2 hown2 hg2))
    have hb2 : Below base w w2 := blw_grown ((Below.refl base w).alloc hbase _) hg2 (Nat.le_trans hbase (by simp)) (HO.out.alloc _) (Nat.le_refl _)
    have hk2 : KeepT 5 w w2 := ((KeepT.refl _ w).alloc _).trans (keep_grown (HO.out.alloc _) hg2)
    rw [← HBC.out] at hown2
    clear hg2
    have HO2 := Lib.hid hown2
    have HK2 := Lib.hid hk2
    clear hown2 hk2
    go_loopw [0, 14] (fun v i wr => ∃ t : Nat, t ≤ P ∧ i = .int .i64 t ∧ wr.ownsRow base 5 1 v (m + 1 + t) (bl (txL (o ++ [false] ++ List.replicate t true))) ∧ Below base w wr ∧ KeepT 5 w wr) (fun _ i _ => P - (intOf i).toNat)
    case atStart => exact ⟨0, Nat.zero_le _, rfl, by rw [List.replicate_zero, List.append_nil]; exact HO2.out, hb2, HK2.out⟩
    case round =>
      clear hb2
      obtain ⟨t, ht, rfl, ho, hb3, hk3⟩ := hrel
      by_cases hlt2 : t < P
      · have hbc := bl_tx (o ++ [false] ++ List.replicate t true) true 49 rfl
        rw [List.append_assoc _ (List.replicate t true), ← List.replicate_succ'] at hbc
        have HBC2 := Lib.hid hbc
        have HO3 := Lib.hid ho
        have HK3 := Lib.hid hk3
        have hbs := Nat.le_trans hbase hb3.size
        clear hbc ho hk3
        go_wp2_with (first
          | (at_builtin; refine wpList_app _ rfl _ _ _ rfl base 5 i0 (.int .u8 0) 1 Try.underlying24 hi hz0 hz1 hz2 rfl _ (m + 1 + t) _ rfl (HO3.out.alloc _) (wr.heap.size + 1) _ 1 _ [_] rfl (Sl.one _ _ _) (fun u hu => by obtain rfl := List.mem_singleton.1 hu; rfl) (by unfold maxLen; omega) (by omega) (Nat.le_trans hbs (by simp)) ?_; intro v3 w3 hown3 hg3))
        go_roundw
        case rel => exact ⟨t + 1, by omega, by go_num, by rw [HBC2.out]; exact hown3, blw_grown (hb3.alloc hbs _) hg3 (Nat.le_trans hbs (by simp)) (HO3.out.alloc _) (Nat.le_refl _), (HK3.out.alloc _).trans (keep_grown (HO3.out.alloc _) hg3)⟩
        case measure => simp [intOf]; omega
      · obtain rfl : t = P := by omega
        have HO3 := Lib.hid ho
        have HK3 := Lib.hid hk3
        clear ho hk3
        go_wp2
        go_ret
        exact ⟨_, rfl, by rw [show o ++ false :: List.replicate t (!false) = o ++ [false] ++ List.replicate t true from by simp]; exact HO3.out, hb3, HK3.out⟩
  · have hbc := bl_tx o true 49 rfl
    have HBC := Lib.hid hbc
    have HO := Lib.hid hown
    clear hbc hown
    rw [show (true : Bool).toNat = 1 from rfl]
    go_enter Try.func60, Try.ntmps60
    go_wp2_with (first
      | (at_builtin; refine wpList_app _ rfl _ _ _ rfl base 5 i0 (.int .u8 0) 1 Try.underlying24 hi hz0 hz1 hz2 rfl _ m _ rfl (HO.out.alloc _) (w.heap.size + 1) _ 1 _ [_] rfl (Sl.one _ _ _) (fun u hu => by obtain rfl := List.mem_singleton.1 hu; rfl) (by unfold maxLen; omega) (by omega) (Nat.le_trans hbase (by simp)) ?_; intro v2 w2 hown2 hg2))
    have hb2 : Below base w w2 := blw_grown ((Below.refl base w).alloc hbase _) hg2 (Nat.le_trans hbase (by simp)) (HO.out.alloc _) (Nat.le_refl _)
    have hk2 : KeepT 5 w w2 := ((KeepT.refl _ w).alloc _).trans (keep_grown (HO.out.alloc _) hg2)
    rw [← HBC.out] at hown2
    clear hg2
    have HO2 := Lib.hid hown2
    have HK2 := Lib.hid hk2
    clear hown2 hk2
    go_loopw [0, 14] (fun v i wr => ∃ t : Nat, t ≤ P ∧ i = .int .i64 t ∧ wr.ownsRow base 5 1 v (m + 1 + t) (bl (txL (o ++ [true] ++ List.replicate t false))) ∧ Below base w wr ∧ KeepT 5 w wr) (fun _ i _ => P - (intOf i).toNat)
    case atStart => exact ⟨0, Nat.zero_le _, rfl, by rw [List.replicate_zero, List.append_nil]; exact HO2.out, hb2, HK2.out⟩
    case round =>
      clear hb2
      obtain ⟨t, ht, rfl, ho, hb3, hk3⟩ := hrel
      by_cases hlt2 : t < P
      · have hbc := bl_tx (o ++ [true] ++ List.replicate t false) false 48 rfl
        rw [List.append_assoc _ (List.replicate t false), ← List.replicate_succ'] at hbc
        have HBC2 := Lib.hid hbc
        have HO3 := Lib.hid ho
        have HK3 := Lib.hid hk3
        have hbs := Nat.le_trans hbase hb3.size
        clear hbc ho hk3
        go_wp2_with (first
          | (at_builtin; refine wpList_app _ rfl _ _ _ rfl base 5 i0 (.int .u8 0) 1 Try.underlying24 hi hz0 hz1 hz2 rfl _ (m + 1 + t) _ rfl (HO3.out.alloc _) (wr.heap.size + 1) _ 1 _ [_] rfl (Sl.one _ _ _) (fun u hu => by obtain rfl := List.mem_singleton.1 hu; rfl) (by unfold maxLen; omega) (by omega) (Nat.le_trans hbs (by simp)) ?_; intro v3 w3 hown3 hg3))
        go_roundw
        case rel => exact ⟨t + 1, by omega, by go_num, by rw [HBC2.out]; exact hown3, blw_grown (hb3.alloc hbs _) hg3 (Nat.le_trans hbs (by simp)) (HO3.out.alloc _) (Nat.le_refl _), (HK3.out.alloc _).trans (keep_grown (HO3.out.alloc _) hg3)⟩
        case measure => simp [intOf]; omega
      · obtain rfl : t = P := by omega
        have HO3 := Lib.hid ho
        have HK3 := Lib.hid hk3
        clear ho hk3
        go_wp2
        go_ret
        exact ⟨_, rfl, by rw [show o ++ true :: List.replicate t (!true) = o ++ [true] ++ List.replicate t false from by simp]; exact HO3.out, hb3, HK3.out⟩

set_option maxRecDepth 100000 in
set_option maxHeartbeats 4000000 in
theorem finish_any (base : Nat) (v : Value) (o : List Bool) (m : Nat) (hm : m = o.length) (L H P : Nat) (hl : m + P ≤ 900000) (w : World) (hown : w.ownsRow base 5 1 v m (bl (txL o))) (hbase : base ≤ w.heap.size) :
    Calls Try.prog 42 #[.agg (cds L H P), v] w fun e w' => ∃ v', e = .returned v' ∧ w'.ownsRow base 5 1 v' (m + P + 2) (bl (txL (o ++ lastN P L))) ∧ Below base w w' := by
  have hc0 : (cds L H P)[0]? = some (.int .i64 L) := rfl
  have hc2 : (cds L H P)[2]? = some (.int .i64 P) := rfl
  have HM := Lib.hid hm
  have HO := Lib.hid hown
  clear hm hown
  by_cases hL : L < 16384
  · have t0 : decide ((L : Int) < 16384) = true := decide_eq_true (by omega)
    rw [last_low hL]
    clear hL
    go_enter Try.func42, Try.ntmps42
    go_upto_region 1 with (fail)
    refine wp_world (F := fun W => Row W w.heap.size 23 (cds L H P) ∧ Hid (W.ownsRow base 5 1 v m (bl (txL o))) ∧ base ≤ W.heap.size ∧ Below base w W) ⟨Row.newEq _ _ _ _ _ rfl rfl, Lib.hid (HO.out.alloc _), Nat.le_trans hbase (by simp), (Below.refl _ _).alloc hbase _⟩ ?_
    rintro W0 ⟨r0, HO0, hb1, hb0⟩
    have e0 := (r0.cell 0).trans hc0
    have e2 := (r0.cell 2).trans hc2
    go_wp2_with (first
      | (go_at_call 60; refine (settle_any base v o m HM.out false (P + 1) (by omega) _ HO0.out hb1).mono ?_; rintro e w9 ⟨v', rfl, ho9, hb9, _⟩))
    go_ret
    exact ⟨_, rfl, by rw [show m + P + 2 = m + 1 + (P + 1) by omega]; exact ho9, hb0.trans hb9⟩
  · have t0 : decide ((L : Int) < 16384) = false := decide_eq_false (by omega)
    rw [last_high hL]
    clear hL
    go_enter Try.func42, Try.ntmps42
    go_upto_region 1 with (fail)
    refine wp_world (F := fun W => Row W w.heap.size 23 (cds L H P) ∧ Hid (W.ownsRow base 5 1 v m (bl (txL o))) ∧ base ≤ W.heap.size ∧ Below base w W) ⟨Row.newEq _ _ _ _ _ rfl rfl, Lib.hid (HO.out.alloc _), Nat.le_trans hbase (by simp), (Below.refl _ _).alloc hbase _⟩ ?_
    rintro W0 ⟨r0, HO0, hb1, hb0⟩
    have e0 := (r0.cell 0).trans hc0
    have e2 := (r0.cell 2).trans hc2
    go_wp2_with (first
      | (go_at_call 60; refine (settle_any base v o m HM.out true (P + 1) (by omega) _ HO0.out hb1).mono ?_; rintro e w9 ⟨v', rfl, ho9, hb9, _⟩))
    go_ret
    exact ⟨_, rfl, by rw [show m + P + 2 = m + 1 + (P + 1) by omega]; exact ho9, hb0.trans hb9⟩
end Go.Proofs.Ytcnokjiohbifeaa
