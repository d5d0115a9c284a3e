/-
  The contracts of package digest's own functions: Start, Sum, Write, Finish, Short.
-/
import Derived.Test.YtcippenhomhpbaaDoorShaFeed
import Derived.Deep.DeepMust
namespace Go.Proofs.YtcippenhomhpbaaDoor
open Go.RowKit

/-- the digest of what was written, where a state, the bytes behind its last whole block and the number of all bytes are given -/
def hashed (s : St) (tl : List UInt8) (n : Nat) : List UInt8 := outBytes (chew s (tl ++ padBytes n) ((tl ++ padBytes n).length / 64))
theorem hashed_eq (s : St) (tl : List UInt8) (n : Nat) : hashed s tl n = outBytes (chew s (tl ++ padBytes n) ((tl ++ padBytes n).length / 64)) := rfl
theorem hashed_length (s : St) (tl : List UInt8) (n : Nat) : (hashed s tl n).length = 32 := by rw [hashed_eq, outBytes_length]
attribute [irreducible] hashed

attribute [local go_sem ↓] wp_store_flat
attribute [local go_sem] blkOf_ptr cells_agg
theorem field_hsc (s : St) (v : Value) (n : Int) (w : World) : (Instr.field 30 (.agg (hsc s v n)) 0).run Tryd.prog w = .ok (.agg (stc s)) w := by kernel_rfl
theorem sizedD : Sized Tryd.prog 24 := show (Tryd.prog.info? 24).map (·.size) = some (sizeT Tryd.prog 24) by kernel_rfl
theorem sizeTD : sizeT Tryd.prog 24 = 32 := by kernel_rfl
theorem flat_bs (l : List UInt8) (n : Nat) (h : l.length = n) : Flat (.agg (bs l)) n := ⟨_, rfl, by rw [bs_size, h], bs_one l⟩
attribute [local go_sem] field_hsc sizedD sizeTD
theorem zeroD : (#[.int .u8 0, .int .u8 0, .int .u8 0, .int .u8 0, .int .u8 0, .int .u8 0, .int .u8 0, .int .u8 0, .int .u8 0, .int .u8 0, .int .u8 0, .int .u8 0, .int .u8 0, .int .u8 0, .int .u8 0, .int .u8 0, .int .u8 0, .int .u8 0, .int .u8 0, .int .u8 0, .int .u8 0, .int .u8 0, .int .u8 0, .int .u8 0, .int .u8 0, .int .u8 0, .int .u8 0, .int .u8 0, .int .u8 0, .int .u8 0, .int .u8 0, .int .u8 0] : Array Value) = bs (List.replicate 32 0) := by kernel_rfl

set_option maxRecDepth 100000 in
set_option maxHeartbeats 4000000 in
theorem pad_any (s : St) (n : Nat) (TA : Option Addr) (tl : List UInt8) (tc : Nat) (w : World) (hk : KIs w) (ht : tl.length < 64) (hS : Sl w w.heap.size TA tl.length (bl tl)) (hn : n ≤ 1125899906842624) :
    Calls Tryd.prog 29 #[.agg (hsc s (.slice TA tl.length tc) n)] w fun e w' => e = .returned (.agg (bs (hashed s tl n))) ∧ Below w.heap.size w w' := by
  have HK := Lib.hid hk
  have hg := hk.lt
  have HH := Lib.hid (hashed_eq s tl n)
  clear hk
  go_enter Tryd.func29, Tryd.ntmps29
  go_wp2_with fail
  have r0 := (Row.new w 30 (hsc s (.slice TA tl.length tc) n)).alloc (.cells (bs (List.replicate 32 0)) 24)
  have r1 := Row.newAt (w.alloc (.cells (hsc s (.slice TA tl.length tc) n) 30)) 24 (bs (List.replicate 32 0)) (w.heap.size + 1) (by simp)
  have hb : Below w.heap.size w ((w.alloc (.cells (hsc s (.slice TA tl.length tc) n) 30)).alloc (.cells (bs (List.replicate 32 0)) 24)) := ((Below.refl _ _).alloc (Nat.le_refl _) _).alloc (by simp) _
  rw [zeroD]
  obtain ⟨W0, hW0⟩ : ∃ W0, W0 = ((w.alloc (.cells (hsc s (.slice TA tl.length tc) n) 30)).alloc (.cells (bs (List.replicate 32 0)) 24)) := ⟨_, rfl⟩
  rw [← hW0] at r0 r1 hb ⊢
  clear hW0
  have c0 : W0.cell? ⟨w.heap.size, 0, none⟩ = some (.int .u32 (W s.a)) := (r0.cell 0).trans rfl
  have c1 : W0.cell? ⟨w.heap.size, 1, none⟩ = some (.int .u32 (W s.b)) := (r0.cell 1).trans rfl
  have c2 : W0.cell? ⟨w.heap.size, 2, none⟩ = some (.int .u32 (W s.c)) := (r0.cell 2).trans rfl
  have c3 : W0.cell? ⟨w.heap.size, 3, none⟩ = some (.int .u32 (W s.d)) := (r0.cell 3).trans rfl
  have c4 : W0.cell? ⟨w.heap.size, 4, none⟩ = some (.int .u32 (W s.e)) := (r0.cell 4).trans rfl
  have c5 : W0.cell? ⟨w.heap.size, 5, none⟩ = some (.int .u32 (W s.f)) := (r0.cell 5).trans rfl
  have c6 : W0.cell? ⟨w.heap.size, 6, none⟩ = some (.int .u32 (W s.g)) := (r0.cell 6).trans rfl
  have c7 : W0.cell? ⟨w.heap.size, 7, none⟩ = some (.int .u32 (W s.h)) := (r0.cell 7).trans rfl
  have c8 : W0.cell? ⟨w.heap.size, 8, none⟩ = some (.slice TA tl.length tc) := (r0.cell 8).trans rfl
  have c9 : W0.cell? ⟨w.heap.size, 9, none⟩ = some (.int .i64 n) := (r0.cell 9).trans rfl
  go_region_law (first
    | (go_simp; go_at_call 40; go_must (refine (padding_any n (by omega) _).mono ?_; rintro e w1 ⟨v1, rfl, ho1, hb1⟩; obtain ⟨A1, k1, hv1, hk1, hk2⟩ := own_form ho1; subst hv1; have q0 := Row.below r0.drew hb1 r0.lt; have e0 : w1.cell? ⟨w.heap.size, 0, none⟩ = some (.int .u32 (W s.a)) := (q0.cell 0).trans rfl; have e1 : w1.cell? ⟨w.heap.size, 1, none⟩ = some (.int .u32 (W s.b)) := (q0.cell 1).trans rfl; have e2 : w1.cell? ⟨w.heap.size, 2, none⟩ = some (.int .u32 (W s.c)) := (q0.cell 2).trans rfl; have e3 : w1.cell? ⟨w.heap.size, 3, none⟩ = some (.int .u32 (W s.d)) := (q0.cell 3).trans rfl; have e4 : w1.cell? ⟨w.heap.size, 4, none⟩ = some (.int .u32 (W s.e)) := (q0.cell 4).trans rfl; have e5 : w1.cell? ⟨w.heap.size, 5, none⟩ = some (.int .u32 (W s.f)) := (q0.cell 5).trans rfl; have e6 : w1.cell? ⟨w.heap.size, 6, none⟩ = some (.int .u32 (W s.g)) := (q0.cell 6).trans rfl; have e7 : w1.cell? ⟨w.heap.size, 7, none⟩ = some (.int .u32 (W s.h)) := (q0.cell 7).trans rfl; have e8 : w1.cell? ⟨w.heap.size, 8, none⟩ = some (.slice TA tl.length tc) := (q0.cell 8).trans rfl; have e9 : w1.cell? ⟨w.heap.size, 9, none⟩ = some (.int .i64 n) := (q0.cell 9).trans rfl))
    | (go_simp; go_at_call 30; go_must (have hbw := hb.drew.trans (hb1.mono hb.size); refine (absorb_any s n TA tl tc A1 (padBytes n) k1 w1 (KIs.keep HK.out hbw hg) ht ((hS.below hbw).wider hbw.size) hk1 hk2 (Sl.of_own ho1) (by rw [padBytes_eq, endPart_length]; have := zeroCount_le n; omega)).mono ?_; rintro e w2 ⟨v2, rfl, _, hb2⟩))
    | (go_simp; go_at_call 39; go_must (refine (output_any _ _).mono ?_; rintro e w3 ⟨rfl, hb3⟩; have hfl := flat_bs (outBytes (chew s (tl ++ padBytes n) ((tl.length + (padBytes n).length) / 64))) 32 (outBytes_length _); have hb12 := (hb1.trans (hb2.mono hb1.size)).trans (hb3.mono (Nat.le_trans hb1.size hb2.size)); have r4 := Row.below r1.drew hb12 r1.lt; have hrow := r4.is (n := 32) (by rw [bs_size]; rfl))))
  all_goals
    go_wp2
    have hlen : (tl ++ padBytes n).length = tl.length + (padBytes n).length := List.length_append
    refine bodyPost_ret (results_row Tryd.results29 _ _ (w.heap.size + 1) 24 (bs (outBytes (chew s (tl ++ padBytes n) ((tl.length + (padBytes n).length) / 64)))) _ rfl (Row.row r4 _) Tryd.underlying24 rfl (by rw [bs_size, outBytes_length]; exact cellsD)) rfl ⟨?_, ?_⟩
    · rw [HH.out, hlen]
    · exact blw_row (hb.drew.trans (hb12.mono hb.size)) (Nat.le_succ _) _

theorem start_any (w : World) :
    Calls Tryd.prog 16 #[] w fun e w' => e = .returned (.agg (hsc first (.slice none 0 0) 0)) ∧ Below w.heap.size w w' := by
  go_enter Tryd.func16, Tryd.ntmps16
  go_wp2
  refine bodyPost_ret (results_row Tryd.results16 _ _ w.heap.size 30 (hsc first (.slice none 0 0) 0) _ rfl (Row.newEq _ _ _ _ _ rfl (by kernel_rfl)) Tryd.underlying30 rfl (by rw [hsc_size]; exact cellsH)) rfl ⟨rfl, ?_⟩
  exact (Below.refl _ _).alloc (Nat.le_refl _) _

/-- a state in pieces is valid -/
def okH (tl : Nat) (n : Int) : Bool := decide (0 ≤ n ∧ n ≤ 1099511627776 ∧ (tl : Int) = n % 64)
theorem okH_true {tl : Nat} {n : Int} (h0 : 0 ≤ n) (h1 : n ≤ 1099511627776) (h2 : (tl : Int) = n % 64) : okH tl n = true := decide_eq_true ⟨h0, h1, h2⟩
theorem okH_of {tl : Nat} {n : Int} (h : okH tl n = true) : 0 ≤ n ∧ n ≤ 1099511627776 ∧ (tl : Int) = n % 64 := of_decide_eq_true h
attribute [irreducible] okH

theorem okH_false {tl : Nat} {n : Int} (h : ¬ (0 ≤ n ∧ n ≤ 1099511627776 ∧ (tl : Int) = n % 64)) : okH tl n = false := by
  unfold okH
  exact decide_eq_false h
set_option maxRecDepth 100000 in
set_option maxHeartbeats 4000000 in
theorem valid_any (s : St) (n : Int) (hn : -9223372036854775808 ≤ n ∧ n ≤ 9223372036854775807) (TA : Option Addr) (tl : Nat) (tc : Nat) (w : World) :
    Calls Tryd.prog 31 #[.agg (hsc s (.slice TA tl tc) n)] w fun e w' => e = .returned (.bool (okH tl n)) ∧ Below w.heap.size w w' := by
  by_cases h0 : 0 ≤ n
  · by_cases h1 : n ≤ 1099511627776
    · by_cases h2 : (tl : Int) = n % 64
      · have hv := Lib.hid (okH_true h0 h1 h2)
        have k3 : ((tl : Int) == n % 64) = true := beq_iff_eq.2 h2
        clear h2
        unfold hsc
        go_enter Tryd.func31, Tryd.ntmps31
        go_wp2
        go_ret
        exact ⟨by rw [hv.out]; rfl, (Below.refl _ _).alloc (Nat.le_refl _) _⟩
      · have hv := Lib.hid (okH_false (tl := tl) (n := n) (fun h => h2 h.2.2))
        have k3 : ((tl : Int) == n % 64) = false := beq_eq_false_iff_ne.2 h2
        clear h2
        unfold hsc
        go_enter Tryd.func31, Tryd.ntmps31
        go_wp2
        go_ret
        exact ⟨by rw [hv.out]; rfl, (Below.refl _ _).alloc (Nat.le_refl _) _⟩
    · have hv := Lib.hid (okH_false (tl := tl) (n := n) (fun h => h1 h.2.1))
      have k2 : decide (n ≤ 1099511627776) = false := decide_eq_false h1
      unfold hsc
      go_enter Tryd.func31, Tryd.ntmps31
      go_wp2
      go_ret
      exact ⟨by rw [hv.out]; rfl, (Below.refl _ _).alloc (Nat.le_refl _) _⟩
  · have hv := Lib.hid (okH_false (tl := tl) (n := n) (fun h => h0 h.1))
    have k2 : decide (0 ≤ n) = false := decide_eq_false h0
    unfold hsc
    go_enter Tryd.func31, Tryd.ntmps31
    go_wp2
    go_ret
    exact ⟨by rw [hv.out]; rfl, (Below.refl _ _).alloc (Nat.le_refl _) _⟩

/-- a fault, as cells -/
def flt (c i : Int) : Array Value := #[.int .i64 c, .int .i64 i]
theorem cellsF : (Tryd.prog.info? 32).map (·.size) = some 2 := by kernel_rfl

theorem flt_size (c i : Int) : (flt c i).size = 2 := rfl
theorem flt_one (c i : Int) : ∀ v ∈ flt c i, v.oneCell' = true := by
  intro v hv
  simp only [flt, List.mem_toArray, List.mem_cons, List.not_mem_nil, or_false] at hv
  rcases hv with rfl | rfl <;> rfl
theorem zeroD_one : ∀ v ∈ bs (List.replicate 32 0), v.oneCell' = true := bs_one _
end Go.Proofs.YtcippenhomhpbaaDoor
