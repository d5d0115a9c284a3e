/-
  The contracts of the statements' comparisons: byte strings (SameBytes), states in pieces (sameHashing), and whether a state is valid (HashingOk).
-/
import Derived.Test.YtcippenhomhpbaaDoorDrawn
import Derived.Laws.BytesArg
namespace Go.Proofs.YtcippenhomhpbaaDoor
open Go.RowKit

/-- string(b) of a slice of bytes -/
theorem conv_sl {P : Program} (w : World) (src dst e : TypeId) (hs : P.underlying src = some (.slice e)) (he : P.underlying e = some (.int .u8)) (hd : P.underlying dst = some .string) {B : Nat} {A : Option Addr} {L : List UInt8} (n c : Nat)
    (h : Sl w B A n (bl L)) : (convert src dst (.slice A n c)).run P w = .ok (.string ⟨L.toArray⟩) w := by
  have hn : L.length = n := by rw [← bl_length]; exact h.1
  subst hn
  rcases A with _ | ad
  · have h0 : L = [] := by
      rcases Nat.eq_zero_or_pos L.length with h0 | h0
      · exact List.eq_nil_of_length_eq_zero h0
      · obtain ⟨ad, h1, _⟩ := h.2 h0
        cases h1
    subst h0
    exact run_convert_bytes_nil (P := P) w src e hs he _ _ dst hd
  · refine run_convert_bytes_back (P := P) w src dst e ad c L hs he hd fun j hj => ?_
    obtain ⟨ad', u, h1, _, h2, h3⟩ := h.at_ hj
    injection h1 with h1
    subst h1
    rw [h3]
    unfold bl at h2
    rw [List.getElem?_map, List.getElem?_eq_getElem hj, Option.map_some] at h2
    exact h2.symm
theorem str_eq (L M : List UInt8) : ((⟨L.toArray⟩ : ByteArray).toList == (⟨M.toArray⟩ : ByteArray).toList) = decide (L = M) := by
  rw [ByteArray.toList_eq, ByteArray.toList_eq]
  by_cases h : L = M
  · subst h
    simp
  · simp [h]

theorem same_any (A B : Option Addr) (L M : List UInt8) (n m c d : Nat) (w : World) (hL : Sl w w.heap.size A n (bl L)) (hM : Sl w w.heap.size B m (bl M)) :
    Calls Tryd.prog 32 #[.slice A n c, .slice B m d] w fun e w' => e = .returned (.bool (decide (L = M))) ∧ w' = w := by
  have h1 := conv_sl (P := Tryd.prog) w 22 9 5 Tryd.underlying22 Tryd.underlying5 Tryd.underlying9 n c hL
  have h2 := conv_sl (P := Tryd.prog) w 22 9 5 Tryd.underlying22 Tryd.underlying5 Tryd.underlying9 m d hM
  have h3 := str_eq L M
  go_enter Tryd.func32, Tryd.ntmps32
  go_wp2
  go_ret
  exact ⟨ret_bool (by by_cases h : L = M <;> simp [h]), rfl⟩

theorem eql_stc (s : St) (w : World) : (binOp .eql 28 (.agg (stc s)) (.agg (stc s))).run Tryd.prog w = .ok (.bool true) w := by
  have h := run_equalIn_ints (P := Tryd.prog) w 9998 28 27 .u32 8 Tryd.underlying28 Tryd.underlying27 (by kernel_rfl) [W s.a, W s.b, W s.c, W s.d, W s.e, W s.f, W s.g, W s.h] [W s.a, W s.b, W s.c, W s.d, W s.e, W s.f, W s.g, W s.h] rfl rfl
  simp only [binOp]
  simp [Op.equal, Op.maxDepth, stc] at h ⊢
  simp [h]

set_option maxRecDepth 100000 in
set_option maxHeartbeats 4000000 in
/-- two states that hold the same -/
theorem sameH_yes (s : St) (k : Int) (A B : Option Addr) (L : List UInt8) (n c d : Nat) (w : World) (hL : Sl w w.heap.size A n (bl L)) (hM : Sl w w.heap.size B n (bl L)) :
    Calls Tryd.prog 15 #[.agg (hsc s (.slice A n c) k), .agg (hsc s (.slice B n d) k)] w fun e w' => e = .returned (.bool true) ∧ Below w.heap.size w w' := by
  have he := eql_stc s
  unfold stc at he
  go_enter Tryd.func15, Tryd.ntmps15
  go_upto_region 1 with fail
  refine wp_world (F := fun W1 => Holds W1 w.heap.size (hsc s (.slice A n c) k) ∧ Holds W1 (w.heap.size + 1) (hsc s (.slice B n d) k) ∧ Below w.heap.size w W1) ⟨⟨_, (Row.new _ _ _).alloc _⟩, ⟨_, Row.newAt _ _ _ _ (by simp)⟩, up_alloc (up_alloc (Below.refl _ _) _) _⟩ ?_
  rintro w1 ⟨rp, rq, hb⟩
  have p0 : w1.cell? ⟨w.heap.size, 0, none⟩ = some (.int .u32 (W s.a)) := (rp.cell 0).trans rfl
  have p1 : w1.cell? ⟨w.heap.size, 1, none⟩ = some (.int .u32 (W s.b)) := (rp.cell 1).trans rfl
  have p2 : w1.cell? ⟨w.heap.size, 2, none⟩ = some (.int .u32 (W s.c)) := (rp.cell 2).trans rfl
  have p3 : w1.cell? ⟨w.heap.size, 3, none⟩ = some (.int .u32 (W s.d)) := (rp.cell 3).trans rfl
  have p4 : w1.cell? ⟨w.heap.size, 4, none⟩ = some (.int .u32 (W s.e)) := (rp.cell 4).trans rfl
  have p5 : w1.cell? ⟨w.heap.size, 5, none⟩ = some (.int .u32 (W s.f)) := (rp.cell 5).trans rfl
  have p6 : w1.cell? ⟨w.heap.size, 6, none⟩ = some (.int .u32 (W s.g)) := (rp.cell 6).trans rfl
  have p7 : w1.cell? ⟨w.heap.size, 7, none⟩ = some (.int .u32 (W s.h)) := (rp.cell 7).trans rfl
  have p8 : w1.cell? ⟨w.heap.size, 8, none⟩ = some (.slice A n c) := (rp.cell 8).trans rfl
  have p9 : w1.cell? ⟨w.heap.size, 9, none⟩ = some (.int .i64 k) := (rp.cell 9).trans rfl
  have q0 : w1.cell? ⟨w.heap.size + 1, 0, none⟩ = some (.int .u32 (W s.a)) := (rq.cell 0).trans rfl
  have q1 : w1.cell? ⟨w.heap.size + 1, 1, none⟩ = some (.int .u32 (W s.b)) := (rq.cell 1).trans rfl
  have q2 : w1.cell? ⟨w.heap.size + 1, 2, none⟩ = some (.int .u32 (W s.c)) := (rq.cell 2).trans rfl
  have q3 : w1.cell? ⟨w.heap.size + 1, 3, none⟩ = some (.int .u32 (W s.d)) := (rq.cell 3).trans rfl
  have q4 : w1.cell? ⟨w.heap.size + 1, 4, none⟩ = some (.int .u32 (W s.e)) := (rq.cell 4).trans rfl
  have q5 : w1.cell? ⟨w.heap.size + 1, 5, none⟩ = some (.int .u32 (W s.f)) := (rq.cell 5).trans rfl
  have q6 : w1.cell? ⟨w.heap.size + 1, 6, none⟩ = some (.int .u32 (W s.g)) := (rq.cell 6).trans rfl
  have q7 : w1.cell? ⟨w.heap.size + 1, 7, none⟩ = some (.int .u32 (W s.h)) := (rq.cell 7).trans rfl
  have q8 : w1.cell? ⟨w.heap.size + 1, 8, none⟩ = some (.slice B n d) := (rq.cell 8).trans rfl
  have q9 : w1.cell? ⟨w.heap.size + 1, 9, none⟩ = some (.int .i64 k) := (rq.cell 9).trans rfl
  have hL1 := hL.up hb
  have hM1 := hM.up hb
  go_wp2_with (first
    | (go_at_call 32; refine (same_any A B L L n n c d _ hL1 hM1).mono ?_; rintro e w2 ⟨rfl, rfl⟩))
  go_ret
  exact ⟨ret_bool (by simp), hb⟩

set_option maxRecDepth 100000 in
set_option maxHeartbeats 4000000 in
theorem hashingOk_any (s : St) (n : Int) (hn : -9223372036854775808 ≤ n ∧ n ≤ 9223372036854775807) (TA : Option Addr) (tl : Nat) (tc : Nat) (w : World) :
    Calls Tryd.prog 18 #[.agg (hsc s (.slice TA tl tc) n)] w fun e w' => e = .returned (.bool (okH tl n)) ∧ Below w.heap.size w w' := by
  have hb : Below w.heap.size w (w.alloc (.cells (hsc s (.slice TA tl tc) n) 30)) := (Below.refl _ _).alloc (Nat.le_refl _) _
  have rp : Holds (w.alloc (.cells (hsc s (.slice TA tl tc) n) 30)) w.heap.size (hsc s (.slice TA tl tc) n) := ⟨_, Row.new _ _ _⟩
  have p8 : (w.alloc (.cells (hsc s (.slice TA tl tc) n) 30)).cell? ⟨w.heap.size, 8, none⟩ = some (.slice TA tl tc) := (rp.cell 8).trans rfl
  have p9 : (w.alloc (.cells (hsc s (.slice TA tl tc) n) 30)).cell? ⟨w.heap.size, 9, none⟩ = some (.int .i64 n) := (rp.cell 9).trans rfl
  clear rp
  by_cases h0 : 0 ≤ n ∧ n ≤ 1099511627776
  · by_cases h2 : (tl : Int) = n % 64
    · have hv := Lib.hid (okH_true h0.1 h0.2 h2)
      have k3 : ((tl : Int) == n % 64) = true := beq_iff_eq.2 h2
      clear h2
      go_enter Tryd.func18, Tryd.ntmps18
      go_wp2_with (first
        | (go_at_call 22; refine (in_yes n 0 1099511627776 h0.1 h0.2 _).mono ?_; rintro e w3 ⟨rfl, rfl⟩))
      go_ret
      exact ⟨by rw [hv.out]; rfl, hb⟩
    · have hv := Lib.hid (okH_false (tl := tl) (n := n) (fun h => h2 h.2.2))
      have k3 : ((tl : Int) == n % 64) = false := beq_eq_false_iff_ne.2 h2
      clear h2
      go_enter Tryd.func18, Tryd.ntmps18
      go_wp2_with (first
        | (go_at_call 22; refine (in_yes n 0 1099511627776 h0.1 h0.2 _).mono ?_; rintro e w3 ⟨rfl, rfl⟩))
      go_ret
      exact ⟨by rw [hv.out]; rfl, hb⟩
  · have hv := Lib.hid (okH_false (tl := tl) (n := n) (fun h => h0 ⟨h.1, h.2.1⟩))
    go_enter Tryd.func18, Tryd.ntmps18
    go_wp2_with (first
      | (go_at_call 22; refine (in_no n 0 1099511627776 (by omega) _).mono ?_; rintro e w3 ⟨rfl, rfl⟩))
    go_ret
    exact ⟨by rw [hv.out]; rfl, hb⟩
end Go.Proofs.YtcippenhomhpbaaDoor
