/-
  The contract of the reference's mixing of a block: it is the program's.
-/
import Derived.Test.YtcippenhomhpbaaDoorRefWord
namespace Go.Proofs.YtcippenhomhpbaaDoor
open Go.RowKit

attribute [local go_sem] W_or W_and W_xor W_add W_addw W_shl8 W_shl16 W_shl24 W_shr3 W_shr10 W_not W_flip W_or_byte W_low

/-- the first words of the schedule, as the reference lays them -/
def firstW (B : List UInt8) (k : Nat) : List (BitVec 32) := (List.range 64).map fun i => if i < k then wordAt B (4 * i) else 0
theorem firstW_length (B : List UInt8) (k : Nat) : (firstW B k).length = 64 := by simp [firstW]
theorem firstW_zero (B : List UInt8) : firstW B 0 = List.replicate 64 0 := rfl
theorem firstW_next (B : List UInt8) (k : Nat) : (firstW B k).set k (wordAt B (4 * k)) = firstW B (k + 1) := by
  apply List.ext_getElem
  · simp [firstW]
  · intro i h1 h2
    simp only [firstW, List.length_set, List.length_map, List.length_range] at h1 h2
    rw [List.getElem_set]
    by_cases h : k = i
    · subst h
      simp [firstW]
    · rw [if_neg h]
      simp only [firstW, List.getElem_map, List.getElem_range]
      by_cases hi : i < k
      · rw [if_pos hi, if_pos (by omega)]
      · rw [if_neg hi, if_neg (by omega)]
theorem firstW_get (B : List UInt8) (k i : Nat) (h : i < 64) : (firstW B k).getD i 0 = if i < k then wordAt B (4 * i) else 0 := by
  simp [firstW, h]
theorem four_bytes (a b c d : BitVec 32) : (((0#32 <<< 8 ||| a) <<< 8 ||| b) <<< 8 ||| c) <<< 8 ||| d = a <<< 24 ||| b <<< 16 ||| c <<< 8 ||| d := by
  simp only [BitVec.shiftLeft_or_distrib, ← BitVec.shiftLeft_add, BitVec.zero_shiftLeft, BitVec.zero_or]
/-- byte for byte or word for word: the same -/
theorem ex1_first (B : List UInt8) : ∀ j, j ≤ 16 → ex1 B (4 * j) = firstW B j
  | 0, _ => by rw [Nat.mul_zero, ex1_zero, firstW_zero]
  | j + 1, h => by
    have ih := ex1_first B j (by omega)
    have e : 4 * (j + 1) = 4 * j + 1 + 1 + 1 + 1 := by omega
    rw [e, ex1_succ, ex1_succ, ex1_succ, ex1_succ, ih, show (4 * j + 1 + 1 + 1) / 4 = j by omega, show (4 * j + 1 + 1) / 4 = j by omega, show (4 * j + 1) / 4 = j by omega, show 4 * j / 4 = j by omega]
    have hl := firstW_length B j
    simp only [List.set_set, List.getD_eq_getElem?_getD, List.getElem?_set_self (show j < (firstW B j).length by omega), Option.getD_some]
    have h0 : (firstW B j)[j]?.getD 0 = 0 := by
      have := firstW_get B j j (by omega)
      rw [List.getD_eq_getElem?_getD] at this
      rw [this, if_neg (by omega)]
    rw [← firstW_next, wordAt_eq, h0]
    congr 1
    simp only [List.getD_eq_getElem?_getD]
    exact four_bytes _ _ _ _
theorem schedule_first (B : List UInt8) : schedule B = ex2 (firstW B 16) 48 := by rw [schedule_eq, ← ex1_first B 16 (by omega)]
theorem wordAt_block (L : List UInt8) (i j : Nat) (hj : 4 * j + 4 ≤ 64) : wordAt ((L.drop i).take 64) (4 * j) = wordAt L (i + 4 * j) := by
  have e : ∀ t, t < 64 → ((L.drop i).take 64).getD t 0 = L.getD (i + t) 0 := by
    intro t ht
    simp only [List.getD_eq_getElem?_getD, List.getElem?_take, if_pos ht, List.getElem?_drop]
  rw [wordAt_eq, wordAt_eq, e _ (by omega), e _ (by omega), e _ (by omega), e _ (by omega)]
  simp only [Nat.add_assoc]
theorem word_lit (A : Option Addr) (L : List UInt8) (n c : Nat) (i : Nat) (z : Int) (hz : z = (i : Int)) (w : World) (hL : Sl w w.heap.size A n (bl L)) (hi : i + 4 ≤ n) (hn : n ≤ 1152921504606846975) :
    Calls Tryd.prog 34 #[.slice A n c, .int .i64 z] w fun e w' => e = .returned (.int .u32 (W (wordAt L i))) ∧ ∃ m, w' = w.drewN m := by
  subst hz
  exact word_any A L n c i w hL hi hn
theorem addSt_lit (s x : St) : (#[.int .u32 (W (s.a + x.a)), .int .u32 (W (s.b + x.b)), .int .u32 (W (s.c + x.c)), .int .u32 (W (s.d + x.d)), .int .u32 (W (s.e + x.e)), .int .u32 (W (s.f + x.f)), .int .u32 (W (s.g + x.g)), .int .u32 (W (s.h + x.h))] : Array Value) = stc (addSt s x) := by
  unfold addSt
  rfl
attribute [irreducible] firstW

set_option maxRecDepth 100000 in
set_option maxHeartbeats 4000000 in
/-- scriptoriumref3.Mixed -/
theorem refMixed_any (s : St) (A : Option Addr) (L : List UInt8) (n c : Nat) (at_ : Nat) (w : World) (hL : Sl w w.heap.size A n (bl L)) (hat : at_ + 64 ≤ n) (hn : n ≤ 1125899906842624) :
    Calls Tryd.prog 21 #[.agg (stc s), .slice A n c, .int .i64 at_] w fun e w' => e = .returned (.agg (stc (mixed s ((L.drop at_).take 64)))) ∧ Below w.heap.size w w' := by
  obtain ⟨Bk, hBk⟩ : ∃ B, B = (L.drop at_).take 64 := ⟨_, rfl⟩
  have HB := Lib.hid hBk
  have HM := Lib.hid (mixed_eq s Bk)
  rw [← hBk]
  clear hBk
  go_enter Tryd.func21, Tryd.ntmps21
  go_wp2
  go_loopw [8] (fun i wr => ∃ k : Nat, k ≤ 16 ∧ i = .int .i64 k ∧ Row wr w.heap.size 28 (stc s) ∧ Row wr (w.heap.size + 1) 28 (stc ⟨0, 0, 0, 0, 0, 0, 0, 0⟩) ∧ Row wr (w.heap.size + 1 + 1) 60 (ws (firstW Bk k)) ∧ Below w.heap.size w wr) (fun i _ => 16 - (intOf i).toNat)
  case atStart =>
    refine ⟨0, by omega, rfl, ((Row.new _ _ _).alloc _).alloc _, (Row.newEq _ _ _ _ _ (by simp) z8_lit).alloc _, Row.newEq _ _ _ _ _ (by simp) (z64_lit.trans (by rw [firstW_zero])), up_alloc (up_alloc (up_alloc (Below.refl _ _) _) _) _⟩
  case round =>
    obtain ⟨k, hk, rfl, h1, h2, h3, hb⟩ := hrel
    by_cases hlt : k < 16
    · have EW := Lib.hid (wordAt_block L at_ k (by omega))
      have hz := firstW_length Bk k
      go_wp2_with (first
        | (go_at_call 34; refine (word_lit A L n c (at_ + 4 * k) _ (by omega) wr (hL.up hb) (by omega) (by omega)).mono ?_; rintro e w1 ⟨rfl, m, rfl⟩; have c3 : (wr.drewN m).cell? ⟨w.heap.size + 1 + 1, k, none⟩ = some (.int .u32 (W ((firstW Bk k).getD k 0))) := (h3.cell k).trans (ws_get _ _ (by omega)); have f3 := (h3.drewN m).free k))
      go_roundw
      case rel =>
        refine ⟨k + 1, by omega, by go_num, ?_, ?_, ?_, ?_⟩
        · exact (h1.far (by simp; omega) _).drewN m
        · exact (h2.far (by simp) _).drewN m
        · rw [← firstW_next, ← ws_set, HB.out, EW.out, ← HB.out]
          exact (h3.put _ _).drewN m
        · exact blw_drewN (hb.setCell (by simp; omega) _) m
      case measure => simp [intOf]; omega
    · obtain rfl : k = 16 := by omega
      clear hlt hk
      have hl := firstW_length Bk 16
      have hs := schedule_first Bk
      obtain ⟨l, hl0⟩ : ∃ l, l = firstW Bk 16 := ⟨_, rfl⟩
      rw [← hl0] at h3 hl hs
      have HS := Lib.hid hs
      have HL := Lib.hid hl
      clear hl0 hs hl
      go_wp2
      obtain ⟨wa, hwa⟩ : ∃ wa, wa = wr := ⟨_, rfl⟩
      rw [← hwa] at h1 h2 h3 hb ⊢
      clear hwa wr
      go_loopw [9] (fun i wr => ∃ k : Nat, k ≤ 48 ∧ i = .int .i64 ((k + 16 : Nat) : Int) ∧ Row wr w.heap.size 28 (stc s) ∧ Row wr (w.heap.size + 1) 28 (stc ⟨0, 0, 0, 0, 0, 0, 0, 0⟩) ∧ Row wr (w.heap.size + 1 + 1) 60 (ws (ex2 l k)) ∧ Below w.heap.size w wr) (fun i _ => 64 - (intOf i).toNat)
      case atStart => exact ⟨0, by omega, rfl, h1, h2, by rw [ex2_zero]; exact h3, hb⟩
      case round =>
        clear h1 h2 h3 hb
        obtain ⟨k, hk, rfl, h1, h2, h3, hb⟩ := hrel
        by_cases hlt : k < 48
        · have hl : (ex2 l k).length = 64 := by rw [ex2_length]; exact HL.out
          obtain ⟨xs, hxs⟩ : ∃ xs, xs = ex2 l k := ⟨_, rfl⟩
          rw [← hxs] at h3 hl
          obtain ⟨x0, e0⟩ : ∃ x, x = xs.getD k 0 := ⟨_, rfl⟩
          obtain ⟨x1, e1⟩ : ∃ x, x = xs.getD (k + 1) 0 := ⟨_, rfl⟩
          obtain ⟨x9, e9⟩ : ∃ x, x = xs.getD (k + 9) 0 := ⟨_, rfl⟩
          obtain ⟨x14, e14⟩ : ∃ x, x = xs.getD (k + 14) 0 := ⟨_, rfl⟩
          have c0 : wr.cell? ⟨w.heap.size + 1 + 1, k, none⟩ = some (.int .u32 (W x0)) := by rw [e0]; exact (h3.cell k).trans (ws_get _ _ (by omega))
          have c1 : wr.cell? ⟨w.heap.size + 1 + 1, k + 1, none⟩ = some (.int .u32 (W x1)) := by rw [e1]; exact (h3.cell (k + 1)).trans (ws_get _ _ (by omega))
          have c9 : wr.cell? ⟨w.heap.size + 1 + 1, k + 9, none⟩ = some (.int .u32 (W x9)) := by rw [e9]; exact (h3.cell (k + 9)).trans (ws_get _ _ (by omega))
          have c14 : wr.cell? ⟨w.heap.size + 1 + 1, k + 14, none⟩ = some (.int .u32 (W x14)) := by rw [e14]; exact (h3.cell (k + 14)).trans (ws_get _ _ (by omega))
          have c16 := (h3.cell (k + 16)).trans (ws_get _ _ (by omega))
          have f16 := h3.free (k + 16)
          have E0 := Lib.hid e0
          have E1 := Lib.hid e1
          have E9 := Lib.hid e9
          have E14 := Lib.hid e14
          have EX := Lib.hid hxs
          clear e0 e1 e9 e14 hxs hl
          go_wp2
          go_quiet ((first | (go_at_call 35; with_reducible exact Calls.quiet_of (turn_lit x1 7 7 rfl (by omega) (by omega) _)) | (go_at_call 35; with_reducible exact Calls.quiet_of (turn_lit x1 18 18 rfl (by omega) (by omega) _))))
          go_wp2
          have d14 : (wr.drewN nq).cell? ⟨w.heap.size + 1 + 1, k + 14, none⟩ = some (.int .u32 (W x14)) := c14
          obtain ⟨wq, hwq⟩ : ∃ wq, wq = wr.drewN nq := ⟨_, rfl⟩
          rw [← hwq] at d14 ⊢
          have HQ := Lib.hid hwq
          clear hwq
          go_quiet ((first | (go_at_call 35; with_reducible exact Calls.quiet_of (turn_lit x14 17 17 rfl (by omega) (by omega) _)) | (go_at_call 35; with_reducible exact Calls.quiet_of (turn_lit x14 19 19 rfl (by omega) (by omega) _))))
          go_wp2
          have r3 : Row (wq.drewN nq) (w.heap.size + 1 + 1) 60 (ws xs) := by rw [HQ.out]; exact h3
          have r2 : Row (wq.drewN nq) (w.heap.size + 1) 28 (stc ⟨0, 0, 0, 0, 0, 0, 0, 0⟩) := by rw [HQ.out]; exact h2
          have r1 : Row (wq.drewN nq) w.heap.size 28 (stc s) := by rw [HQ.out]; exact h1
          have rb : Below w.heap.size w (wq.drewN nq) := by rw [HQ.out]; exact blw_drewN (blw_drewN hb _) _
          clear h3 h2 h1 hb c0 c1 c9 c14 c16 f16 d14 HQ
          obtain ⟨wz, hwz⟩ : ∃ wz, wz = wq.drewN nq := ⟨_, rfl⟩
          rw [← hwz] at r3 r2 r1 rb ⊢
          clear hwz
          have hl : xs.length = 64 := by rw [EX.out, ex2_length]; exact HL.out
          have c0 : wz.cell? ⟨w.heap.size + 1 + 1, k, none⟩ = some (.int .u32 (W x0)) := by rw [E0.out]; exact (r3.cell k).trans (ws_get _ _ (by omega))
          have c9 : wz.cell? ⟨w.heap.size + 1 + 1, k + 9, none⟩ = some (.int .u32 (W x9)) := by rw [E9.out]; exact (r3.cell (k + 9)).trans (ws_get _ _ (by omega))
          have c16 := (r3.cell (k + 16)).trans (ws_get _ _ (by omega))
          have f16 := r3.free (k + 16)
          clear hl
          go_region
          go_wp2
          go_roundw
          case rel =>
            refine ⟨k + 1, by omega, by go_num, ?_, ?_, ?_, ?_⟩
            · exact (r1.far (by simp; omega) _).drew
            · exact (r2.far (by simp) _).drew
            · rw [ex2_succ, ← EX.out, ← E0.out, ← E1.out, ← E9.out, ← E14.out, sig0_eq, sig1_eq, ← ws_set]
              exact (r3.put _ _).drew
            · exact (rb.setCell (by simp; omega) _).drew
          case measure => simp [intOf]; omega
        · obtain rfl : k = 48 := by omega
          rw [← HS.out] at h3
          clear hlt hk HS HL
          have HSL := Lib.hid (schedule_length Bk)
          obtain ⟨wb, hwb⟩ : ∃ wb, wb = wr := ⟨_, rfl⟩
          rw [← hwb] at h1 h2 h3 hb ⊢
          clear hwb wr
          go_upto_region 13 with (first
            | (go_at_call 36; refine (refK_any _).mono ?_; rintro e w3 ⟨rfl, hb3⟩; have q1 := h1.below hb3 h1.lt; have q2 := h2.below hb3 h2.lt; have q3 := h3.below hb3 h3.lt)
            | (refine wpList_store_row rfl 60 _ _ rfl w3.heap.size (ws kcl) rfl rfl 60 (ws (List.replicate 64 0)) (Row.newEq _ _ _ _ _ rfl z64_lit) (by rw [ws_size, kcl_length]; exact cellsW) (by rw [ws_size, ws_size, kcl_length]; rfl) (all_one (ws_one _)) ?_))
          have hbz := up_call hb hb3
          have lz := q1.lt
          have lz2 := q2.lt
          have lz3 := q3.lt
          refine wp_world (F := fun W => Row W w.heap.size 28 (stc s) ∧ Row W (w.heap.size + 1) 28 (stc ⟨0, 0, 0, 0, 0, 0, 0, 0⟩) ∧ Row W (w.heap.size + 1 + 1) 60 (ws (schedule Bk)) ∧ Row W w3.heap.size 60 (ws kcl) ∧ Below w.heap.size w W)
            ⟨(q1.alloc _).rowFar (by omega) _, (q2.alloc _).rowFar (by omega) _, (q3.alloc _).rowFar (by omega) _, Row.row (Row.newEq _ _ _ _ _ rfl z64_lit) _, up_row (up_alloc hbz _) (by omega) _⟩ ?_
          have lk : w.heap.size + 1 + 1 < w3.heap.size := lz3
          generalize w3.heap.size = gk at *
          clear hb3 hb hbz lz lz2 lz3 q1 q2 q3 h1 h2 h3 w3 wb
          rintro w3 ⟨q1, q2, q3, q4, qb⟩
          have c0 : w3.cell? ⟨w.heap.size, 0, none⟩ = some (.int .u32 (W s.a)) := (q1.cell 0).trans rfl
          have c1 : w3.cell? ⟨w.heap.size, 1, none⟩ = some (.int .u32 (W s.b)) := (q1.cell 1).trans rfl
          have c2 : w3.cell? ⟨w.heap.size, 2, none⟩ = some (.int .u32 (W s.c)) := (q1.cell 2).trans rfl
          have c3 : w3.cell? ⟨w.heap.size, 3, none⟩ = some (.int .u32 (W s.d)) := (q1.cell 3).trans rfl
          have c4 : w3.cell? ⟨w.heap.size, 4, none⟩ = some (.int .u32 (W s.e)) := (q1.cell 4).trans rfl
          have c5 : w3.cell? ⟨w.heap.size, 5, none⟩ = some (.int .u32 (W s.f)) := (q1.cell 5).trans rfl
          have c6 : w3.cell? ⟨w.heap.size, 6, none⟩ = some (.int .u32 (W s.g)) := (q1.cell 6).trans rfl
          have c7 : w3.cell? ⟨w.heap.size, 7, none⟩ = some (.int .u32 (W s.h)) := (q1.cell 7).trans rfl
          go_quiet (fail)
          go_wp2
          have p1 := q1.drewN nq
          have p2 := q2.drewN nq
          have p3 := q3.drewN nq
          have p4 := q4.drewN nq
          have pb := blw_drewN qb nq
          obtain ⟨w4, hw4⟩ : ∃ W1, W1 = w3.drewN nq := ⟨_, rfl⟩
          rw [← hw4] at p1 p2 p3 p4 pb ⊢
          clear c0 c1 c2 c3 c4 c5 c6 c7 q1 q2 q3 q4 qb hw4 w3
          have q1 := p1
          have e4 : w4.cell? ⟨w.heap.size, 4, none⟩ = some (.int .u32 (W s.e)) := (q1.cell 4).trans rfl
          have e5 : w4.cell? ⟨w.heap.size, 5, none⟩ = some (.int .u32 (W s.f)) := (q1.cell 5).trans rfl
          have e6 : w4.cell? ⟨w.heap.size, 6, none⟩ = some (.int .u32 (W s.g)) := (q1.cell 6).trans rfl
          have e7 : w4.cell? ⟨w.heap.size, 7, none⟩ = some (.int .u32 (W s.h)) := (q1.cell 7).trans rfl
          clear q1
          go_quiet (fail)
          go_wp2
          have q1 := p1.drewN nq
          have q2 := p2.drewN nq
          have q3 := p3.drewN nq
          have q4 := p4.drewN nq
          have qb := blw_drewN pb nq
          obtain ⟨w5, hw5⟩ : ∃ W1, W1 = w4.drewN nq := ⟨_, rfl⟩
          rw [← hw5] at q1 q2 q3 q4 qb ⊢
          clear e4 e5 e6 e7 p1 p2 p3 p4 pb hw5 w4
          go_loopw [13, 14, 15, 16, 17, 18, 19, 20, 21] (fun a b c d e f g h i wr => ∃ k : Nat, k ≤ 64 ∧ i = .int .i64 k ∧ ∃ x : St, Hid (x = rounds (schedule Bk) s k) ∧ a = .int .u32 (W x.a) ∧ b = .int .u32 (W x.b) ∧ c = .int .u32 (W x.c) ∧ d = .int .u32 (W x.d) ∧ e = .int .u32 (W x.e) ∧ f = .int .u32 (W x.f) ∧ g = .int .u32 (W x.g) ∧ h = .int .u32 (W x.h) ∧
            Row wr w.heap.size 28 (stc s) ∧ Row wr (w.heap.size + 1) 28 (stc ⟨0, 0, 0, 0, 0, 0, 0, 0⟩) ∧ Row wr (w.heap.size + 1 + 1) 60 (ws (schedule Bk)) ∧ Row wr gk 60 (ws kcl) ∧ Below w.heap.size w wr) (fun _ _ _ _ _ _ _ _ i _ => 64 - (intOf i).toNat)
          case atStart => exact ⟨0, by omega, rfl, s, Lib.hid (rounds_zero _ _).symm, rfl, rfl, rfl, rfl, rfl, rfl, rfl, rfl, q1, q2, q3, q4, qb⟩
          case round =>
            clear q1 q2 q3 q4 qb
            obtain ⟨k, hk, rfl, x, HX, rfl, rfl, rfl, rfl, rfl, rfl, rfl, rfl, q1, q2, q3, q4, qb⟩ := hrel
            by_cases hlt : k < 64
            · obtain ⟨xw, e0⟩ : ∃ y, y = (schedule Bk).getD k 0 := ⟨_, rfl⟩
              have E0 := Lib.hid e0
              have ck : wr.cell? ⟨gk, k, none⟩ = some (.int .u32 (W (kc k))) := by rw [← kcl_get k hlt]; exact (q4.cell k).trans (ws_get _ _ (by rw [kcl_length]; exact hlt))
              have cw : wr.cell? ⟨w.heap.size + 1 + 1, k, none⟩ = some (.int .u32 (W xw)) := by rw [e0]; exact (q3.cell k).trans (ws_get _ _ (by have := HSL.out; omega))
              clear e0
              go_wp2
              go_quiet ((first | (go_at_call 35; with_reducible exact Calls.quiet_of (turn_lit x.e 6 6 rfl (by omega) (by omega) _)) | (go_at_call 35; with_reducible exact Calls.quiet_of (turn_lit x.e 11 11 rfl (by omega) (by omega) _)) | (go_at_call 35; with_reducible exact Calls.quiet_of (turn_lit x.e 25 25 rfl (by omega) (by omega) _))))
              go_wp2_with (first | (go_at_call 35; (with_reducible refine (turn_lit x.a 2 2 rfl (by omega) (by omega) _).mono ?_); rintro e w' ⟨rfl, m1, rfl⟩) | (go_at_call 35; (with_reducible refine (turn_lit x.a 13 13 rfl (by omega) (by omega) _).mono ?_); rintro e w' ⟨rfl, m2, rfl⟩) | (go_at_call 35; (with_reducible refine (turn_lit x.a 22 22 rfl (by omega) (by omega) _).mono ?_); rintro e w' ⟨rfl, m3, rfl⟩))
              go_roundw
              case rel =>
                refine ⟨k + 1, by omega, by go_num, step x (kc k) xw, ?_, ?_, rfl, rfl, rfl, ?_, rfl, rfl, rfl, q1, q2, q3, q4, ?_⟩
                · rw [rounds_next, ← HX.out, ← E0.out]
                  exact Lib.hid rfl
                · rw [step_a]
                · rw [step_e]
                · exact blw_drewN qb _
              case measure => simp [intOf]; omega
            · obtain rfl : k = 64 := by omega
              have c0 : wr.cell? ⟨w.heap.size, 0, none⟩ = some (.int .u32 (W s.a)) := (q1.cell 0).trans rfl
              have c1 : wr.cell? ⟨w.heap.size, 1, none⟩ = some (.int .u32 (W s.b)) := (q1.cell 1).trans rfl
              have c2 : wr.cell? ⟨w.heap.size, 2, none⟩ = some (.int .u32 (W s.c)) := (q1.cell 2).trans rfl
              have c3 : wr.cell? ⟨w.heap.size, 3, none⟩ = some (.int .u32 (W s.d)) := (q1.cell 3).trans rfl
              have c4 : wr.cell? ⟨w.heap.size, 4, none⟩ = some (.int .u32 (W s.e)) := (q1.cell 4).trans rfl
              have c5 : wr.cell? ⟨w.heap.size, 5, none⟩ = some (.int .u32 (W s.f)) := (q1.cell 5).trans rfl
              have c6 : wr.cell? ⟨w.heap.size, 6, none⟩ = some (.int .u32 (W s.g)) := (q1.cell 6).trans rfl
              have c7 : wr.cell? ⟨w.heap.size, 7, none⟩ = some (.int .u32 (W s.h)) := (q1.cell 7).trans rfl
              go_wp2_with (first
                | (refine wpList_store_row rfl 28 _ _ rfl (w.heap.size + 1) (stc (addSt s x)) rfl (congrArg Value.agg (addSt_lit s x)) 28 _ q2 cells8 rfl (all_one (stc_one _)) ?_))
              refine bodyPost_ret (results_row Tryd.results21 _ _ (w.heap.size + 1) 28 (stc (addSt s x)) _ rfl (Row.row q2 _) Tryd.underlying28 rfl cells8) rfl ⟨?_, ?_⟩
              · rw [HX.out, HM.out]
              · exact blw_row qb (by omega) _
end Go.Proofs.YtcippenhomhpbaaDoor
