/-
  The contracts of package digest's mixing of a block: what 'rotate', 'expand' and 'mix' return, for every state and block; they read the table of constants and change nothing that was there.
-/
import Derived.Test.YtcippenhomhpbaaDoorProg
import Derived.Test.YtcippenhomhpbaaDoorMem
import Derived.Test.YtcippenhomhpbaaDoorShaPlain
import Derived.WalkKit
import Derived.WalkSpells
import Derived.WalkLawsBesides
import Derived.Deep.QuietTactic
import Derived.BigQuiet
namespace Go.Proofs.YtcippenhomhpbaaDoor
open Go.RowKit

attribute [local go_sem] W_or W_and W_xor W_add W_addw W_shl8 W_shl16 W_shl24 W_shr3 W_shr10 W_not W_or_byte W_low

theorem and31 : ∀ n : Nat, n < 32 → 0 < n → bits BinOp.and IntKind.u64 (IntKind.u64.wrap (-(n : Int))) 31 = ((32 - n : Nat) : Int) := by
  decide

/-- bits.RotateLeft32 at a negative count. -/
theorem rotl_any (x : BitVec 32) (n : Nat) (h0 : 0 < n) (hn : n < 32) (w : World) :
    Calls Tryd.prog 46 #[.int .u32 (W x), .int .i64 (-(n : Int))] w fun e w' => e = .returned (.int .u32 (W (rotr x n))) ∧ w' = w := by
  have e0 := and31 n hn h0
  have hm1 : 32 - n < 32 := by omega
  have hm2 : 0 < 32 - n := by omega
  have hx := W_nonneg x
  have hx' := W_lt x
  go_enter Tryd.func46, Tryd.ntmps46
  go_wp2
  go_ret
  refine ⟨ret_int ?_, rfl⟩
  rw [show 32 - (32 - n) = n by omega, W_shl, W_shr, W_or, BitVec.or_comm, rotr_eq]

/-- digest.rotate. -/
theorem rotate_any (x : BitVec 32) (n : Nat) (h0 : 0 < n) (hn : n < 32) (w : World) :
    Calls Tryd.prog 44 #[.int .u32 (W x), .int .i64 n] w fun e w' => e = .returned (.int .u32 (W (rotr x n))) ∧ w' = w := by
  go_enter Tryd.func44, Tryd.ntmps44
  go_wp2_with (go_at_call 46; refine (rotl_any x n h0 hn _).mono ?_; rintro e w' ⟨rfl, rfl⟩)
  go_ret
  exact ⟨rfl, rfl⟩
theorem rotate_lit (x : BitVec 32) (n : Nat) (m : Int) (hm : m = (n : Int)) (h0 : 0 < n) (hn : n < 32) (w : World) :
    Calls Tryd.prog 44 #[.int .u32 (W x), .int .i64 m] w fun e w' => e = .returned (.int .u32 (W (rotr x n))) ∧ w' = w := by
  subst hm
  exact rotate_any x n h0 hn w

theorem cellsW : (Tryd.prog.info? 60).map (·.size) = some 64 := by kernel_rfl

theorem byte_mod (b : UInt8) : (b.toNat : Int) % (4294967296 : Int) = b.toNat := by have := b.toNat_lt; omega
attribute [local go_sem] byte_mod

set_option maxRecDepth 100000 in
set_option maxHeartbeats 4000000 in
/-- the second loop of digest.expand and what follows it -/
theorem expand_any (B : List UInt8) (hB : B.length = 64) (w : World) :
    Calls Tryd.prog 43 #[.agg (bs B)] w fun e w' => e = .returned (.agg (ws (schedule B))) ∧ Below w.heap.size w w' := by
  go_enter Tryd.func43, Tryd.ntmps43
  go_wp2
  go_loopw [8] (fun i wr => ∃ k : Nat, k ≤ 64 ∧ i = .int .i64 k ∧ Row wr w.heap.size 69 (bs B) ∧ Row wr (w.heap.size + 1) 60 (ws (List.replicate 64 0)) ∧ Row wr (w.heap.size + 1 + 1) 60 (ws (ex1 B k)) ∧ Below w.heap.size w wr) (fun i _ => 64 - (intOf i).toNat)
  case atStart =>
    refine ⟨0, by omega, rfl, ?_, ?_, ?_, ?_⟩
    · exact ((Row.new _ _ _).alloc _).alloc _
    · exact (Row.newEq _ _ _ _ _ (by simp) (by kernel_rfl)).alloc _
    · rw [ex1_zero]
      exact Row.newEq _ _ _ _ _ (by simp) (by kernel_rfl)
    · exact (((Below.refl _ _).alloc (Nat.le_refl _) _).alloc (by simp) _).alloc (by simp; omega) _
  case round =>
    obtain ⟨k, hk, rfl, h1, h2, h3, hb⟩ := hrel
    by_cases hlt : k < 64
    · have hl := ex1_length B k
      obtain ⟨xs, hxs⟩ : ∃ xs, xs = ex1 B k := ⟨_, rfl⟩
      obtain ⟨x, e0⟩ : ∃ x, x = xs.getD (k / 4) 0 := ⟨_, rfl⟩
      obtain ⟨b, e1⟩ : ∃ b, b = B.getD k 0 := ⟨_, rfl⟩
      have c1 := (h1.cell k).trans (bs_get _ _ (by omega))
      have c3 := (h3.cell (k / 4)).trans (ws_get _ _ (by omega))
      have f3 := h3.free (k / 4)
      rw [← hxs] at h3 c3
      rw [← e0] at c3
      rw [← e1] at c1
      have E0 := Lib.hid e0
      have E1 := Lib.hid e1
      have EX := Lib.hid hxs
      clear e0 e1 hxs hl hB
      go_wp2
      go_region
      go_wp2
      go_roundw
      case rel =>
        refine ⟨k + 1, by omega, by go_num, ?_, ?_, ?_, ?_⟩
        · exact (h1.far (by simp; omega) _).drew
        · exact (h2.far (by simp) _).drew
        · rw [ex1_succ, ← EX.out, ← E0.out, ← E1.out, ← ws_set]
          exact (h3.put _ _).drew
        · exact (hb.setCell (by simp; omega) _).drew
      case measure => simp [intOf]; omega
    · obtain rfl : k = 64 := by omega
      clear hlt hk
      have hl := ex1_length B 64
      obtain ⟨l, hl0⟩ : ∃ l, l = ex1 B 64 := ⟨_, rfl⟩
      have hs : schedule B = ex2 l 48 := by rw [hl0, schedule_eq]
      rw [← hl0] at h3 hl
      have HS := Lib.hid hs
      have HL := Lib.hid hl
      clear hl0 hs h1 hB hl
      go_wp2
      obtain ⟨wa, hwa⟩ : ∃ wa, wa = wr := ⟨_, rfl⟩
      rw [← hwa] at h2 h3 hb ⊢
      clear hwa wr
      go_loopw [5] (fun i wr => ∃ k : Nat, k ≤ 48 ∧ i = .int .i64 ((k + 16 : Nat) : Int) ∧ Row wr (w.heap.size + 1) 60 (ws (List.replicate 64 0)) ∧ Row wr (w.heap.size + 1 + 1) 60 (ws (ex2 l k)) ∧ Below w.heap.size w wr) (fun i _ => 64 - (intOf i).toNat)
      case atStart => exact ⟨0, by omega, rfl, h2, by rw [ex2_zero]; exact h3, hb⟩
      case round =>
        clear h2 h3 hb
        obtain ⟨k, hk, rfl, h2, h3, hb⟩ := hrel
        by_cases hlt : k < 48
        · have hl : (ex2 l k).length = 64 := by rw [ex2_length]; exact HL.out
          obtain ⟨xs, hxs⟩ : ∃ xs, xs = ex2 l k := ⟨_, rfl⟩
          rw [← hxs] at h3 hl
          obtain ⟨x0, e0⟩ : ∃ x, x = xs.getD k 0 := ⟨_, rfl⟩
          obtain ⟨x1, e1⟩ : ∃ x, x = xs.getD (k + 1) 0 := ⟨_, rfl⟩
          obtain ⟨x9, e9⟩ : ∃ x, x = xs.getD (k + 9) 0 := ⟨_, rfl⟩
          obtain ⟨x14, e14⟩ : ∃ x, x = xs.getD (k + 14) 0 := ⟨_, rfl⟩
          have c0 : wr.cell? ⟨w.heap.size + 1 + 1, k, none⟩ = some (.int .u32 (W x0)) := by rw [e0]; exact (h3.cell k).trans (ws_get _ _ (by omega))
          have c1 : wr.cell? ⟨w.heap.size + 1 + 1, k + 1, none⟩ = some (.int .u32 (W x1)) := by rw [e1]; exact (h3.cell (k + 1)).trans (ws_get _ _ (by omega))
          have c9 : wr.cell? ⟨w.heap.size + 1 + 1, k + 9, none⟩ = some (.int .u32 (W x9)) := by rw [e9]; exact (h3.cell (k + 9)).trans (ws_get _ _ (by omega))
          have c14 : wr.cell? ⟨w.heap.size + 1 + 1, k + 14, none⟩ = some (.int .u32 (W x14)) := by rw [e14]; exact (h3.cell (k + 14)).trans (ws_get _ _ (by omega))
          have c16 := (h3.cell (k + 16)).trans (ws_get _ _ (by omega))
          have f16 := h3.free (k + 16)
          have E0 := Lib.hid e0
          have E1 := Lib.hid e1
          have E9 := Lib.hid e9
          have E14 := Lib.hid e14
          have EX := Lib.hid hxs
          clear e0 e1 e9 e14 hxs hl
          go_wp2
          go_quiet ((first | (go_at_call 44; with_reducible exact Calls.quiet_of_same (rotate_lit x1 7 7 rfl (by omega) (by omega) _)) | (go_at_call 44; with_reducible exact Calls.quiet_of_same (rotate_lit x1 18 18 rfl (by omega) (by omega) _))))
          go_wp2
          have d14 : (wr.drewN nq).cell? ⟨w.heap.size + 1 + 1, k + 14, none⟩ = some (.int .u32 (W x14)) := c14
          obtain ⟨wq, hwq⟩ : ∃ wq, wq = wr.drewN nq := ⟨_, rfl⟩
          rw [← hwq] at d14 ⊢
          have HQ := Lib.hid hwq
          clear hwq
          go_quiet ((first | (go_at_call 44; with_reducible exact Calls.quiet_of_same (rotate_lit x14 17 17 rfl (by omega) (by omega) _)) | (go_at_call 44; with_reducible exact Calls.quiet_of_same (rotate_lit x14 19 19 rfl (by omega) (by omega) _))))
          go_wp2
          have r3 : Row (wq.drewN nq) (w.heap.size + 1 + 1) 60 (ws xs) := by rw [HQ.out]; exact h3
          have r2 : Row (wq.drewN nq) (w.heap.size + 1) 60 (ws (List.replicate 64 0)) := by rw [HQ.out]; exact h2
          have rb : Below w.heap.size w (wq.drewN nq) := by rw [HQ.out]; exact blw_drewN (blw_drewN hb _) _
          clear h3 h2 hb c0 c1 c9 c14 c16 f16 d14 HQ
          obtain ⟨wz, hwz⟩ : ∃ wz, wz = wq.drewN nq := ⟨_, rfl⟩
          rw [← hwz] at r3 r2 rb ⊢
          clear hwz
          have hl : xs.length = 64 := by rw [EX.out, ex2_length]; exact HL.out
          have c0 : wz.cell? ⟨w.heap.size + 1 + 1, k, none⟩ = some (.int .u32 (W x0)) := by rw [E0.out]; exact (r3.cell k).trans (ws_get _ _ (by omega))
          have c9 : wz.cell? ⟨w.heap.size + 1 + 1, k + 9, none⟩ = some (.int .u32 (W x9)) := by rw [E9.out]; exact (r3.cell (k + 9)).trans (ws_get _ _ (by omega))
          have c16 := (r3.cell (k + 16)).trans (ws_get _ _ (by omega))
          have f16 := r3.free (k + 16)
          clear hl
          go_region
          go_wp2
          go_roundw
          case rel =>
            refine ⟨k + 1, by omega, by go_num, ?_, ?_, ?_⟩
            · exact (r2.far (by simp) _).drew
            · rw [ex2_succ, ← EX.out, ← E0.out, ← E1.out, ← E9.out, ← E14.out, sig0_eq, sig1_eq, ← ws_set]
              exact (r3.put _ _).drew
            · exact (rb.setCell (by simp; omega) _).drew
          case measure => simp [intOf]; omega
        · obtain rfl : k = 48 := by omega
          have hsz : (ws (ex2 l 48)).size = 64 := by rw [ws_size, ex2_length]; exact HL.out
          have HZ := Lib.hid hsz
          clear hsz
          go_wp2_with (first
            | (refine wpList_load_row rfl 60 _ rfl (w.heap.size + 1 + 1) rfl 60 _ (0, 0) _ h3 Tryd.underlying60 rfl (cellsW.trans (congrArg some HZ.out.symm)) ?_)
            | (refine wpList_store_row rfl 60 _ _ rfl (w.heap.size + 1) _ rfl rfl 60 _ h2 (cellsW.trans (congrArg some HZ.out.symm)) (by rw [HZ.out, ws_size]; rfl) (all_one (ws_one _)) ?_))
          refine bodyPost_ret (results_row Tryd.results43 _ _ (w.heap.size + 1) 60 (ws (ex2 l 48)) _ rfl (Row.row h2 _) Tryd.underlying60 rfl (cellsW.trans (congrArg some HZ.out.symm))) rfl ⟨?_, ?_⟩
          · rw [HS.out]
          · exact blw_row hb (by omega) _
end Go.Proofs.YtcippenhomhpbaaDoor
