/-
  The contract of digest.mix: what it returns for every state and block; it reads the table of constants and changes nothing that was there.
-/
import Derived.Test.YtcippenhomhpbaaDoorShaWalk
import Derived.Deep.WholeRow
namespace Go.Proofs.YtcippenhomhpbaaDoor
open Go.RowKit

attribute [local go_sem] W_or W_and W_xor W_add W_addw W_shl8 W_shl16 W_shl24 W_shr3 W_shr10 W_not W_flip W_or_byte W_low

/-- the table of the constants, as memory holds it -/
def KIs (w : World) : Prop := ∀ i, i < 64 → w.cell? ⟨0, i, none⟩ = some (.int .u32 (W (kc i)))
theorem KIs.lt {w : World} (h : KIs w) : 0 < w.heap.size := block_lt_of_cell (h 0 (by omega))
theorem KIs.keep {w w' : World} {B : Nat} (h : KIs w) (hb : Below B w w') (hB : 0 < B) : KIs w' := fun i hi => (hb.cell (p := ⟨0, i, none⟩) hB).trans (h i hi)

theorem cells8 : (Tryd.prog.info? 28).map (·.size) = some 8 := by kernel_rfl
theorem cellsB : (Tryd.prog.info? 69).map (·.size) = some 64 := by kernel_rfl

theorem index8 (x : St) (k : Nat) (h : k < 8) (w : World) : (Instr.index 28 (.agg (stc x)) (.int .i64 (k : Int))).run Tryd.prog w = .ok (.int .u32 (W (x.get k))) w := by
  rcases lt8 h with rfl | rfl | rfl | rfl | rfl | rfl | rfl | rfl <;> kernel_rfl

set_option maxRecDepth 100000 in
set_option maxHeartbeats 4000000 in
theorem mix_any (s : St) (B : List UInt8) (hB : B.length = 64) (w : World) (hk : KIs w) :
    Calls Tryd.prog 41 #[.agg (stc s), .agg (bs B)] w fun e w' => e = .returned (.agg (stc (mixed s B))) ∧ Below w.heap.size w w' := by
  have HK := Lib.hid hk
  have hg := hk.lt
  have hz : (bs B).size = 64 := by rw [bs_size, hB]
  have hl := schedule_length B
  have HL := Lib.hid hl
  have HZ := Lib.hid hz
  have HB := Lib.hid hB
  have hm := mixed_eq s B
  obtain ⟨l, hl0⟩ : ∃ l, l = schedule B := ⟨_, rfl⟩
  have HM := Lib.hid hm
  clear hk hl hz hB hm hl0 l
  go_enter Tryd.func41, Tryd.ntmps41
  go_wp2_with (first
    | (refine wpList_load_row rfl 69 _ rfl (w.heap.size + 1) rfl 69 _ (0, 0) _ ((Row.newAt _ _ _ _ (by simp)).alloc _) Tryd.underlying69 rfl (cellsB.trans (congrArg some HZ.out.symm)) ?_)
    | (go_at_call 43; refine (expand_any B HB.out _).mono ?_; rintro e w1 ⟨rfl, hb1⟩)
    | (refine wpList_store_row rfl 60 _ _ rfl w1.heap.size _ rfl rfl 60 _ (Row.new _ _ _) (by rw [ws_size]; exact cellsW.trans (congrArg some HL.out.symm)) (by rw [ws_size, HL.out]; rfl) (all_one (ws_one _)) ?_))
  have hz1 : w.heap.size + 1 + 1 < w1.heap.size := by have := hb1.size; simp at this; omega
  have r0 : Row w1 w.heap.size 28 (stc s) := Row.below (((Row.new _ _ _).alloc _).alloc _) hb1 (by simp; omega)
  have r2 : Row w1 (w.heap.size + 1 + 1) 28 (stc ⟨0, 0, 0, 0, 0, 0, 0, 0⟩) := Row.below (Row.newEq _ _ _ _ _ (by simp) (by kernel_rfl)) hb1 (by simp)
  have hb2 : Below w.heap.size w w1 := blw_call ((((Below.refl _ _).alloc (Nat.le_refl _) _).alloc (by simp) _).alloc (by simp; omega) _) (by simp; omega) hb1
  have q0 : Row (w1.alloc (.cells (ws (schedule B)) 60)) w.heap.size 28 (stc s) := r0.alloc _
  have q2 : Row (w1.alloc (.cells (ws (schedule B)) 60)) (w.heap.size + 1 + 1) 28 (stc ⟨0, 0, 0, 0, 0, 0, 0, 0⟩) := r2.alloc _
  have q3 : Row (w1.alloc (.cells (ws (schedule B)) 60)) w1.heap.size 60 (ws (schedule B)) := Row.new _ _ _
  have qb : Below w.heap.size w (w1.alloc (.cells (ws (schedule B)) 60)) := hb2.alloc (by omega) _
  rw [World.setRow_alloc_new]
  obtain ⟨W0, hW0⟩ : ∃ W0, W0 = w1.alloc (.cells (ws (schedule B)) 60) := ⟨_, rfl⟩
  obtain ⟨gw, hgw⟩ : ∃ gw, gw = w1.heap.size := ⟨_, rfl⟩
  rw [← hW0] at q0 q2 q3 qb ⊢
  rw [← hgw] at q3 hz1 ⊢
  clear r0 r2 hb1 hb2 hW0 hgw w1
  have c0 : W0.cell? ⟨w.heap.size, 0, none⟩ = some (.int .u32 (W s.a)) := (q0.cell 0).trans rfl
  have c1 : W0.cell? ⟨w.heap.size, 1, none⟩ = some (.int .u32 (W s.b)) := (q0.cell 1).trans rfl
  have c2 : W0.cell? ⟨w.heap.size, 2, none⟩ = some (.int .u32 (W s.c)) := (q0.cell 2).trans rfl
  have c3 : W0.cell? ⟨w.heap.size, 3, none⟩ = some (.int .u32 (W s.d)) := (q0.cell 3).trans rfl
  have c4 : W0.cell? ⟨w.heap.size, 4, none⟩ = some (.int .u32 (W s.e)) := (q0.cell 4).trans rfl
  have c5 : W0.cell? ⟨w.heap.size, 5, none⟩ = some (.int .u32 (W s.f)) := (q0.cell 5).trans rfl
  have c6 : W0.cell? ⟨w.heap.size, 6, none⟩ = some (.int .u32 (W s.g)) := (q0.cell 6).trans rfl
  have c7 : W0.cell? ⟨w.heap.size, 7, none⟩ = some (.int .u32 (W s.h)) := (q0.cell 7).trans rfl
  go_quiet (fail)
  go_wp2
  clear c0 c1 c2 c3 c4 c5 c6 c7
  have p0 := q0.drewN nq
  have p2 := q2.drewN nq
  have p3 := q3.drewN nq
  have pb := blw_drewN qb nq
  obtain ⟨W1, hW1⟩ : ∃ W1, W1 = W0.drewN nq := ⟨_, rfl⟩
  rw [← hW1] at p0 p2 p3 pb ⊢
  clear q0 q2 q3 qb hW1 W0
  go_loopw [6, 7, 8, 9, 10, 11, 12, 13, 37] (fun a b c d e f g h i wr => ∃ k : Nat, k ≤ 64 ∧ i = .int .i64 k ∧ ∃ x : St, Hid (x = rounds (schedule B) s k) ∧ a = .int .u32 (W x.a) ∧ b = .int .u32 (W x.b) ∧ c = .int .u32 (W x.c) ∧ d = .int .u32 (W x.d) ∧ e = .int .u32 (W x.e) ∧ f = .int .u32 (W x.f) ∧ g = .int .u32 (W x.g) ∧ h = .int .u32 (W x.h) ∧
    Row wr w.heap.size 28 (stc s) ∧ Row wr (w.heap.size + 1 + 1) 28 (stc ⟨0, 0, 0, 0, 0, 0, 0, 0⟩) ∧ Row wr gw 60 (ws (schedule B)) ∧ Below w.heap.size w wr) (fun _ _ _ _ _ _ _ _ i _ => 64 - (intOf i).toNat)
  case atStart => exact ⟨0, by omega, rfl, s, Lib.hid (rounds_zero _ _).symm, rfl, rfl, rfl, rfl, rfl, rfl, rfl, rfl, p0, p2, p3, pb⟩
  case round =>
    clear p0 p2 p3 pb
    obtain ⟨k, hk, rfl, x, HX, rfl, rfl, rfl, rfl, rfl, rfl, rfl, rfl, q0, q2, q3, qb⟩ := hrel
    by_cases hlt : k < 64
    · obtain ⟨xw, e0⟩ : ∃ y, y = (schedule B).getD k 0 := ⟨_, rfl⟩
      have E0 := Lib.hid e0
      have ck := KIs.keep HK.out qb hg k hlt
      have cw : wr.cell? ⟨gw, k, none⟩ = some (.int .u32 (W xw)) := by rw [e0]; exact (q3.cell k).trans (ws_get _ _ (by have := HL.out; omega))
      clear e0
      go_wp2
      go_quiet ((first | (go_at_call 44; with_reducible exact Calls.quiet_of_same (rotate_lit x.e 6 6 rfl (by omega) (by omega) _)) | (go_at_call 44; with_reducible exact Calls.quiet_of_same (rotate_lit x.e 11 11 rfl (by omega) (by omega) _)) | (go_at_call 44; with_reducible exact Calls.quiet_of_same (rotate_lit x.e 25 25 rfl (by omega) (by omega) _))))
      go_wp2_with (first | (go_at_call 44; (with_reducible refine (rotate_lit x.a 2 2 rfl (by omega) (by omega) _).mono ?_); rintro e w' ⟨rfl, rfl⟩) | (go_at_call 44; (with_reducible refine (rotate_lit x.a 13 13 rfl (by omega) (by omega) _).mono ?_); rintro e w' ⟨rfl, rfl⟩) | (go_at_call 44; (with_reducible refine (rotate_lit x.a 22 22 rfl (by omega) (by omega) _).mono ?_); rintro e w' ⟨rfl, rfl⟩))
      go_roundw
      case rel =>
        refine ⟨k + 1, by omega, by go_num, step x (kc k) xw, ?_, ?_, rfl, rfl, rfl, ?_, rfl, rfl, rfl, ?_, ?_, ?_, ?_⟩
        · rw [rounds_next, ← HX.out, ← E0.out]
          exact Lib.hid rfl
        · rw [step_a]
        · rw [step_e]
        · exact q0
        · exact q2
        · exact q3
        · exact blw_drewN qb _
      case measure => simp [intOf]; omega
    · obtain rfl : k = 64 := by omega
      go_wp2
      rw [show (#[Value.int .u32 (W x.a), Value.int .u32 (W x.b), Value.int .u32 (W x.c), Value.int .u32 (W x.d), Value.int .u32 (W x.e), Value.int .u32 (W x.f), Value.int .u32 (W x.g), Value.int .u32 (W x.h)] : Array Value) = stc x from rfl]
      have o0 : Row wr w.heap.size 28 (stc (part s x 0)) := by rw [part_zero]; exact q0
      obtain ⟨W2, hW2⟩ : ∃ W2, W2 = wr := ⟨_, rfl⟩
      rw [← hW2] at o0 q2 qb ⊢
      clear hW2 q0 q3 hlt hk wr
      go_loopw [17, 18, 109] (fun _ _ i wr => ∃ k : Nat, k ≤ 8 ∧ i = .int .i64 k ∧ Row wr w.heap.size 28 (stc (part s x k)) ∧ Row wr (w.heap.size + 1 + 1) 28 (stc ⟨0, 0, 0, 0, 0, 0, 0, 0⟩) ∧ Below w.heap.size w wr) (fun _ _ i _ => 8 - (intOf i).toNat)
      case atStart => exact ⟨0, by omega, rfl, o0, q2, qb⟩
      case round =>
        clear o0 q2 qb
        obtain ⟨k, hk, rfl, q0, q2, qb⟩ := hrel
        by_cases hlt : k < 8
        · have hi := fun w' => index8 x k hlt w'
          have c0 := (q0.cell k).trans (part_get s x k hlt)
          have f0 := q0.free k
          go_wp2
          go_roundw
          case rel =>
            refine ⟨k + 1, by omega, by go_num, ?_, ?_, ?_⟩
            · rw [← part_next s x k hlt]
              exact q0.put _ _
            · exact q2.far (by simp; omega) _
            · exact qb.setCell (by simp) _
          case measure => simp [intOf]; omega
        · obtain rfl : k = 8 := by omega
          go_wp2_with (first
            | (refine wpList_load_row rfl 28 _ rfl w.heap.size rfl 28 _ (0, 0) _ q0 Tryd.underlying28 rfl cells8 ?_)
            | (refine wpList_store_row rfl 28 _ _ rfl (w.heap.size + 1 + 1) _ rfl rfl 28 _ q2 cells8 rfl (all_one (stc_one _)) ?_))
          refine bodyPost_ret (results_row Tryd.results41 _ _ (w.heap.size + 1 + 1) 28 (stc (part s x 8)) _ rfl (Row.row q2 _) Tryd.underlying28 rfl cells8) rfl ⟨?_, ?_⟩
          · rw [part_eight, HX.out, HM.out]
          · exact blw_row qb (by omega) _
end Go.Proofs.YtcippenhomhpbaaDoor
