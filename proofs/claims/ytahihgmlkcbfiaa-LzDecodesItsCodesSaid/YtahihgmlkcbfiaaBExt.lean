/-
  The contracts of bits.fail, bits.bytesOf and bits.extended.
-/
import Derived.Test.YtahihgmlkcbfiaaBPut
import Derived.Test.YtahihgmlkcbfiaaGFlt
import Derived.OwnWalk
import Derived.Deep.OwnRows
namespace Go.Proofs.Ytahihgmlkcbfiaa
open Go.RowKit

theorem cellsB : (Try.prog.info? 43).map (·.size) = some 2 := by kernel_rfl

set_option maxRecDepth 100000 in
set_option maxHeartbeats 4000000 in
/-- bits.fail: no bits, and the fault. -/
theorem bfail_any (c i : Int) (w : World) :
    Calls Try.prog 51 #[.int .i64 c, .int .i64 i] w fun e w' => e = .returned (.tuple #[.agg (bcs none 0 0 0), .agg (flt c i)]) ∧ Below w.heap.size w w' := by
  go_enter Try.func51, Try.ntmps51
  go_wp2_with (first
    | (refine wpList_store_row rfl 43 _ _ rfl w.heap.size (bcs none 0 0 0) rfl rfl 43 (bcs none 0 0 0) ((Row.newEq _ _ _ _ _ rfl rfl).alloc _) (by rw [bcs_size]; exact cellsB) rfl (all_one (bcs_one _ _ _ _)) ?_)
    | (refine wpList_store_row rfl 25 _ _ rfl (w.heap.size + 1) (flt c i) rfl rfl 25 (flt 0 0) (Row.rowFar (Row.newEq _ _ _ _ _ (by simp) rfl) (by omega) _) (by rw [flt_size]; exact cellsF) rfl (all_one (flt_one _ _)) ?_))
  refine bodyPost_ret (results_rows Try.results51 _ _ w.heap.size (w.heap.size + 1) 43 25 (bcs none 0 0 0) (flt c i) _ _ rfl rfl ((Row.row ((Row.newEq _ _ _ _ _ rfl rfl).alloc _) _).rowFar (by omega) _) (Row.row (Row.rowFar (Row.newEq _ _ _ _ _ (by simp) rfl) (by omega) _) _) Try.underlying43 rfl (by rw [bcs_size]; exact cellsB) Try.underlying25 rfl (by rw [flt_size]; exact cellsF)) rfl ⟨rfl, ?_⟩
  exact blw_row (blw_row (((Below.refl _ _).alloc (Nat.le_refl _) _).alloc (by simp) _) (Nat.le_refl _) _) (by omega) _

theorem bytesOf_any (n : Nat) (hn : n ≤ 1099511627776) (w : World) :
    Calls Try.prog 64 #[.int .i64 n] w fun e w' => e = .returned (.int .i64 (((n + 7) / 8 : Nat) : Int)) ∧ w = w' := by
  go_enter Try.func64, Try.ntmps64
  go_wp2
  go_ret
  exact ⟨ret_int (by omega), rfl⟩

theorem infoU8 : (Try.prog.info? 5).map (fun i => (i.zero, i.size, i.bytes)) = some (some (.int .u8 0), 1, 1) := by kernel_rfl
theorem infoU8s : (Try.prog.info? 5).map (·.size) = some 1 := by kernel_rfl
theorem made_u8 (n : Nat) : (madeCells #[Value.int .u8 0] n) = (bl (List.replicate n 0)).toArray := by
  apply Array.ext
  · rw [size_madeCells]
    simp [bl_length]
  · intro i h1 h2
    unfold bl
    simp [madeCells, Nat.mod_one]

theorem splice_bl (L : List UInt8) (n : Nat) (_h : L.length ≤ n) : splice (bl (List.replicate n 0)) 0 ((bl L).take L.length) = bl (L ++ List.replicate (n - L.length) 0) := by
  rw [List.take_of_length_le (Nat.le_of_eq (bl_length L)), bl_append]
  simp only [splice, List.take_zero, List.nil_append, Nat.zero_add, bl_length]
  congr 1
  rw [bl_drop, List.drop_replicate]

set_option maxRecDepth 100000 in
set_option maxHeartbeats 4000000 in
theorem extended_any (L : List UInt8) (A : Option Addr) (c k z : Nat) (hk : k + z ≤ 131072) (hl : L.length ≤ (k + z + 7) / 8) (w : World) (hS : Sl w w.heap.size A L.length (bl L)) :
    Calls Try.prog 52 #[.agg (bcs A L.length c k), .int .i64 z] w fun e w' => ∃ g, e = .returned (.agg (bcs (some ⟨g, 0, none⟩) ((k + z + 7) / 8) ((k + z + 7) / 8) ((k + z : Nat) : Int))) ∧ w.heap.size ≤ g ∧ Row w' g 5 (bl (L ++ List.replicate ((k + z + 7) / 8 - L.length) 0)).toArray ∧ Below w.heap.size w w' := by
  have hn : (k + z + 7) / 8 ≤ 16384 := by omega
  obtain ⟨n, hnn⟩ : ∃ n, n = (k + z + 7) / 8 := ⟨_, rfl⟩
  rw [← hnn] at hn hl ⊢
  have HN := Lib.hid hnn
  have hsp := Lib.hid (splice_bl L n hl)
  have hmk : ∀ w, (Instr.makeSlice 22 (.int .i64 (n : Int)) (.int .i64 (n : Int))).run Try.prog w = .ok (.slice (some ⟨w.heap.size, 0, none⟩) n n) (w.alloc (.cells (bl (List.replicate n 0)).toArray 5)) := by
    intro w
    rw [run_make_row' 22 5 (.int .u8 0) 1 Try.underlying22 infoU8 rfl .i64 .i64 n (by omega) (by omega) w, made_u8]
  clear hnn
  have hS' := hS.below ((((Below.refl w.heap.size w).alloc (Nat.le_refl _) (.cells (bcs A L.length c k) 43)).alloc (by simp) (.cells (bcs none 0 0 0) 43)).alloc (by simp; omega) (.cells (bl (List.replicate n 0)).toArray 5))
  unfold bcs at hS' ⊢
  go_enter Try.func52, Try.ntmps52
  go_wp2_with (first
    | (go_at_call 64; refine (bytesOf_any (k + z) (by omega) _).mono ?_; rintro e w1 ⟨rfl, rfl⟩; rw [← HN.out])
    | (refine wpList_copy _ rfl _ _ 22 22 rfl 5 Try.underlying22 infoU8s (w.heap.size + 1 + 1) 0 n n rfl (bl (List.replicate n 0)) 5 (Row.newAt _ _ _ _ (by simp)) w.heap.size A L.length c rfl (bl L) hS' (bl_one _) L.length (by show L.length = min L.length n; omega) (by rw [bl_length, List.length_replicate]; omega) ?_; rw [hsp.out])
    | (refine wpList_store_row rfl 43 _ _ rfl (w.heap.size + 1) (bcs (some ⟨w.heap.size + 1 + 1, 0, none⟩) n n ((k + z : Nat) : Int)) rfl rfl 43 (bcs none 0 0 0) (((Row.newEq _ _ _ _ _ (by simp) rfl).alloc _).rowFar (by omega) _) (by rw [bcs_size]; exact cellsB) rfl (all_one (bcs_one _ _ _ _)) ?_))
  refine bodyPost_ret (results_row Try.results52 _ _ (w.heap.size + 1) 43 (bcs (some ⟨w.heap.size + 1 + 1, 0, none⟩) n n ((k + z : Nat) : Int)) _ rfl (Row.row (((Row.newEq _ _ _ _ _ (by simp) rfl).alloc _).rowFar (by omega) _) _) Try.underlying43 rfl (by rw [bcs_size]; exact cellsB)) rfl ⟨w.heap.size + 1 + 1, rfl, by omega, ?_, ?_⟩
  · exact (Row.row (Row.newAt _ _ _ _ (by simp)) _).rowFar (by omega) _
  · exact blw_row (blw_row ((((Below.refl _ _).alloc (Nat.le_refl _) _).alloc (by simp) _).alloc (by simp; omega) _) (by omega) _) (by omega) _
end Go.Proofs.Ytahihgmlkcbfiaa
