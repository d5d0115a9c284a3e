/-
  The walks of ArithStepsMakeTheCode where nothing is put bit by bit: Encode refuses the list, or it is longer than 250.
-/
import Derived.Test.YtcnokjiohbifeaaAArgs
import Derived.Test.YtcnokjiohbifeaaRBits3
namespace Go.Proofs.Ytcnokjiohbifeaa.lawSteps
open Go.RowKit

set_option maxRecDepth 100000 in
set_option maxHeartbeats 4000000 in
theorem walk_bad (zs : List (Int × Int)) (k i : Int) (h : ChF zs k i) (A : Option Addr) (cp : Nat) (w : World) (hS : Chs w w.heap.size A zs.length zs) :
    Calls Try.prog 8 #[.slice A zs.length cp] w fun e w' => e = .returned (.bool true) ∧ Below w.heap.size w w' := by
  have t1 : (k != 0) = true := bne_iff_ne.2 h.ne
  have t2 : decide (k = 0) = false := decide_eq_false h.ne
  have t3 : (k == 0) = false := beq_eq_false_iff_ne.2 h.ne
  have t4 : decide (k ≠ 0) = true := decide_eq_true h.ne
  have he := Encode_bad zs k i h A cp w hS
  clear h hS
  go_enter Try.func8, Try.ntmps8
  go_upto_region 2 with (first
    | (go_at_call 29; refine he.mono ?_; rintro e w1 ⟨rfl, hb1⟩)
    | (refine wpList_store_row rfl 26 _ _ rfl w1.heap.size (bcs none 0 0 0) rfl rfl 26 (bcs none 0 0 0) ((Row.newEq _ _ _ _ _ rfl rfl).alloc _) (by rw [bcs_size]; exact cellsB) rfl (all_one (bcs_one _ _ _ _)) ?_)
    | (refine wpList_store_row rfl 28 _ _ rfl (w1.heap.size + 1) (flt k i) rfl rfl 28 (flt 0 0) (row_far_new2 _ _ _ _ _ _) (by rw [flt_size]; exact cellsF) rfl (all_one (flt_one _ _)) ?_))
  have hk0 := blw_new2 w1 (.cells #[.slice none 0 0, .int .i64 0] 26) (.cells #[.int .i64 0, .int .i64 0] 28) (bcs none 0 0 0) (flt k i)
  have hk := up_call hb1 hk0
  refine wp_world (F := fun W => Row W w1.heap.size 26 (bcs none 0 0 0) ∧ Row W (w1.heap.size + 1) 28 (flt k i) ∧ Below w.heap.size w W)
    ⟨row_new2a _ _ _ _ _ _ _, row_new2b _ _ _ _ _ _ _, hk⟩ ?_
  generalize w1.heap.size = g3
  clear hk hk0 hb1  w1
  rintro W1 ⟨r3, r4, hb⟩
  clear he
  go_upto_region 3 with (first
    | (go_at_call 13; refine (codes_any _).mono ?_; rintro e w14 ⟨rfl, hb14⟩; have k0 : w14.cell? ⟨g3 + 1, 0, none⟩ = some (.int .i64 k) := ((r4.below hb14 r4.lt).cell 0).trans rfl; have s3 := r3.below hb14 r3.lt; have s4 := r4.below hb14 r4.lt; have hb2 := up_call hb hb14))
  go_wp2_with (first
    | (go_at_call 13; refine (codes_any _).mono ?_; rintro e w21 ⟨rfl, hb21⟩; have u3 := s3.below hb21 s3.lt; have k1 : w21.cell? ⟨g3 + 1, 0, none⟩ = some (.int .i64 k) := ((s4.below hb21 s4.lt).cell 0).trans rfl; have hb3 := up_call hb2 hb21)
    | (refine wpList_load_rowG (by simp [Region.wanted, yielded, Act.put]) 26 _ rfl g3 rfl 26 (bcs none 0 0 0) (0, 0) _ u3 Try.underlying26 rfl (by rw [bcs_size]; exact cellsB) ?_)
    | (go_at_call 17; refine (same_none _).mono ?_; rintro e w23 ⟨rfl, hb23⟩))
  go_ret
  exact ⟨rfl, up_call hb3 hb23⟩

set_option maxRecDepth 100000 in
set_option maxHeartbeats 4000000 in
theorem walk_long (l : List (Bool × Nat)) (hg : GoodP l) (n : Nat) (hn : n = l.length) (hl : n ≤ 8192) (h250 : 250 < n) (A : Option Addr) (cp : Nat) (w : World) (hS : Chs w w.heap.size A n (cz l)) :
    Calls Try.prog 8 #[.slice A n cp] w fun e w' => e = .returned (.bool true) ∧ Below w.heap.size w w' := by
  have t1 : decide ((250 : Int) < (n : Int)) = true := decide_eq_true (by omega)
  have t2 : decide (250 < n) = true := decide_eq_true (by omega)
  have he := Encode_ok l hg n hn hl A cp w hS
  obtain ⟨cd, hcd⟩ : ∃ cd, cd = codeN l := ⟨_, rfl⟩
  rw [← hcd] at he
  clear hS hcd hn hg
  go_enter Try.func8, Try.ntmps8
  go_upto_region 2 with (first
    | (go_at_call 29; refine he.mono ?_; rintro e w1 ⟨A1, c1, rfl, -, hb1⟩)
    | (refine wpList_store_row rfl 26 _ _ rfl w1.heap.size (bcs A1 (pack cd).length c1 cd.length) rfl rfl 26 (bcs none 0 0 0) ((Row.newEq _ _ _ _ _ rfl rfl).alloc _) (by rw [bcs_size]; exact cellsB) rfl (all_one (bcs_one _ _ _ _)) ?_)
    | (refine wpList_store_row rfl 28 _ _ rfl (w1.heap.size + 1) (flt 0 0) rfl rfl 28 (flt 0 0) (row_far_new2 _ _ _ _ _ _) (by rw [flt_size]; exact cellsF) rfl (all_one (flt_one _ _)) ?_))
  have hk0 := blw_new2 w1 (.cells #[.slice none 0 0, .int .i64 0] 26) (.cells #[.int .i64 0, .int .i64 0] 28) (bcs A1 (pack cd).length c1 cd.length) (flt 0 0)
  have hk := up_call hb1 hk0
  refine wp_world (F := fun W => Row W (w1.heap.size + 1) 28 (flt 0 0) ∧ Below w.heap.size w W)
    ⟨row_new2b _ _ _ _ _ _ _, hk⟩ ?_
  generalize w1.heap.size = g3
  clear hk hk0 hb1  w1
  rintro W1 ⟨r4, hb⟩
  clear he
  go_upto_region 3 with (first
    | (go_at_call 13; refine (codes_any _).mono ?_; rintro e w14 ⟨rfl, hb14⟩; have k0 : w14.cell? ⟨g3 + 1, 0, none⟩ = some (.int .i64 0) := ((r4.below hb14 r4.lt).cell 0).trans rfl; have s4 := r4.below hb14 r4.lt; have hb2 := up_call hb hb14))
  go_wp2_with (first
    | (go_at_call 13; refine (codes_any _).mono ?_; rintro e w21 ⟨rfl, hb21⟩; have k1 : w21.cell? ⟨g3 + 1, 0, none⟩ = some (.int .i64 0) := ((s4.below hb21 s4.lt).cell 0).trans rfl; have hb3 := up_call hb2 hb21))
  go_ret
  exact ⟨rfl, hb3⟩
end Go.Proofs.Ytcnokjiohbifeaa.lawSteps
