/-
  The walks of ArithEncodeMatchesSpec.
-/
import Derived.Test.YtcnokjiohbifeaaAArgs
import Derived.Test.YtcnokjiohbifeaaRCode
import Derived.Test.YtcnokjiohbifeaaRChF
import Derived.Test.YtcnokjiohbifeaaRPack
namespace Go.Proofs.Ytcnokjiohbifeaa.lawEnc
open Go.RowKit
attribute [local go_sem ↓] wp_load_flat run_load_flat
attribute [local go_sem] blkOf_ptr cells_agg sizedB sizeTB aggB

set_option maxRecDepth 100000 in
set_option maxHeartbeats 4000000 in
theorem walk_bad (zs : List (Int × Int)) (k i : Int) (h : ChF zs k i) (A : Option Addr) (cp : Nat) (w : World) (hS : Chs w w.heap.size A zs.length zs) :
    Calls Try.prog 5 #[.slice A zs.length cp] w fun e w' => e = .returned (.bool true) ∧ Below w.heap.size w w' := by
  have hne : (k != 0) = true := bne_iff_ne.2 h.ne
  have he := Encode_bad zs k i h A cp w hS
  have hcf := fun (w : World) (hS : Chs w w.heap.size A zs.length zs) => rchf_bad zs k i h A cp w hS
  have hnq : ∀ w : World, (binOp .neq 28 (.agg (flt k i)) (.agg (flt k i))).run Try.prog w = .ok (.bool false) w := fun w => by have := neq_flt k i k i w; simpa using this
  have HS := Lib.hid hS
  clear h hS
  go_enter Try.func5, Try.ntmps5
  go_upto_region 2 with (first
    | (go_at_call 29; refine he.mono ?_; rintro e w1 ⟨rfl, hb1⟩)
    | (refine wpList_store_row rfl 26 _ _ rfl w1.heap.size (bcs none 0 0 0) rfl rfl 26 (bcs none 0 0 0) ((Row.newEq _ _ _ _ _ rfl rfl).alloc _) (by rw [bcs_size]; exact cellsB) rfl (all_one (bcs_one _ _ _ _)) ?_)
    | (refine wpList_store_row rfl 28 _ _ rfl (w1.heap.size + 1) (flt k i) rfl rfl 28 (flt 0 0) (row_far_new2 _ _ _ _ _ _) (by rw [flt_size]; exact cellsF) rfl (all_one (flt_one _ _)) ?_))
  have hk0 := blw_new2 w1 (.cells #[.slice none 0 0, .int .i64 0] 26) (.cells #[.int .i64 0, .int .i64 0] 28) (bcs none 0 0 0) (flt k i)
  have hk := up_call hb1 hk0
  refine wp_world (F := fun W => Row W w1.heap.size 26 (bcs none 0 0 0) ∧ Row W (w1.heap.size + 1) 28 (flt k i) ∧ Chs W W.heap.size A zs.length zs ∧ Below w.heap.size w W)
    ⟨row_new2a _ _ _ _ _ _ _, row_new2b _ _ _ _ _ _ _, HS.out.up hk, hk⟩ ?_
  generalize w1.heap.size = g3
  clear hk hk0 hb1  w1
  rintro W1 ⟨r3, r4, hC, hb⟩
  clear he HS
  go_upto_region 3 with (first
    | (go_at_call 30; refine (hcf _ hC).mono ?_; rintro e w2 ⟨rfl, hb2⟩)
    | (refine wpList_store_row rfl 28 _ _ rfl w2.heap.size (flt k i) rfl rfl 28 (flt 0 0) (Row.newEq _ _ _ _ _ rfl rfl) (by rw [flt_size]; exact cellsF) rfl (all_one (flt_one _ _)) ?_))
  have hk := up_call hb2 (blw_new1 w2 (.cells #[.int .i64 0, .int .i64 0] 28) (flt k i))
  refine wp_world (F := fun W => Row W w2.heap.size 28 (flt k i) ∧ Row W g3 26 (bcs none 0 0 0) ∧ Row W (g3 + 1) 28 (flt k i) ∧ Below w.heap.size w W) ⟨row_new1 _ _ _ _, r3.below hk r3.lt, r4.below hk r4.lt, up_call hb hk⟩ ?_
  generalize w2.heap.size = g5
  clear hk hb2 hC r3 r4  hb w2
  rintro W2 ⟨r5, r3, r4, hb⟩
  go_wp2_with (first
    | (go_at_call 13; refine (codes_any _).mono ?_; rintro e w14 ⟨rfl, hb14⟩; have s3 := r3.below hb14 r3.lt; have s4 := r4.below hb14 r4.lt; have s5 := r5.below hb14 r5.lt; have k0 : w14.cell? ⟨g5, 0, none⟩ = some (.int .i64 k) := (s5.cell 0).trans rfl; have hbb := up_call hb hb14)
    | (refine wpList_load_rowG (by simp [Region.wanted, yielded, Act.put]) 28 _ rfl (g3 + 1) rfl 28 (flt k i) (0, 0) _ s4 Try.underlying28 rfl (by rw [flt_size]; exact cellsF) ?_)
    | (refine wpList_load_rowG (by simp [Region.wanted, yielded, Act.put]) 28 _ rfl g5 rfl 28 (flt k i) (0, 0) _ s5 Try.underlying28 rfl (by rw [flt_size]; exact cellsF) ?_)
    | (refine wpList_load_row rfl 26 _ rfl g3 rfl 26 (bcs none 0 0 0) (0, 0) _ s3 Try.underlying26 rfl (by rw [bcs_size]; exact cellsB) ?_)
    | (go_at_call 17; refine (same_none _).mono ?_; rintro e w23 ⟨rfl, hb23⟩))
  go_ret
  exact ⟨rfl, up_call hbb hb23⟩

set_option maxRecDepth 100000 in
set_option maxHeartbeats 4000000 in
theorem walk_good (l : List (Bool × Nat)) (hg : GoodP l) (n : Nat) (hn : n = l.length) (hl : n ≤ 8192) (A : Option Addr) (cp : Nat) (w : World) (hS : Chs w w.heap.size A n (cz l)) :
    Calls Try.prog 5 #[.slice A n cp] w fun e w' => e = .returned (.bool true) ∧ Below w.heap.size w w' := by
  have he := Encode_ok l hg n hn hl A cp w hS
  obtain ⟨cd, hcd⟩ : ∃ cd, cd = codeN l := ⟨_, rfl⟩
  rw [← hcd] at he
  have hcf := fun (w : World) (hS : Chs w w.heap.size A n (cz l)) => rchf_ok (cz l) (by rw [cz_length, ← hn]; exact hl) (fun j hj => okC_cz l hg j (by rw [cz_length] at hj; exact hj)) A cp w (by rw [cz_length, ← hn]; exact hS)
  rw [cz_length, ← hn] at hcf
  have hcode := fun (w : World) (hS : Chs w w.heap.size A n (cz l)) => code_any l hg n hn hl cd hcd A cp w hS
  have hlen : cd.length ≤ 131072 := by
    rw [hcd, code_length]
    have := (run_ok l 0 65535 (by decide) hg).2.1
    omega
  have HCODE := Lib.hid hcode
  have HLEN := Lib.hid hlen
  have hnq : ∀ w : World, (binOp .neq 28 (.agg (flt 0 0)) (.agg (flt 0 0))).run Try.prog w = .ok (.bool false) w := fun w => neq_flt 0 0 0 0 w
  clear hcode hlen
  have HS := Lib.hid hS
  have HL := Lib.hid (And.intro hcd (And.intro hn hg))
  clear hS hcd hn hg
  go_enter Try.func5, Try.ntmps5
  go_upto_region 2 with (first
    | (go_at_call 29; refine he.mono ?_; rintro e w1 ⟨A1, c1, rfl, s1, hb1⟩)
    | (refine wpList_store_row rfl 26 _ _ rfl w1.heap.size (bcs A1 (pack cd).length c1 cd.length) rfl rfl 26 (bcs none 0 0 0) ((Row.newEq _ _ _ _ _ rfl rfl).alloc _) (by rw [bcs_size]; exact cellsB) rfl (all_one (bcs_one _ _ _ _)) ?_)
    | (refine wpList_store_row rfl 28 _ _ rfl (w1.heap.size + 1) (flt 0 0) rfl rfl 28 (flt 0 0) (row_far_new2 _ _ _ _ _ _) (by rw [flt_size]; exact cellsF) rfl (all_one (flt_one _ _)) ?_))
  have hk0 := blw_new2 w1 (.cells #[.slice none 0 0, .int .i64 0] 26) (.cells #[.int .i64 0, .int .i64 0] 28) (bcs A1 (pack cd).length c1 cd.length) (flt 0 0)
  have hk := up_call hb1 hk0
  refine wp_world (F := fun W => Row W w1.heap.size 26 (bcs A1 (pack cd).length c1 cd.length) ∧ Row W (w1.heap.size + 1) 28 (flt 0 0) ∧ Sl W W.heap.size A1 (pack cd).length (bl (pack cd)) ∧ Chs W W.heap.size A n (cz l) ∧ Below w.heap.size w W)
    ⟨row_new2a _ _ _ _ _ _ _, row_new2b _ _ _ _ _ _ _, s1.up hk0, HS.out.up hk, hk⟩ ?_
  generalize w1.heap.size = g3
  clear hk hk0 hb1 s1 w1
  rintro W1 ⟨r3, r4, s1, hC, hb⟩
  clear he HS
  go_upto_region 3 with (first
    | (go_at_call 30; refine (hcf _ hC).mono ?_; rintro e w2 ⟨rfl, hb2⟩)
    | (refine wpList_store_row rfl 28 _ _ rfl w2.heap.size (flt 0 0) rfl rfl 28 (flt 0 0) (Row.newEq _ _ _ _ _ rfl rfl) (by rw [flt_size]; exact cellsF) rfl (all_one (flt_one _ _)) ?_))
  have hk := up_call hb2 (blw_new1 w2 (.cells #[.int .i64 0, .int .i64 0] 28) (flt 0 0))
  refine wp_world (F := fun W => Row W w2.heap.size 28 (flt 0 0) ∧ Row W g3 26 (bcs A1 (pack cd).length c1 cd.length) ∧ Row W (g3 + 1) 28 (flt 0 0) ∧ Sl W W.heap.size A1 (pack cd).length (bl (pack cd)) ∧ Chs W W.heap.size A n (cz l) ∧ Below w.heap.size w W) ⟨row_new1 _ _ _ _, r3.below hk r3.lt, r4.below hk r4.lt, s1.up hk, hC.up hk, up_call hb hk⟩ ?_
  generalize w2.heap.size = g5
  clear hk hb2 r3 r4 s1 hC  hb w2
  rintro W2 ⟨r5, r3, r4, s1, hC, hb⟩
  clear hcf
  go_upto_region 7 with (first
    | (go_at_call 13; refine (codes_any _).mono ?_; rintro e w14 ⟨rfl, hb14⟩; have s3 := r3.below hb14 r3.lt; have s4 := r4.below hb14 r4.lt; have s5 := r5.below hb14 r5.lt; have sA := s1.up hb14; have sC := hC.up hb14; have k0 : w14.cell? ⟨g5, 0, none⟩ = some (.int .i64 0) := (s5.cell 0).trans rfl; have hbb := up_call hb hb14)
    | (refine wpList_load_rowG (by simp [Region.wanted, yielded, Act.put]) 28 _ rfl (g3 + 1) rfl 28 (flt 0 0) (0, 0) _ s4 Try.underlying28 rfl (by rw [flt_size]; exact cellsF) ?_)
    | (refine wpList_load_rowG (by simp [Region.wanted, yielded, Act.put]) 28 _ rfl g5 rfl 28 (flt 0 0) (0, 0) _ s5 Try.underlying28 rfl (by rw [flt_size]; exact cellsF) ?_))
  clear k0 hnq r3 r4 r5 s1 hC hb hb14 s4 s5
  have i3 := s3.drew.is (bcs_size _ _ _ _)
  have a3 := s3.drew.at
  go_region_held3 (fun W => IsRow W g3 2 ∧ rowAt W g3 = bcs A1 (pack cd).length c1 cd.length)
    (first
      | exact ⟨i3, a3⟩
      | exact ⟨(s3.drew.below hb8 s3.lt).is (bcs_size _ _ _ _), (s3.drew.below hb8 s3.lt).at⟩
      | exact ⟨(s3.drew.below hb9c s3.lt).is (bcs_size _ _ _ _), (s3.drew.below hb9c s3.lt).at⟩
      | exact ⟨(s3.drew.below hb10c s3.lt).is (bcs_size _ _ _ _), (s3.drew.below hb10c s3.lt).at⟩)
    (first
      | (go_at_call 31; refine (HCODE.out _ (show Chs w14.drew w14.drew.heap.size A n (cz l) from sC)).mono ?_; rintro e w8 ⟨v8, rfl, ho8, hb8⟩; obtain ⟨A8, c8, hv8, _, _⟩ := own_form ho8; subst hv8; have t8 := Sl.of_own ho8; have t1 := sA.drew.up hb8; clear ho8)
      | (go_at_call 19; refine (packed_any cd (Nat.le_trans HLEN.out (by decide)) A8 c8 cd.length rfl _ t8).mono ?_; rintro e w9 ⟨A9, c9, rfl, t9, hb9⟩; have hb9c := up_call hb8 hb9; have u1 := t1.up hb9)
      | (go_at_call 17; refine (same_pack cd cd.length A1 A9 c1 c9 _ u1 t9).mono ?_; rintro e w10 ⟨rfl, hb10⟩; have hb10c := up_call hb9c hb10))
  all_goals
    go_wp2
    go_ret
    exact ⟨rfl, up_call hbb.drew hb10c⟩
end Go.Proofs.Ytcnokjiohbifeaa.lawEnc
