/-
  The walks of ModelStaysInside.
-/
import Derived.Test.YtgpacgmgdnongaaMLaw
namespace Go.Proofs.Ytgpacgmgdnongaa.lawInside
open Go.RowKit

set_option maxRecDepth 100000 in
set_option maxHeartbeats 8000000 in
theorem walk_bad (d : Int) (zs : List Int) (k i : Int) (h : PF d zs k i) (A : Option Addr) (cp : Nat) (w : World) (hS : Sl w w.heap.size A zs.length (zl zs)) :
    Calls Try.prog 4 #[.int .i64 d, .slice A zs.length cp] w fun e w' => e = .returned (.bool true) ∧ Below w.heap.size w w' := by
  have hne : (k != 0) = true := bne_iff_ne.2 h.ne
  have HP := Lib.hid (predict_bad d zs k i h A cp w hS)
  clear hS h
  go_enter Try.func4, Try.ntmps4
  go_upto_region 2 with (first
    | (go_at_call 8; refine HP.out.mono ?_; rintro e w11 ⟨rfl, hb11⟩)
    | (refine wpList_store_row rfl 24 _ _ rfl w11.heap.size (flt k i) rfl rfl 24 (flt 0 0) (Row.newEq _ _ _ _ _ rfl rfl) (by rw [flt_size]; exact cellsF) rfl (all_one (flt_one _ _)) ?_))
  have hk1 := blw_new1 w11 (.cells #[.int .i64 0, .int .i64 0] 24) (flt k i)
  refine wp_world (F := fun W => Row W w11.heap.size 24 (flt k i) ∧ Below w.heap.size w W) ⟨row_new1 _ _ _ _, up_call hb11 hk1⟩ ?_
  generalize w11.heap.size = g6
  clear hk1 hb11 HP w11
  rintro W1 ⟨r6, hb⟩
  go_wp2_with (first
    | (go_at_call 10; refine (predicts_any _).mono ?_; rintro e w14 ⟨rfl, hb14⟩; have k0 : w14.cell? ⟨g6, 0, none⟩ = some (.int .i64 k) := ((r6.below hb14 r6.lt).cell 0).trans rfl; have hb2 := up_call hb hb14)
    | (go_at_call 10; refine (predicts_any _).mono ?_; rintro e w21 ⟨rfl, hb21⟩; have hb3 := up_call hb2 hb21))
  go_ret
  exact ⟨rfl, hb3⟩

set_option maxRecDepth 100000 in
set_option maxHeartbeats 8000000 in
theorem walk_good (d : Nat) (hd : d ≤ 2) (l : List Bool) (hl : l.length < 8192) (A : Option Addr) (cp : Nat) (hcp : l.length ≤ cp) (w : World) (hS : Sl w w.heap.size A l.length (il l)) :
    Calls Try.prog 4 #[.int .i64 d, .slice A l.length cp] w fun e w' => e = .returned (.bool true) ∧ Below w.heap.size w w' := by
  have HP := Lib.hid (predict_ok d hd l hl A cp hcp w hS)
  obtain ⟨m, hm⟩ : ∃ m, m = l.length + 1 := ⟨_, rfl⟩
  rw [← hm] at HP
  have hm2 : m ≤ 8192 := by omega
  obtain ⟨ns, hns⟩ : ∃ ns, ns = preds d l m := ⟨_, rfl⟩
  have hlo : ∀ j, j < m → 8 ≤ ns.getD j 0 ∧ ns.getD j 0 ≤ 4087 := fun j hj => by
    rw [hns, preds_getD d l m j hj]
    exact ⟨pred_low _ _, pred_high _ _⟩
  rw [← hns] at HP
  have HLO := Lib.hid hlo
  clear hS hm hns hlo
  go_enter Try.func4, Try.ntmps4
  go_upto_region 2 with (first
    | (go_at_call 8; refine HP.out.mono ?_; rintro e w11 ⟨v, rfl, ho, hb11⟩)
    | (refine wpList_store_row rfl 24 _ _ rfl w11.heap.size (flt 0 0) rfl rfl 24 (flt 0 0) (Row.newEq _ _ _ _ _ rfl rfl) (by rw [flt_size]; exact cellsF) rfl (all_one (flt_one _ _)) ?_))
  have hk1 := blw_new1 w11 (.cells #[.int .i64 0, .int .i64 0] 24) (flt 0 0)
  obtain ⟨A1, c1, rfl, _, _⟩ := own_form ho
  refine wp_world (F := fun W => Row W w11.heap.size 24 (flt 0 0) ∧ Sl W W.heap.size A1 m (nl ns) ∧ Below w.heap.size w W) ⟨row_new1 _ _ _ _, (Sl.of_own ho).up hk1, up_call hb11 hk1⟩ ?_
  generalize w11.heap.size = g6
  clear hk1 hb11 HP ho w11
  rintro W1 ⟨r6, hS, hb⟩
  go_upto_region 5 with (first
    | (go_at_call 10; refine (predicts_any _).mono ?_; rintro e w14 ⟨rfl, hb14⟩; have k0 : w14.cell? ⟨g6, 0, none⟩ = some (.int .i64 0) := ((r6.below hb14 r6.lt).cell 0).trans rfl))
  have hS2 := hS.up hb14
  have hb2 := up_call hb hb14
  clear k0 r6 hS hb hb14 W1
  go_loop [7] (fun k => ∃ j : Nat, j ≤ m ∧ k = .int .i64 j) (fun k => m - (intOf k).toNat)
  case atStart => exact ⟨0, Nat.zero_le _, rfl⟩
  case round =>
    obtain ⟨j, hj, rfl⟩ := hrel
    by_cases hlt : j < m
    · obtain ⟨a1, rfl, _, hc1⟩ := hS2.nat hlt
      have hx := HLO.out j hlt
      obtain ⟨x, hx2⟩ : ∃ x, x = ns.getD j 0 := ⟨_, rfl⟩
      rw [← hx2] at hx hc1
      obtain ⟨hx3, hx4⟩ := hx
      clear hx2
      go_wp2_with (first
        | (go_at_call 12; refine (in_yes x 8 4087 (by omega) (by omega) _).mono ?_; rintro e w37 ⟨rfl, h37⟩; subst w37))
      go_round
      case rel => exact ⟨j + 1, by omega, by go_num⟩
      case measure => simp [intOf]; omega
    · obtain rfl : j = m := by omega
      go_wp2
      go_ret
      exact ⟨rfl, hb2⟩
end Go.Proofs.Ytgpacgmgdnongaa.lawInside
