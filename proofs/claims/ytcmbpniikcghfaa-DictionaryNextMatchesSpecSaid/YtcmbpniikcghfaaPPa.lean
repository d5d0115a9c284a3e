/-
  The contract of the package's Parse.
-/
import Derived.Test.YtcmbpniikcghfaaPFs
import Derived.Test.YtcmbpniikcghfaaLzQ
import Derived.Test.YtcmbpniikcghfaaGFlatF
import Derived.Test.YtcmbpniikcghfaaTkOwn
import Derived.Test.YtcmbpniikcghfaaTabK
namespace Go.Proofs.Ytcmbpniikcghfaa
open Go.RowKit

set_option maxRecDepth 100000 in
set_option maxHeartbeats 4000000 in
theorem lzparse_bad : PParseBad := by
  intro N D A B cd ce w h
  have ha : Below w.heap.size w (w.alloc (.cells #[.int .i64 0, .int .i64 0] 25)) := (Below.refl _ _).alloc (Nat.le_refl _) _
  by_cases h1 : 1024 < N
  · have t1 : decide ((1024 : Int) < (N : Int)) = true := decide_eq_true (by omega)
    have t2 : decide (1024 < N) = true := decide_eq_true h1
    rw [show szF N 1024 D = (3, -1) from if_pos h1]
    clear h1 h
    go_enter Try.func20, Try.ntmps20
    go_upto_region 1 with (fail)
    refine wp_world (F := fun W => Row W w.heap.size 25 (flt 0 0) ∧ Below w.heap.size w W) ⟨Row.newEq _ _ _ _ _ rfl rfl, ha⟩ ?_
    rintro W0 ⟨r0, hb⟩
    go_wp2_with (first
      | (refine wpList_store_row rfl 25 _ _ rfl w.heap.size (flt 3 (-1)) rfl rfl 25 (flt 0 0) r0 (by rw [flt_size]; exact cellsF) rfl (all_one (flt_one _ _)) ?_))
    refine bodyPost_ret (results_tmp_row Try.results20 _ _ _ w.heap.size 25 (flt 3 (-1)) _ rfl rfl (Row.row r0 _) Try.underlying25 rfl (by rw [flt_size]; exact cellsF)) rfl ⟨⟨_, _, rfl⟩, ?_⟩
    exact blw_row hb (Nat.le_refl _) _
  · have h2 : 512 < D := by
      by_cases h2 : 512 < D
      · exact h2
      · exfalso
        apply h
        unfold szF
        rw [if_neg h1, if_neg h2]
    have t1 : decide ((1024 : Int) < (N : Int)) = false := decide_eq_false (by omega)
    have t2 : decide (1024 < N) = false := decide_eq_false h1
    have t3 : decide ((512 : Int) < (D : Int)) = true := decide_eq_true (by omega)
    have t4 : decide (512 < D) = true := decide_eq_true h2
    rw [show szF N 1024 D = (3, -2) by unfold szF; rw [if_neg h1, if_pos h2]]
    clear h1 h2 h
    go_enter Try.func20, Try.ntmps20
    go_upto_region 1 with (fail)
    refine wp_world (F := fun W => Row W w.heap.size 25 (flt 0 0) ∧ Below w.heap.size w W) ⟨Row.newEq _ _ _ _ _ rfl rfl, ha⟩ ?_
    rintro W0 ⟨r0, hb⟩
    go_wp2_with (first
      | (refine wpList_store_row rfl 25 _ _ rfl w.heap.size (flt 3 (-2)) rfl rfl 25 (flt 0 0) r0 (by rw [flt_size]; exact cellsF) rfl (all_one (flt_one _ _)) ?_))
    refine bodyPost_ret (results_tmp_row Try.results20 _ _ _ w.heap.size 25 (flt 3 (-2)) _ rfl rfl (Row.row r0 _) Try.underlying25 rfl (by rw [flt_size]; exact cellsF)) rfl ⟨⟨_, _, rfl⟩, ?_⟩
    exact blw_row hb (Nat.le_refl _) _

set_option maxRecDepth 100000 in
set_option maxHeartbeats 16000000 in
theorem lzparse_any : PParse := by
  intro L E N D hN hD hN2 hD2 A B cd ce w hA hB
  have t1 : decide ((1024 : Int) < (N : Int)) = false := decide_eq_false (by omega)
  have t2 : decide (1024 < N) = false := decide_eq_false (by omega)
  have t3 : decide ((512 : Int) < (D : Int)) = false := decide_eq_false (by omega)
  have t4 : decide (512 < D) = false := decide_eq_false (by omega)
  have HF := Lib.hid (fun w hA hB => firsttoks_any L E N D hN hD hN2 hD2 A B cd ce w hA hB)
  have HA := Lib.hid hA
  have HB := Lib.hid hB
  obtain ⟨X, hX⟩ : ∃ X, X = E ++ L := ⟨_, rfl⟩
  have hXl : X.length = D + N := by rw [hX, List.length_append, ← hN, ← hD]
  rw [← hX] at HF ⊢
  have HX := Lib.hid hXl
  clear hA hB hN hD hX hXl
  go_enter Try.func20, Try.ntmps20
  go_upto_region 1 with (fail)
  have ha : Below w.heap.size w (w.alloc (.cells #[.int .i64 0, .int .i64 0] 25)) := (Below.refl _ _).alloc (Nat.le_refl _) _
  refine wp_world (F := fun W => Row W w.heap.size 25 (flt 0 0) ∧ Sl W W.heap.size A N (bl L) ∧ Sl W W.heap.size B D (bl E) ∧ Below w.heap.size w W) ⟨Row.newEq _ _ _ _ _ rfl rfl, HA.out.up ha, HB.out.up ha, ha⟩ ?_
  clear ha HA HB
  rintro W0 ⟨r0, hA, hB, hb⟩
  go_upto_region 6 with (first
    | (go_at_call 29; refine (HF.out _ hA hB).mono ?_; rintro e w1 ⟨⟨G, cg, K, t, ts, hTab, rfl, hTk, hts⟩, hb1⟩))
  have r1 := r0.below hb1 r0.lt
  have hbw := up_call hb hb1
  have HTK := Lib.hid hTk
  have HTB := Lib.hid (And.intro hTab hts)
  have hrl := r1.lt
  have hgw : w.heap.size ≤ w1.heap.size := hbw.size
  clear hTk hTab hts hb hb1 r0 hA hB t1 t2 t3 t4 HF W0
  go_upto_region 8 with (fail)
  go_loopw [7, 8] (fun v i wr => ∃ (x f m : Nat) (o : List Tk), i = .int .i64 x ∧ N ≤ x + f ∧ x ≤ N ∧ m ≤ x ∧ Hid (o ++ pathT t N f x = pathT t N N 0 ∧ m = o.length) ∧ Hid (wr.ownsRow w1.heap.size 55 3 v m (tkc (tz o))) ∧ Below w1.heap.size w1 wr) (fun _ i _ => N - (intOf i).toNat)
  case atStart => exact ⟨0, N, 0, [], rfl, by omega, Nat.zero_le _, Nat.le_refl _, Lib.hid ⟨rfl, rfl⟩, Lib.hid (World.ownsRow_nil _ _ _ _), Below.refl _ _⟩
  case round =>
    obtain ⟨x, f, m, o, rfl, hxf, hxN, hmx, HO, HV, hbr⟩ := hrel
    obtain ⟨A9, c9, hv9, _, _⟩ := own_form3 HV.out
    subst hv9
    by_cases hlt : x < N
    · obtain ⟨f, rfl⟩ : ∃ g, f = g + 1 := ⟨f - 1, by omega⟩
      have hpath := HO.out.1
      rw [pathT, if_pos hlt] at hpath
      obtain ⟨hfit, _, _⟩ := HTB.out.1.2 x (Nat.zero_le _) hlt
      have hok := ok_fits hfit (by rw [HX.out]; omega) (by rw [HX.out]; omega)
      have hla := size_any (t x) hok
      have hfl := fits_len hfit
      rw [HX.out] at hfl
      obtain ⟨ad, rfl, hadb, c1a, c2a, c3a⟩ := (HTK.out.below hbr).at_ hlt
      have hzx := HTB.out.2 x hlt
      obtain ⟨tx, htx⟩ : ∃ tx, tx = t x := ⟨_, rfl⟩
      rw [← htx] at hpath hla hfl hzx
      rw [hzx] at c1a c2a c3a
      obtain ⟨x1, x2, x3, hz3⟩ : ∃ a b c, tx.z = (a, b, c) := ⟨_, _, _, rfl⟩
      rw [hz3] at c1a c2a c3a hla
      simp only at c1a c2a c3a hla
      obtain ⟨z3, hzz⟩ : ∃ z : Int, z = (x3.toNat : Int) := ⟨_, rfl⟩
      unfold tcs at hla
      rw [← hzz] at c3a hla
      obtain ⟨tl, htl⟩ : ∃ y, y = tx.len := ⟨_, rfl⟩
      rw [← htl] at hpath hla hfl
      have HPT := Lib.hid hpath
      have HLA := Lib.hid hla
      have HZ3 := Lib.hid (And.intro hz3 hzz)
      have hadw : (ad.add (x * 3)).block < w1.heap.size := by rw [add_block]; exact hadb
      have HKC : Hid (∀ W, Below w1.heap.size wr W → W.cell? (ad.add (x * 3)) = some (.int .i64 x1) ∧ W.cell? ⟨(ad.add (x * 3)).block, (ad.add (x * 3)).off + 1, none⟩ = some (.int .i64 x2) ∧ W.cell? ⟨(ad.add (x * 3)).block, (ad.add (x * 3)).off + 2, none⟩ = some (.int .u8 z3)) := Lib.hid (fun W hW => ⟨(hW.cell hadw).trans c1a, (hW.cell (p := ⟨(ad.add (x * 3)).block, (ad.add (x * 3)).off + 1, none⟩) hadw).trans c2a, (hW.cell (p := ⟨(ad.add (x * 3)).block, (ad.add (x * 3)).off + 2, none⟩) hadw).trans c3a⟩)
      clear hpath hla hfit hok hzx htx hz3 hzz htl
      have hsz : w1.heap.size ≤ wr.heap.size := hbr.size
      go_upto_region 9 with (first
        | (refine wpList_tk rfl _ rfl x1 x2 z3 rfl ?_)
        | (at_builtin; refine wpList_app_tk rfl _ _ rfl w1.heap.size _ m (tz o) rfl (own_below3 HV.out ((Below.refl _ _).alloc (Nat.le_refl _) _)) x1 x2 z3 (x1, x2, x3) rfl HZ3.out.2 wr.heap.size 1 rfl (Row.new _ _ _) (by omega) (by simp; omega) ?_; intro v8 w8 hown8 hb8 hk8))
      have hba := ((Below.refl w1.heap.size wr).alloc hsz (.cells #[.int .i64 x1, .int .i64 x2, .int .u8 z3] 55)).trans hb8
      have hbr8 := hbr.trans hba
      obtain ⟨d1a, d2a, d3a⟩ := HKC.out _ hba
      clear c1a c2a c3a
      go_wp2_with (first
        | (go_at_call 30; refine (HLA.out _).mono ?_; rintro e w9 ⟨rfl, hb9⟩))
      have hbr9 := blw_call hbr8 (Nat.le_trans hbr8.size (Nat.le_refl _)) hb9
      have HV9 := Lib.hid (own_below3 hown8 hb9)
      clear hown8 hb8 hk8 d1a d2a d3a hb9
      go_roundw
      case rel => exact ⟨x + tl, f, m + 1, o ++ [tx], by go_num, by omega, by omega, by omega, Lib.hid ⟨by rw [List.append_assoc]; exact HPT.out, by rw [List.length_append, ← HO.out.2]; rfl⟩, Lib.hid (by rw [tz_append, show tz [tx] = [(x1, x2, x3)] by rw [← HZ3.out.1]; rfl]; exact HV9.out), hbr9⟩
      case measure => simp [intOf]; omega
    · obtain rfl : x = N := by omega
      have hend : pathT t x f x = [] := by cases f with | zero => rfl | succ f => rw [pathT, if_neg (Nat.lt_irrefl _)]
      have ho := HO.out.1
      rw [hend, List.append_nil] at ho
      have HOO := Lib.hid ho
      have r2 := r1.below hbr hrl
      have hb2 := blw_call hbw hgw hbr
      clear ho hend
      go_wp2_with (first
        | (refine wpList_store_row rfl 25 _ _ rfl w.heap.size (flt 0 0) rfl rfl 25 (flt 0 0) r2 (by rw [flt_size]; exact cellsF) rfl (all_one (flt_one _ _)) ?_))
      refine bodyPost_ret (results_tmp_row Try.results20 _ _ _ w.heap.size 25 (flt 0 0) _ rfl rfl (Row.row r2 _) Try.underlying25 rfl (by rw [flt_size]; exact cellsF)) rfl ?_
      have hl9 : (pathT t x x 0).length = m := by rw [← HOO.out]; exact HO.out.2.symm
      refine ⟨⟨A9, c9, _, t, HTB.out.1, ?_, ?_⟩, blw_row hb2 (Nat.le_refl _) _⟩
      · rw [hl9]
        rfl
      · rw [hl9, ← HOO.out]
        exact Tks.of_own (by rw [tz_length, ← HO.out.2]) (own_row3 HV.out r2 (by decide) _)
end Go.Proofs.Ytcmbpniikcghfaa
