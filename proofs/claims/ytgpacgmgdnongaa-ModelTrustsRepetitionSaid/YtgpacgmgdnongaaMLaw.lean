/-
  What the statements on the model share: the contracts of BitList, predictFault, predicts and Ints.
-/
import Derived.Test.YtgpacgmgdnongaaMPredOk
import Derived.Test.YtgpacgmgdnongaaRIn
import Derived.BigQuiet
namespace Go.Proofs.Ytgpacgmgdnongaa
open Go.RowKit

set_option maxRecDepth 100000 in
set_option maxHeartbeats 4000000 in
theorem bitlist_upto (zs : List Int) (k : Nat) (hk : k ≤ zs.length) (h1 : ∀ j, j < k → isB (zs.getD j 0)) (h2 : k < zs.length → ¬ isB (zs.getD k 0)) (hl : zs.length < 8192) (A : Option Addr) (c : Nat) (w : World) (hS : Sl w w.heap.size A zs.length (zl zs)) :
    Calls Try.prog 20 #[.slice A zs.length c] w fun e w' => e = .returned (.tuple #[.bool (decide (k = zs.length)), .int .i64 ((if k = zs.length then 0 else k : Nat) : Int)]) ∧ w = w' := by
  have H1 := Lib.hid h1
  have H2 := Lib.hid h2
  clear h1 h2
  obtain ⟨t, ht⟩ : ∃ t, t = decide (k = zs.length) := ⟨_, rfl⟩
  obtain ⟨r, hr⟩ : ∃ r, r = (if k = zs.length then 0 else k : Nat) := ⟨_, rfl⟩
  rw [← ht, ← hr]
  have HT := Lib.hid (And.intro ht hr)
  clear ht hr
  go_enter Try.func20, Try.ntmps20
  go_wp2
  go_loop [4] (fun i => ∃ j : Nat, j ≤ k ∧ i = .int .i64 j) (fun i => zs.length - (intOf i).toNat)
  case atStart => exact ⟨0, Nat.zero_le _, rfl⟩
  case round =>
    obtain ⟨j, hj, rfl⟩ := hrel
    by_cases hlt : j < zs.length
    · obtain ⟨ad, rfl, hbk, hcell⟩ := hS.int hlt
      by_cases hjk : j < k
      · have hb := H1.out j hjk
        obtain ⟨z, hz⟩ : ∃ z, z = zs.getD j 0 := ⟨_, rfl⟩
        rw [← hz] at hcell hb
        clear hz
        rcases hb with rfl | rfl
        all_goals
          go_wp2
          go_round
          case rel => exact ⟨j + 1, by omega, by go_num⟩
          case measure => simp [intOf]; omega
      · obtain rfl : j = k := by omega
        have hb := H2.out hlt
        obtain ⟨z, hz⟩ : ∃ z, z = zs.getD j 0 := ⟨_, rfl⟩
        rw [← hz] at hcell hb
        clear hz
        have q0 : (z == 0) = false := beq_eq_false_iff_ne.2 (fun e => hb (.inl e))
        have q1 : (z == 1) = false := beq_eq_false_iff_ne.2 (fun e => hb (.inr e))
        have q2 : (z != 0) = true := by rw [bne, q0]; rfl
        have q3 : (z != 1) = true := by rw [bne, q1]; rfl
        have hne : ¬ j = zs.length := by omega
        obtain ⟨rfl, rfl⟩ : t = false ∧ r = j := by rw [HT.out.1, HT.out.2]; exact ⟨decide_eq_false hne, if_neg hne⟩
        clear hne
        go_wp2
        go_ret2
        exact ⟨rfl, rfl⟩
    · have hjl : j = zs.length := by omega
      have hkl : k = zs.length := by omega
      obtain ⟨rfl, rfl⟩ : t = true ∧ r = 0 := by rw [HT.out.1, HT.out.2]; exact ⟨decide_eq_true hkl, if_pos hkl⟩
      clear hkl
      go_wp2
      go_ret2
      exact ⟨rfl, rfl⟩

theorem bitlist_ok (l : List Bool) (hl : l.length < 8192) (A : Option Addr) (c : Nat) (w : World) (hS : Sl w w.heap.size A l.length (il l)) :
    Calls Try.prog 20 #[.slice A l.length c] w fun e w' => e = .returned (.tuple #[.bool true, .int .i64 0]) ∧ w = w' := by
  have h := bitlist_upto (bz l) l.length (by rw [bz_length]; exact Nat.le_refl _) (fun j _ => bz_isB l j) (fun h => by rw [bz_length] at h; omega) (by rw [bz_length]; exact hl) A c w (by rw [bz_length, zl_bz]; exact hS)
  rw [bz_length, decide_eq_true rfl, if_pos rfl] at h
  exact h
theorem bitlist_bad (zs : List Int) (k : Nat) (hk : k < zs.length) (h1 : ∀ j, j < k → isB (zs.getD j 0)) (h2 : ¬ isB (zs.getD k 0)) (hl : zs.length < 8192) (A : Option Addr) (c : Nat) (w : World) (hS : Sl w w.heap.size A zs.length (zl zs)) :
    Calls Try.prog 20 #[.slice A zs.length c] w fun e w' => e = .returned (.tuple #[.bool false, .int .i64 k]) ∧ w = w' := by
  have h := bitlist_upto zs k (by omega) h1 (fun _ => h2) hl A c w hS
  rw [decide_eq_false (by omega), if_neg (by omega)] at h
  exact h

/-- predictFault -/
def PFl (zs : List Int) (d c i : Int) : Prop := ∀ (A : Option Addr) (cp : Nat) (w : World), Sl w w.heap.size A zs.length (zl zs) →
    Calls Try.prog 9 #[.int .i64 d, .slice A zs.length cp] w fun e w' => e = .returned (.agg (flt c i)) ∧ Below w.heap.size w w'

set_option maxRecDepth 100000 in
set_option maxHeartbeats 4000000 in
theorem pfl_order (zs : List Int) (d : Int) (h : d < 0 ∨ 2 < d) : PFl zs d 4 (-1) := by
  intro A cp w hS
  have H := Lib.hid h
  clear h
  go_enter Try.func9, Try.ntmps9
  go_upto_region 1 with fail
  refine wp_world (F := fun W => Row W w.heap.size 24 (flt 0 0) ∧ Sl W W.heap.size A zs.length (zl zs) ∧ Below w.heap.size w W) ⟨Row.newEq _ _ _ _ _ rfl rfl, hS.up ((Below.refl _ _).alloc (Nat.le_refl _) _), (Below.refl _ _).alloc (Nat.le_refl _) _⟩ ?_
  clear hS
  rintro W0 ⟨r0, hS, hb⟩
  go_wp2_with (first
    | (go_at_call 12; refine (in_no d 0 2 H.out _).mono ?_; rintro e w8 ⟨rfl, h8⟩; subst w8)
    | (go_at_call 16; refine (at_any 4 (-1) _).mono ?_; rintro e w10 ⟨rfl, hb10⟩)
    | (refine wpList_store_row rfl 24 _ _ rfl w.heap.size (flt 4 (-1)) rfl rfl 24 (flt 0 0) (r0.below hb10 r0.lt) (by rw [flt_size]; exact cellsF) rfl (all_one (flt_one _ _)) ?_))
  refine bodyPost_ret (results_row Try.results9 _ _ w.heap.size 24 (flt 4 (-1)) _ rfl (Row.row (r0.below hb10 r0.lt) _) Try.underlying24 rfl (by rw [flt_size]; exact cellsF)) rfl ⟨rfl, blw_row (up_call hb hb10) (Nat.le_refl _) _⟩

set_option maxRecDepth 100000 in
set_option maxHeartbeats 4000000 in
theorem pfl_long (zs : List Int) (d : Int) (h : 0 ≤ d ∧ d ≤ 2) (hl : 8192 ≤ zs.length) : PFl zs d 2 (-2) := by
  intro A cp w hS
  have H := Lib.hid h
  clear h
  have t4 : decide ((8192 : Int) ≤ (zs.length : Int)) = true := decide_eq_true (by omega)
  go_enter Try.func9, Try.ntmps9
  go_upto_region 1 with fail
  refine wp_world (F := fun W => Row W w.heap.size 24 (flt 0 0) ∧ Sl W W.heap.size A zs.length (zl zs) ∧ Below w.heap.size w W) ⟨Row.newEq _ _ _ _ _ rfl rfl, hS.up ((Below.refl _ _).alloc (Nat.le_refl _) _), (Below.refl _ _).alloc (Nat.le_refl _) _⟩ ?_
  clear hS
  rintro W0 ⟨r0, hS, hb⟩
  go_wp2_with (first
    | (go_at_call 12; refine (in_yes d 0 2 H.out.1 H.out.2 _).mono ?_; rintro e w8 ⟨rfl, h8⟩; subst w8)
    | (go_at_call 16; refine (at_any 2 (-2) _).mono ?_; rintro e w10 ⟨rfl, hb10⟩)
    | (refine wpList_store_row rfl 24 _ _ rfl w.heap.size (flt 2 (-2)) rfl rfl 24 (flt 0 0) (r0.below hb10 r0.lt) (by rw [flt_size]; exact cellsF) rfl (all_one (flt_one _ _)) ?_))
  refine bodyPost_ret (results_row Try.results9 _ _ w.heap.size 24 (flt 2 (-2)) _ rfl (Row.row (r0.below hb10 r0.lt) _) Try.underlying24 rfl (by rw [flt_size]; exact cellsF)) rfl ⟨rfl, blw_row (up_call hb hb10) (Nat.le_refl _) _⟩

set_option maxRecDepth 100000 in
set_option maxHeartbeats 4000000 in
theorem pfl_form (zs : List Int) (d : Int) (h : 0 ≤ d ∧ d ≤ 2) (hl : zs.length < 8192) (k : Nat) (hk : k < zs.length) (h1 : ∀ j, j < k → isB (zs.getD j 0)) (h2 : ¬ isB (zs.getD k 0)) : PFl zs d 6 (k : Int) := by
  intro A cp w hS
  have H := Lib.hid h
  clear h
  have t4 : decide ((8192 : Int) ≤ (zs.length : Int)) = false := decide_eq_false (by omega)
  have HBL := Lib.hid (bitlist_bad zs k hk h1 h2 hl A cp)
  clear h1 h2
  go_enter Try.func9, Try.ntmps9
  go_upto_region 1 with fail
  refine wp_world (F := fun W => Row W w.heap.size 24 (flt 0 0) ∧ Sl W W.heap.size A zs.length (zl zs) ∧ Below w.heap.size w W) ⟨Row.newEq _ _ _ _ _ rfl rfl, hS.up ((Below.refl _ _).alloc (Nat.le_refl _) _), (Below.refl _ _).alloc (Nat.le_refl _) _⟩ ?_
  clear hS
  rintro W0 ⟨r0, hS, hb⟩
  go_wp2_with (first
    | (go_at_call 12; refine (in_yes d 0 2 H.out.1 H.out.2 _).mono ?_; rintro e w8 ⟨rfl, h8⟩; subst w8)
    | (go_at_call 20; refine (HBL.out _ hS).mono ?_; rintro e w17 ⟨rfl, h17⟩; subst w17)
    | (go_at_call 16; refine (at_any 6 k _).mono ?_; rintro e w10 ⟨rfl, hb10⟩)
    | (refine wpList_store_row rfl 24 _ _ rfl w.heap.size (flt 6 k) rfl rfl 24 (flt 0 0) (r0.below hb10 r0.lt) (by rw [flt_size]; exact cellsF) rfl (all_one (flt_one _ _)) ?_))
  refine bodyPost_ret (results_row Try.results9 _ _ w.heap.size 24 (flt 6 k) _ rfl (Row.row (r0.below hb10 r0.lt) _) Try.underlying24 rfl (by rw [flt_size]; exact cellsF)) rfl ⟨rfl, blw_row (up_call hb hb10) (Nat.le_refl _) _⟩

theorem pfl_bad (d : Int) (zs : List Int) (c i : Int) (h : PF d zs c i) : PFl zs d c i := by
  cases h with
  | order h => exact pfl_order zs d h
  | long h hl => exact pfl_long zs d h hl
  | form h hl k hk h1 h2 => exact pfl_form zs d h hl k hk h1 h2

set_option maxRecDepth 100000 in
set_option maxHeartbeats 4000000 in
theorem pfl_ok (d : Nat) (hd : d ≤ 2) (l : List Bool) (hl : l.length < 8192) (A : Option Addr) (cp : Nat) (w : World) (hS : Sl w w.heap.size A l.length (il l)) :
    Calls Try.prog 9 #[.int .i64 d, .slice A l.length cp] w fun e w' => e = .returned (.agg (flt 0 0)) ∧ Below w.heap.size w w' := by
  have t4 : decide ((8192 : Int) ≤ (l.length : Int)) = false := decide_eq_false (by omega)
  have HBL := Lib.hid (bitlist_ok l hl A cp)
  go_enter Try.func9, Try.ntmps9
  go_upto_region 1 with fail
  refine wp_world (F := fun W => Row W w.heap.size 24 (flt 0 0) ∧ Sl W W.heap.size A l.length (il l) ∧ Below w.heap.size w W) ⟨Row.newEq _ _ _ _ _ rfl rfl, hS.up ((Below.refl _ _).alloc (Nat.le_refl _) _), (Below.refl _ _).alloc (Nat.le_refl _) _⟩ ?_
  clear hS
  rintro W0 ⟨r0, hS, hb⟩
  go_wp2_with (first
    | (go_at_call 12; refine (in_yes d 0 2 (by omega) (by omega) _).mono ?_; rintro e w8 ⟨rfl, h8⟩; subst w8)
    | (go_at_call 20; refine (HBL.out _ hS).mono ?_; rintro e w17 ⟨rfl, h17⟩; subst w17)
    | (refine wpList_store_row rfl 24 _ _ rfl w.heap.size (flt 0 0) rfl rfl 24 (flt 0 0) r0 (by rw [flt_size]; exact cellsF) rfl (all_one (flt_one _ _)) ?_))
  refine bodyPost_ret (results_row Try.results9 _ _ w.heap.size 24 (flt 0 0) _ rfl (Row.row r0 _) Try.underlying24 rfl (by rw [flt_size]; exact cellsF)) rfl ⟨rfl, blw_row hb (Nat.le_refl _) _⟩

theorem Sl.nat {w : World} {B n : Nat} {A : Option Addr} {ns : List Nat} (h : Sl w B A n (nl ns)) {k : Nat} (hk : k < n) : ∃ ad, A = some ad ∧ ad.block < B ∧ w.cell? (ad.add k) = some (.int .i64 ((ns.getD k 0 : Nat) : Int)) := by
  obtain ⟨ad, u, h1, h2, h3, h4⟩ := h.at_ hk
  have hn : k < ns.length := by
    have := h.1
    rw [nl_length] at this
    omega
  rw [nl_get ns k hn] at h3
  injection h3 with h3
  exact ⟨ad, h1, h2, by rw [h4, ← h3]⟩

set_option maxRecDepth 100000 in
set_option maxHeartbeats 4000000 in
/-- Ints of two equal lists -/
theorem ints_yes (ns : List Nat) (m : Nat) (_hm : ns.length = m) (hns : m ≤ 100000) (A B : Option Addr) (c d : Nat) (w : World) (hA : Sl w w.heap.size A m (nl ns)) (hB : Sl w w.heap.size B m (nl ns)) :
    Calls Try.prog 13 #[.slice A m c, .slice B m d] w fun e w' => e = .returned (.bool true) ∧ Below w.heap.size w w' := by
  have HS := Lib.hid (And.intro hA hB)
  clear hA hB _hm
  go_enter Try.func13, Try.ntmps13
  go_wp2
  go_loopw [5] (fun k wr => ∃ j : Nat, j ≤ m ∧ k = .int .i64 j ∧ Below w.heap.size w wr) (fun k _ => m - (intOf k).toNat)
  case atStart => exact ⟨0, Nat.zero_le _, rfl, Below.refl _ _⟩
  case round =>
    obtain ⟨j, hj, rfl, hb⟩ := hrel
    by_cases hlt : j < m
    · obtain ⟨a1, rfl, _, hc1⟩ := (HS.out.1.below hb).nat hlt
      obtain ⟨a2, rfl, _, hc2⟩ := (HS.out.2.below hb).nat hlt
      obtain ⟨x, hx⟩ : ∃ x, x = ((ns.getD j 0 : Nat) : Int) := ⟨_, rfl⟩
      rw [← hx] at hc1 hc2
      clear hx
      go_upto_region 6 with fail
      go_quiet (fail)
      go_wp2
      go_roundw
      case rel => exact ⟨j + 1, by omega, by go_num, blw_drewN hb _⟩
      case measure => simp [intOf]; omega
    · obtain rfl : j = m := by omega
      go_wp2
      go_ret
      exact ⟨rfl, hb⟩

theorem own_at {w : World} {base : Nat} {e : TypeId} {v : Value} {n : Nat} {xs : List Value} (h : w.ownsRow base e 1 v n xs) (hn : n ≠ 0) : ∃ g c, v = .slice (some ⟨g, 0, none⟩) n c := by
  rcases h.2 with ⟨_, h0⟩ | ⟨g, cap, cur, h1, _⟩
  · exact absurd h0 hn
  · exact ⟨g, cap, h1⟩
theorem nine_preds : preds 0 (List.replicate 8 true) 9 = [2048, 2048, 2048, 2048, 2048, 2048, 2048, 2048, 2560] := by decide

set_option maxRecDepth 100000 in
set_option maxHeartbeats 4000000 in
/-- the closed example -/
theorem predicts_any (w : World) :
    Calls Try.prog 10 #[] w fun e w' => e = .returned (.bool true) ∧ Below w.heap.size w w' := by
  have hpk := predict_ok 0 (by omega) (List.replicate 8 true) (by decide) (some ⟨w.heap.size, 0, none⟩) 8 (by decide) (w.alloc (.cells (il (List.replicate 8 true)).toArray 3))
    (by
      have h := Sl.of_row (Row.new w 3 (il (List.replicate 8 true)).toArray) 0 8 (by simp [il_length])
      have e : ((il (List.replicate 8 true)).toArray.toList.drop 0).take 8 = il (List.replicate 8 true) := by
        rw [List.drop_zero]
        exact List.take_of_length_le (by simp [il_length])
      rw [e] at h
      exact h)
  rw [show (List.replicate 8 true).length + 1 = 9 from rfl, nine_preds] at hpk
  have e8 : (il (List.replicate 8 true)).toArray = #[.int .i64 1, .int .i64 1, .int .i64 1, .int .i64 1, .int .i64 1, .int .i64 1, .int .i64 1, .int .i64 1] := by unfold il; rfl
  rw [e8] at hpk
  have hpk2 : Calls Try.prog 8 #[.int .i64 0, .slice (some ⟨w.heap.size, 0, none⟩) 8 8] (w.alloc (.cells #[.int .i64 1, .int .i64 1, .int .i64 1, .int .i64 1, .int .i64 1, .int .i64 1, .int .i64 1, .int .i64 1] 3)) fun e w' => ∃ g c, e = .returned (.tuple #[.slice (some ⟨g, 0, none⟩) 9 c, .agg (flt 0 0)]) ∧ Sl w' w'.heap.size (some ⟨g, 0, none⟩) 9 (nl [2048, 2048, 2048, 2048, 2048, 2048, 2048, 2048, 2560]) ∧ Below w.heap.size w w' :=
    hpk.mono fun e w' ⟨v, h1, h2, h3⟩ => by
      obtain ⟨g, c, rfl⟩ := own_at h2 (by decide)
      exact ⟨g, c, h1, Sl.of_own h2, up_call ((Below.refl _ _).alloc (Nat.le_refl _) _) h3⟩
  have HP := Lib.hid hpk2
  clear hpk hpk2 e8
  go_enter Try.func10, Try.ntmps10
  go_upto_region 2 with (first
    | (go_at_call 8; refine HP.out.mono ?_; rintro e w5 ⟨g, c, rfl, hS, hb⟩)
    | (refine wpList_store_row rfl 24 _ _ rfl w5.heap.size (flt 0 0) rfl rfl 24 (flt 0 0) (Row.newEq _ _ _ _ _ rfl rfl) (by rw [flt_size]; exact cellsF) rfl (all_one (flt_one _ _)) ?_))
  have hk1 := blw_new1 w5 (.cells #[.int .i64 0, .int .i64 0] 24) (flt 0 0)
  refine wp_world (F := fun W => Row W w5.heap.size 24 (flt 0 0) ∧ Sl W W.heap.size (some ⟨g, 0, none⟩) 9 (nl [2048, 2048, 2048, 2048, 2048, 2048, 2048, 2048, 2560]) ∧ Below w.heap.size w W) ⟨row_new1 _ _ _ _, hS.up hk1, hb.trans (hk1.mono hb.size)⟩ ?_
  generalize w5.heap.size = g2
  clear hk1 hS hb HP w5
  rintro W2 ⟨r2, hS, hb⟩
  have k0 : W2.cell? ⟨g2, 0, none⟩ = some (.int .i64 0) := (r2.cell 0).trans rfl
  obtain ⟨ad, hA, _, hc0⟩ := hS.nat (show 0 < 9 by omega)
  injection hA with hA
  subst hA
  obtain ⟨ad', hA', _, hc8⟩ := hS.nat (show 8 < 9 by omega)
  injection hA' with hA'
  subst hA'
  have d0 : W2.cell? ⟨g, 0, none⟩ = some (.int .i64 2048) := hc0
  have d8 : W2.cell? ⟨g, 8, none⟩ = some (.int .i64 2560) := hc8
  clear hc0 hc8 hS r2
  go_wp2
  go_ret
  exact ⟨ret_bool (by first | rfl | decide | simp), hb⟩
end Go.Proofs.Ytgpacgmgdnongaa
