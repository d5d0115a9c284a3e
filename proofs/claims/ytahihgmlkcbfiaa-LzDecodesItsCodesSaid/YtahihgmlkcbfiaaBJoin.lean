/-
  The contract of bits.Join where the bit strings are valid.
-/
import Derived.Test.YtahihgmlkcbfiaaBLay
import Derived.Test.YtahihgmlkcbfiaaGMem
namespace Go.Proofs.Ytahihgmlkcbfiaa
open Go.RowKit

/-- a slice of valid bit strings -/
def BsV (w : World) (B : Nat) (A : Option Addr) (n : Nat) (ls : List (List Bool)) : Prop :=
  ls.length = n ∧ (0 < n → ∃ ad : Addr, A = some ad ∧ ad.block < B ∧ ∀ i l, ls[i]? = some l → ∃ Ai ci, w.cell? (ad.add (i * 2)) = some (.slice Ai (pack l).length ci) ∧ w.cell? ⟨(ad.add (i * 2)).block, (ad.add (i * 2)).off + 1, none⟩ = some (.int .i64 l.length) ∧ Sl w B Ai (pack l).length (bl (pack l)) ∧ l.length ≤ 131072)
theorem BsV.below {w W : World} {B n : Nat} {A : Option Addr} {ls : List (List Bool)} (h : BsV w B A n ls) (hb : Below B w W) : BsV W B A n ls := by
  refine ⟨h.1, fun hn => ?_⟩
  obtain ⟨ad, h1, h2, h3⟩ := h.2 hn
  refine ⟨ad, h1, h2, fun i l hi => ?_⟩
  obtain ⟨Ai, ci, k1, k2, k3, k4⟩ := h3 i l hi
  exact ⟨Ai, ci, by rw [← k1]; exact hb.cell (by rw [add_block]; exact h2), by rw [← k2]; exact hb.cell (show (ad.add (i * 2)).block < B by rw [add_block]; exact h2), k3.below hb, k4⟩
theorem BsV.at_ {w : World} {B n : Nat} {A : Option Addr} {ls : List (List Bool)} (h : BsV w B A n ls) {i : Nat} (hi : i < n) : ∃ ad l Ai ci, A = some ad ∧ ad.block < B ∧ ls[i]? = some l ∧ w.cell? (ad.add (i * 2)) = some (.slice Ai (pack l).length ci) ∧ w.cell? ⟨(ad.add (i * 2)).block, (ad.add (i * 2)).off + 1, none⟩ = some (.int .i64 l.length) ∧ Sl w B Ai (pack l).length (bl (pack l)) ∧ l.length ≤ 131072 := by
  obtain ⟨ad, h1, h2, h3⟩ := h.2 (by omega)
  have hl : i < ls.length := by rw [h.1]; exact hi
  obtain ⟨Ai, ci, k⟩ := h3 i ls[i] (List.getElem?_eq_getElem hl)
  exact ⟨ad, ls[i], Ai, ci, h1, h2, List.getElem?_eq_getElem hl, k⟩
theorem flat_snoc (ls : List (List Bool)) (i : Nat) (l : List Bool) (h : ls[i]? = some l) : (ls.take (i + 1)).flatten = (ls.take i).flatten ++ l := by
  obtain ⟨hl, rfl⟩ := List.getElem?_eq_some_iff.1 h
  rw [List.take_succ_eq_append_getElem hl, List.flatten_append]
  simp

/-- the bytes behind the first bit strings -/
def LayAll (m : List Bool) (q : Nat) (M : List UInt8) : Prop := M.length = q ∧ ∀ p, bt M p = m.getD p false
theorem LayAll.next {m l : List Bool} {q : Nat} {M N : List UInt8} (h : LayAll m q M) (hN : LayTo M (pack l) m.length (pack l).length N) : LayAll (m ++ l) q N := by
  refine ⟨by rw [hN.1, h.1], fun p => ?_⟩
  have hp := (pack_rep l).2 (p - m.length)
  have hl := pack_length l
  rw [hN.2, h.2, hp, List.getD_eq_getElem?_getD, List.getD_eq_getElem?_getD, List.getD_eq_getElem?_getD]
  by_cases h1 : p < m.length
  · rw [decide_eq_false (by omega), List.getElem?_append_left h1]
    simp
  · rw [List.getElem?_append_right (by omega), show m[p]? = none from List.getElem?_eq_none (by omega)]
    by_cases h2 : p < m.length + 8 * (pack l).length
    · rw [decide_eq_true (by omega)]
      simp
    · rw [decide_eq_false (by omega), show l[p - m.length]? = none from List.getElem?_eq_none (by omega)]
      rfl
theorem LayAll.zero (q : Nat) : LayAll [] q (List.replicate q 0) := ⟨List.length_replicate, fun p => by rw [bt_zeros]; rfl⟩
theorem flat_le (ls : List (List Bool)) (i : Nat) (l : List Bool) (h : ls[i]? = some l) : (ls.take i).flatten.length + l.length ≤ ls.flatten.length := by
  have h1 := flat_snoc ls i l h
  have h2 : ls.flatten = (ls.take (i + 1)).flatten ++ (ls.drop (i + 1)).flatten := by rw [← List.flatten_append, List.take_append_drop]
  rw [h2, h1]
  simp only [List.length_append]
  omega

set_option maxRecDepth 100000 in
set_option maxHeartbeats 4000000 in
theorem join_ok (ls : List (List Bool)) (n : Nat) (hn : n ≤ 256) (hl : ls.flatten.length ≤ 131072) (A : Option Addr) (c : Nat) (w : World) (hS : BsV w w.heap.size A n ls) :
    Calls Try.prog 33 #[.slice A n c] w (BitsOut w ls.flatten) := by
  have h0 : decide ((256 : Int) < (n : Int)) = false := decide_eq_false (by omega)
  go_enter Try.func33, Try.ntmps33
  go_upto_region 1 with (fail)
  refine wp_world (F := fun W => Row W w.heap.size 43 (bcs none 0 0 0) ∧ Row W (w.heap.size + 1) 25 (flt 0 0) ∧ Below w.heap.size w W)
    ⟨(Row.newEq _ _ _ _ _ rfl rfl).alloc _, Row.newEq _ _ _ _ _ (by simp) rfl, ((Below.refl _ _).alloc (Nat.le_refl _) _).alloc (by simp) _⟩ ?_
  rintro W0 ⟨r1, r2, hb⟩
  go_wp2
  go_loopw [4, 19] (fun t i wr => ∃ j : Nat, j ≤ n ∧ i = .int .i64 j ∧ t = .int .i64 ((ls.take j).flatten.length : Nat) ∧ (ls.take j).flatten.length ≤ 131072 * j ∧ Row wr w.heap.size 43 (bcs none 0 0 0) ∧ Row wr (w.heap.size + 1) 25 (flt 0 0) ∧ Below w.heap.size w wr) (fun _ i _ => n - (intOf i).toNat)
  case atStart => exact ⟨0, Nat.zero_le _, rfl, rfl, Nat.le_refl _, r1, r2, hb⟩
  case round =>
    clear r1 r2 hb
    obtain ⟨j, hj, rfl, rfl, ht, r1, r2, hb⟩ := hrel
    by_cases hlt : j < n
    · obtain ⟨ad, l, Ai, ci, rfl, hbl, hget, k1, k2, k3, k4⟩ := (hS.below hb).at_ hlt
      have hfs := flat_snoc ls j l hget
      have HFS := Lib.hid hfs
      obtain ⟨t, htt⟩ : ∃ t, t = (ls.take j).flatten.length := ⟨_, rfl⟩
      rw [← htt] at ht ⊢
      have HT := Lib.hid htt
      clear hfs htt hget
      go_upto_region 7 with (first
        | (refine wpList_store_row rfl 43 _ _ rfl wr.heap.size (bcs Ai (pack l).length ci l.length) rfl rfl 43 (bcs none 0 0 0) (Row.newEq _ _ _ _ _ rfl rfl) (by rw [bcs_size]; exact cellsB) rfl (all_one (bcs_one _ _ _ _)) ?_))
      refine wp_world (F := fun W => Row W wr.heap.size 43 (bcs Ai (pack l).length ci l.length) ∧ Row W w.heap.size 43 (bcs none 0 0 0) ∧ Row W (w.heap.size + 1) 25 (flt 0 0) ∧ Sl W W.heap.size Ai (pack l).length (bl (pack l)) ∧ Below w.heap.size w W) ⟨row_new1 _ _ _ _, r1.below (blw_new1 _ _ _) r1.lt, r2.below (blw_new1 _ _ _) r2.lt, (k3.wider hb.size).up (blw_new1 _ _ _), up_call hb (blw_new1 _ _ _)⟩ ?_
      generalize wr.heap.size = g
      clear k1 k2 k3 r1 r2 hb wr
      rintro W5 ⟨r5, r1, r2, k3, hb⟩
      go_wp2_with (first
        | (refine wpList_load_row rfl 43 _ rfl g rfl 43 (bcs Ai (pack l).length ci l.length) (0, 0) _ r5 Try.underlying43 rfl (by rw [bcs_size]; exact cellsB) ?_)
        | (go_at_call 46; refine (valid_yes (pack l) l (pack_rep l) k4 Ai ci _ k3).mono ?_; rintro e w6 ⟨rfl, hb6⟩; have c1 : w6.cell? ⟨g, 1, none⟩ = some (.int .i64 (l.length : Int)) := ((r5.below hb6 r5.lt).cell 1).trans rfl; have r1a := r1.below hb6 r1.lt; have r2a := r2.below hb6 r2.lt; have hba := up_call hb hb6; clear hb6))
      go_roundw
      case rel =>
        refine ⟨j + 1, by omega, by go_num, ?_, ?_, r1a, r2a, hba⟩
        · rw [HFS.out, List.length_append, ← HT.out]
          go_num
        · rw [HFS.out, List.length_append, ← HT.out]
          omega
      case measure => simp [intOf]; omega
    · obtain rfl : n = j := by omega
      rw [List.take_of_length_le (by rw [hS.1]; exact Nat.le_refl _)] at ht ⊢
      clear ht
      obtain ⟨t, htt⟩ : ∃ t, t = ls.flatten.length := ⟨_, rfl⟩
      rw [← htt] at hl ⊢
      have HT := Lib.hid htt
      obtain ⟨q, hq⟩ : ∃ q, q = (t + 7) / 8 := ⟨_, rfl⟩
      have HQ := Lib.hid hq
      have hq1 : t ≤ 8 * q := by omega
      have hq2 : q ≤ 16384 := by omega
      have hlt2 := r2.lt
      clear htt hq
      go_upto_region 14 with (first
        | (go_at_call 52; refine (extended_nil t hl q HQ.out _ rfl _).mono ?_; rintro e w2 ⟨g, rfl, hg, rg, hb2⟩; have r1b := r1.below hb2 r1.lt; have r2b := r2.below hb2 r2.lt; have hbb := up_call hb hb2; have hgl := rg.lt; clear hb2)
        | (refine wpList_store_row rfl 43 _ _ rfl w2.heap.size (bcs (some ⟨g, 0, none⟩) q q t) rfl rfl 43 (bcs none 0 0 0) (Row.newEq _ _ _ _ _ rfl rfl) (by rw [bcs_size]; exact cellsB) rfl (all_one (bcs_one _ _ _ _)) ?_))
      refine wp_world (F := fun W => Row W w.heap.size 43 (bcs none 0 0 0) ∧ Row W (w.heap.size + 1) 25 (flt 0 0) ∧ Row W w2.heap.size 43 (bcs (some ⟨g, 0, none⟩) q q t) ∧ Row W g 5 (bl (List.replicate q 0)).toArray ∧ Below w.heap.size w W)
        ⟨r1b.below (blw_new1 _ _ _) r1b.lt, r2b.below (blw_new1 _ _ _) r2b.lt, row_new1 _ _ _ _, rg.below (blw_new1 _ _ _) rg.lt, up_call hbb (blw_new1 _ _ _)⟩ ?_
      generalize w2.heap.size = g5 at hgl ⊢
      have hga : w.heap.size + 1 < g := Nat.lt_of_lt_of_le hlt2 hg
      clear hbb r1b r2b rg w2 hg r1 r2 hb hlt2 wr
      rintro W3 ⟨r1, r2, r5, rg, hb⟩
      go_wp2
      go_loopw [8, 46] (fun a i wr => ∃ j : Nat, ∃ M, j ≤ n ∧ i = .int .i64 j ∧ a = .int .i64 ((ls.take j).flatten.length : Nat) ∧ LayAll (ls.take j).flatten q M ∧ Row wr w.heap.size 43 (bcs none 0 0 0) ∧ Row wr (w.heap.size + 1) 25 (flt 0 0) ∧ Row wr g5 43 (bcs (some ⟨g, 0, none⟩) q q t) ∧ Row wr g 5 (bl M).toArray ∧ Below w.heap.size w wr) (fun _ i _ => n - (intOf i).toNat)
      case atStart => exact ⟨0, _, Nat.zero_le _, rfl, rfl, LayAll.zero q, r1, r2, r5, rg, hb⟩
      case round =>
        clear r1 r2 r5 rg hb
        obtain ⟨j, M, hj, rfl, rfl, hM, r1, r2, r5, rg, hb⟩ := hrel
        by_cases hlt : j < n
        · obtain ⟨ad, l, Ai, ci, rfl, hbl, hget, k1, k2, k3, k4⟩ := (hS.below hb).at_ hlt
          have HFS := Lib.hid (flat_snoc ls j l hget)
          have hfl := flat_le ls j l hget
          rw [← HT.out] at hfl
          obtain ⟨a, haa⟩ : ∃ a, a = (ls.take j).flatten.length := ⟨_, rfl⟩
          have HM := Lib.hid hM
          rw [← haa] at hfl ⊢
          have HA := Lib.hid haa
          have hLJ : l.length ≤ 131072 := k4
          have hgl' := rg.lt
          clear haa hget hM
          go_upto_region 18 with (first
            | (refine wpList_store_row rfl 43 _ _ rfl wr.heap.size (bcs Ai (pack l).length ci l.length) rfl rfl 43 (bcs none 0 0 0) (Row.newEq _ _ _ _ _ rfl rfl) (by rw [bcs_size]; exact cellsB) rfl (all_one (bcs_one _ _ _ _)) ?_))
          refine wp_world (F := fun W => Row W wr.heap.size 43 (bcs Ai (pack l).length ci l.length) ∧ Row W w.heap.size 43 (bcs none 0 0 0) ∧ Row W (w.heap.size + 1) 25 (flt 0 0) ∧ Row W g5 43 (bcs (some ⟨g, 0, none⟩) q q t) ∧ Row W g 5 (bl M).toArray ∧ Sl W g Ai (pack l).length (bl (pack l)) ∧ Below w.heap.size w W) ⟨row_new1 _ _ _ _, r1.below (blw_new1 _ _ _) r1.lt, r2.below (blw_new1 _ _ _) r2.lt, r5.below (blw_new1 _ _ _) r5.lt, rg.below (blw_new1 _ _ _) rg.lt, (k3.wider (by omega)).below ((blw_new1 _ _ _).mono (Nat.le_of_lt hgl')), up_call hb (blw_new1 _ _ _)⟩ ?_
          generalize wr.heap.size = g6 at hgl' ⊢
          clear k1 k2 k3 r1 r2 r5 rg hb wr
          rintro W5 ⟨r6, r1, r2, r5, rg, k3, hb⟩
          have c6 : W5.cell? ⟨g6, 1, none⟩ = some (.int .i64 (l.length : Int)) := (r6.cell 1).trans rfl
          go_upto_region 19 with (first
            | (refine wpList_load_row rfl 43 _ rfl g5 rfl 43 (bcs (some ⟨g, 0, none⟩) q q t) (0, 0) _ r5 Try.underlying43 rfl (by rw [bcs_size]; exact cellsB) ?_)
            | (refine wpList_load_row rfl 43 _ rfl g6 rfl 43 (bcs Ai (pack l).length ci l.length) (0, 0) _ r6 Try.underlying43 rfl (by rw [bcs_size]; exact cellsB) ?_)
            | (go_at_call 53; refine (lay_any M (pack l) l (pack_rep l) hLJ g q a _ q HM.out.1.symm hq2 (by omega) Ai ci _ rg k3).mono ?_; rintro e w7 ⟨rfl, ⟨N, hN, rN⟩, hgr⟩))
          have q6 := r6.grown hgr (by simp; omega)
          have q1 := r1.grown hgr (by simp; omega)
          have q2 := r2.grown hgr (by simp; omega)
          have q5 := r5.grown hgr (by simp; omega)
          have hbq := gr_below hb hgr hb.size (by omega)
          have d6 : w7.cell? ⟨g6, 1, none⟩ = some (.int .i64 (l.length : Int)) := (q6.cell 1).trans rfl
          have HNN := Lib.hid hN
          clear hN c6 r6 r1 r2 r5 rg k3 hb hgr
          go_wp2
          go_roundw
          case rel =>
            refine ⟨j + 1, N, by omega, by go_num, ?_, ?_, q1, q2, q5, rN, hbq⟩
            · rw [HFS.out, List.length_append, ← HA.out]
              go_num
            · rw [HFS.out]
              exact HM.out.next (by rw [← HA.out]; exact HNN.out)
          case measure => simp [intOf]; omega
        · obtain rfl : n = j := by omega
          rw [List.take_of_length_le (by rw [hS.1]; exact Nat.le_refl _)] at hM ⊢
          rw [← HT.out]
          have HM := Lib.hid hM
          clear hM
          go_wp2_with (first
            | (refine wpList_load_row rfl 43 _ rfl g5 rfl 43 (bcs (some ⟨g, 0, none⟩) q q t) (0, 0) _ r5 Try.underlying43 rfl (by rw [bcs_size]; exact cellsB) ?_)
            | (refine wpList_store_row rfl 43 _ _ rfl w.heap.size (bcs (some ⟨g, 0, none⟩) q q t) rfl rfl 43 (bcs none 0 0 0) r1 (by rw [bcs_size]; exact cellsB) rfl (all_one (bcs_one _ _ _ _)) ?_)
            | (refine wpList_store_row rfl 25 _ _ rfl (w.heap.size + 1) (flt 0 0) rfl rfl 25 (flt 0 0) (r2.rowFar (by omega) _) (by rw [flt_size]; exact cellsF) rfl (all_one (flt_one _ _)) ?_))
          refine bodyPost_ret (results_rows Try.results33 _ _ w.heap.size (w.heap.size + 1) 43 25 (bcs (some ⟨g, 0, none⟩) q q t) (flt 0 0) _ _ rfl rfl ((Row.row r1 _).rowFar (by omega) _) (Row.row (r2.rowFar (by omega) _) _) Try.underlying43 rfl (by rw [bcs_size]; exact cellsB) Try.underlying25 rfl (by rw [flt_size]; exact cellsF)) rfl ?_
          exact bitsOut_row (l := ls.flatten) ⟨by rw [HM.out.1, ← HT.out]; exact HQ.out, HM.out.2⟩ rfl HM.out.1.symm (by rw [HT.out]) ((rg.rowFar (by omega) _).rowFar (by omega) _) (blw_row (blw_row hb (Nat.le_refl _) _) (by omega) _)
end Go.Proofs.Ytahihgmlkcbfiaa
