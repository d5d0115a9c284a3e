/-
  The contract of the reference's context.
-/
import Derived.Test.YtgpacgmgdnongaaMCtx
import Derived.Test.YtgpacgmgdnongaaRNum
import Derived.Test.YtgpacgmgdnongaaGNew
namespace Go.Proofs.Ytgpacgmgdnongaa
open Go.RowKit

theorem cells4 : (Try.prog.info? 51).map (·.size) = some 4 := by kernel_rfl

/-- the number of the bits of a part -/
theorem part_byte (l : List Bool) (i s : Nat) (hi : i ≤ l.length) (hs : s + 8 ≤ i) : valB ((l.drop s).take 8) = byteAt (l.take i) s := by
  unfold valB byteAt
  have hl : ((l.drop s).take 8).length = 8 := by rw [List.length_take, List.length_drop]; omega
  rw [hl]
  refine numF_congr fun k hk => ?_
  simp only [List.getD_eq_getElem?_getD]
  rw [List.getElem?_take_of_lt hk, List.getElem?_drop, List.getElem?_take_of_lt (by omega)]

set_option maxRecDepth 100000 in
set_option maxHeartbeats 8000000 in
theorem rcontext_any (l : List Bool) (i o : Nat) (hi : i ≤ l.length) (hl : l.length ≤ 8192) (ho : o ≤ 2) (A : Option Addr) (c : Nat) (hc : l.length ≤ c) (hcm : c ≤ maxLen) (w : World) (hS : Sl w w.heap.size A l.length (il l)) :
    Calls Try.prog 26 #[.slice A l.length c, .int .i64 i, .int .i64 o] w fun e w' => e = .returned (.agg (kcs (ctxOf (l.take i) o))) ∧ Below w.heap.size w w' := by
  have hti : (l.take i).length = i := by rw [List.length_take]; omega
  have hg : begAt (l.take i) = begF (fun k => l.getD (i - i % 8 + k) false) (i % 8) := by
    unfold begAt
    rw [hti]
    refine begF_congr fun k hk => ?_
    simp only [List.getD_eq_getElem?_getD]
    rw [List.getElem?_take_of_lt (by omega)]
  obtain ⟨r, hr⟩ : ∃ r, r = i % 8 := ⟨_, rfl⟩
  obtain ⟨s, hs⟩ : ∃ s, s = i - i % 8 := ⟨_, rfl⟩
  rw [← hs, ← hr] at hg
  have hs1 : (i : Int) - (i : Int) % 8 = (s : Int) := by omega
  have hsr : s + r = i := by omega
  have hr8 : r < 8 := by omega
  have hs8 : s % 8 = 0 := by omega
  have HG := Lib.hid hg
  have HT := Lib.hid hti
  have HR := Lib.hid (And.intro hr hs)
  clear hr hs hg hti
  go_enter Try.func26, Try.ntmps26
  go_upto_region 4 with fail
  refine wp_world (F := fun W => Row W w.heap.size 51 (kcs ⟨0, 0, 0, 0⟩) ∧ Row W (w.heap.size + 1) 51 (kcs ⟨o, 0, 0, 1⟩) ∧ Below w.heap.size w W) ⟨(Row.newEq _ _ _ _ _ rfl rfl).alloc _, Row.newEq _ _ _ _ _ (by simp) rfl, ((Below.refl _ _).alloc (Nat.le_refl _) _).alloc (by simp) _⟩ ?_
  rintro W0 ⟨r0, r1, hb⟩
  go_loopw [9] (fun q wr => ∃ j : Nat, j ≤ r ∧ q = .int .i64 ((s + j : Nat) : Int) ∧ Row wr w.heap.size 51 (kcs ⟨0, 0, 0, 0⟩) ∧ Row wr (w.heap.size + 1) 51 (kcs ⟨o, 0, 0, begF (fun k => l.getD (s + k) false) j⟩) ∧ Below w.heap.size w wr) (fun q _ => i - (intOf q).toNat)
  case atStart => exact ⟨0, Nat.zero_le _, rfl, r0, r1, hb⟩
  case round =>
    clear r0 r1 hb
    obtain ⟨j, hj, rfl, r0, r1, hb⟩ := hrel
    have hS1 := hS.below hb
    by_cases hlt : j < r
    · obtain ⟨ad, rfl, hbk, hcell⟩ := hS1.bit (show s + j < l.length by omega)
      have hbl := begF_lt (fun k => l.getD (s + k) false) j (by omega)
      have hbs : begF (fun k => l.getD (s + k) false) (j + 1) = 2 * begF (fun k => l.getD (s + k) false) j + (l.getD (s + j) false).toNat := rfl
      obtain ⟨g, hg⟩ : ∃ g, g = begF (fun k => l.getD (s + k) false) j := ⟨_, rfl⟩
      obtain ⟨x, hx⟩ : ∃ x, x = (l.getD (s + j) false).toNat := ⟨_, rfl⟩
      have hx2 : x < 2 := by rw [hx]; exact bool_lt _
      rw [← hg] at hbl hbs r1
      rw [← hx] at hbs hcell
      have HB := Lib.hid hbs
      clear hbs hg hx
      have c3 : wr.cell? ⟨w.heap.size + 1, 3, none⟩ = some (.int .i64 g) := (r1.cell 3).trans rfl
      have f3 := r1.free 3
      have hq : ((s + j : Nat) : Int) < (i : Int) := by omega
      have hq0 : (0 : Int) ≤ ((s + j : Nat) : Int) := by omega
      have hql : ((s + j : Nat) : Int) < (l.length : Int) := by omega
      obtain ⟨q, hqq⟩ : ∃ q, q = s + j := ⟨_, rfl⟩
      rw [← hqq] at hq hq0 hql hcell ⊢
      have HQ := Lib.hid hqq
      have HC := Lib.hid (And.intro r0 (And.intro r1 hb))
      clear hqq r0 r1 hb hS1 hS
      go_upto_region 6 with fail
      go_region
      all_goals
        go_wp2
        go_roundw
        case rel => exact ⟨j + 1, by omega, by rw [← Nat.add_assoc, ← HQ.out]; go_num, HC.out.1.far (by simp) _, by rw [HB.out]; exact HC.out.2.1.put 3 (.int .i64 (2 * (g : Int) + (x : Int))), (by first | exact (HC.out.2.2.drew).setCell (Nat.le_succ _) _ | exact (HC.out.2.2.setCell (Nat.le_succ _) _).drew)⟩
        case measure => simp [intOf]; omega
    · obtain rfl : j = r := by omega
      rw [← HG.out] at r1
      obtain ⟨g, hg⟩ : ∃ g, g = begAt (l.take i) := ⟨_, rfl⟩
      rw [← hg] at r1
      have e3 : s + j = i := hsr
      have hcs : clsAt (l.take i) 1 = if 8 ≤ s then byteAt (l.take i) (s - 8) % 32 else 0 := by
        unfold clsAt
        rw [HT.out, ← HR.out.1, Nat.mul_one, show i - j - 8 = s - 8 by omega]
        by_cases h8 : 8 ≤ s
        · rw [if_pos h8, if_pos (by omega)]
        · rw [if_neg h8, if_neg (by omega)]
      have hcs2 : clsAt (l.take i) 2 = if 16 ≤ s then byteAt (l.take i) (s - 16) % 32 else 0 := by
        unfold clsAt
        rw [HT.out, ← HR.out.1, show i - j - 8 * 2 = s - 16 by omega]
        by_cases h8 : 16 ≤ s
        · rw [if_pos h8, if_pos (by omega)]
        · rw [if_neg h8, if_neg (by omega)]
      have hctx : ctxOf (l.take i) o = ⟨o, if 1 ≤ o then clsAt (l.take i) 1 else 0, if 2 ≤ o then clsAt (l.take i) 2 else 0, g⟩ := by rw [hg]; rfl
      obtain ⟨kk, hkk⟩ : ∃ kk, kk = ctxOf (l.take i) o := ⟨_, rfl⟩
      rw [← hkk] at hctx
      have hsub : ∀ q, q + 8 ≤ s → Sl wr w.heap.size (if c = q then A else A.map (·.add q)) 8 (il ((l.drop q).take 8)) := fun q hq => by
        have h1 := hS1.cut (k := q) (cap := c) (by omega) hc
        have h2 := h1.first (k := 8) (by omega)
        rw [il_drop, il_take] at h2
        exact h2
      have HKK := Lib.hid (And.intro hctx (And.intro hcs (And.intro hcs2 hkk)))
      have HF := Lib.hid (And.intro r0 (And.intro r1 hb))
      have HSUB := Lib.hid hsub
      have hcm' : c ≤ 9223372036854775807 := hcm
      clear hctx hcs hcs2 hkk hg hsub hS hS1 r0 r1 hb hcm
      have e4 : ((s + j : Nat) : Int) = (i : Int) := by omega
      by_cases h8 : 1 ≤ o ∧ 8 ≤ s
      · have ne8 : ¬ c = s - 8 := by omega
        have hs8s := HSUB.out (s - 8) (by omega)
        rw [if_neg ne8] at hs8s
        have p1 : decide ((1 : Int) ≤ (o : Int)) = true := decide_eq_true (by omega)
        have p2 : decide ((8 : Int) ≤ (s : Int)) = true := decide_eq_true (by omega)
        have f1 := HF.out.2.1.free 1
        have c1 : wr.cell? ⟨w.heap.size + 1, 1, none⟩ = some (.int .i64 ((0 : Nat) : Int)) := (HF.out.2.1.cell 1).trans rfl
        have hnum : Calls Try.prog 33 #[.slice (A.map (·.add (s - 8))) (s - (s - 8)) (c - (s - 8))] wr fun e w' => e = .returned (.int .i64 (byteAt (l.take i) (s - 8))) ∧ wr = w' := by
          have h9 : s - (s - 8) = 8 := by omega
          rw [h9, ← part_byte l i (s - 8) hi (by omega)]
          exact rnumber_any _ (by rw [List.length_take]; omega) _ _ 8 (by rw [List.length_take, List.length_drop]; omega) _ (hs8s.wider HF.out.2.2.size)
        obtain ⟨y, hy⟩ : ∃ y, y = byteAt (l.take i) (s - 8) := ⟨_, rfl⟩
        rw [← hy] at hnum
        have HY := Lib.hid hy
        have HN := Lib.hid hnum
        clear hy hnum hs8s
        go_upto_region 9 with (first
          | (go_at_call 33; refine HN.out.mono ?_; rintro e w42 ⟨rfl, h42⟩; subst w42))
        have hrow : Row (wr.setCell ⟨w.heap.size + 1, 1, none⟩ (.int .i64 ((y : Int) % 32))) (w.heap.size + 1) 51 (kcs ⟨o, y % 32, 0, g⟩) := by
          have h := HF.out.2.1.put 1 (.int .i64 ((y : Int) % 32))
          rw [show ((y : Int) % 32) = (((y % 32 : Nat)) : Int) by omega] at h ⊢
          exact h
        by_cases h16 : 2 ≤ o ∧ 16 ≤ s
        · have ne16 : ¬ c = s - 16 := by omega
          have hs16s := (HSUB.out (s - 16) (by omega)).keepCell (g := w.heap.size + 1) (o := 1) (Nat.le_succ _) (.int .i64 ((y : Int) % 32))
          rw [if_neg ne16] at hs16s
          have p3 : decide ((2 : Int) ≤ (o : Int)) = true := decide_eq_true (by omega)
          have p4 : decide ((16 : Int) ≤ (s : Int)) = true := decide_eq_true (by omega)
          have f2 : (wr.setCell ⟨w.heap.size + 1, 1, none⟩ (.int .i64 ((y : Int) % 32))).frozen? ⟨w.heap.size + 1, 2, none⟩ = false := hrow.free 2
          have c2 : (wr.setCell ⟨w.heap.size + 1, 1, none⟩ (.int .i64 ((y : Int) % 32))).cell? ⟨w.heap.size + 1, 2, none⟩ = some (.int .i64 ((0 : Nat) : Int)) := (hrow.cell 2).trans rfl
          have hbs := HF.out.2.2.setCell (p := ⟨w.heap.size + 1, 1, none⟩) (Nat.le_succ _) (.int .i64 ((y : Int) % 32))
          have hr0 : Row (wr.setCell ⟨w.heap.size + 1, 1, none⟩ (.int .i64 ((y : Int) % 32))) w.heap.size 51 (kcs ⟨0, 0, 0, 0⟩) := HF.out.1.far (by simp) _
          generalize wr.setCell ⟨w.heap.size + 1, 1, none⟩ (.int .i64 ((y : Int) % 32)) = W8 at *
          have hnum : Calls Try.prog 33 #[.slice (A.map (·.add (s - 16))) (s - 8 - (s - 16)) (c - (s - 16))] W8 fun e w' => e = .returned (.int .i64 (byteAt (l.take i) (s - 16))) ∧ W8 = w' := by
            have h9 : s - 8 - (s - 16) = 8 := by omega
            rw [h9, ← part_byte l i (s - 16) hi (by omega)]
            exact rnumber_any _ (by rw [List.length_take]; omega) _ _ 8 (by rw [List.length_take, List.length_drop]; omega) _ (hs16s.wider hbs.size)
          obtain ⟨x, hx⟩ : ∃ x, x = byteAt (l.take i) (s - 16) := ⟨_, rfl⟩
          rw [← hx] at hnum
          have hk : kk = ⟨o, y % 32, x % 32, g⟩ := by
            obtain ⟨h1, h2, h3, _⟩ := HKK.out
            rw [h1, h2, h3, if_pos h8.1, if_pos h8.2, if_pos h16.1, if_pos h16.2, HY.out, hx]
          have hrow2 : Row (W8.setCell ⟨w.heap.size + 1, 2, none⟩ (.int .i64 ((x : Int) % 32))) (w.heap.size + 1) 51 (kcs kk) := by
            have h := hrow.put 2 (.int .i64 ((x : Int) % 32))
            rw [hk]
            rw [show ((x : Int) % 32) = (((x % 32 : Nat)) : Int) by omega] at h ⊢
            exact h
          have HROW := Lib.hid (And.intro hrow2 (And.intro hr0 hbs))
          have HN2 := Lib.hid hnum
          have ne8' : ¬ c = s - 8 := ne8
          clear hx hnum hs16s hrow hrow2 hr0 hbs hk
          go_upto_region 11 with (first
            | (go_at_call 33; refine HN2.out.mono ?_; rintro e w57 ⟨rfl, h57⟩; subst w57))
          all_goals
            refine wp_world (F := fun W => Row W (w.heap.size + 1) 51 (kcs kk) ∧ Row W w.heap.size 51 (kcs ⟨0, 0, 0, 0⟩) ∧ Below w.heap.size w W) ⟨HROW.out.1, HROW.out.2.1.far (by simp) _, HROW.out.2.2.setCell (Nat.le_succ _) _⟩ ?_
            have HX := Lib.hid HKK.out.2.2.2
            clear HKK HF HSUB HG HR HT
            rintro W9 ⟨q1, q0, qb⟩
            go_wp2_with (first
              | (refine wpList_load_row rfl 51 _ rfl (w.heap.size + 1) rfl 51 (kcs kk) (0, 0) _ q1 Try.underlying51 rfl (by rw [kcs_size]; exact cells4) ?_)
              | (refine wpList_store_row rfl 51 _ _ rfl w.heap.size (kcs kk) rfl rfl 51 (kcs ⟨0, 0, 0, 0⟩) q0 (by rw [kcs_size]; exact cells4) rfl (all_one (kcs_one _)) ?_))
            refine bodyPost_ret (results_row Try.results26 _ _ w.heap.size 51 (kcs kk) _ rfl (Row.row q0 _) Try.underlying51 rfl (by rw [kcs_size]; exact cells4)) rfl ⟨by rw [HX.out], blw_row qb (Nat.le_refl _) _⟩
        · have p4 : (decide ((2 : Int) ≤ (o : Int)) && decide ((16 : Int) ≤ (s : Int))) = false := by
            by_cases q1 : 2 ≤ o
            · rw [decide_eq_false (show ¬ (16 : Int) ≤ (s : Int) by omega), Bool.and_false]
            · rw [decide_eq_false (show ¬ (2 : Int) ≤ (o : Int) by omega), Bool.false_and]
          have hk : kk = ⟨o, y % 32, 0, g⟩ := by
            obtain ⟨h1, h2, h3, _⟩ := HKK.out
            rw [h1, h2, h3, if_pos h8.1, if_pos h8.2, HY.out]
            have e2 : (if 2 ≤ o then if 16 ≤ s then byteAt (l.take i) (s - 16) % 32 else 0 else 0) = 0 := by
              by_cases q1 : 2 ≤ o
              · rw [if_pos q1, if_neg (by omega)]
              · rw [if_neg q1]
            rw [e2]
          rw [← hk] at hrow
          have HROW := Lib.hid hrow
          clear hk hrow
          go_upto_region 11 with fail
          all_goals
            refine wp_world (F := fun W => Row W (w.heap.size + 1) 51 (kcs kk) ∧ Row W w.heap.size 51 (kcs ⟨0, 0, 0, 0⟩) ∧ Below w.heap.size w W) ⟨HROW.out, HF.out.1.far (by simp) _, HF.out.2.2.setCell (Nat.le_succ _) _⟩ ?_
            have HX := Lib.hid HKK.out.2.2.2
            clear HKK HF HSUB HG HR HT
            rintro W9 ⟨q1, q0, qb⟩
            go_wp2_with (first
              | (refine wpList_load_row rfl 51 _ rfl (w.heap.size + 1) rfl 51 (kcs kk) (0, 0) _ q1 Try.underlying51 rfl (by rw [kcs_size]; exact cells4) ?_)
              | (refine wpList_store_row rfl 51 _ _ rfl w.heap.size (kcs kk) rfl rfl 51 (kcs ⟨0, 0, 0, 0⟩) q0 (by rw [kcs_size]; exact cells4) rfl (all_one (kcs_one _)) ?_))
            refine bodyPost_ret (results_row Try.results26 _ _ w.heap.size 51 (kcs kk) _ rfl (Row.row q0 _) Try.underlying51 rfl (by rw [kcs_size]; exact cells4)) rfl ⟨by rw [HX.out], blw_row qb (Nat.le_refl _) _⟩
      · have hk : kk = ⟨o, 0, 0, g⟩ := by
          obtain ⟨h1, h2, h3, _⟩ := HKK.out
          rw [h1, h2, h3]
          have e1 : (if 1 ≤ o then if 8 ≤ s then byteAt (l.take i) (s - 8) % 32 else 0 else 0) = 0 := by
            by_cases q1 : 1 ≤ o
            · rw [if_pos q1, if_neg (by omega)]
            · rw [if_neg q1]
          have e2 : (if 2 ≤ o then if 16 ≤ s then byteAt (l.take i) (s - 16) % 32 else 0 else 0) = 0 := by
            by_cases q1 : 2 ≤ o
            · rw [if_pos q1, if_neg (by omega)]
            · rw [if_neg q1]
          rw [e1, e2]
        have HK2 := Lib.hid hk
        clear hk
        go_upto_region 11 with fail
        all_goals
          refine wp_world (F := fun W => Row W (w.heap.size + 1) 51 (kcs kk) ∧ Row W w.heap.size 51 (kcs ⟨0, 0, 0, 0⟩) ∧ Below w.heap.size w W) ⟨by rw [HK2.out]; exact HF.out.2.1, HF.out.1, HF.out.2.2⟩ ?_
          have HX := Lib.hid HKK.out.2.2.2
          clear HKK HF HSUB HG HR HT
          rintro W9 ⟨q1, q0, qb⟩
          go_wp2_with (first
            | (refine wpList_load_row rfl 51 _ rfl (w.heap.size + 1) rfl 51 (kcs kk) (0, 0) _ q1 Try.underlying51 rfl (by rw [kcs_size]; exact cells4) ?_)
            | (refine wpList_store_row rfl 51 _ _ rfl w.heap.size (kcs kk) rfl rfl 51 (kcs ⟨0, 0, 0, 0⟩) q0 (by rw [kcs_size]; exact cells4) rfl (all_one (kcs_one _)) ?_))
          refine bodyPost_ret (results_row Try.results26 _ _ w.heap.size 51 (kcs kk) _ rfl (Row.row q0 _) Try.underlying51 rfl (by rw [kcs_size]; exact cells4)) rfl ⟨by rw [HX.out], blw_row qb (Nat.le_refl _) _⟩
end Go.Proofs.Ytgpacgmgdnongaa
