/-
  The contract of the reference's Code: the code as digits whose carries are resolved.
-/
import Derived.Test.YtcnokjiohbifeaaAChs
import Derived.Test.YtcnokjiohbifeaaRSteps
import Derived.Test.YtcnokjiohbifeaaRInts
import Derived.Test.YtcnokjiohbifeaaRSub
import Derived.BigRegion
import Derived.Deep.RegionHeld3
namespace Go.Proofs.Ytcnokjiohbifeaa
open Go.RowKit

theorem own_put {w : World} {base : Nat} {e : TypeId} {g n c : Nat} {D : List Nat} (h : w.ownsRow base e 1 (.slice (some ⟨g, 0, none⟩) n c) n (nl D)) (i z : Nat) :
    (w.setCell ⟨g, i, none⟩ (.int .i64 (z : Int))).ownsRow base e 1 (.slice (some ⟨g, 0, none⟩) n c) n (nl (D.set i z)) := by
  refine ⟨by rw [nl_set, List.length_set]; exact h.1, ?_⟩
  rcases h.2 with ⟨h0, _⟩ | ⟨k, cap, cur, hv, hb, hg, h1, h2, h3, h4⟩
  · cases h0
  · injection hv with e1 e2 e3
    injection e1 with e1
    injection e1 with e1
    subst e1 e3
    refine .inr ⟨g, c, cur.setIfInBounds i (.int .i64 (z : Int)), rfl, hb, heap_setCell_same w g i cur e _ hg, h1, h2, by simpa using h3, ?_⟩
    rw [nl_set, ← h4, Array.toList_setIfInBounds, List.take_set]
theorem own_cell {w : World} {base : Nat} {e : TypeId} {g n c : Nat} {D : List Nat} (h : w.ownsRow base e 1 (.slice (some ⟨g, 0, none⟩) n c) n (nl D)) (i : Nat) (hi : i < n) : w.cell? ⟨g, i, none⟩ = some (.int .i64 ((D.getD i 0 : Nat) : Int)) := by
  have hl : i < D.length := by have := h.1; rw [nl_length] at this; omega
  have := h.cells (g := g) rfl i _ (nl_get D i hl)
  rwa [add_at, Nat.zero_add] at this
theorem own_free {w : World} {base : Nat} {e : TypeId} {g n c : Nat} {D : List Nat} (h : w.ownsRow base e 1 (.slice (some ⟨g, 0, none⟩) n c) n (nl D)) (i : Nat) : w.frozen? ⟨g, i, none⟩ = false := by
  rcases h.2 with ⟨h0, _⟩ | ⟨k, cap, cur, hv, hb, hg, h1, h2, h3, h4⟩
  · cases h0
  · injection hv with e1 e2 e3
    injection e1 with e1
    injection e1 with e1
    subst e1
    exact frozen_of_row w g i cur e hg
theorem own_digit (w : World) (t : TypeId) (x : Nat) : (w.alloc (.cells #[.int .i64 (x : Int)] t)).ownsRow w.heap.size t 1 (.slice (some ⟨w.heap.size, 0, none⟩) 1 1) 1 (nl [x]) := by
  refine ⟨by rw [nl_length]; rfl, .inr ⟨w.heap.size, 1, _, rfl, Nat.le_refl _, heap_alloc_new w _, Nat.le_refl _, by unfold maxLen; omega, rfl, ?_⟩⟩
  rw [nl_one']
  rfl

/-- the digits while carries are resolved: those behind place k are bits -/
def CarryTo (D : List Nat) (N V k : Nat) : Prop := D.length = N ∧ valF 0 D = V ∧ (∀ i, i < k → D.getD i 0 ≤ 2) ∧ D.getD k 0 ≤ 3 ∧ ∀ i, k < i → D.getD i 0 ≤ 1
theorem CarryTo.next {D : List Nat} {N V j : Nat} (h : CarryTo D N V (j + 1)) (hj : j + 1 < N) : CarryTo ((D.set j (D.getD j 0 + D.getD (j + 1) 0 / 2)).set (j + 1) (D.getD (j + 1) 0 % 2)) N V j := by
  obtain ⟨h1, h2, h3, h4, h5⟩ := h
  refine ⟨by rw [List.length_set, List.length_set]; exact h1, by rw [valF_set D j 0 (by omega)]; exact h2, fun i hi => ?_, ?_, fun i hi => ?_⟩
  · rw [List.getD_eq_getElem?_getD, List.getElem?_set_ne (by omega), List.getElem?_set_ne (by omega), ← List.getD_eq_getElem?_getD]
    exact h3 i (by omega)
  · rw [List.getD_eq_getElem?_getD, List.getElem?_set_ne (by omega), List.getElem?_set_self (by omega), Option.getD_some]
    have := h3 j (by omega)
    omega
  · by_cases hi2 : i = j + 1
    · subst hi2
      rw [List.getD_eq_getElem?_getD, List.getElem?_set_self (by rw [List.length_set]; omega), Option.getD_some]
      omega
    · rw [List.getD_eq_getElem?_getD, List.getElem?_set_ne (by omega), List.getElem?_set_ne (by omega), ← List.getD_eq_getElem?_getD]
      exact h5 i (by omega)
theorem CarryTo.done {D : List Nat} {N V : Nat} (h : CarryTo D N V 0) (l : List Bool) (hl : l.length = N) (hN : 0 < N) (hv : V = valB l) : nl D = il l := by
  obtain ⟨h1, h2, _, _, h5⟩ := h
  match D, h1, h2, h5 with
  | [], h1, _, _ => exact absurd hN (by rw [← h1]; exact Nat.lt_irrefl 0)
  | d :: D', h1, h2, h5 =>
    have hd : d ≤ 1 := by
      refine first_digit (n := D'.length) rfl ?_
      rw [h2, hv]
      have := numF_lt (fun i => l.getD i false) l.length
      rw [show D'.length + 1 = l.length by rw [hl]; simpa using h1]
      exact this
    have hall : ∀ x ∈ d :: D', x ≤ 1 := by
      intro x hx
      rcases List.mem_cons.1 hx with rfl | hx
      · exact hd
      · obtain ⟨i, hi, rfl⟩ := List.mem_iff_getElem.1 hx
        have := h5 (i + 1) (by omega)
        simpa [List.getD_eq_getElem?_getD, hi] using this
    rw [bits_of_val hall (by rw [hl]; exact h1) (by rw [h2, hv])]
    exact nl_bool l
theorem CarryTo.start {ks : List Nat} (hk : ∀ k ∈ ks, k ≤ 2) (d : Nat) (hd : d ≤ 2) : CarryTo (0 :: ks ++ [d]) (ks.length + 2) (2 * valF 0 ks + d) (ks.length + 1) := by
  have hall : ∀ i, (0 :: ks ++ [d]).getD i 0 ≤ 2 := by
    intro i
    by_cases hi : i < (0 :: ks ++ [d]).length
    · rw [List.getD_eq_getElem?_getD, List.getElem?_eq_getElem hi, Option.getD_some]
      have hm := List.getElem_mem hi
      rcases List.mem_append.1 hm with hm | hm
      · rcases List.mem_cons.1 hm with hm | hm
        · rw [hm]; omega
        · exact hk _ hm
      · rw [List.mem_singleton.1 hm]; exact hd
    · rw [List.getD_eq_getElem?_getD, List.getElem?_eq_none (by omega)]
      exact Nat.zero_le _
  refine ⟨by simp, ?_, fun i _ => hall i, Nat.le_trans (hall _) (by omega), fun i hi => ?_⟩
  · rw [valF_append, valF, valF, valF]
  · rw [List.getD_eq_getElem?_getD, List.getElem?_eq_none (by simp; omega)]
    exact Nat.zero_le _
theorem run_snoc2 (l : List (Bool × Nat)) (j : Nat) (h : j < l.length) (L H : Nat) (ks : List Nat) (hr : runN 0 65535 (l.take j) = (L, H, ks)) :
    runN 0 65535 (l.take (j + 1)) = ((stepN L H l[j].2 l[j].1).1, (stepN L H l[j].2 l[j].1).2.1, ks ++ (stepN L H l[j].2 l[j].1).2.2) := by
  rw [List.take_succ_eq_append_getElem h, run_append, hr]
  simp [runN]
theorem good_take2 {l : List (Bool × Nat)} (h : GoodP l) (j : Nat) : GoodP (l.take j) := fun c hc => h c (List.mem_of_mem_take hc)

set_option maxRecDepth 100000 in
set_option maxHeartbeats 8000000 in
theorem code_any (l : List (Bool × Nat)) (hg : GoodP l) (n : Nat) (hn : n = l.length) (hl : n ≤ 8192) (cd : List Bool) (hcd : cd = codeN l) (A : Option Addr) (cp : Nat) (w : World) (hS : Chs w w.heap.size A n (cz l)) :
    Calls Try.prog 31 #[.slice A n cp] w fun e w' => ∃ v, e = .returned v ∧ w'.ownsRow w.heap.size 3 1 v cd.length (il cd) ∧ Below w.heap.size w w' := by
  obtain ⟨i0, hi, hz0, hz1, hz2⟩ := info_parts infoI
  obtain ⟨N, hNN⟩ : ∃ N, N = cd.length := ⟨_, rfl⟩
  rw [← hNN]
  have HNN := Lib.hid hNN
  clear hNN
  have HS := Lib.hid hS
  have HN := Lib.hid (And.intro hn (And.intro hg hcd))
  clear hS hn hg hcd
  go_enter Try.func31, Try.ntmps31
  go_upto_region 2 with fail
  have hol := own_digit w 3 0
  have HOL := Lib.hid hol
  have hb0 := (Below.refl w.heap.size w).alloc (Nat.le_refl _) (.cells #[.int .i64 0] 3)
  clear hol
  go_upto_region 4 with fail
  go_loopw [3, 4, 5, 6] (fun lo hh v i wr => ∃ (j x y m : Nat) (ks : List Nat), j ≤ n ∧ i = .int .i64 j ∧ lo = .int .i64 x ∧ hh = .int .i64 y ∧ m ≤ 14 * j + 1 ∧ Hid (runN 0 65535 (l.take j) = (x, y, ks) ∧ m = (0 :: ks).length) ∧ Hid (wr.ownsRow w.heap.size 3 1 v m (nl (0 :: ks))) ∧ Below w.heap.size w wr) (fun _ _ _ i _ => n - (intOf i).toNat)
  case atStart => exact ⟨0, 0, 65535, 1, [], Nat.zero_le _, rfl, rfl, rfl, Nat.le_refl _, Lib.hid ⟨by rw [List.take_zero]; rfl, rfl⟩, HOL, hb0⟩
  case round =>
    clear hb0 HOL
    obtain ⟨j, x, y, m, ks, hj, rfl, rfl, rfl, hmj, HR, HO, hb⟩ := hrel
    obtain ⟨A5, c5, hv5, hc5, _⟩ := own_form HO.out
    subst hv5
    by_cases hlt : j < n
    · obtain ⟨ad, rfl, hbl, k1, k2⟩ := (HS.out.below hb).at_ hlt
      have hjl : j < l.length := by rw [← HN.out.1]; exact hlt
      rw [cz_getD l j hjl] at k1 k2
      obtain ⟨b, p, hbp⟩ : ∃ b p, l[j] = (b, p) := ⟨_, _, rfl⟩
      have hgp := HN.out.2.1 l[j] (List.getElem_mem hjl)
      obtain ⟨hr, hm⟩ := HR.out
      have hw := (run_ok (l.take j) 0 65535 (by decide) (good_take2 HN.out.2.1 j)).1
      rw [hr] at hw
      have hsn := run_snoc2 l j hjl x y ks hr
      rw [hbp] at k1 k2 hgp hsn
      simp only at k1 k2 hgp hsn hw
      obtain ⟨hp1, hp2⟩ := hgp
      obtain ⟨fL, fH, s, hf⟩ : ∃ fL fH s, stepN x y p b = (fL, fH, s) := ⟨_, _, _, rfl⟩
      have hst := (step_ok hw hp1 hp2 b).2.1
      have hsteps := steps_any x y p b hw hp1 hp2
      rw [hf] at hsn hst hsteps
      simp only at hsn hst hsteps
      obtain ⟨q, hq⟩ : ∃ q, q = s.length := ⟨_, rfl⟩
      rw [← hq] at hst hsteps
      obtain ⟨bz, hbz⟩ : ∃ z : Int, z = ((b.toNat : Nat) : Int) := ⟨_, rfl⟩
      rw [← hbz] at k1 hsteps
      have HST := Lib.hid hsteps
      have HR2 : Hid (runN 0 65535 (l.take (j + 1)) = (fL, fH, ks ++ s) ∧ m + q = (0 :: (ks ++ s)).length) := Lib.hid ⟨hsn, by rw [hm, hq]; simp; omega⟩
      have hcnt : m + q ≤ 14 * (j + 1) + 1 := by omega
      have hadb : (ad.add (j * 2)).block < w.heap.size := by rw [add_block]; exact hbl
      have hsz : w.heap.size ≤ wr.heap.size := hb.size
      have K1 := Lib.hid k1
      have K2 := Lib.hid k2
      clear hsn hbp hp1 hp2 hf hw hr hm hq hbz hsteps HR hjl hmj
      have d1 : wr.drew.cell? (ad.add (j * 2)) = some (.int .i64 bz) := k1
      have d2 : wr.drew.cell? ⟨(ad.add (j * 2)).block, (ad.add (j * 2)).off + 1, none⟩ = some (.int .i64 (p : Int)) := k2
      clear k1 k2
      go_upto_region 7 with fail
      go_region_held3 (fun W => W.cell? (ad.add (j * 2)) = some (.int .i64 bz) ∧ W.cell? ⟨(ad.add (j * 2)).block, (ad.add (j * 2)).off + 1, none⟩ = some (.int .i64 (p : Int)))
        (first
          | exact ⟨d1, d2⟩
          | exact ⟨(h5b.cell (p := ad.add (j * 2)) (Nat.lt_of_lt_of_le hadb hsz)).trans d1, (h5b.cell (p := ⟨(ad.add (j * 2)).block, (ad.add (j * 2)).off + 1, none⟩) (Nat.lt_of_lt_of_le hadb hsz)).trans d2⟩)
        (first
          | (go_at_call 21; refine (HST.out _).mono ?_; rintro e w5 ⟨v5, rfl, h5o, h5b⟩))
      all_goals
        obtain ⟨B5, e5, hv6, _, _⟩ := own_form h5o
        subst hv6
        have hs5 := Sl.of_own h5o
        have HO5 := Lib.hid (own_below HO.out.drew h5b)
        have hbb := up_call hb.drew h5b
        have hsb := Nat.le_trans hsz h5b.size
        clear d1 d2 h5o h5b
        go_upto_region 8 with fail
        go_wp2_with (first
          | (at_builtin; refine wpList_app _ rfl _ _ _ rfl w.heap.size 3 i0 (.int .i64 0) 8 Try.underlying38 hi hz0 hz1 hz2 rfl _ m _ rfl HO5.out w5.heap.size B5 q e5 (nl s) rfl hs5 (nl_one _) (by unfold maxLen; omega) (by omega) hsb ?_; intro v7 w7 hown7 hg7))
        have hb7 := blw_grown hbb hg7 hsb HO5.out (Nat.le_refl _)
        rw [← nl_append] at hown7
        have HO7 := Lib.hid hown7
        clear hown7 hg7
        go_roundw
        case rel => exact ⟨j + 1, fL, fH, m + q, ks ++ s, by omega, by go_num, rfl, rfl, hcnt, HR2, HO7, hb7⟩
        case measure => simp [intOf]; omega
    · obtain rfl : n = j := by omega
      have htk : l.take n = l := List.take_of_length_le (by rw [← HN.out.1]; exact Nat.le_refl _)
      obtain ⟨hr, hm⟩ := HR.out
      rw [htk] at hr
      have hk2 := (run_ok l 0 65535 (by decide) HN.out.2.1).2.2
      have hcv := code_val l HN.out.2.1
      have hcl := code_length l
      rw [hr] at hk2 hcv hcl
      simp only at hk2 hcv hcl
      rw [← HN.out.2.2] at hcv hcl
      have hmk : m = ks.length + 1 := by simpa using hm
      obtain ⟨d, hd⟩ : ∃ d : Nat, d = if x < 16384 then 1 else 2 := ⟨_, rfl⟩
      have hd2 : d ≤ 2 := by rw [hd]; split <;> omega
      rw [← hd] at hcv
      have hstart := CarryTo.start hk2 d hd2
      rw [show ks.length + 2 = cd.length from hcl.symm, show ks.length + 1 = m from hmk.symm, ← hcv] at hstart
      have HCS := Lib.hid hstart
      have hcm : cd.length = m + 1 := by omega
      rw [← HNN.out] at HCS hcm
      obtain ⟨V, hV⟩ : ∃ V, V = valB cd := ⟨_, rfl⟩
      rw [← hV] at HCS
      have HNV := Lib.hid (And.intro HNN.out hV)
      have happ : nl (0 :: ks) ++ [.int .i64 (d : Int)] = nl (0 :: ks ++ [d]) := by rw [nl_append, nl_one']
      have HAP := Lib.hid happ
      have hsz : w.heap.size ≤ wr.heap.size := hb.size
      have HX := Lib.hid hd
      have HCM := Lib.hid hcm
      have hm14 : m ≤ 114689 := by omega
      have hm0 : 1 ≤ m := by omega
      clear hr hm htk hk2 hcv hcl hmk hd hd2 hstart hV happ hcm HR HS HN hlt hmj hj
      obtain ⟨D0, hD0⟩ : ∃ D, D = 0 :: ks ++ [d] := ⟨_, rfl⟩
      rw [← hD0] at HCS HAP
      clear hD0
      by_cases hx : x < 16384
      · obtain rfl : d = 1 := by rw [HX.out, if_pos hx]
        have t0 : decide ((x : Int) < 16384) = true := decide_eq_true (by omega)
        clear hx HX
        go_upto_region 12 with (first
          | (at_builtin; refine wpList_app _ rfl _ _ _ rfl w.heap.size 3 i0 (.int .i64 0) 8 Try.underlying38 hi hz0 hz1 hz2 rfl _ m _ rfl (HO.out.alloc _) (wr.heap.size + 1) _ 1 _ [_] rfl (Sl.one _ _ _) (fun u hu => by obtain rfl := List.mem_singleton.1 hu; rfl) (by unfold maxLen; omega) (by omega) (Nat.le_trans hsz (by simp)) ?_; intro v7 w7 hown7 hg7))
        have hb7 := blw_grown (hb.alloc hsz _) hg7 (Nat.le_trans hsz (by simp)) (HO.out.alloc _) (Nat.le_refl _)
        rw [show nl (0 :: ks) ++ [.int .i64 1] = nl D0 from HAP.out, ← HCM.out] at hown7
        have hN1 : N ≤ 120000 := by have := HCM.out; omega
        have hN0 : N ≠ 0 := by have := HCM.out; omega
        obtain ⟨g, cg, hvg⟩ := own_at hown7 hN0
        subst hvg
        have HO7 := Lib.hid hown7
        clear hown7 hg7 t0 HO HAP
        go_upto_region 13 with fail
        go_loopw [8] (fun i wr => ∃ (k : Nat) (D : List Nat), i = .int .i64 (k : Int) ∧ k < N ∧ Hid (CarryTo D N V k) ∧ Hid (wr.ownsRow w.heap.size 3 1 (.slice (some ⟨g, 0, none⟩) N cg) N (nl D)) ∧ Below w.heap.size w wr) (fun i _ => (intOf i).toNat)
        case atStart => exact ⟨m, D0, by rw [HCM.out]; go_num, by have := HCM.out; omega, HCS, HO7, hb7⟩
        case round =>
          clear hb7 HO7 HCS hb
          obtain ⟨k, D, rfl, hkN, HC, HOD, hb⟩ := hrel
          match k, hkN, HC with
          | 0, hkN, HC =>
            have hil : Hid (nl D = il cd) := Lib.hid (HC.out.done cd HNV.out.1.symm (by omega) HNV.out.2)
            clear HC
            go_wp2
            go_ret
            exact ⟨_, rfl, by rw [← hil.out]; exact HOD.out, hb⟩
          | j + 1, hkN, HC =>
            have c0 := own_cell HOD.out j (by omega)
            have c1 := own_cell HOD.out (j + 1) hkN
            have f0 := own_free HOD.out j
            obtain ⟨_, _, b0, b1, _⟩ := HC.out
            have b0 := b0 j (by omega)
            have hnext := HC.out.next hkN
            obtain ⟨x0, hx0⟩ : ∃ x0, x0 = D.getD j 0 := ⟨_, rfl⟩
            obtain ⟨x1, hx1⟩ : ∃ x1, x1 = D.getD (j + 1) 0 := ⟨_, rfl⟩
            rw [← hx0] at c0 b0 hnext
            rw [← hx1] at c1 b1 hnext
            have HX1 := Lib.hid hx1
            have HNX := Lib.hid hnext
            clear hx0 hx1 hnext HC
            have hq1 : Int.tdiv (x1 : Int) 2 = ((x1 / 2 : Nat) : Int) := by rw [Int.tdiv_eq_ediv_of_nonneg (by omega)]; omega
            have hr1 : Int.tmod (x1 : Int) 2 = ((x1 % 2 : Nat) : Int) := by rw [Int.tmod_eq_emod_of_nonneg (by omega)]; omega
            obtain ⟨y1, hy1⟩ : ∃ y1, y1 = x1 / 2 := ⟨_, rfl⟩
            obtain ⟨z1, hz1'⟩ : ∃ z1, z1 = x1 % 2 := ⟨_, rfl⟩
            rw [← hy1] at hq1 HNX
            rw [← hz1'] at hr1 HNX
            have hw1 : IntKind.i64.wrap ((x0 : Int) + (y1 : Int)) = (x0 : Int) + (y1 : Int) := by rw [IntKind.wrap_i64]; omega
            have hy2 : y1 ≤ 1 := by omega
            have e0 : wr.drew.cell? ⟨g, j, none⟩ = some (.int .i64 x0) := c0
            have e1 : wr.drew.cell? ⟨g, j + 1, none⟩ = some (.int .i64 x1) := c1
            have e2 : wr.drew.frozen? ⟨g, j, none⟩ = false := f0
            clear hy1 hz1'
            go_upto_region 15 with fail
            go_region
            all_goals
              go_upto_region 16 with fail
              refine wp_world (F := fun W => Hid (W.ownsRow w.heap.size 3 1 (.slice (some ⟨g, 0, none⟩) N cg) N (nl (D.set j (x0 + y1)))) ∧ Below w.heap.size w W)
                ⟨Lib.hid (by have h := own_put HOD.out.drew j (x0 + y1); rw [show ((x0 + y1 : Nat) : Int) = (x0 : Int) + (y1 : Int) from rfl] at h; exact h), hb.drew.setCell (HOD.out.lt g rfl).1 _⟩ ?_
              clear c0 c1 f0 e0 e1 e2 HOD hb hq1 hw1
              rintro W2 ⟨HOD, hb⟩
              have c1 := own_cell HOD.out (j + 1) hkN
              have f1 := own_free HOD.out (j + 1)
              rw [List.getD_eq_getElem?_getD, List.getElem?_set_ne (by omega), ← List.getD_eq_getElem?_getD, ← HX1.out] at c1
              go_wp2
              go_roundw
              case rel => exact ⟨j, _, by go_num, by omega, HNX, Lib.hid (own_put HOD.out (j + 1) z1), hb.setCell (HOD.out.lt g rfl).1 _⟩
              case measure => simp [intOf]
      · obtain rfl : d = 2 := by rw [HX.out, if_neg hx]
        have t0 : decide ((x : Int) < 16384) = false := decide_eq_false (by omega)
        clear hx HX
        go_upto_region 12 with (first
          | (at_builtin; refine wpList_app _ rfl _ _ _ rfl w.heap.size 3 i0 (.int .i64 0) 8 Try.underlying38 hi hz0 hz1 hz2 rfl _ m _ rfl (HO.out.alloc _) (wr.heap.size + 1) _ 1 _ [_] rfl (Sl.one _ _ _) (fun u hu => by obtain rfl := List.mem_singleton.1 hu; rfl) (by unfold maxLen; omega) (by omega) (Nat.le_trans hsz (by simp)) ?_; intro v7 w7 hown7 hg7))
        have hb7 := blw_grown (hb.alloc hsz _) hg7 (Nat.le_trans hsz (by simp)) (HO.out.alloc _) (Nat.le_refl _)
        rw [show nl (0 :: ks) ++ [.int .i64 2] = nl D0 from HAP.out, ← HCM.out] at hown7
        have hN1 : N ≤ 120000 := by have := HCM.out; omega
        have hN0 : N ≠ 0 := by have := HCM.out; omega
        obtain ⟨g, cg, hvg⟩ := own_at hown7 hN0
        subst hvg
        have HO7 := Lib.hid hown7
        clear hown7 hg7 t0 HO HAP
        go_upto_region 13 with fail
        go_loopw [8] (fun i wr => ∃ (k : Nat) (D : List Nat), i = .int .i64 (k : Int) ∧ k < N ∧ Hid (CarryTo D N V k) ∧ Hid (wr.ownsRow w.heap.size 3 1 (.slice (some ⟨g, 0, none⟩) N cg) N (nl D)) ∧ Below w.heap.size w wr) (fun i _ => (intOf i).toNat)
        case atStart => exact ⟨m, D0, by rw [HCM.out]; go_num, by have := HCM.out; omega, HCS, HO7, hb7⟩
        case round =>
          clear hb7 HO7 HCS hb
          obtain ⟨k, D, rfl, hkN, HC, HOD, hb⟩ := hrel
          match k, hkN, HC with
          | 0, hkN, HC =>
            have hil : Hid (nl D = il cd) := Lib.hid (HC.out.done cd HNV.out.1.symm (by omega) HNV.out.2)
            clear HC
            go_wp2
            go_ret
            exact ⟨_, rfl, by rw [← hil.out]; exact HOD.out, hb⟩
          | j + 1, hkN, HC =>
            have c0 := own_cell HOD.out j (by omega)
            have c1 := own_cell HOD.out (j + 1) hkN
            have f0 := own_free HOD.out j
            obtain ⟨_, _, b0, b1, _⟩ := HC.out
            have b0 := b0 j (by omega)
            have hnext := HC.out.next hkN
            obtain ⟨x0, hx0⟩ : ∃ x0, x0 = D.getD j 0 := ⟨_, rfl⟩
            obtain ⟨x1, hx1⟩ : ∃ x1, x1 = D.getD (j + 1) 0 := ⟨_, rfl⟩
            rw [← hx0] at c0 b0 hnext
            rw [← hx1] at c1 b1 hnext
            have HX1 := Lib.hid hx1
            have HNX := Lib.hid hnext
            clear hx0 hx1 hnext HC
            have hq1 : Int.tdiv (x1 : Int) 2 = ((x1 / 2 : Nat) : Int) := by rw [Int.tdiv_eq_ediv_of_nonneg (by omega)]; omega
            have hr1 : Int.tmod (x1 : Int) 2 = ((x1 % 2 : Nat) : Int) := by rw [Int.tmod_eq_emod_of_nonneg (by omega)]; omega
            obtain ⟨y1, hy1⟩ : ∃ y1, y1 = x1 / 2 := ⟨_, rfl⟩
            obtain ⟨z1, hz1'⟩ : ∃ z1, z1 = x1 % 2 := ⟨_, rfl⟩
            rw [← hy1] at hq1 HNX
            rw [← hz1'] at hr1 HNX
            have hw1 : IntKind.i64.wrap ((x0 : Int) + (y1 : Int)) = (x0 : Int) + (y1 : Int) := by rw [IntKind.wrap_i64]; omega
            have hy2 : y1 ≤ 1 := by omega
            have e0 : wr.drew.cell? ⟨g, j, none⟩ = some (.int .i64 x0) := c0
            have e1 : wr.drew.cell? ⟨g, j + 1, none⟩ = some (.int .i64 x1) := c1
            have e2 : wr.drew.frozen? ⟨g, j, none⟩ = false := f0
            clear hy1 hz1'
            go_upto_region 15 with fail
            go_region
            all_goals
              go_upto_region 16 with fail
              refine wp_world (F := fun W => Hid (W.ownsRow w.heap.size 3 1 (.slice (some ⟨g, 0, none⟩) N cg) N (nl (D.set j (x0 + y1)))) ∧ Below w.heap.size w W)
                ⟨Lib.hid (by have h := own_put HOD.out.drew j (x0 + y1); rw [show ((x0 + y1 : Nat) : Int) = (x0 : Int) + (y1 : Int) from rfl] at h; exact h), hb.drew.setCell (HOD.out.lt g rfl).1 _⟩ ?_
              clear c0 c1 f0 e0 e1 e2 HOD hb hq1 hw1
              rintro W2 ⟨HOD, hb⟩
              have c1 := own_cell HOD.out (j + 1) hkN
              have f1 := own_free HOD.out (j + 1)
              rw [List.getD_eq_getElem?_getD, List.getElem?_set_ne (by omega), ← List.getD_eq_getElem?_getD, ← HX1.out] at c1
              go_wp2
              go_roundw
              case rel => exact ⟨j, _, by go_num, by omega, HNX, Lib.hid (own_put HOD.out (j + 1) z1), hb.setCell (HOD.out.lt g rfl).1 _⟩
              case measure => simp [intOf]
end Go.Proofs.Ytcnokjiohbifeaa
