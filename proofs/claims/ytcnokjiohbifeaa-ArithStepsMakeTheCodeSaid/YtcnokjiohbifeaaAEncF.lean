/-
  What arith.Encode answers where it refuses its choices. The contract of arith.Encode where all choices are good: the code.
-/
import Derived.Test.YtcnokjiohbifeaaAChs
import Derived.Test.YtcnokjiohbifeaaAEnc
import Derived.Test.YtcnokjiohbifeaaAPut
namespace Go.Proofs.Ytcnokjiohbifeaa
open Go.RowKit

/-- what Encode answers where it refuses -/
def EncBad (zs : List (Int × Int)) (c i : Int) : Prop := ∀ (A : Option Addr) (cp : Nat) (w : World), Chs w w.heap.size A zs.length zs → Calls Try.prog 29 #[.slice A zs.length cp] w fun e w' => e = .returned (.tuple #[.agg (bcs none 0 0 0), .agg (flt c i)]) ∧ Below w.heap.size w w'

set_option maxRecDepth 100000 in
set_option maxHeartbeats 4000000 in
theorem Encode_many (zs : List (Int × Int)) (h : 8192 < zs.length) : EncBad zs 2 (-1) := by
  intro A cp w _
  have t0 : decide ((8192 : Int) < (zs.length : Int)) = true := decide_eq_true (by omega)
  go_enter Try.func29, Try.ntmps29
  go_upto_region 1 with (fail)
  refine wp_world (F := fun W => Row W w.heap.size 26 (bcs none 0 0 0) ∧ Row W (w.heap.size + 1) 28 (flt 0 0) ∧ Below w.heap.size w W)
    ⟨(Row.newEq _ _ _ _ _ rfl rfl).alloc _, Row.newEq _ _ _ _ _ (by simp) rfl, ((Below.refl _ _).alloc (Nat.le_refl _) _).alloc (by simp) _⟩ ?_
  rintro W0 ⟨r1, r2, hb⟩
  go_wp2_with (first
    | (refine wpList_store_row rfl 26 _ _ rfl w.heap.size (bcs none 0 0 0) rfl rfl 26 (bcs none 0 0 0) r1 (by rw [bcs_size]; exact cellsB) rfl (all_one (bcs_one _ _ _ _)) ?_)
    | (refine wpList_store_row rfl 28 _ _ rfl (w.heap.size + 1) (flt 2 (-1)) rfl rfl 28 (flt 0 0) (r2.rowFar (by omega) _) (by rw [flt_size]; exact cellsF) rfl (all_one (flt_one _ _)) ?_))
  refine bodyPost_ret (results_rows Try.results29 _ _ w.heap.size (w.heap.size + 1) 26 28 (bcs none 0 0 0) (flt 2 (-1)) _ _ rfl rfl ((Row.row r1 _).rowFar (by omega) _) (Row.row (r2.rowFar (by omega) _) _) Try.underlying26 rfl (by rw [bcs_size]; exact cellsB) Try.underlying28 rfl (by rw [flt_size]; exact cellsF)) rfl ⟨rfl, ?_⟩
  exact blw_row (blw_row hb (Nat.le_refl _) _) (by omega) _

set_option maxRecDepth 100000 in
set_option maxHeartbeats 4000000 in
theorem Encode_range (zs : List (Int × Int)) (hl : zs.length ≤ 8192) (k : Nat) (hk : k < zs.length) (h1 : ∀ j, j < k → okC (zs.getD j (0, 0))) (h2 : ¬ okC (zs.getD k (0, 0))) : EncBad zs 4 (k : Int) := by
  intro A cp w hS
  have t0 : decide ((8192 : Int) < (zs.length : Int)) = false := decide_eq_false (by omega)
  have HS := Lib.hid hS
  have H1 := Lib.hid h1
  have H2 := Lib.hid h2
  clear hS h1 h2
  go_enter Try.func29, Try.ntmps29
  go_upto_region 1 with (fail)
  refine wp_world (F := fun W => Row W w.heap.size 26 (bcs none 0 0 0) ∧ Row W (w.heap.size + 1) 28 (flt 0 0) ∧ Below w.heap.size w W)
    ⟨(Row.newEq _ _ _ _ _ rfl rfl).alloc _, Row.newEq _ _ _ _ _ (by simp) rfl, ((Below.refl _ _).alloc (Nat.le_refl _) _).alloc (by simp) _⟩ ?_
  rintro W0 ⟨r1, r2, hb⟩
  go_upto_region 3 with fail
  go_wp2
  go_loopw [17] (fun i wr => ∃ j : Nat, j ≤ k ∧ i = .int .i64 j ∧ Row wr w.heap.size 26 (bcs none 0 0 0) ∧ Row wr (w.heap.size + 1) 28 (flt 0 0) ∧ Below w.heap.size w wr) (fun i _ => zs.length - (intOf i).toNat)
  case atStart => exact ⟨0, Nat.zero_le _, rfl, r1, r2, hb⟩
  case round =>
    clear r1 r2 hb
    obtain ⟨j, hj, rfl, r1, r2, hb⟩ := hrel
    have hlt : j < zs.length := by omega
    by_cases hjk : j < k
    · have hjz : j < zs.length := hlt
      have hok : okC (zs.getD j (0, 0)) := H1.out j hjk
      have hbit := aisbit_any (zs.getD j (0, 0)).1 true (decide_eq_true hok.1).symm
      have hprob := aisprob_any (zs.getD j (0, 0)).2 true (decide_eq_true hok.2).symm
      clear hok
      obtain ⟨x, hx⟩ : ∃ x, x = (zs.getD j (0, 0)).1 := ⟨_, rfl⟩
      obtain ⟨p, hp⟩ : ∃ p, p = (zs.getD j (0, 0)).2 := ⟨_, rfl⟩
      obtain ⟨ad, rfl, hbl, k1, k2⟩ := (HS.out.below hb).at_ hlt
      rw [← hx] at k1 hbit
      rw [← hp] at k2 hprob
      clear hx hp
      go_upto_region 6 with (first
        | (refine wpList_store_row rfl 69 _ _ rfl wr.heap.size (ivs x p) rfl rfl 69 (ivs 0 0) (Row.newEq _ _ _ _ _ rfl rfl) (by rw [ivs_size]; exact cellsCh) rfl (all_one (ivs_one _ _)) ?_))
      refine wp_world (F := fun W => Row W wr.heap.size 69 (ivs x p) ∧ Row W w.heap.size 26 (bcs none 0 0 0) ∧ Row W (w.heap.size + 1) 28 (flt 0 0) ∧ Below w.heap.size w W)
        ⟨row_new1 _ _ _ _, r1.below (blw_new1 _ _ _) r1.lt, r2.below (blw_new1 _ _ _) r2.lt, up_call hb (blw_new1 _ _ _)⟩ ?_
      generalize wr.heap.size = g
      clear k1 k2 r1 r2 hb hbl wr
      rintro W5 ⟨r5, r1, r2, hb⟩
      have e0 : W5.cell? ⟨g, 0, none⟩ = some (.int .i64 x) := (r5.cell 0).trans rfl
      have e1 : W5.cell? ⟨g, 1, none⟩ = some (.int .i64 p) := (r5.cell 1).trans rfl
      clear r5
      go_wp2_with (first
        | (go_at_call 38; refine (hbit _).mono ?_; rintro e w7 ⟨rfl, h7⟩; subst w7)
        | (go_at_call 39; refine (hprob _).mono ?_; rintro e w8 ⟨rfl, h8⟩; subst w8))
      go_roundw
      case rel => exact ⟨j + 1, by omega, by go_num, r1, r2, hb⟩
      case measure => simp [intOf]; omega
    · obtain rfl : j = k := by omega
      have hno := H2.out
      by_cases hx01 : (zs.getD j (0, 0)).1 = 0 ∨ (zs.getD j (0, 0)).1 = 1
      · have hbit := aisbit_any (zs.getD j (0, 0)).1 true (decide_eq_true hx01).symm
        have hprob := aisprob_any (zs.getD j (0, 0)).2 false (decide_eq_false fun h => hno ⟨hx01, h⟩).symm
        clear hno hx01 H2
        obtain ⟨x, hx⟩ : ∃ x, x = (zs.getD j (0, 0)).1 := ⟨_, rfl⟩
        obtain ⟨p, hp⟩ : ∃ p, p = (zs.getD j (0, 0)).2 := ⟨_, rfl⟩
        obtain ⟨ad, rfl, hbl, k1, k2⟩ := (HS.out.below hb).at_ hlt
        rw [← hx] at k1 hbit
        rw [← hp] at k2 hprob
        clear hx hp
        go_upto_region 6 with (first
          | (refine wpList_store_row rfl 69 _ _ rfl wr.heap.size (ivs x p) rfl rfl 69 (ivs 0 0) (Row.newEq _ _ _ _ _ rfl rfl) (by rw [ivs_size]; exact cellsCh) rfl (all_one (ivs_one _ _)) ?_))
        refine wp_world (F := fun W => Row W wr.heap.size 69 (ivs x p) ∧ Row W w.heap.size 26 (bcs none 0 0 0) ∧ Row W (w.heap.size + 1) 28 (flt 0 0) ∧ Below w.heap.size w W)
          ⟨row_new1 _ _ _ _, r1.below (blw_new1 _ _ _) r1.lt, r2.below (blw_new1 _ _ _) r2.lt, up_call hb (blw_new1 _ _ _)⟩ ?_
        generalize wr.heap.size = g
        clear k1 k2 r1 r2 hb hbl wr
        rintro W5 ⟨r5, r1, r2, hb⟩
        have e0 : W5.cell? ⟨g, 0, none⟩ = some (.int .i64 x) := (r5.cell 0).trans rfl
        have e1 : W5.cell? ⟨g, 1, none⟩ = some (.int .i64 p) := (r5.cell 1).trans rfl
        clear r5
        go_wp2_with (first
          | (go_at_call 38; refine (hbit _).mono ?_; rintro e w7 ⟨rfl, h7⟩; subst w7)
          | (go_at_call 39; refine (hprob _).mono ?_; rintro e w8 ⟨rfl, h8⟩; subst w8)
          | (refine wpList_store_row rfl 26 _ _ rfl w.heap.size (bcs none 0 0 0) rfl rfl 26 (bcs none 0 0 0) r1 (by rw [bcs_size]; exact cellsB) rfl (all_one (bcs_one _ _ _ _)) ?_)
          | (refine wpList_store_row rfl 28 _ _ rfl (w.heap.size + 1) (flt 4 j) rfl rfl 28 (flt 0 0) (r2.rowFar (by omega) _) (by rw [flt_size]; exact cellsF) rfl (all_one (flt_one _ _)) ?_))
        refine bodyPost_ret (results_rows Try.results29 _ _ w.heap.size (w.heap.size + 1) 26 28 (bcs none 0 0 0) (flt 4 j) _ _ rfl rfl ((Row.row r1 _).rowFar (by omega) _) (Row.row (r2.rowFar (by omega) _) _) Try.underlying26 rfl (by rw [bcs_size]; exact cellsB) Try.underlying28 rfl (by rw [flt_size]; exact cellsF)) rfl ⟨rfl, ?_⟩
        exact blw_row (blw_row hb (Nat.le_refl _) _) (by omega) _
      · have hbit := aisbit_any (zs.getD j (0, 0)).1 false (decide_eq_false hx01).symm
        clear hno hx01 H2
        obtain ⟨x, hx⟩ : ∃ x, x = (zs.getD j (0, 0)).1 := ⟨_, rfl⟩
        obtain ⟨p, hp⟩ : ∃ p, p = (zs.getD j (0, 0)).2 := ⟨_, rfl⟩
        obtain ⟨ad, rfl, hbl, k1, k2⟩ := (HS.out.below hb).at_ hlt
        rw [← hx] at k1 hbit
        rw [← hp] at k2
        clear hx hp
        go_upto_region 6 with (first
          | (refine wpList_store_row rfl 69 _ _ rfl wr.heap.size (ivs x p) rfl rfl 69 (ivs 0 0) (Row.newEq _ _ _ _ _ rfl rfl) (by rw [ivs_size]; exact cellsCh) rfl (all_one (ivs_one _ _)) ?_))
        refine wp_world (F := fun W => Row W wr.heap.size 69 (ivs x p) ∧ Row W w.heap.size 26 (bcs none 0 0 0) ∧ Row W (w.heap.size + 1) 28 (flt 0 0) ∧ Below w.heap.size w W)
          ⟨row_new1 _ _ _ _, r1.below (blw_new1 _ _ _) r1.lt, r2.below (blw_new1 _ _ _) r2.lt, up_call hb (blw_new1 _ _ _)⟩ ?_
        generalize wr.heap.size = g
        clear k1 k2 r1 r2 hb hbl wr
        rintro W5 ⟨r5, r1, r2, hb⟩
        have e0 : W5.cell? ⟨g, 0, none⟩ = some (.int .i64 x) := (r5.cell 0).trans rfl
        have e1 : W5.cell? ⟨g, 1, none⟩ = some (.int .i64 p) := (r5.cell 1).trans rfl
        clear r5
        go_wp2_with (first
          | (go_at_call 38; refine (hbit _).mono ?_; rintro e w7 ⟨rfl, h7⟩; subst w7)
          | (refine wpList_store_row rfl 26 _ _ rfl w.heap.size (bcs none 0 0 0) rfl rfl 26 (bcs none 0 0 0) r1 (by rw [bcs_size]; exact cellsB) rfl (all_one (bcs_one _ _ _ _)) ?_)
          | (refine wpList_store_row rfl 28 _ _ rfl (w.heap.size + 1) (flt 4 j) rfl rfl 28 (flt 0 0) (r2.rowFar (by omega) _) (by rw [flt_size]; exact cellsF) rfl (all_one (flt_one _ _)) ?_))
        refine bodyPost_ret (results_rows Try.results29 _ _ w.heap.size (w.heap.size + 1) 26 28 (bcs none 0 0 0) (flt 4 j) _ _ rfl rfl ((Row.row r1 _).rowFar (by omega) _) (Row.row (r2.rowFar (by omega) _) _) Try.underlying26 rfl (by rw [bcs_size]; exact cellsB) Try.underlying28 rfl (by rw [flt_size]; exact cellsF)) rfl ⟨rfl, ?_⟩
        exact blw_row (blw_row hb (Nat.le_refl _) _) (by omega) _

theorem Encode_bad (zs : List (Int × Int)) (c i : Int) (h : ChF zs c i) : EncBad zs c i := by
  cases h with
  | many h => exact Encode_many zs h
  | range hl k hk h1 h2 => exact Encode_range zs hl k hk h1 h2
end Go.Proofs.Ytcnokjiohbifeaa

namespace Go.Proofs.Ytcnokjiohbifeaa
open Go.RowKit

theorem run_snoc (l : List (Bool × Nat)) (j : Nat) (h : j < l.length) (L H : Nat) (ks : List Nat) (hr : runN 0 65535 (l.take j) = (L, H, ks)) :
    runN 0 65535 (l.take (j + 1)) = ((stepN L H l[j].2 l[j].1).1, (stepN L H l[j].2 l[j].1).2.1, ks ++ (stepN L H l[j].2 l[j].1).2.2) := by
  rw [List.take_succ_eq_append_getElem h, run_append, hr]
  simp [runN]
theorem good_take {l : List (Bool × Nat)} (h : GoodP l) (j : Nat) : GoodP (l.take j) := fun c hc => h c (List.mem_of_mem_take hc)

set_option maxRecDepth 100000 in
set_option maxHeartbeats 8000000 in
theorem Encode_ok (l : List (Bool × Nat)) (hg : GoodP l) (n : Nat) (hn : n = l.length) (hl : n ≤ 8192) (A : Option Addr) (cp : Nat) (w : World) (hS : Chs w w.heap.size A n (cz l)) :
    Calls Try.prog 29 #[.slice A n cp] w (BitsOut w (codeN l)) := by
  obtain ⟨cd, hcd⟩ : ∃ cd, cd = codeN l := ⟨_, rfl⟩
  rw [← hcd]
  have HCD := Lib.hid hcd
  clear hcd
  obtain ⟨zs, hzs⟩ : ∃ zs, zs = cz l := ⟨_, rfl⟩
  have hzl : zs.length = n := by rw [hzs, cz_length, hn]
  have HOK := Lib.hid (fun j (hj : j < n) => (okC_cz l hg j (by rw [← hn]; exact hj)))
  rw [← hzs] at HOK hS
  have t0 : decide ((8192 : Int) < (n : Int)) = false := decide_eq_false (by omega)
  have HS := Lib.hid hS
  have HZ := Lib.hid hzs
  have HN := Lib.hid (And.intro hn (And.intro hg hzl))
  clear hS hzs hn hg hzl
  go_enter Try.func29, Try.ntmps29
  go_upto_region 1 with (fail)
  refine wp_world (F := fun W => Row W w.heap.size 26 (bcs none 0 0 0) ∧ Row W (w.heap.size + 1) 28 (flt 0 0) ∧ Below w.heap.size w W)
    ⟨(Row.newEq _ _ _ _ _ rfl rfl).alloc _, Row.newEq _ _ _ _ _ (by simp) rfl, ((Below.refl _ _).alloc (Nat.le_refl _) _).alloc (by simp) _⟩ ?_
  rintro W0 ⟨r1, r2, hb⟩
  go_upto_region 3 with fail
  go_upto_region 4 with fail
  go_loopw [17] (fun i wr => ∃ j : Nat, j ≤ n ∧ i = .int .i64 j ∧ Row wr w.heap.size 26 (bcs none 0 0 0) ∧ Row wr (w.heap.size + 1) 28 (flt 0 0) ∧ Below w.heap.size w wr) (fun i _ => n - (intOf i).toNat)
  case atStart => exact ⟨0, Nat.zero_le _, rfl, r1, r2, hb⟩
  case round =>
    clear r1 r2 hb
    obtain ⟨j, hj, rfl, r1, r2, hb⟩ := hrel
    by_cases hlt : j < n
    · skip
      have hok : okC (zs.getD j (0, 0)) := HOK.out j hlt
      have hbit := aisbit_any (zs.getD j (0, 0)).1 true (decide_eq_true hok.1).symm
      have hprob := aisprob_any (zs.getD j (0, 0)).2 true (decide_eq_true hok.2).symm
      clear hok
      obtain ⟨x, hx⟩ : ∃ x, x = (zs.getD j (0, 0)).1 := ⟨_, rfl⟩
      obtain ⟨p, hp⟩ : ∃ p, p = (zs.getD j (0, 0)).2 := ⟨_, rfl⟩
      obtain ⟨ad, rfl, hbl, k1, k2⟩ := (HS.out.below hb).at_ hlt
      rw [← hx] at k1 hbit
      rw [← hp] at k2 hprob
      clear hx hp
      go_upto_region 6 with (first
        | (refine wpList_store_row rfl 69 _ _ rfl wr.heap.size (ivs x p) rfl rfl 69 (ivs 0 0) (Row.newEq _ _ _ _ _ rfl rfl) (by rw [ivs_size]; exact cellsCh) rfl (all_one (ivs_one _ _)) ?_))
      refine wp_world (F := fun W => Row W wr.heap.size 69 (ivs x p) ∧ Row W w.heap.size 26 (bcs none 0 0 0) ∧ Row W (w.heap.size + 1) 28 (flt 0 0) ∧ Below w.heap.size w W)
        ⟨row_new1 _ _ _ _, r1.below (blw_new1 _ _ _) r1.lt, r2.below (blw_new1 _ _ _) r2.lt, up_call hb (blw_new1 _ _ _)⟩ ?_
      generalize wr.heap.size = g
      clear k1 k2 r1 r2 hb hbl wr
      rintro W5 ⟨r5, r1, r2, hb⟩
      have e0 : W5.cell? ⟨g, 0, none⟩ = some (.int .i64 x) := (r5.cell 0).trans rfl
      have e1 : W5.cell? ⟨g, 1, none⟩ = some (.int .i64 p) := (r5.cell 1).trans rfl
      clear r5
      go_wp2_with (first
        | (go_at_call 38; refine (hbit _).mono ?_; rintro e w7 ⟨rfl, h7⟩; subst w7)
        | (go_at_call 39; refine (hprob _).mono ?_; rintro e w8 ⟨rfl, h8⟩; subst w8))
      go_roundw
      case rel => exact ⟨j + 1, by omega, by go_num, r1, r2, hb⟩
      case measure => simp [intOf]; omega
    · obtain rfl : n = j := by omega
      go_upto_region 9 with fail
      go_upto_region 10 with (first
        | (go_at_call 14; refine (start_any _).mono ?_; rintro e w2 ⟨rfl, hb2⟩)
        | (refine wpList_store_row rfl 23 _ _ rfl w2.heap.size (cds 0 65535 0) rfl rfl 23 (cds 0 0 0) (Row.newEq _ _ _ _ _ rfl rfl) (by rw [cds_size]; exact cellsCd) rfl (all_one (cds_one _ _ _)) ?_))
      have hk1 := blw_new1 w2 (.cells #[.int .i64 0, .int .i64 0, .int .i64 0] 23) (cds 0 65535 0)
      have hk0 := up_call hb2 hk1
      refine wp_world (F := fun W => Row W w.heap.size 26 (bcs none 0 0 0) ∧ Row W (w.heap.size + 1) 28 (flt 0 0) ∧ Row W w2.heap.size 23 (cds 0 65535 0) ∧ W.heap.size = w2.heap.size + 1 ∧ Below w.heap.size w W)
        ⟨r1.below hk0 r1.lt, r2.below hk0 r2.lt, row_new1 _ _ _ _, by simp, up_call hb hk0⟩ ?_
      have hgc : w.heap.size + 1 < w2.heap.size := Nat.lt_of_lt_of_le r2.lt hb2.size
      generalize w2.heap.size = gc at hgc
      clear hk1 hk0 hb2 r1 r2 hb wr w2
      rintro W2 ⟨r1, r2, rc, hsz, hb⟩
      go_upto_region 12 with fail
      have HSZ := Lib.hid hsz
      clear hsz
      go_loopw [7, 39] (fun v i wr => ∃ (j : Nat) (x y q m : Nat) (ks : List Nat) (o : List Bool), j ≤ n ∧ i = .int .i64 j ∧ m + q ≤ 14 * j ∧ Hid (runN 0 65535 (l.take j) = (x, y, ks) ∧ sentN 0 ks = (o, q) ∧ m = o.length) ∧ Row wr w.heap.size 26 (bcs none 0 0 0) ∧ Row wr (w.heap.size + 1) 28 (flt 0 0) ∧ Row wr gc 23 (cds x y q) ∧ Hid (wr.ownsRow (gc + 1) 5 1 v m (bl (txL o))) ∧ gc + 1 ≤ wr.heap.size ∧ Below w.heap.size w wr) (fun _ i _ => n - (intOf i).toNat)
      case atStart => exact ⟨0, 0, 65535, 0, 0, [], [], Nat.zero_le _, rfl, Nat.zero_le _, Lib.hid ⟨by rw [List.take_zero]; rfl, rfl, rfl⟩, r1, r2, rc, Lib.hid (own_none _ _), by rw [HSZ.out]; exact Nat.le_refl _, hb⟩
      case round =>
        clear r1 r2 rc hb HSZ
        obtain ⟨j, x, y, q, m, ks, o, hj2, rfl, hmq, HR, r1, r2, rc, HO, hbs, hb⟩ := hrel
        obtain ⟨A7, c7, hv7, _, _⟩ := own_form HO.out
        subst hv7
        by_cases hlt2 : j < n
        · obtain ⟨ad, rfl, hbl, k1, k2⟩ := (HS.out.below hb).at_ hlt2
          have hjl : j < l.length := by rw [← HN.out.1]; exact hlt2
          rw [HZ.out, cz_getD l j hjl] at k1 k2
          obtain ⟨b, p, hbp⟩ : ∃ b p, l[j] = (b, p) := ⟨_, _, rfl⟩
          have hgp := HN.out.2.1 l[j] (List.getElem_mem hjl)
          obtain ⟨hr, hs, hm⟩ := HR.out
          have hw := (run_ok (l.take j) 0 65535 (by decide) (good_take HN.out.2.1 j)).1
          rw [hr] at hw
          have hsn := run_snoc l j hjl x y ks hr
          rw [hbp] at k1 k2 hgp hsn
          simp only at k1 k2 hgp hsn hw
          obtain ⟨hp1, hp2⟩ := hgp
          obtain ⟨fL, fH, s, hf⟩ : ∃ fL fH s, stepN x y p b = (fL, fH, s) := ⟨_, _, _, rfl⟩
          have hst := (step_ok hw hp1 hp2 b).2.1
          have hput := fun (w : World) (ho : w.ownsRow (gc + 1) 5 1 (.slice A7 m c7) m (bl (txL o))) (hb : gc + 1 ≤ w.heap.size) => aput_any (gc + 1) (.slice A7 m c7) o m hm x y q p b hw hp1 hp2 (by omega) w ho hb
          have hss := sent_append ks s 0
          have hsl := sent_length s q
          rw [hs] at hss
          simp only at hss
          rw [hf] at hsn hst hput
          simp only at hsn hst hput
          obtain ⟨o2, q2, ho2⟩ : ∃ o2 q2, sentN q s = (o2, q2) := ⟨_, _, rfl⟩
          rw [ho2] at hput hss hsl
          simp only at hput hss hsl
          have hcnt : (o ++ o2).length + q2 ≤ 14 * (j + 1) := by rw [List.length_append, ← hm]; omega
          obtain ⟨m2, hm2⟩ : ∃ m2, m2 = (o ++ o2).length := ⟨_, rfl⟩
          rw [← hm2] at hput hcnt
          have HR2 := Lib.hid (And.intro hsn (And.intro hss hm2))
          obtain ⟨bz, hbz⟩ : ∃ z : Int, z = ((b.toNat : Nat) : Int) := ⟨_, rfl⟩
          rw [← hbz] at k1 hput
          have HP := Lib.hid hput
          have hk1 := blw_new1 wr (.cells #[.int .i64 0, .int .i64 0] 69) (ivs bz p)
          clear hput hr hs hm hw hsn hbp hp1 hp2 hf hst hss hsl ho2 hm2 hbz HR hmq hjl
          go_upto_region 14 with (first
            | (refine wpList_store_row rfl 69 _ _ rfl wr.heap.size (ivs bz p) rfl rfl 69 (ivs 0 0) (Row.newEq _ _ _ _ _ rfl rfl) (by rw [ivs_size]; exact cellsCh) rfl (all_one (ivs_one _ _)) ?_))
          refine wp_world (F := fun W => Row W wr.heap.size 69 (ivs bz p) ∧ Row W w.heap.size 26 (bcs none 0 0 0) ∧ Row W (w.heap.size + 1) 28 (flt 0 0) ∧ Row W gc 23 (cds x y q) ∧ Hid (W.ownsRow (gc + 1) 5 1 (.slice A7 m c7) m (bl (txL o))) ∧ gc + 1 ≤ W.heap.size ∧ Below w.heap.size w W)
            ⟨row_new1 _ _ _ _, r1.below hk1 r1.lt, r2.below hk1 r2.lt, rc.below hk1 rc.lt, Lib.hid (own_below HO.out hk1), Nat.le_trans hbs hk1.size, up_call hb hk1⟩ ?_
          generalize wr.heap.size = g9
          clear hk1 k1 k2 hbl r1 r2 rc HO hbs hb wr
          rintro W3 ⟨r9, r1, r2, rc, HO, hbs, hb⟩
          have e0 : W3.cell? ⟨g9, 0, none⟩ = some (.int .i64 bz) := (r9.cell 0).trans rfl
          have e1 : W3.cell? ⟨g9, 1, none⟩ = some (.int .i64 p) := (r9.cell 1).trans rfl
          clear r9
          go_wp2_with (first
            | (refine wpList_load_row rfl 23 _ rfl gc rfl 23 (cds x y q) (0, 0) _ rc Try.underlying23 rfl (by rw [cds_size]; exact cellsCd) ?_)
            | (go_at_call 40; refine (HP.out _ HO.out hbs).mono ?_; rintro e w4 ⟨v4, rfl, ho4, hb4, hk4⟩; have z1 := r1.below hb4 (by omega); have z2 := r2.below hb4 (by omega); have qc := rc.below hb4 (Nat.lt_succ_self _); have HO4 := Lib.hid ho4; have hbs4 := Nat.le_trans hbs hb4.size; have hbb := hb.trans (hb4.mono (by omega)); clear ho4 hb4 hk4)
            | (refine wpList_store_row rfl 23 _ _ rfl gc (cds fL fH q2) rfl rfl 23 (cds x y q) qc (by rw [cds_size]; exact cellsCd) rfl (all_one (cds_one _ _ _)) ?_))
          have HO5 := Lib.hid (own_far HO4.out (own_other HO4.out qc (by decide)) (cds fL fH q2))
          go_roundw
          case rel => exact ⟨j + 1, fL, fH, q2, m2, ks ++ s, o ++ o2, by omega, by go_num, hcnt, HR2, z1.rowFar (by omega) _, z2.rowFar (by omega) _, Row.row qc _, HO5, by simpa using hbs4, blw_row hbb (by omega) _⟩
          case measure => simp [intOf]; omega
        · obtain rfl : n = j := by omega
          have htk : l.take n = l := List.take_of_length_le (by rw [← HN.out.1]; exact Nat.le_refl _)
          have hrl := HR.out.1
          rw [htk] at hrl
          have hcode : codeN l = o ++ lastN q x := by unfold codeN; rw [hrl]; simp only; rw [HR.out.2.1]
          have hlen : (codeN l).length = m + q + 2 := by rw [hcode, List.length_append, last_length, ← HR.out.2.2]; omega
          have hfin := fun (w : World) (ho : w.ownsRow (gc + 1) 5 1 (.slice A7 m c7) m (bl (txL o))) (hb : gc + 1 ≤ w.heap.size) => finish_any (gc + 1) (.slice A7 m c7) o m HR.out.2.2 x y q (by omega) w ho hb
          rw [← hcode] at hfin
          have HMK := Lib.hid (make_tx (codeN l) (by rw [hlen]; omega))
          rw [← HCD.out] at hfin HMK
          have HF := Lib.hid hfin
          clear hfin hcode hlen hrl htk HR
          go_wp2_with (first
            | (refine wpList_load_row rfl 23 _ rfl gc rfl 23 (cds x y q) (0, 0) _ rc Try.underlying23 rfl (by rw [cds_size]; exact cellsCd) ?_)
            | (go_at_call 42; refine (HF.out _ HO.out hbs).mono ?_; rintro e w5 ⟨v5, rfl, ho5, hb5⟩; generalize m + q + 2 = n5 at ho5; obtain ⟨A5, c5, hv5, _, _⟩ := own_form ho5; subst hv5; have hs5 := Sl.of_own ho5; have hcv := conv_sl (P := Try.prog) w5 24 9 5 Try.underlying24 Try.underlying5 Try.underlying9 n5 c5 hs5; have s1 := r1.below hb5 (by omega); have s2 := r2.below hb5 (by omega); have hbb := hb.trans (hb5.mono (by omega)); clear ho5 hs5 hb5)
            | (go_at_call 41; refine (HMK.out _).mono ?_; rintro e w6 ⟨A6, c6, rfl, hs6, hb6⟩; have u1 := s1.below hb6 s1.lt; have u2 := s2.below hb6 s2.lt; have hbc := up_call hbb hb6)
            | (refine wpList_store_row rfl 26 _ _ rfl w.heap.size (bcs A6 (pack cd).length c6 cd.length) rfl rfl 26 (bcs none 0 0 0) u1 (by rw [bcs_size]; exact cellsB) rfl (all_one (bcs_one _ _ _ _)) ?_)
            | (refine wpList_store_row rfl 28 _ _ rfl (w.heap.size + 1) (flt 0 0) rfl rfl 28 (flt 0 0) (u2.rowFar (by omega) _) (by rw [flt_size]; exact cellsF) rfl (all_one (flt_one _ _)) ?_))
          refine bodyPost_ret (results_rows Try.results29 _ _ w.heap.size (w.heap.size + 1) 26 28 (bcs A6 (pack cd).length c6 cd.length) (flt 0 0) _ _ rfl rfl ((Row.row u1 _).rowFar (by omega) _) (Row.row (u2.rowFar (by omega) _) _) Try.underlying26 rfl (by rw [bcs_size]; exact cellsB) Try.underlying28 rfl (by rw [flt_size]; exact cellsF)) rfl ⟨A6, c6, rfl, ?_, ?_⟩
          · exact Sl.wider ((hs6.rowFar u1 (no_bcs _ _ _ _) _).rowFar (u2.rowFar (by omega) _) (no_flt _ _) _) (by simp)
          · exact blw_row (blw_row hbc (Nat.le_refl _) _) (by omega) _
end Go.Proofs.Ytcnokjiohbifeaa
