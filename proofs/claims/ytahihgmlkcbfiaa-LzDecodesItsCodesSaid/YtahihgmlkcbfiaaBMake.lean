/-
  The contracts of bits.Make.
-/
import Derived.Test.YtahihgmlkcbfiaaBOut
namespace Go.Proofs.Ytahihgmlkcbfiaa
open Go.RowKit

/-- the bits of a text -/
def txB (L : List UInt8) : List Bool := L.map (· == 49)
/-- the bytes behind k rounds of Make -/
def MkTo (L : List UInt8) (n k : Nat) (M : List UInt8) : Prop := M.length = n ∧ ∀ i, bt M i = (decide (i < k) && (L.getD i 0 == 49))
theorem MkTo.zero (L : List UInt8) (n : Nat) : MkTo L n 0 (List.replicate n 0) := ⟨List.length_replicate, fun p => by rw [bt_zeros, decide_eq_false (by omega)]; rfl⟩
theorem MkTo.next {L M N : List UInt8} {n k v : Nat} (h : MkTo L n k M) (hv : v.testBit 0 = (L.getD k 0 == 49)) (hN : PutTo M k v 1 1 N) : MkTo L n (k + 1) N := by
  refine ⟨by rw [hN.1, h.1], fun i => ?_⟩
  rw [hN.2, h.2]
  by_cases hi : i = k
  · subst hi
    rw [decide_eq_false (by omega), decide_eq_true (by omega), decide_eq_true (by omega), show 1 - 1 - (i - i) = 0 by omega, hv]
    simp
  · rw [decide_eq_false (by omega : ¬ (k ≤ i ∧ i < k + 1))]
    simp only [Bool.false_and, Bool.or_false]
    congr 1
    exact decide_eq_decide.2 (by omega)
theorem MkTo.rep {L M : List UInt8} {n : Nat} (h : MkTo L n L.length M) (hn : n = (L.length + 7) / 8) : Rep M (txB L) := by
  refine ⟨by rw [h.1, hn]; simp [txB], fun i => ?_⟩
  rw [h.2]
  unfold txB
  by_cases hi : i < L.length
  · simp [List.getD_eq_getElem?_getD, hi]
  · simp [List.getD_eq_getElem?_getD, hi]

theorem put_one (L : List UInt8) (n : Nat) (hLn : L.length = n) (g : Nat) (c : Nat) (k : Int) (p v : Nat) (vi : Int) (hvi : vi = (v : Int)) (hf : p + 1 ≤ 8 * n) (hl : n ≤ 16384) (hv : v < 2) (w : World) (hR : Row w g 5 (bl L).toArray) :
    Calls Try.prog 63 #[.agg (bcs (some ⟨g, 0, none⟩) n c k), .int .i64 p, .int .i64 vi, .int .i64 1] w fun e w' => e = .returned (.tuple #[]) ∧ (∃ M, PutTo L p v 1 1 M ∧ Row w' g 5 (bl M).toArray) ∧ w.grownBy w' (some g) := by
  subst hvi
  exact put_is L n hLn g c k p v 1 (by omega) hf hl (by omega) w hR

set_option maxRecDepth 100000 in
set_option maxHeartbeats 4000000 in
theorem make_long (s : ByteArray) (hs : 131072 < s.size) (hm : s.size ≤ 9223372036854775807) (w : World) :
    Calls Try.prog 44 #[.string s] w fun e w' => e = .returned (.tuple #[.agg (bcs none 0 0 0), .agg (flt 3 (-1))]) ∧ Below w.heap.size w w' := by
  have h1 : decide ((131072 : Int) < (s.size : Int)) = true := decide_eq_true (by omega)
  go_enter Try.func44, Try.ntmps44
  go_upto_region 1 with (fail)
  refine wp_world (F := fun W => Row W w.heap.size 43 (bcs none 0 0 0) ∧ Row W (w.heap.size + 1) 25 (flt 0 0) ∧ Below w.heap.size w W)
    ⟨(Row.newEq _ _ _ _ _ rfl rfl).alloc _, Row.newEq _ _ _ _ _ (by simp) rfl, ((Below.refl _ _).alloc (Nat.le_refl _) _).alloc (by simp) _⟩ ?_
  rintro W0 ⟨r1, r2, hb0⟩
  go_wp2_with (first
    | (go_at_call 51; refine (bfail_any 3 (-1) _).mono ?_; rintro e w2 ⟨rfl, hb2⟩; have r1b := r1.below hb2 r1.lt; have r2b := r2.below hb2 r2.lt; have hbb := up_call hb0 hb2; clear hb2)
    | (refine wpList_store_row rfl 43 _ _ rfl w.heap.size (bcs none 0 0 0) rfl rfl 43 (bcs none 0 0 0) r1b (by rw [bcs_size]; exact cellsB) rfl (all_one (bcs_one _ _ _ _)) ?_)
    | (refine wpList_store_row rfl 25 _ _ rfl (w.heap.size + 1) (flt 3 (-1)) rfl rfl 25 (flt 0 0) (r2b.rowFar (by omega) _) (by rw [flt_size]; exact cellsF) rfl (all_one (flt_one _ _)) ?_))
  refine bodyPost_ret (results_rows Try.results44 _ _ w.heap.size (w.heap.size + 1) 43 25 (bcs none 0 0 0) (flt 3 (-1)) _ _ rfl rfl ((Row.row r1b _).rowFar (by omega) _) (Row.row (r2b.rowFar (by omega) _) _) Try.underlying43 rfl (by rw [bcs_size]; exact cellsB) Try.underlying25 rfl (by rw [flt_size]; exact cellsF)) rfl ⟨rfl, ?_⟩
  exact blw_row (blw_row hbb (Nat.le_refl _) _) (by omega) _

/-- what Make gives where all is well before place k -/
def MakeOut (w : World) (s : ByteArray) (k : Nat) (e : Ending) (w' : World) : Prop := (k = s.size → BitsOut w (txB s.data.toList) e w') ∧ (k < s.size → e = .returned (.tuple #[.agg (bcs none 0 0 0), .agg (flt 6 k)]) ∧ Below w.heap.size w w')
set_option maxRecDepth 100000 in
set_option maxHeartbeats 4000000 in
/-- Make up to place k, where all is well before k: either the text ends there, or its byte there is no bit. -/
theorem make_upto (s : ByteArray) (hs : s.size ≤ 131072) (k : Nat) (hk : k ≤ s.size) (hok : ∀ i (h : i < s.size), i < k → s[i] = 48 ∨ s[i] = 49) (hend : ∀ h : k < s.size, s[k] ≠ 48 ∧ s[k] ≠ 49) (w : World) :
    Calls Try.prog 44 #[.string s] w (MakeOut w s k) := by
  have h1 : decide ((131072 : Int) < (s.size : Int)) = false := decide_eq_false (by omega)
  have HO := Lib.hid hok
  have HE := Lib.hid hend
  obtain ⟨n, hn⟩ : ∃ n, n = (s.size + 7) / 8 := ⟨_, rfl⟩
  have HN := Lib.hid hn
  have hn1 : s.size ≤ 8 * n := by omega
  have hn2 : n ≤ 16384 := by omega
  clear hok hend hn
  go_enter Try.func44, Try.ntmps44
  go_upto_region 1 with (fail)
  refine wp_world (F := fun W => Row W w.heap.size 43 (bcs none 0 0 0) ∧ Row W (w.heap.size + 1) 25 (flt 0 0) ∧ Below w.heap.size w W)
    ⟨(Row.newEq _ _ _ _ _ rfl rfl).alloc _, Row.newEq _ _ _ _ _ (by simp) rfl, ((Below.refl _ _).alloc (Nat.le_refl _) _).alloc (by simp) _⟩ ?_
  rintro W0 ⟨r1, r2, hb0⟩
  have hlt2 := r2.lt
  go_upto_region 4 with (first
      | (go_at_call 52; refine (extended_nil s.size hs n HN.out _ rfl _).mono ?_; rintro e w2 ⟨g, rfl, hg, rg, hb2⟩; have r1b := r1.below hb2 r1.lt; have r2b := r2.below hb2 r2.lt; have hbb := up_call hb0 hb2; have hgl := rg.lt; clear hb2)
      | (refine wpList_store_row rfl 43 _ _ rfl w2.heap.size (bcs (some ⟨g, 0, none⟩) n n s.size) rfl rfl 43 (bcs none 0 0 0) (Row.newEq _ _ _ _ _ rfl rfl) (by rw [bcs_size]; exact cellsB) rfl (all_one (bcs_one _ _ _ _)) ?_))
  refine wp_world (F := fun W => Row W w.heap.size 43 (bcs none 0 0 0) ∧ Row W (w.heap.size + 1) 25 (flt 0 0) ∧ Row W w2.heap.size 43 (bcs (some ⟨g, 0, none⟩) n n s.size) ∧ Row W g 5 (bl (List.replicate n 0)).toArray ∧ Below w.heap.size w W)
    ⟨(r1b.alloc _).rowFar (Nat.ne_of_lt r1b.lt) _, (r2b.alloc _).rowFar (Nat.ne_of_lt r2b.lt) _, Row.row (Row.newEq _ _ _ (bcs none 0 0 0) _ rfl rfl) _, (rg.alloc _).rowFar (Nat.ne_of_lt hgl) _, blw_row (hbb.alloc hbb.size _) hbb.size _⟩ ?_
  generalize w2.heap.size = g5 at hgl ⊢
  have hga : w.heap.size + 1 < g := Nat.lt_of_lt_of_le hlt2 hg
  clear hbb r1b r2b rg w2 hg r1 r2 hb0 hlt2 W0
  rintro W3 ⟨r1, r2, r5, rg, hb⟩
  go_wp2
  go_loopw [18] (fun i wr => ∃ j : Nat, ∃ M, j ≤ k ∧ i = .int .i64 j ∧ MkTo s.data.toList n j M ∧ Row wr w.heap.size 43 (bcs none 0 0 0) ∧ Row wr (w.heap.size + 1) 25 (flt 0 0) ∧ Row wr g5 43 (bcs (some ⟨g, 0, none⟩) n n s.size) ∧ Row wr g 5 (bl M).toArray ∧ Below w.heap.size w wr) (fun i _ => s.size - (intOf i).toNat)
  case atStart => exact ⟨0, _, Nat.zero_le _, rfl, MkTo.zero _ _, r1, r2, r5, rg, hb⟩
  case round =>
    clear r1 r2 r5 rg hb
    obtain ⟨j, M, hj, rfl, hC, r1, r2, r5, rg, hb⟩ := hrel
    have c50 : wr.cell? ⟨g5, 0, none⟩ = some (.slice (some ⟨g, 0, none⟩) n n) := (r5.cell 0).trans rfl
    have c51 : wr.cell? ⟨g5, 1, none⟩ = some (.int .i64 (s.size : Int)) := (r5.cell 1).trans rfl
    by_cases hlt : j < k
    · have hjs : j < s.size := by omega
      have HC := Lib.hid hC
      have hjn : j + 1 ≤ 8 * n := by omega
      have hne1 : some w.heap.size ≠ some g := by simp; omega
      have hne2 : some (w.heap.size + 1) ≠ some g := by simp; omega
      have hne5 : some g5 ≠ some g := by simp; omega
      have hgb : w.heap.size ≤ g := by omega
      clear hC
      rcases HO.out j hjs hlt with h | h
      · have hx : ((s[j].toNat : Nat) : Int) = 48 := by rw [h]; rfl
        have hbit : Nat.testBit 0 0 = (s.data.toList.getD j 0 == 49) := by
          rw [List.getD_eq_getElem?_getD, List.getElem?_eq_getElem (by simpa using hjs), Option.getD_some]
          have h' : s.data.toList[j]'(by simpa using hjs) = 48 := h
          rw [h']
          rfl
        have HBT := Lib.hid hbit
        clear h hbit
        go_upto_region 9 with (fail)
        go_region_law (first
          | (go_simp; go_at_call 63; go_must (refine (put_one M n HC.out.1 g _ _ j 0 _ rfl hjn hn2 (by decide) wr.drew rg.drew).mono ?_; rintro e w5 ⟨rfl, ⟨N, hN, rN⟩, hgr⟩; have q1 := r1.drew.grown hgr hne1; have q2 := r2.drew.grown hgr hne2; have q5 := r5.drew.grown hgr hne5; have hbq := gr_below hb.drew hgr hb.drew.size hgb)))
        all_goals
          go_wp2
          go_roundw
          case rel => exact ⟨j + 1, N, by omega, by go_num, HC.out.next HBT.out hN, q1, q2, q5, rN, hbq⟩
          case measure => simp [intOf]; omega
      · have hx : ((s[j].toNat : Nat) : Int) = 49 := by rw [h]; rfl
        have hbit : Nat.testBit 1 0 = (s.data.toList.getD j 0 == 49) := by
          rw [List.getD_eq_getElem?_getD, List.getElem?_eq_getElem (by simpa using hjs), Option.getD_some]
          have h' : s.data.toList[j]'(by simpa using hjs) = 49 := h
          rw [h']
          rfl
        have HBT := Lib.hid hbit
        clear h hbit
        go_upto_region 9 with (fail)
        go_region_law (first
          | (go_simp; go_at_call 63; go_must (refine (put_one M n HC.out.1 g _ _ j 1 _ rfl hjn hn2 (by decide) wr.drew rg.drew).mono ?_; rintro e w5 ⟨rfl, ⟨N, hN, rN⟩, hgr⟩; have q1 := r1.drew.grown hgr hne1; have q2 := r2.drew.grown hgr hne2; have q5 := r5.drew.grown hgr hne5; have hbq := gr_below hb.drew hgr hb.drew.size hgb)))
        all_goals
          go_wp2
          go_roundw
          case rel => exact ⟨j + 1, N, by omega, by go_num, HC.out.next HBT.out hN, q1, q2, q5, rN, hbq⟩
          case measure => simp [intOf]; omega
    · obtain rfl : j = k := by omega
      by_cases he : j = s.size
      · have HC := Lib.hid hC
        clear hC
        subst he
        go_wp2_with (first
          | (refine wpList_load_row rfl 43 _ rfl g5 rfl 43 (bcs (some ⟨g, 0, none⟩) n n s.size) (0, 0) _ r5 Try.underlying43 rfl (by rw [bcs_size]; exact cellsB) ?_)
          | (refine wpList_store_row rfl 43 _ _ rfl w.heap.size (bcs (some ⟨g, 0, none⟩) n n s.size) rfl rfl 43 (bcs none 0 0 0) r1 (by rw [bcs_size]; exact cellsB) rfl (all_one (bcs_one _ _ _ _)) ?_)
          | (refine wpList_store_row rfl 25 _ _ rfl (w.heap.size + 1) (flt 0 0) rfl rfl 25 (flt 0 0) (r2.rowFar (by omega) _) (by rw [flt_size]; exact cellsF) rfl (all_one (flt_one _ _)) ?_))
        refine bodyPost_ret (results_rows Try.results44 _ _ w.heap.size (w.heap.size + 1) 43 25 (bcs (some ⟨g, 0, none⟩) n n s.size) (flt 0 0) _ _ rfl rfl ((Row.row r1 _).rowFar (by omega) _) (Row.row (r2.rowFar (by omega) _) _) Try.underlying43 rfl (by rw [bcs_size]; exact cellsB) Try.underlying25 rfl (by rw [flt_size]; exact cellsF)) rfl ⟨fun _ => ?_, fun h => absurd h (Nat.lt_irrefl _)⟩
        have hsz : s.data.toList.length = s.size := by simp
        refine bitsOut_row (MkTo.rep (n := n) (by rw [hsz]; exact HC.out) (by rw [hsz]; exact HN.out)) rfl HC.out.1.symm ?_ ((rg.rowFar (by omega) _).rowFar (by omega) _) (blw_row (blw_row hb (Nat.le_refl _) _) (by omega) _)
        simp [txB]
      · have hjs : j < s.size := by omega
        obtain ⟨e1, e2⟩ := HE.out hjs
        have hx1 : ((s[j].toNat : Nat) : Int) ≠ 48 := fun h => e1 (UInt8.toNat_inj.1 (by show s[j].toNat = 48; omega))
        have hx2 : ((s[j].toNat : Nat) : Int) ≠ 49 := fun h => e2 (UInt8.toNat_inj.1 (by show s[j].toNat = 49; omega))
        have k1 : (((s[j].toNat : Nat) : Int) == 48) = false := beq_eq_false_iff_ne.2 hx1
        have k2 : (((s[j].toNat : Nat) : Int) != 48) = true := bne_iff_ne.2 hx1
        have k3 : (((s[j].toNat : Nat) : Int) == 49) = false := beq_eq_false_iff_ne.2 hx2
        have k4 : (((s[j].toNat : Nat) : Int) != 49) = true := bne_iff_ne.2 hx2
        clear hx1 hx2 hC e1 e2
        go_wp2_with (first
          | (go_at_call 51; refine (bfail_any 6 (j : Int) _).mono ?_; rintro e w2 ⟨rfl, hb2⟩; have r1b := r1.below hb2 r1.lt; have r2b := r2.below hb2 r2.lt; have hbb := up_call hb hb2; clear hb2)
          | (refine wpList_store_row rfl 43 _ _ rfl w.heap.size (bcs none 0 0 0) rfl rfl 43 (bcs none 0 0 0) r1b (by rw [bcs_size]; exact cellsB) rfl (all_one (bcs_one _ _ _ _)) ?_)
          | (refine wpList_store_row rfl 25 _ _ rfl (w.heap.size + 1) (flt 6 j) rfl rfl 25 (flt 0 0) (r2b.rowFar (by omega) _) (by rw [flt_size]; exact cellsF) rfl (all_one (flt_one _ _)) ?_))
        refine bodyPost_ret (results_rows Try.results44 _ _ w.heap.size (w.heap.size + 1) 43 25 (bcs none 0 0 0) (flt 6 j) _ _ rfl rfl ((Row.row r1b _).rowFar (by omega) _) (Row.row (r2b.rowFar (by omega) _) _) Try.underlying43 rfl (by rw [bcs_size]; exact cellsB) Try.underlying25 rfl (by rw [flt_size]; exact cellsF)) rfl ⟨fun h => absurd h he, fun _ => ⟨rfl, ?_⟩⟩
        exact blw_row (blw_row hbb (Nat.le_refl _) _) (by omega) _
end Go.Proofs.Ytahihgmlkcbfiaa
