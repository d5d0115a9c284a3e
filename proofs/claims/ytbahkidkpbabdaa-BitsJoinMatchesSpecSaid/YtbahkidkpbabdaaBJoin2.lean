/-
  Slices of any bit strings, and what Join answers where it refuses them.
-/
import Derived.Test.YtbahkidkpbabdaaBJoin
import Derived.Test.YtbahkidkpbabdaaBSpec
import Derived.Deep.SlicePairs
namespace Go.Proofs.Ytbahkidkpbabdaa
open Go.RowKit Go.WideShapes Go.ChangeShapes

/-- a slice of bit strings, valid or not -/
def BsG (w : World) (B : Nat) (A : Option Addr) (n : Nat) (es : List (List UInt8 × Int)) : Prop :=
  es.length = n ∧ (0 < n → ∃ ad : Addr, A = some ad ∧ ad.block < B ∧ ∀ i e, es[i]? = some e → ∃ Ai ci, w.cell? (ad.add (i * 2)) = some (.slice Ai e.1.length ci) ∧ w.cell? ⟨(ad.add (i * 2)).block, (ad.add (i * 2)).off + 1, none⟩ = some (.int .i64 e.2) ∧ Sl w B Ai e.1.length (bl e.1))
theorem BsG.below {w W : World} {B n : Nat} {A : Option Addr} {es : List (List UInt8 × Int)} (h : BsG w B A n es) (hb : Below B w W) : BsG W B A n es := by
  refine ⟨h.1, fun hn => ?_⟩
  obtain ⟨ad, h1, h2, h3⟩ := h.2 hn
  refine ⟨ad, h1, h2, fun i l hi => ?_⟩
  obtain ⟨Ai, ci, k1, k2, k3⟩ := h3 i l hi
  exact ⟨Ai, ci, by rw [← k1]; exact hb.cell (by rw [add_block]; exact h2), by rw [← k2]; exact hb.cell (show (ad.add (i * 2)).block < B by rw [add_block]; exact h2), k3.below hb⟩
theorem BsG.wider {w : World} {B C n : Nat} {A : Option Addr} {es : List (List UInt8 × Int)} (h : BsG w B A n es) (hB : B ≤ C) : BsG w C A n es := by
  refine ⟨h.1, fun hn => ?_⟩
  obtain ⟨ad, h1, h2, h3⟩ := h.2 hn
  refine ⟨ad, h1, Nat.lt_of_lt_of_le h2 hB, fun i l hi => ?_⟩
  obtain ⟨Ai, ci, k1, k2, k3⟩ := h3 i l hi
  exact ⟨Ai, ci, k1, k2, k3.wider hB⟩
theorem BsG.up {w W : World} {A : Option Addr} {n : Nat} {es : List (List UInt8 × Int)} (h : BsG w w.heap.size A n es) (k : Below w.heap.size w W) : BsG W W.heap.size A n es := (h.below k).wider k.size
/-- the first j elements are these valid bit strings -/
def PV (es : List (List UInt8 × Int)) (ls : List (List Bool)) (j : Nat) : Prop :=
  ls.length = j ∧ ∀ (i : Nat) (l : List Bool), ls[i]? = some l → es[i]? = some (pack l, (l.length : Int)) ∧ l.length ≤ 131072
theorem BsG.at_ {w : World} {B n j : Nat} {A : Option Addr} {es : List (List UInt8 × Int)} {ls : List (List Bool)} (h : BsG w B A n es) (hp : PV es ls j) (hjn : j ≤ n) {i : Nat} (hi : i < j) : ∃ ad l Ai ci, A = some ad ∧ ad.block < B ∧ ls[i]? = some l ∧ w.cell? (ad.add (i * 2)) = some (.slice Ai (pack l).length ci) ∧ w.cell? ⟨(ad.add (i * 2)).block, (ad.add (i * 2)).off + 1, none⟩ = some (.int .i64 l.length) ∧ Sl w B Ai (pack l).length (bl (pack l)) ∧ l.length ≤ 131072 := by
  obtain ⟨ad, h1, h2, h3⟩ := h.2 (by omega)
  have hl : i < ls.length := by rw [hp.1]; exact hi
  have hg := List.getElem?_eq_getElem hl
  obtain ⟨k1, k2⟩ := hp.2 i ls[i] hg
  obtain ⟨Ai, ci, k⟩ := h3 i _ k1
  exact ⟨ad, ls[i], Ai, ci, h1, h2, hg, k.1, k.2.1, k.2.2, k2⟩
theorem BsG.bad {w : World} {B n j : Nat} {A : Option Addr} {es : List (List UInt8 × Int)} {L : List UInt8} {k : Int} (h : BsG w B A n es) (hj : es[j]? = some (L, k)) : j < n ∧ ∃ ad Ai ci, A = some ad ∧ ad.block < B ∧ w.cell? (ad.add (j * 2)) = some (.slice Ai L.length ci) ∧ w.cell? ⟨(ad.add (j * 2)).block, (ad.add (j * 2)).off + 1, none⟩ = some (.int .i64 k) ∧ Sl w B Ai L.length (bl L) := by
  have hl := (List.getElem?_eq_some_iff.1 hj).1
  have hn : j < n := by rw [← h.1]; exact hl
  obtain ⟨ad, h1, h2, h3⟩ := h.2 (by omega)
  obtain ⟨Ai, ci, k⟩ := h3 j _ hj
  exact ⟨hn, ad, Ai, ci, h1, h2, k.1, k.2.1, k.2.2⟩
theorem BsG.valid {w : World} {B n : Nat} {A : Option Addr} {es : List (List UInt8 × Int)} {ls : List (List Bool)} (h : BsG w B A n es) (hp : PV es ls n) : BsV w B A n ls := by
  refine ⟨hp.1, fun hn => ?_⟩
  obtain ⟨ad, h1, h2, h3⟩ := h.2 hn
  refine ⟨ad, h1, h2, fun i l hi => ?_⟩
  obtain ⟨k1, k2⟩ := hp.2 i l hi
  obtain ⟨Ai, ci, g1, g2, g3⟩ := h3 i _ k1
  exact ⟨Ai, ci, g1, g2, g3, k2⟩
/-- all valid, or a first one that is not -/
theorem pv_or : ∀ es : List (List UInt8 × Int), (∃ ls, PV es ls es.length) ∨ ∃ ls j L k, PV es ls j ∧ es[j]? = some (L, k) ∧ ¬ Good L k
  | [] => .inl ⟨[], rfl, fun i l h => by simp at h⟩
  | (L, k) :: es => by
    rcases good_dec L k with ⟨l, h1, h2, h3⟩ | hG
    · have cons : ∀ ls j, PV es ls j → PV ((L, k) :: es) (l :: ls) (j + 1) := by
        rintro ls j ⟨e1, e2⟩
        refine ⟨by rw [List.length_cons, e1], fun i l' hi => ?_⟩
        cases i with
        | zero =>
          simp only [List.getElem?_cons_zero, Option.some.injEq] at hi
          subst hi h1 h3
          exact ⟨rfl, h2⟩
        | succ i =>
          simp only [List.getElem?_cons_succ] at hi ⊢
          exact e2 i l' hi
      rcases pv_or es with ⟨ls, h⟩ | ⟨ls, j, M, m, g1, g2, g3⟩
      · exact .inl ⟨l :: ls, by rw [List.length_cons]; exact cons ls _ h⟩
      · exact .inr ⟨l :: ls, j + 1, M, m, cons ls j g1, by simpa using g2, g3⟩
    · exact .inr ⟨[], 0, L, k, ⟨rfl, fun i l h => by simp at h⟩, rfl, hG⟩
theorem open_bitss {H : Type} {enc : TypeId × Value → H} {w : World} {r : Reach} {b0 : Nat} {base : Nat} {spare : Nat → Bool} {held : Bool} {v : Value} {d : DataW H} {ps : List MemPlace} (hval : Value.okWide Try.prog w r b0 56 v)
    (hd : DataW.Trod enc Try.prog w base spare held 56 v d ps) :
    ∃ (A : Option Addr) (n c : Nat) (es : List (List UInt8 × Int)), v = .slice A n c ∧ n ≤ c ∧ c ≤ maxLen ∧ BsG w w.heap.size A n es := by
  obtain ⟨a, len, cap, rfl⟩ := okWide_slice Try.underlying56 hval
  obtain ⟨fuel, hf⟩ := hd
  rcases Go.Deep.open_slice_pairs Try.underlying56 Try.underlying24 (by kernel_rfl) rfl rfl (by kernel_rfl) (by kernel_rfl) hf with ⟨h0, _⟩ | ⟨ad, len', cap', m, k, V0, V1, D0, D1, P0, P1, h0, _, hl, hm, hmm, _, hall⟩
  · simp only [Value.cells, List.cons.injEq, Value.slice.injEq, and_true] at h0
    obtain ⟨rfl, rfl, rfl⟩ := h0
    exact ⟨none, 0, 0, [], rfl, Nat.le_refl _, Nat.zero_le _, rfl, fun h => absurd h (Nat.lt_irrefl _)⟩
  · simp only [Value.cells, List.cons.injEq, Value.slice.injEq, and_true] at h0
    obtain ⟨rfl, rfl, rfl⟩ := h0
    have hlm : len ≤ m := by rw [hmm]; split <;> omega
    have each : ∀ i, i < len → ∃ q : (List UInt8 × Int) × (Option Addr × Nat), V0 i = .slice q.2.1 q.1.1.length q.2.2 ∧ V1 i = .int .i64 q.1.2 ∧ Sl w w.heap.size q.2.1 q.1.1.length (bl q.1.1) := by
      intro i hi
      obtain ⟨_, _, g0, g1⟩ := hall i (by omega)
      obtain ⟨A, T, cp, et, _, _, hS, _⟩ := open_bslice_cells Try.underlying22 Try.underlying5 (by kernel_rfl) g0
      obtain ⟨n, en, _, _⟩ := DataW.trod_int Try.underlying3 g1
      simp only [List.cons.injEq, and_true] at et en
      exact ⟨((T, n), (A, cp)), et, en, hS⟩
    obtain ⟨q, hq⟩ := Go.Deep.choose_lt each
    refine ⟨some ad, len, cap, (List.range len).map fun i => (q i).1, rfl, hl, hm, by simp, fun hn => ⟨ad, rfl, ?_, fun i e hi => ?_⟩⟩
    · have hb := block_lt_of_cell (hall 0 (by omega)).1
      simpa [add_block] using hb
    · have hi' : i < len := by
        have := (List.getElem?_eq_some_iff.1 hi).1
        simpa using this
      rw [List.getElem?_map, List.getElem?_range hi', Option.map_some, Option.some.injEq] at hi
      subst hi
      obtain ⟨e0, e1, _, _⟩ := hall i (by omega)
      obtain ⟨g0, g1, g2⟩ := hq i hi'
      refine ⟨(q i).2.1, (q i).2.2, by rw [e0, g0], ?_, g2⟩
      rw [← g1, ← e1]
      exact congrArg w.cell? (add_add ad (i * 2) 1)

set_option maxRecDepth 100000 in
set_option maxHeartbeats 4000000 in
theorem join_many (n : Nat) (h : 256 < n) (A : Option Addr) (c : Nat) (w : World) :
    Calls Try.prog 33 #[.slice A n c] w fun e w' => e = .returned (.tuple #[.agg (bcs none 0 0 0), .agg (flt 2 (-1))]) ∧ Below w.heap.size w w' := by
  have h0 : decide ((256 : Int) < (n : Int)) = true := decide_eq_true (by omega)
  go_enter Try.func33, Try.ntmps33
  go_upto_region 1 with (fail)
  refine wp_world (F := fun W => Row W w.heap.size 24 (bcs none 0 0 0) ∧ Row W (w.heap.size + 1) 26 (flt 0 0) ∧ Below w.heap.size w W)
    ⟨(Row.newEq _ _ _ _ _ rfl rfl).alloc _, Row.newEq _ _ _ _ _ (by simp) rfl, ((Below.refl _ _).alloc (Nat.le_refl _) _).alloc (by simp) _⟩ ?_
  rintro W0 ⟨r1, r2, hb⟩
  go_wp2_with (first
    | (go_at_call 36; refine (bfail_any 2 (-1) _).mono ?_; rintro e w2 ⟨rfl, hb2⟩; have r1b := r1.below hb2 r1.lt; have r2b := r2.below hb2 r2.lt; have hbb := up_call hb hb2; clear hb2)
    | (refine wpList_store_row rfl 24 _ _ rfl w.heap.size (bcs none 0 0 0) rfl rfl 24 (bcs none 0 0 0) r1b (by rw [bcs_size]; exact cellsB) rfl (all_one (bcs_one _ _ _ _)) ?_)
    | (refine wpList_store_row rfl 26 _ _ rfl (w.heap.size + 1) (flt 2 (-1)) rfl rfl 26 (flt 0 0) (r2b.rowFar (by omega) _) (by rw [flt_size]; exact cellsF) rfl (all_one (flt_one _ _)) ?_))
  refine bodyPost_ret (results_rows Try.results33 _ _ w.heap.size (w.heap.size + 1) 24 26 (bcs none 0 0 0) (flt 2 (-1)) _ _ rfl rfl ((Row.row r1b _).rowFar (by omega) _) (Row.row (r2b.rowFar (by omega) _) _) Try.underlying24 rfl (by rw [bcs_size]; exact cellsB) Try.underlying26 rfl (by rw [flt_size]; exact cellsF)) rfl ⟨rfl, ?_⟩
  exact blw_row (blw_row hbb (Nat.le_refl _) _) (by omega) _

set_option maxRecDepth 100000 in
set_option maxHeartbeats 4000000 in
theorem jf_many (n : Nat) (h : 256 < n) (A : Option Addr) (c : Nat) (w : World) :
    Calls Try.prog 34 #[.slice A n c] w fun e w' => e = .returned (.agg (flt 2 (-1))) ∧ Below w.heap.size w w' := by
  have h0 : decide ((256 : Int) < (n : Int)) = true := decide_eq_true (by omega)
  go_enter Try.func34, Try.ntmps34
  go_upto_region 1 with (fail)
  refine wp_world (F := fun W => Row W w.heap.size 26 (flt 0 0) ∧ Below w.heap.size w W)
    ⟨Row.newEq _ _ _ _ _ rfl rfl, (Below.refl _ _).alloc (Nat.le_refl _) _⟩ ?_
  rintro W0 ⟨r2, hb⟩
  go_wp2_with (first
    | (go_at_call 16; refine (at_any 2 (-1) _).mono ?_; rintro e w2 ⟨rfl, hb2⟩; have r2b := r2.below hb2 r2.lt; have hbb := up_call hb hb2; clear hb2)
    | (refine wpList_store_row rfl 26 _ _ rfl w.heap.size (flt 2 (-1)) rfl rfl 26 (flt 0 0) r2b (by rw [flt_size]; exact cellsF) rfl (all_one (flt_one _ _)) ?_))
  refine bodyPost_ret (results_row Try.results34 _ _ w.heap.size 26 (flt 2 (-1)) _ rfl (Row.row r2b _) Try.underlying26 rfl (by rw [flt_size]; exact cellsF)) rfl ⟨rfl, ?_⟩
  exact blw_row hbb (Nat.le_refl _) _

set_option maxRecDepth 100000 in
set_option maxHeartbeats 4000000 in
theorem join_bad (es : List (List UInt8 × Int)) (ls : List (List Bool)) (n : Nat) (hn : n ≤ 256) (q : Nat) (hqn : q ≤ n) (hp : PV es ls q) (L : List UInt8) (k : Int) (hbad : es[q]? = some (L, k)) (hG : ¬ Good L k) (A : Option Addr) (c : Nat) (w : World) (hS : BsG w w.heap.size A n es) :
    Calls Try.prog 33 #[.slice A n c] w fun e w' => e = .returned (.tuple #[.agg (bcs none 0 0 0), .agg (flt 6 q)]) ∧ Below w.heap.size w w' := by
  have h0 : decide ((256 : Int) < (n : Int)) = false := decide_eq_false (by omega)
  go_enter Try.func33, Try.ntmps33
  go_upto_region 1 with (fail)
  refine wp_world (F := fun W => Row W w.heap.size 24 (bcs none 0 0 0) ∧ Row W (w.heap.size + 1) 26 (flt 0 0) ∧ Below w.heap.size w W)
    ⟨(Row.newEq _ _ _ _ _ rfl rfl).alloc _, Row.newEq _ _ _ _ _ (by simp) rfl, ((Below.refl _ _).alloc (Nat.le_refl _) _).alloc (by simp) _⟩ ?_
  rintro W0 ⟨r1, r2, hb⟩
  go_wp2
  go_loopw [4, 19] (fun t i wr => ∃ j : Nat, j ≤ q ∧ i = .int .i64 j ∧ t = .int .i64 ((ls.take j).flatten.length : Nat) ∧ (ls.take j).flatten.length ≤ 131072 * j ∧ Row wr w.heap.size 24 (bcs none 0 0 0) ∧ Row wr (w.heap.size + 1) 26 (flt 0 0) ∧ Below w.heap.size w wr) (fun _ i _ => n - (intOf i).toNat)
  case atStart => exact ⟨0, Nat.zero_le _, rfl, rfl, Nat.le_refl _, r1, r2, hb⟩
  case round =>
    clear r1 r2 hb
    obtain ⟨j, hj, rfl, rfl, ht, r1, r2, hb⟩ := hrel
    by_cases hlt : j < q
    · obtain ⟨ad, l, Ai, ci, rfl, hbl, hget, k1, k2, k3, k4⟩ := (hS.below hb).at_ hp hqn hlt
      have hjn : j < n := by omega
      have hfs := flat_snoc ls j l hget
      have HFS := Lib.hid hfs
      obtain ⟨t, htt⟩ : ∃ t, t = (ls.take j).flatten.length := ⟨_, rfl⟩
      rw [← htt] at ht ⊢
      have HT := Lib.hid htt
      clear hfs htt hget
      go_upto_region 7 with (first
        | (refine wpList_store_row rfl 24 _ _ rfl wr.heap.size (bcs Ai (pack l).length ci l.length) rfl rfl 24 (bcs none 0 0 0) (Row.newEq _ _ _ _ _ rfl rfl) (by rw [bcs_size]; exact cellsB) rfl (all_one (bcs_one _ _ _ _)) ?_))
      refine wp_world (F := fun W => Row W wr.heap.size 24 (bcs Ai (pack l).length ci l.length) ∧ Row W w.heap.size 24 (bcs none 0 0 0) ∧ Row W (w.heap.size + 1) 26 (flt 0 0) ∧ Sl W W.heap.size Ai (pack l).length (bl (pack l)) ∧ Below w.heap.size w W) ⟨row_new1 _ _ _ _, r1.below (blw_new1 _ _ _) r1.lt, r2.below (blw_new1 _ _ _) r2.lt, (k3.wider hb.size).up (blw_new1 _ _ _), up_call hb (blw_new1 _ _ _)⟩ ?_
      generalize wr.heap.size = g
      clear k1 k2 k3 r1 r2 hb wr
      rintro W5 ⟨r5, r1, r2, k3, hb⟩

      go_wp2_with (first
        | (refine wpList_load_row rfl 24 _ rfl g rfl 24 (bcs Ai (pack l).length ci l.length) (0, 0) _ r5 Try.underlying24 rfl (by rw [bcs_size]; exact cellsB) ?_)
        | (go_at_call 15; refine (valid_yes (pack l) l (pack_rep l) k4 Ai ci _ k3).mono ?_; rintro e w6 ⟨rfl, hb6⟩; have c1 : w6.cell? ⟨g, 1, none⟩ = some (.int .i64 (l.length : Int)) := ((r5.below hb6 r5.lt).cell 1).trans rfl; have r1a := r1.below hb6 r1.lt; have r2a := r2.below hb6 r2.lt; have hba := up_call hb hb6; clear hb6))
      go_roundw
      case rel =>
        refine ⟨j + 1, by omega, by go_num, ?_, ?_, r1a, r2a, hba⟩
        · rw [HFS.out, List.length_append, ← HT.out]
          go_num
        · rw [HFS.out, List.length_append, ← HT.out]
          omega
      case measure => simp [intOf]; omega
    · obtain rfl : j = q := by omega
      obtain ⟨hjn, ad, Ai, ci, rfl, hbl, k1, k2, k3⟩ := (hS.below hb).bad hbad
      have HG := Lib.hid hG
      obtain ⟨t, htt⟩ : ∃ t, t = (ls.take j).flatten.length := ⟨_, rfl⟩
      rw [← htt] at ht ⊢
      clear htt hbad hG hp
      go_upto_region 7 with (first
        | (refine wpList_store_row rfl 24 _ _ rfl wr.heap.size (bcs Ai L.length ci k) rfl rfl 24 (bcs none 0 0 0) (Row.newEq _ _ _ _ _ rfl rfl) (by rw [bcs_size]; exact cellsB) rfl (all_one (bcs_one _ _ _ _)) ?_))
      refine wp_world (F := fun W => Row W wr.heap.size 24 (bcs Ai L.length ci k) ∧ Row W w.heap.size 24 (bcs none 0 0 0) ∧ Row W (w.heap.size + 1) 26 (flt 0 0) ∧ Sl W W.heap.size Ai L.length (bl L) ∧ Below w.heap.size w W) ⟨row_new1 _ _ _ _, r1.below (blw_new1 _ _ _) r1.lt, r2.below (blw_new1 _ _ _) r2.lt, (k3.wider hb.size).up (blw_new1 _ _ _), up_call hb (blw_new1 _ _ _)⟩ ?_
      generalize wr.heap.size = g
      clear k1 k2 k3 r1 r2 hb wr
      rintro W5 ⟨r5, r1, r2, k3, hb⟩

      go_upto_region 8 with (first
        | (refine wpList_load_row rfl 24 _ rfl g rfl 24 (bcs Ai L.length ci k) (0, 0) _ r5 Try.underlying24 rfl (by rw [bcs_size]; exact cellsB) ?_)
        | (go_at_call 15; refine (valid_no L k HG.out Ai ci _ k3).mono ?_; rintro e w6 ⟨rfl, hb6⟩))
      refine wp_world (F := fun W => Row W w.heap.size 24 (bcs none 0 0 0) ∧ Row W (w.heap.size + 1) 26 (flt 0 0) ∧ Below w.heap.size w W) ⟨r1.below hb6 r1.lt, r2.below hb6 r2.lt, up_call hb hb6⟩ ?_
      clear r1 r2 r5 k3 hb hb6 w6 W5
      rintro W6 ⟨r1, r2, hb⟩
      go_wp2_with (first
        | (go_at_call 36; refine (bfail_any 6 j _).mono ?_; rintro e w2 ⟨rfl, hb2⟩; have r1b := r1.below hb2 r1.lt; have r2b := r2.below hb2 r2.lt; have hbb := up_call hb hb2; clear hb2)
        | (refine wpList_store_row rfl 24 _ _ rfl w.heap.size (bcs none 0 0 0) rfl rfl 24 (bcs none 0 0 0) r1b (by rw [bcs_size]; exact cellsB) rfl (all_one (bcs_one _ _ _ _)) ?_)
        | (refine wpList_store_row rfl 26 _ _ rfl (w.heap.size + 1) (flt 6 j) rfl rfl 26 (flt 0 0) (r2b.rowFar (by omega) _) (by rw [flt_size]; exact cellsF) rfl (all_one (flt_one _ _)) ?_))
      refine bodyPost_ret (results_rows Try.results33 _ _ w.heap.size (w.heap.size + 1) 24 26 (bcs none 0 0 0) (flt 6 j) _ _ rfl rfl ((Row.row r1b _).rowFar (by omega) _) (Row.row (r2b.rowFar (by omega) _) _) Try.underlying24 rfl (by rw [bcs_size]; exact cellsB) Try.underlying26 rfl (by rw [flt_size]; exact cellsF)) rfl ⟨rfl, ?_⟩
      exact blw_row (blw_row hbb (Nat.le_refl _) _) (by omega) _

set_option maxRecDepth 100000 in
set_option maxHeartbeats 4000000 in
theorem join_big (es : List (List UInt8 × Int)) (ls : List (List Bool)) (n : Nat) (hn : n ≤ 256) (hp : PV es ls n) (hbig : 131072 < ls.flatten.length) (A : Option Addr) (c : Nat) (w : World) (hS : BsG w w.heap.size A n es) :
    Calls Try.prog 33 #[.slice A n c] w fun e w' => e = .returned (.tuple #[.agg (bcs none 0 0 0), .agg (flt 14 (-1))]) ∧ Below w.heap.size w w' := by
  have h0 : decide ((256 : Int) < (n : Int)) = false := decide_eq_false (by omega)
  go_enter Try.func33, Try.ntmps33
  go_upto_region 1 with (fail)
  refine wp_world (F := fun W => Row W w.heap.size 24 (bcs none 0 0 0) ∧ Row W (w.heap.size + 1) 26 (flt 0 0) ∧ Below w.heap.size w W)
    ⟨(Row.newEq _ _ _ _ _ rfl rfl).alloc _, Row.newEq _ _ _ _ _ (by simp) rfl, ((Below.refl _ _).alloc (Nat.le_refl _) _).alloc (by simp) _⟩ ?_
  rintro W0 ⟨r1, r2, hb⟩
  go_wp2
  go_loopw [4, 19] (fun t i wr => ∃ j : Nat, j ≤ n ∧ i = .int .i64 j ∧ t = .int .i64 ((ls.take j).flatten.length : Nat) ∧ (ls.take j).flatten.length ≤ 131072 * j ∧ Row wr w.heap.size 24 (bcs none 0 0 0) ∧ Row wr (w.heap.size + 1) 26 (flt 0 0) ∧ Below w.heap.size w wr) (fun _ i _ => n - (intOf i).toNat)
  case atStart => exact ⟨0, Nat.zero_le _, rfl, rfl, Nat.le_refl _, r1, r2, hb⟩
  case round =>
    clear r1 r2 hb
    obtain ⟨j, hj, rfl, rfl, ht, r1, r2, hb⟩ := hrel
    by_cases hlt : j < n
    · obtain ⟨ad, l, Ai, ci, rfl, hbl, hget, k1, k2, k3, k4⟩ := (hS.below hb).at_ hp (Nat.le_refl _) hlt
      have hjn : j < n := by omega
      have hfs := flat_snoc ls j l hget
      have HFS := Lib.hid hfs
      obtain ⟨t, htt⟩ : ∃ t, t = (ls.take j).flatten.length := ⟨_, rfl⟩
      rw [← htt] at ht ⊢
      have HT := Lib.hid htt
      clear hfs htt hget
      go_upto_region 7 with (first
        | (refine wpList_store_row rfl 24 _ _ rfl wr.heap.size (bcs Ai (pack l).length ci l.length) rfl rfl 24 (bcs none 0 0 0) (Row.newEq _ _ _ _ _ rfl rfl) (by rw [bcs_size]; exact cellsB) rfl (all_one (bcs_one _ _ _ _)) ?_))
      refine wp_world (F := fun W => Row W wr.heap.size 24 (bcs Ai (pack l).length ci l.length) ∧ Row W w.heap.size 24 (bcs none 0 0 0) ∧ Row W (w.heap.size + 1) 26 (flt 0 0) ∧ Sl W W.heap.size Ai (pack l).length (bl (pack l)) ∧ Below w.heap.size w W) ⟨row_new1 _ _ _ _, r1.below (blw_new1 _ _ _) r1.lt, r2.below (blw_new1 _ _ _) r2.lt, (k3.wider hb.size).up (blw_new1 _ _ _), up_call hb (blw_new1 _ _ _)⟩ ?_
      generalize wr.heap.size = g
      clear k1 k2 k3 r1 r2 hb wr
      rintro W5 ⟨r5, r1, r2, k3, hb⟩

      go_wp2_with (first
        | (refine wpList_load_row rfl 24 _ rfl g rfl 24 (bcs Ai (pack l).length ci l.length) (0, 0) _ r5 Try.underlying24 rfl (by rw [bcs_size]; exact cellsB) ?_)
        | (go_at_call 15; refine (valid_yes (pack l) l (pack_rep l) k4 Ai ci _ k3).mono ?_; rintro e w6 ⟨rfl, hb6⟩; have c1 : w6.cell? ⟨g, 1, none⟩ = some (.int .i64 (l.length : Int)) := ((r5.below hb6 r5.lt).cell 1).trans rfl; have r1a := r1.below hb6 r1.lt; have r2a := r2.below hb6 r2.lt; have hba := up_call hb hb6; clear hb6))
      go_roundw
      case rel =>
        refine ⟨j + 1, by omega, by go_num, ?_, ?_, r1a, r2a, hba⟩
        · rw [HFS.out, List.length_append, ← HT.out]
          go_num
        · rw [HFS.out, List.length_append, ← HT.out]
          omega
      case measure => simp [intOf]; omega
    · obtain rfl : n = j := by omega
      rw [List.take_of_length_le (by rw [hp.1]; exact Nat.le_refl _)] at ht ⊢
      clear ht
      obtain ⟨t, htt⟩ : ∃ t, t = ls.flatten.length := ⟨_, rfl⟩
      rw [← htt] at hbig ⊢
      clear htt
      have t1 : decide ((131072 : Int) < (t : Int)) = true := decide_eq_true (by omega)
      have t1b : decide (131072 < t) = true := decide_eq_true (by omega)
      go_wp2_with (first
        | (go_at_call 36; refine (bfail_any 14 (-1) _).mono ?_; rintro e w2 ⟨rfl, hb2⟩; have r1b := r1.below hb2 r1.lt; have r2b := r2.below hb2 r2.lt; have hbb := up_call hb hb2; clear hb2)
        | (refine wpList_store_row rfl 24 _ _ rfl w.heap.size (bcs none 0 0 0) rfl rfl 24 (bcs none 0 0 0) r1b (by rw [bcs_size]; exact cellsB) rfl (all_one (bcs_one _ _ _ _)) ?_)
        | (refine wpList_store_row rfl 26 _ _ rfl (w.heap.size + 1) (flt 14 (-1)) rfl rfl 26 (flt 0 0) (r2b.rowFar (by omega) _) (by rw [flt_size]; exact cellsF) rfl (all_one (flt_one _ _)) ?_))
      refine bodyPost_ret (results_rows Try.results33 _ _ w.heap.size (w.heap.size + 1) 24 26 (bcs none 0 0 0) (flt 14 (-1)) _ _ rfl rfl ((Row.row r1b _).rowFar (by omega) _) (Row.row (r2b.rowFar (by omega) _) _) Try.underlying24 rfl (by rw [bcs_size]; exact cellsB) Try.underlying26 rfl (by rw [flt_size]; exact cellsF)) rfl ⟨rfl, ?_⟩
      exact blw_row (blw_row hbb (Nat.le_refl _) _) (by omega) _
end Go.Proofs.Ytbahkidkpbabdaa
