/-
  PROVED: the statement on digests of byte strings in two pieces (DigestInPieces), for data of at most 2^40 bytes. Conditions: those of its row: the table of constants reads as the program's text lays it.
-/
import Derived.Test.YtcippenhomhpbaaDoorWrites
import Derived.Test.YtcippenhomhpbaaDoorDrawn
import Derived.Deep.DeepCutAuto
namespace Go.Proofs.YtcippenhomhpbaaDoor.lawPieces
open Go.ChangeShapes Go.WideShapes Go.ChangeAt Go.RowKit

theorem sizedH : Sized Tryd.prog 30 := show (Tryd.prog.info? 30).map (·.size) = some (sizeT Tryd.prog 30) by kernel_rfl
theorem sizeTH : sizeT Tryd.prog 30 = 10 := by kernel_rfl
theorem aggH : AggT Tryd.prog 30 := .inl ⟨_, Tryd.underlying30⟩
theorem flat_piece (s : St) (all : List UInt8) (B : Option Addr) (k n : Nat) : Flat (.agg (piece s all B k n)) 10 := ⟨_, rfl, piece_size _ _ _ _ _, piece_one _ _ _ _ _⟩
theorem flat_flt (a b : Int) : Flat (.agg (flt a b)) 2 := ⟨_, rfl, flt_size _ _, flt_one _ _⟩
attribute [local go_sem ↓] wp_store_act wp_load_flat run_load_flat wp_store_flat
attribute [local go_sem] blkOf_ptr cells_agg sizedD sizeTD aggD sizedF sizeTF aggF sizedH sizeTH aggH flat_piece flat_flt isRow_alloc_eq isRow_set_eq rowAt_alloc_eq rowAt_drew isRow_drew

/-- the first piece -/
theorem write_first (A : Option Addr) (L : List UInt8) (n : Nat) (h : L.length = n) (c : Nat) (w : World) (hk : KIs w) (hL : Sl w w.heap.size A n (bl L)) (hc : n ≤ c) (hcm : c ≤ maxLen) (hl : n ≤ 1099511627776) :
    Calls Tryd.prog 13 #[.agg (hsc first (.slice none 0 0) 0), .slice A n c] w fun e w' =>
      ∃ B k, e = .returned (.tuple #[.agg (piece first L B k n), .agg (flt 0 0)]) ∧ w'.ownsRow w.heap.size 5 1 (.slice B (n % 64) k) (n % 64) (bl (rest L)) ∧ Below w.heap.size w w' := by
  subst h
  refine (write_piece first 0 none [] 0 A L c w hk (by rw [bl_nil]; exact Sl.nil _ _ _) hL hc hcm (okH_true (by decide) (by decide) (by decide)) (by omega)).mono ?_
  rintro e w' ⟨B, k, rfl, ho, hb⟩
  rw [Nat.zero_add, List.nil_append]
  rw [List.nil_append] at ho
  exact ⟨B, k, rfl, ho, hb⟩
/-- the second piece -/
theorem write_second (L : List UInt8) (cut : Nat) (hcut : cut ≤ L.length) (TA : Option Addr) (tc : Nat) (A : Option Addr) (c : Nat) (w : World) (hk : KIs w) (hS : Sl w w.heap.size TA (cut % 64) (bl (rest (L.take cut)))) (hL : Sl w w.heap.size A (L.length - cut) (bl (L.drop cut))) (hc : L.length - cut ≤ c) (hcm : c ≤ maxLen) (hl : L.length ≤ 1099511627776) :
    Calls Tryd.prog 13 #[.agg (piece first (L.take cut) TA tc cut), .slice A (L.length - cut) c] w fun e w' =>
      ∃ B k, e = .returned (.tuple #[.agg (piece first L B k L.length), .agg (flt 0 0)]) ∧ w'.ownsRow w.heap.size 5 1 (.slice B (L.length % 64) k) (L.length % 64) (bl (rest L)) ∧ Below w.heap.size w w' := by
  have h1 : (L.take cut).length = cut := by rw [List.length_take]; omega
  have h2 : (L.drop cut).length = L.length - cut := List.length_drop
  have key := write_again first (L.take cut) cut TA tc A (L.drop cut) c w hk (by rw [h1]; exact hS) (by rw [h2]; exact hL) (by rw [h2]; exact hc) hcm (okH_true (by omega) (by omega) (by omega)) (by omega)
  rw [h2, List.take_append_drop] at key
  refine key.mono ?_
  rintro e w' ⟨B, k, rfl, ho, hb⟩
  refine ⟨B, k, ?_, ho, hb⟩
  rw [show cut + (L.length - cut) = L.length by omega]

set_option maxRecDepth 100000 in
set_option maxHeartbeats 4000000 in
/-- the place of the cut lies outside -/
theorem walk_out (A : Option Addr) (n c : Nat) (cut : Int) (w : World) (hK : KIs w) (hcut : cut < 0 ∨ (n : Int) < cut) :
    Calls Tryd.prog 5 #[.slice A n c, .int .i64 cut] w fun e w' => e = .returned (.bool true) ∧ Below w.heap.size w w' := by
  go_enter Tryd.func5, Tryd.ntmps5
  go_wp2_with (first
    | (go_at_call 10; refine (digests_any _ hK).mono ?_; rintro e w2 ⟨rfl, hb2⟩)
    | (go_at_call 22; refine (in_no cut 0 n hcut _).mono ?_; rintro e w3 ⟨rfl, rfl⟩))
  go_ret
  exact ⟨rfl, hb2⟩

set_option maxRecDepth 100000 in
set_option maxHeartbeats 4000000 in
/-- the place of the cut lies inside -/
theorem walk_in (A : Option Addr) (L : List UInt8) (c : Nat) (cut : Nat) (w : World) (hK : KIs w) (hL : Sl w w.heap.size A L.length (bl L)) (hc : L.length ≤ c) (hcm : c ≤ maxLen) (hl : L.length ≤ 1099511627776) (hcut : cut ≤ L.length) :
    Calls Tryd.prog 5 #[.slice A L.length c, .int .i64 cut] w fun e w' => e = .returned (.bool true) ∧ Below w.heap.size w w' := by
  have HK := Lib.hid hK
  have HCM := Lib.hid hcm
  have hg := hK.lt
  clear hK hcm
  go_enter Tryd.func5, Tryd.ntmps5
  go_upto_region 5 with (first
    | (go_at_call 10; refine (digests_any _ HK.out).mono ?_; rintro e w2 ⟨rfl, hb2⟩)
    | (go_at_call 22; refine (in_yes cut 0 L.length (by omega) (by omega) _).mono ?_; rintro e w0 ⟨rfl, rfl⟩))
  have hT := hL.first hcut
  have hD := hL.cut hcut hc
  rw [bl_take] at hT
  rw [bl_drop] at hD
  have hcc : cut ≤ c := by omega
  go_cut [5, 6] (fun v5 v6 W => ∃ g f B k, v5 = .pointer (some ⟨g, 0, none⟩) ∧ v6 = .pointer (some ⟨f, 0, none⟩) ∧ Holds W g (piece first (L.take cut) B k cut) ∧ Holds W f (flt 0 0) ∧ Sl W W.heap.size B (cut % 64) (bl (rest (L.take cut))) ∧ Below w.heap.size w W ∧ w.heap.size ≤ g ∧ g ≠ f)
  case first =>
    go_region_law (first
      | (go_simp; go_at_call 16; go_must (refine (start_any _).mono ?_; rintro e w3 ⟨rfl, hb3⟩; have hbS : Below w.heap.size w w3 := (by first | exact up_call hb2.drew hb3 | exact up_call (up_alloc hb2.drew _) hb3 | exact up_call (up_alloc (up_alloc hb2.drew _) _) hb3); (try have i1 := keep_new_d hb3); (try have i2 := keep_new2_d hb3); have q3 := hb3.size; (try simp at q3); (try simp at i1); (try simp at i2)))
      | (go_simp; go_at_call 13; go_must (apply Calls.mono (by
          first
            | exact write_first A (L.take cut) cut (by rw [List.length_take]; omega) c _ (KIs.keep HK.out hbS hg) (hT.up hbS) hcc HCM.out (by omega)
            | exact write_first A (L.take cut) cut (by rw [List.length_take]; omega) c _ (KIs.keep HK.out (up_alloc hbS _) hg) (hT.up (up_alloc hbS _)) hcc HCM.out (by omega)
            | exact write_first A (L.take cut) cut (by rw [List.length_take]; omega) c _ (KIs.keep HK.out (up_alloc (up_alloc hbS _) _) hg) (hT.up (up_alloc (up_alloc hbS _) _)) hcc HCM.out (by omega)); rintro e w4 ⟨B, k, rfl, ho4, hb4⟩; have hbW : Below w.heap.size w w4 := (by first | exact up_call hbS hb4 | exact up_call (up_alloc hbS _) hb4 | exact up_call (up_alloc (up_alloc hbS _) _) hb4); have q4 := hb4.size; (try simp at q4); (try have j1 := IsRow.keep i1 hb4); (try have j1 := IsRow.keep (i1.alloc _) hb4); (try have j2 := IsRow.keep i2 hb4); (try have j3 := keep_new hb4); (try have j4 := keep_new2 hb4); (try simp at j3); (try simp at j4); (try have n1 := Nat.ne_of_lt j1.lt); (try have m1 := n1.symm); (try have n2 := Nat.ne_of_lt i1.lt); (try have m2 := n2.symm); (try have n3 := Nat.ne_of_lt j3.lt); (try have m3 := n3.symm))))
    all_goals
      go_wp2_with fail
      go_meet
      have y2 := hb2.size
      have yS := hbS.size
      have yW := hbW.size
      refine ⟨_, _, B, k, rfl, rfl, holds_far (by omega) (holds_same (n := 10) ?_), holds_same (n := 2) (isRow_set (by omega) ?_),
        Sl.of_own (own_far (own_far (by first | exact ho4 | exact ho4.alloc _ | exact (ho4.alloc _).alloc _) (fun b hb => by have h := ho4.lt b hb; (try simp at h); omega) _) (fun b hb => by have h := ho4.lt b hb; (try simp at h); omega) _),
        up_row (up_row (by first | exact hbW | exact up_alloc hbW _ | exact up_alloc (up_alloc hbW _) _) (by omega) _) (by omega) _, by omega, by omega⟩
      · first
          | assumption
          | (simp [isRow_alloc_eq]; done)
          | (rw [isRow_alloc_eq, if_neg (by omega)]; assumption)
      · first
          | assumption
          | (simp [isRow_alloc_eq]; done)
          | (rw [isRow_alloc_eq, if_neg (by omega)]; assumption)
  case rest =>
    obtain ⟨g, f, B, k, rfl, rfl, h6, f6, hS6, hb6, hgb, hgf⟩ := hcut
    clear hT hb2
    have i6 := h6.is (n := 10) (piece_size _ _ _ _ _)
    have a6 := h6.at
    have n1 := Nat.ne_of_lt h6.lt
    have n2 := Nat.ne_of_lt f6.lt
    have n3 := n1.symm
    obtain ⟨A', hA'⟩ : ∃ A', (if c = cut then A else Option.map (fun x => x.add cut) A) = A' := ⟨_, rfl⟩
    rw [hA'] at hD
    go_upto_region 6 with fail
    go_cut [7] (fun v7 W => ∃ q B k, v7 = .pointer (some ⟨q, 0, none⟩) ∧ Holds W g (piece first L B k L.length) ∧ Holds W f (flt 0 0) ∧ Holds W q (flt 0 0) ∧ Sl W W.heap.size B (L.length % 64) (bl (rest L)) ∧ Below w.heap.size w W)
    case first =>
      have hr6 : Below wc.heap.size wc wc := Below.refl _ _
      go_region_law (first
        | (go_simp; go_at_call 13; go_must (apply Calls.mono (by
            first
              | exact write_second L cut hcut B k _ _ _ (KIs.keep HK.out hb6.drew hg) hS6.drew (hD.up hb6).drew (by omega) (by have := HCM.out; omega) hl
              | exact write_second L cut hcut B k _ _ _ (KIs.keep HK.out (up_alloc hb6 _).drew hg) (hS6.up (up_alloc hr6 _)).drew (hD.up (up_alloc hb6 _)).drew (by omega) (by have := HCM.out; omega) hl); rintro e w8 ⟨B8, k8, rfl, ho8, hb8⟩; have hbW : Below wc.heap.size wc w8 := (by first | exact up_call hr6.drew hb8 | exact up_call (up_alloc hr6 _).drew hb8); have q8 := hb8.size; (try simp at q8); have i8 := i6.keep hbW; have f8 := f6.below hbW; (try have j3 := keep_new_d hb8); (try simp at j3); have n4 := Nat.ne_of_lt i8.lt; have n5 := Nat.ne_of_lt f8.lt; have m4 := n4.symm; (try have n6 := Nat.ne_of_lt j3.lt); (try have m6 := n6.symm))))
      all_goals
        go_wp2_with fail
        go_meet
        have y6 := hb6.size
        have yg := h6.lt
        have yf := f6.lt
        have hb8' := up_call hb6 hbW
        refine ⟨_, B8, k8, rfl, holds_far (by omega) (holds_same (n := 10) ?_), holds_far (by omega) (holds_far (by omega) ?_), holds_same (n := 2) (isRow_set (by omega) ?_),
          Sl.of_own (own_far (own_far (by first | exact ho8 | exact ho8.alloc _) (fun b hb => by have h := ho8.lt b hb; (try simp at h); omega) _) (fun b hb => by have h := ho8.lt b hb; (try simp at h); omega) _),
          up_row (up_row (by first | exact hb8' | exact up_alloc hb8' _) (by omega) _) (by omega) _⟩
        · first
            | assumption
            | (rw [isRow_alloc_eq, if_neg (by omega)]; assumption)
        · first
            | assumption
            | exact f8.alloc _
        · first
            | assumption
            | (simp [isRow_alloc_eq]; done)
    case rest =>
      obtain ⟨q, B8, k8, rfl, h8, f8, q8, hS8, hb8⟩ := hcut
      clear i6 a6 n1 n2 n3 hD h6 f6 hS6 hb6
      have HS := Lib.hid (sumOf_length L)
      have i8 := h8.is (n := 10) (piece_size _ _ _ _ _)
      have a8 := h8.at
      go_upto_region 8 with (first
        | (go_at_call 14; refine (finish_all L B8 k8 _ (KIs.keep HK.out hb8 hg) hS8 hl).mono ?_; rintro e w9 ⟨rfl, hb9'⟩; have f9 := f8.below (hb9'.mono (Nat.le_refl _)); have q9 := q8.below hb9'; have hb9 := up_call hb8 hb9')
        | (refine wpList_store_row rfl 24 _ _ rfl w9.heap.size (bs (sumOf L)) rfl rfl 24 zD ((Row.newEq _ _ _ _ _ rfl zD_lit).alloc _) (by rw [bs_size, HS.out]; exact cellsD) (by rw [zD_size, bs_size, HS.out]) (all_one (bs_one _)) ?_)
        | (refine wpList_store_row rfl 32 _ _ rfl (w9.heap.size + 1) (flt 0 0) rfl rfl 32 (flt 0 0) (Row.rowFar (Row.newEq _ _ _ _ _ (by simp) rfl) (by omega) _) (by rw [flt_size]; exact cellsF) rfl (all_one (flt_one _ _)) ?_))
      have nf := f9.lt
      have nq := q9.lt
      refine wp_world (F := fun W => Holds W f (flt 0 0) ∧ Holds W q (flt 0 0) ∧ Holds W w9.heap.size (bs (sumOf L)) ∧ Holds W (w9.heap.size + 1) (flt 0 0) ∧ Below w.heap.size w W) ⟨holds_far (by omega) (holds_far (by omega) ((f9.alloc _).alloc _)), holds_far (by omega) (holds_far (by omega) ((q9.alloc _).alloc _)),
        holds_far (by omega) (holds_same (n := 32) ((isRow_alloc_eq _ _ _ _ _).2 (by rw [if_neg (by simp)]; exact isRow_new rfl rfl))), holds_same (n := 2) (isRow_set (by omega) (isRow_new (by simp) rfl)),
        up_row (up_row (up_alloc (up_alloc hb9 _) _) hb9.size _) (by have := hb9.size; omega) _⟩ ?_
      generalize w9.heap.size = g9
      clear hb9 hb9' f9 q9 nf nq w9 h8 f8 q8 hS8 hb8 i8 a8
      rintro w9 ⟨f9, q9, d9, e9, hb9⟩
      have hz := eql_bs (sumOf L) (sumOf L) (sumOf_length _) (sumOf_length _)
      have a1 : w9.drew.cell? ⟨f, 0, none⟩ = some (.int .i64 0) := (f9.cell 0).trans rfl
      have a2 : w9.drew.cell? ⟨q, 0, none⟩ = some (.int .i64 0) := (q9.cell 0).trans rfl
      have a3 : w9.drew.cell? ⟨g9 + 1, 0, none⟩ = some (.int .i64 0) := (e9.cell 0).trans rfl
      have i9 := d9.is (n := 32) (by rw [bs_size, HS.out])
      have j9 := d9.at
      go_region_law (first
        | (go_simp; go_at_call 11; go_must (refine (sum_any A L c _ (KIs.keep HK.out hb9.drew hg) ((hL.up hb9).drew) hc HCM.out (by omega)).mono ?_; rintro e w10 ⟨rfl, hb10⟩; have d10 := (Holds.drew d9).below hb10; have i10 := d10.is (n := 32) (by rw [bs_size, HS.out]); have j10 := d10.at)))
      all_goals
        simp only [List.getElem_toArray, List.getElem_cons_succ, List.getElem_cons_zero, Act.put, List.setIfInBounds_toArray, List.set_cons_succ, List.set_cons_zero]
        go_wp2
        go_ret
        exact ⟨rfl, up_call hb9.drew hb10⟩
end Go.Proofs.YtcippenhomhpbaaDoor.lawPieces
