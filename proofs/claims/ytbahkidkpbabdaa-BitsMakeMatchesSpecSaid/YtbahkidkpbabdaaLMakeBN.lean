/-
  The walks of BitsMakeMatchesSpec: BN
-/
import Derived.Test.YtbahkidkpbabdaaLMakeA
namespace Go.Proofs.Ytbahkidkpbabdaa.lawMake
open Go.RowKit Go.Proofs.Ytbahkidkpbabdaa.lawNum
attribute [local go_sem ↓] wp_load_flat run_load_flat
attribute [local go_sem] blkOf_ptr cells_agg sizedF sizeTF aggF

set_option maxRecDepth 100000 in
set_option maxHeartbeats 4000000 in
theorem walk_bn (s : ByteArray) (hs : s.size ≤ 131072) (q : Nat) (hu : UpTo s q) (hq : q < s.size) (L : List UInt8) (k : Int) (hG : ¬ Good L k) (A : Option Addr) (cp : Nat) (w : World) (hS : Sl w w.heap.size A L.length (bl L)) :
    Calls Try.prog 3 #[.string s, .agg (bcs A L.length cp k)] w fun e w' => e = .returned (.bool true) ∧ Below w.heap.size w w' := by
  have HMK := Lib.hid (make_at s hs q hu hq)
  have HO := Lib.hid hu.2.1
  have HE := Lib.hid (hu.2.2 hq)
  obtain ⟨l2, e2⟩ : ∃ l2, l2 = txB s.data.toList := ⟨_, rfl⟩
  have hln2 : l2.length = s.size := by rw [e2, txB_length]; simp
  have E2 := Lib.hid e2
  have HLN2 := Lib.hid hln2
  have hl2m : l2.length ≤ 1000000 := by omega
  have hl2b : l2.length ≤ 131072 := by omega
  have t1 : decide ((131072 : Int) < (s.size : Int)) = false := decide_eq_false (by omega)
  have t1b : decide (131072 < s.size) = false := decide_eq_false (by omega)
  clear e2 hln2 hu
  obtain ⟨i0, hi, hz0, hz1, hz2⟩ := info_parts infoI
  have HTX := Lib.hid (text_bad L k hG)
  have HOK := Lib.hid (ok_no L k hG)
  have HVA := Lib.hid (valid_no L k hG)
  have q2 := neq_same 6 (-1)
  clear hG
  have q1 := eq_same 6 q
  go_enter Try.func3, Try.ntmps3
  go_upto_region 1 with (fail)
  refine wp_world (F := fun W => Row W w.heap.size 24 (bcs A L.length cp k) ∧ Sl W W.heap.size A L.length (bl L) ∧ Below w.heap.size w W) ⟨Row.new _ _ _, hS.up ((Below.refl _ _).alloc (Nat.le_refl _) _), (Below.refl _ _).alloc (Nat.le_refl _) _⟩ ?_
  clear hS
  rintro W0 ⟨r0, hS, hb⟩
  go_upto_region 2 with (first
    | (go_at_call 11; refine (HMK.out _).mono ?_; rintro e wc0 ⟨rfl, hbc⟩)
    | (refine wpList_store_row rfl 24 _ _ rfl wc0.heap.size (bcs none 0 0 0) rfl rfl 24 (bcs none 0 0 0) ((Row.newEq _ _ _ _ _ rfl rfl).alloc _) (by rw [bcs_size]; exact cellsB) rfl (all_one (bcs_one _ _ _ _)) ?_)
    | (refine wpList_store_row rfl 26 _ _ rfl (wc0.heap.size + 1) (flt 6 q) rfl rfl 26 (flt 0 0) (Row.rowFar (Row.newEq _ _ _ _ _ (by simp) rfl) (by omega) _) (by rw [flt_size]; exact cellsF) rfl (all_one (flt_one _ _)) ?_))
  have hkk := fun o1 o2 x y => up_call hbc (blw_new2 wc0 o1 o2 x y)
  refine wp_world (F := fun W => Row W w.heap.size 24 (bcs A L.length cp k) ∧ Sl W W.heap.size A L.length (bl L) ∧ Row W wc0.heap.size 24 (bcs none 0 0 0) ∧ Row W (wc0.heap.size + 1) 26 (flt 6 q) ∧ Below w.heap.size w W) ⟨r0.below (hkk _ _ _ _) r0.lt, hS.up (hkk _ _ _ _), row_new2a _ _ _ _ _ _ _, row_new2b _ _ _ _ _ _ _, up_call hb (hkk _ _ _ _)⟩ ?_
  generalize wc0.heap.size = g0
  clear hkk hbc hb r0 hS wc0  W0
  rintro Wg0 ⟨r0, hS, r1, f1, hb⟩
  go_upto_region 3 with (first
    | (refine wpList_load_row rfl 24 _ rfl w.heap.size rfl 24 (bcs A L.length cp k) (0, 0) _ r0 Try.underlying24 rfl (by rw [bcs_size]; exact cellsB) ?_)
    | (go_at_call 12; refine (HTX.out A cp _ hS).mono ?_; rintro e wc1 ⟨rfl, hbc⟩)
    | (refine wpList_store_row rfl 26 _ _ rfl wc1.heap.size (flt 6 (-1)) rfl rfl 26 (flt 0 0) (Row.newEq _ _ _ _ _ rfl rfl) (by rw [flt_size]; exact cellsF) rfl (all_one (flt_one _ _)) ?_))
  have hkk := fun o1 x => up_call hbc (blw_new1 wc1 o1 x)
  refine wp_world (F := fun W => Row W w.heap.size 24 (bcs A L.length cp k) ∧ Row W g0 24 (bcs none 0 0 0) ∧ Row W (g0 + 1) 26 (flt 6 q) ∧ Sl W W.heap.size A L.length (bl L) ∧ Row W wc1.heap.size 26 (flt 6 (-1)) ∧ Below w.heap.size w W) ⟨r0.below (hkk _ _) r0.lt, r1.below (hkk _ _) r1.lt, f1.below (hkk _ _) f1.lt, hS.up (hkk _ _), row_new1 _ _ _ _, up_call hb (hkk _ _)⟩ ?_
  generalize wc1.heap.size = g1
  clear hkk hbc hb r0 r1 f1 hS wc1  Wg0
  rintro Wg1 ⟨r0, r1, f1, hS, f2, hb⟩
  go_upto_region 6 with (first
    | (refine wpList_load_rowG (by (try unfold Region.wanted); (try unfold yielded); (try unfold Act.put); simp) 24 _ rfl w.heap.size rfl 24 (bcs A L.length cp k) (0, 0) _ r0 Try.underlying24 rfl (by rw [bcs_size]; exact cellsB) ?_)
    | (go_at_call 13; refine (HOK.out A cp _ hS).mono ?_; rintro e w3 ⟨rfl, hb3⟩)
    | (go_at_call 14; refine (strings_any _).mono ?_; rintro e w4 ⟨rfl, hb4⟩; have kk4 := up_call hb3 hb4; have r04 := r0.below kk4 r0.lt; have hS4 := hS.up kk4)
    | (refine wpList_load_rowG (by (try unfold Region.wanted); (try unfold yielded); (try unfold Act.put); simp) 24 _ rfl w.heap.size rfl 24 (bcs A L.length cp k) (0, 0) _ r04 Try.underlying24 rfl (by rw [bcs_size]; exact cellsB) ?_)
    | (go_at_call 15; refine (HVA.out A cp _ hS4).mono ?_; rintro e w5 ⟨rfl, hb5⟩; have kk5 := up_call kk4 hb5; have a5 : w5.cell? ⟨g1, 0, none⟩ = some (.int .i64 6) := ((f2.below kk5 f2.lt).cell 0).trans rfl))
  refine wp_world (F := fun W => Row W w.heap.size 24 (bcs A L.length cp k) ∧ Row W g0 24 (bcs none 0 0 0) ∧ Row W (g0 + 1) 26 (flt 6 q) ∧ Row W g1 26 (flt 6 (-1)) ∧ Sl W W.heap.size A L.length (bl L) ∧ Below w.heap.size w W) ⟨r0.below kk5 r0.lt, r1.below kk5 r1.lt, f1.below kk5 f1.lt, f2.below kk5 f2.lt, hS.up kk5, up_call hb kk5⟩ ?_
  clear a5 kk5 hb5 kk4 hb4 hb3 r04 hS4 hb r0 r1 f1 f2 hS w5 w4 w3 Wg1
  rintro W6 ⟨r0, r1, f1, f2, hS, hb⟩
  go_cut [51] (fun s51 W => s51 = .bool false ∧ Row W g0 24 (bcs none 0 0 0) ∧ Row W (g0 + 1) 26 (flt 6 q) ∧ Below w.heap.size w W)
  case first =>
    have i1 := f2.is (n := 2) rfl
    have j1 := f2.at
    have i1' := f2.drew.is (n := 2) rfl
    have j1' := f2.drew.at
    go_region_law (first
      | (go_simp; go_at_call 16; go_must (refine (at_any 6 (-1) _).mono ?_; rintro e w7 ⟨rfl, hb7⟩; have f27 := f2.drew.below hb7 f2.lt; have i2 := f27.is (n := 2) rfl; have j2 := f27.at)))
    all_goals
      simp only [List.getElem_toArray, List.getElem_cons_succ, List.getElem_cons_zero, Act.put, List.setIfInBounds_toArray, List.set_cons_succ, List.set_cons_zero]
      go_wp2_with fail
      go_meet
      exact ⟨rfl, r1.drew.below hb7 r1.lt, f1.drew.below hb7 f1.lt, hb.drew.trans (hb7.mono hb.size)⟩
  case rest =>
    clear r0 r1 f1 f2 hS hb W6
    obtain ⟨rfl, r1, f1, hb⟩ := hcut
    go_upto_region 12 with (fail)
    have n1 := f1.lt
    have n0 := hb.size
    obtain ⟨b7, e7⟩ : ∃ b7, b7 = wc.heap.size := ⟨_, rfl⟩
    refine wp_world (F := fun W => Row W g0 24 (bcs none 0 0 0) ∧ Row W (g0 + 1) 26 (flt 6 q) ∧ g0 + 1 < b7 ∧ b7 ≤ W.heap.size ∧ w.heap.size ≤ b7 ∧ Below w.heap.size w W) ⟨r1, f1, (by rw [e7]; exact n1), (by rw [e7]; exact Nat.le_refl _), (by rw [e7]; exact n0), hb⟩ ?_
    clear e7 n1 n0 r1 f1 hb wc
    rintro W8 ⟨r1, f1, n1, n2, n3, hb⟩
    go_wp2
    go_loopw [12, 13] (fun v i wr => ∃ j : Nat, j ≤ q ∧ i = .int .i64 j ∧ wr.ownsRow b7 3 1 v j (il (l2.take j)) ∧ Row wr g0 24 (bcs none 0 0 0) ∧ Row wr (g0 + 1) 26 (flt 6 q) ∧ b7 ≤ wr.heap.size ∧ Below w.heap.size w wr) (fun _ i _ => s.size - (intOf i).toNat)
    case atStart => exact ⟨0, Nat.zero_le _, rfl, by rw [List.take_zero, il_nil]; exact World.ownsRow_nil _ _ _ _, r1, f1, n2, hb⟩
    case round =>
      clear r1 f1 n2 hb
      obtain ⟨j, hj, rfl, ho, r1, f1, n2, hb⟩ := hrel
      by_cases hlt : j < q
      · have hjs : j < s.size := by omega
        have hjl : j < l2.length := by rw [HLN2.out]; exact hjs
        rcases HO.out j hjs hlt with h | h
        · have hx : ((s[j].toNat : Nat) : Int) = 48 := by rw [h]; rfl
          have hbt : (0 : Int) = (((l2.getD j false).toNat : Nat) : Int) := by rw [E2.out, bit_at s j hjs 48 h false rfl]; rfl
          have HN := Lib.hid (il_snoc l2 j hjl 0 hbt)
          clear hbt h
          go_wp2_with (first
            | (at_builtin; refine wpList_app _ rfl _ _ _ rfl b7 3 i0 (.int .i64 0) 8 Try.underlying35 hi hz0 hz1 hz2 rfl _ j _ rfl (ho.alloc _) (wr.heap.size + 1) _ 1 _ [_] rfl (Sl.one _ _ _) (fun u hu => by obtain rfl := List.mem_singleton.1 hu; rfl) (by unfold maxLen; omega) (by omega) (Nat.le_trans n2 (by simp)) ?_; intro v2 w2 hown2 hg2))
          go_roundw
          case rel =>
            have kk2 := blw_grown ((Below.refl b7 wr).alloc n2 _) hg2 (Nat.le_trans n2 (by simp)) (ho.alloc _) (Nat.le_refl _)
            exact ⟨j + 1, by omega, by go_num, by rw [HN.out]; exact hown2, r1.below kk2 (by omega), f1.below kk2 n1, Nat.le_trans n2 kk2.size, hb.trans (kk2.mono n3)⟩
          case measure => simp [intOf]; omega
        · have hx : ((s[j].toNat : Nat) : Int) = 49 := by rw [h]; rfl
          have hbt : (1 : Int) = (((l2.getD j false).toNat : Nat) : Int) := by rw [E2.out, bit_at s j hjs 49 h true rfl]; rfl
          have HN := Lib.hid (il_snoc l2 j hjl 1 hbt)
          clear hbt h
          go_wp2_with (first
            | (at_builtin; refine wpList_app _ rfl _ _ _ rfl b7 3 i0 (.int .i64 0) 8 Try.underlying35 hi hz0 hz1 hz2 rfl _ j _ rfl (ho.alloc _) (wr.heap.size + 1) _ 1 _ [_] rfl (Sl.one _ _ _) (fun u hu => by obtain rfl := List.mem_singleton.1 hu; rfl) (by unfold maxLen; omega) (by omega) (Nat.le_trans n2 (by simp)) ?_; intro v2 w2 hown2 hg2))
          go_roundw
          case rel =>
            have kk2 := blw_grown ((Below.refl b7 wr).alloc n2 _) hg2 (Nat.le_trans n2 (by simp)) (ho.alloc _) (Nat.le_refl _)
            exact ⟨j + 1, by omega, by go_num, by rw [HN.out]; exact hown2, r1.below kk2 (by omega), f1.below kk2 n1, Nat.le_trans n2 kk2.size, hb.trans (kk2.mono n3)⟩
          case measure => simp [intOf]; omega
      · obtain rfl : j = q := by omega
        obtain ⟨e1, e2⟩ := HE.out
        have hx1 : ((s[j].toNat : Nat) : Int) ≠ 48 := fun h => e1 (UInt8.toNat_inj.1 (by show s[j].toNat = 48; omega))
        have hx2 : ((s[j].toNat : Nat) : Int) ≠ 49 := fun h => e2 (UInt8.toNat_inj.1 (by show s[j].toNat = 49; omega))
        have k1 : (((s[j].toNat : Nat) : Int) == 48) = false := beq_eq_false_iff_ne.2 hx1
        have k2 : (((s[j].toNat : Nat) : Int) != 48) = true := bne_iff_ne.2 hx1
        have k3 : (((s[j].toNat : Nat) : Int) == 49) = false := beq_eq_false_iff_ne.2 hx2
        have k4 : (((s[j].toNat : Nat) : Int) != 49) = true := bne_iff_ne.2 hx2
        clear hx1 hx2 e1 e2 ho
        go_upto_region 19 with (fail)
        have i1 := f1.is (n := 2) rfl
        have j1 := f1.at
        have i1' := f1.drew.is (n := 2) rfl
        have j1' := f1.drew.at
        go_region_law (first
          | (go_simp; go_at_call 16; go_must (refine (at_any 6 j _).mono ?_; rintro e w13 ⟨rfl, hb13⟩; have f13 := f1.drew.below hb13 f1.lt; have i2 := f13.is (n := 2) rfl; have j2 := f13.at; have x13 := r1.drew.below hb13 r1.lt; have x0 : w13.cell? ⟨g0, 0, none⟩ = some (.slice none 0 0) := (x13.cell 0).trans rfl; have x1 : w13.cell? ⟨g0, 1, none⟩ = some (.int .i64 0) := (x13.cell 1).trans rfl))
          | (go_simp; go_at_call 17; go_must (refine (same_none _).mono ?_; rintro e w14 ⟨rfl, hb14⟩)))
        all_goals
          simp only [List.getElem_toArray, List.getElem_cons_succ, List.getElem_cons_zero, Act.put, List.setIfInBounds_toArray, List.set_cons_succ, List.set_cons_zero]
          go_wp2_with fail
          go_ret
          exact ⟨rfl, up_call (hb.drew.trans (hb13.mono hb.size)) hb14⟩
end Go.Proofs.Ytbahkidkpbabdaa.lawMake
