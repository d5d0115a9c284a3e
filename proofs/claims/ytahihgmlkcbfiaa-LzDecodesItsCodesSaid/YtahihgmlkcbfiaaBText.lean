/-
  The contracts of bits.Text.
-/
import Derived.Test.YtahihgmlkcbfiaaBMake
namespace Go.Proofs.Ytahihgmlkcbfiaa
open Go.RowKit

/-- the letter of a bit, and the text of bits -/
def chB (b : Bool) : UInt8 := if b = true then 49 else 48
def txL (l : List Bool) : List UInt8 := l.map chB
def txS (l : List Bool) : ByteArray := ⟨(txL l).toArray⟩
theorem txL_length (l : List Bool) : (txL l).length = l.length := by simp [txL]
theorem txL_take (l : List Bool) (j : Nat) (b : Bool) (h : j < l.length) (hb : l.getD j false = b) : txL (l.take (j + 1)) ++ List.replicate (l.length - (j + 1)) 0 = (txL (l.take j) ++ List.replicate (l.length - j) 0).set j (chB b) := by
  have h1 : l.length - j = (l.length - (j + 1)) + 1 := by omega
  have hl : (txL (l.take j)).length = j := by rw [txL_length, List.length_take]; omega
  rw [h1, List.replicate_succ, List.set_append_right _ _ (by omega), hl, Nat.sub_self, List.set_cons_zero, List.take_succ_eq_append_getElem h]
  have h2 : l[j] = b := by
    rw [List.getD_eq_getElem?_getD, List.getElem?_eq_getElem h] at hb
    exact hb
  simp [txL, h2]

set_option maxRecDepth 100000 in
set_option maxHeartbeats 4000000 in
theorem text_bad (L : List UInt8) (k : Int) (hG : ¬ Good L k) (A : Option Addr) (c : Nat) (w : World) (hS : Sl w w.heap.size A L.length (bl L)) :
    Calls Try.prog 62 #[.agg (bcs A L.length c k)] w fun e w' => e = .returned (.tuple #[.string ⟨#[]⟩, .agg (flt 6 (-1))]) ∧ Below w.heap.size w w' := by
  go_enter Try.func62, Try.ntmps62
  go_upto_region 1 with (fail)
  refine wp_world (F := fun W => Row W w.heap.size 43 (bcs A L.length c k) ∧ Row W (w.heap.size + 1) 25 (flt 0 0) ∧ Below w.heap.size w W)
    ⟨(Row.new _ _ _).alloc _, Row.newEq _ _ _ _ _ (by simp) rfl, ((Below.refl _ _).alloc (Nat.le_refl _) _).alloc (by simp) _⟩ ?_
  rintro W0 ⟨r0, r2, hb0⟩
  have hS0 := (hS.below hb0).wider hb0.size
  clear hS
  go_wp2_with (first
    | (refine wpList_load_row rfl 43 _ rfl w.heap.size rfl 43 (bcs A L.length c k) (0, 0) _ r0 Try.underlying43 rfl (by rw [bcs_size]; exact cellsB) ?_)
    | (go_at_call 46; refine (valid_no L k hG A c _ hS0).mono ?_; rintro e w1 ⟨rfl, hb1⟩; have r2a := r2.below hb1 r2.lt; have hba := up_call hb0 hb1; clear hb1)
    | (refine wpList_store_row rfl 25 _ _ rfl (w.heap.size + 1) (flt 6 (-1)) rfl rfl 25 (flt 0 0) r2a (by rw [flt_size]; exact cellsF) rfl (all_one (flt_one _ _)) ?_))
  refine bodyPost_ret (results_tmp_row Try.results62 _ _ _ (w.heap.size + 1) 25 (flt 6 (-1)) _ rfl rfl (Row.row r2a _) Try.underlying25 rfl (by rw [flt_size]; exact cellsF)) rfl ⟨rfl, ?_⟩
  exact blw_row hba (by omega) _

set_option maxRecDepth 100000 in
set_option maxHeartbeats 4000000 in
theorem text_ok (L : List UInt8) (l : List Bool) (hR : Rep L l) (hl : l.length ≤ 131072) (A : Option Addr) (c : Nat) (w : World) (hS : Sl w w.heap.size A L.length (bl L)) :
    Calls Try.prog 62 #[.agg (bcs A L.length c l.length)] w fun e w' => e = .returned (.tuple #[.string (txS l), .agg (flt 0 0)]) ∧ Below w.heap.size w w' := by
  have HT := Lib.hid hR
  have hln := hR.len
  have hl1 : L.length ≤ 16384 := by omega
  have hl2 : l.length ≤ 8 * L.length := by omega
  clear hln hR
  have hmk : ∀ w, (Instr.makeSlice 22 (.int .i64 (l.length : Int)) (.int .i64 (l.length : Int))).run Try.prog w = .ok (.slice (some ⟨w.heap.size, 0, none⟩) l.length l.length) (w.alloc (.cells (bl (List.replicate l.length 0)).toArray 5)) := by
    intro w
    rw [run_make_row' 22 5 (.int .u8 0) 1 Try.underlying22 infoU8 rfl .i64 .i64 l.length (by omega) (by omega) w, made_u8]
  go_enter Try.func62, Try.ntmps62
  go_upto_region 1 with (fail)
  refine wp_world (F := fun W => Row W w.heap.size 43 (bcs A L.length c l.length) ∧ Row W (w.heap.size + 1) 25 (flt 0 0) ∧ Below w.heap.size w W)
    ⟨(Row.new _ _ _).alloc _, Row.newEq _ _ _ _ _ (by simp) rfl, ((Below.refl _ _).alloc (Nat.le_refl _) _).alloc (by simp) _⟩ ?_
  rintro W0 ⟨r0, r2, hb0⟩
  have hS0 := (hS.below hb0).wider hb0.size
  go_upto_region 4 with (first
    | (refine wpList_load_row rfl 43 _ rfl w.heap.size rfl 43 (bcs A L.length c l.length) (0, 0) _ r0 Try.underlying43 rfl (by rw [bcs_size]; exact cellsB) ?_)
    | (go_at_call 46; refine (valid_yes L l HT.out hl A c _ hS0).mono ?_; rintro e w1 ⟨rfl, hb1⟩; have r0a := r0.below hb1 r0.lt; have r2a := r2.below hb1 r2.lt; have hba := up_call hb0 hb1; have c1 : w1.cell? ⟨w.heap.size, 1, none⟩ = some (.int .i64 (l.length : Int)) := (r0a.cell 1).trans rfl; clear hb1))
  have hlt2 := r2a.lt
  refine wp_world (F := fun W => Row W w.heap.size 43 (bcs A L.length c l.length) ∧ Row W (w.heap.size + 1) 25 (flt 0 0) ∧ Row W w1.heap.size 5 (bl (List.replicate l.length 0)).toArray ∧ Below w.heap.size w W)
    ⟨r0a.alloc _, r2a.alloc _, Row.newEq _ _ _ _ _ rfl rfl, hba.alloc hba.size _⟩ ?_
  generalize w1.heap.size = g at hlt2 ⊢
  clear c1 r0a r2a hba w1 r0 r2 hb0 hS0 W0 hmk
  rintro W3 ⟨r0, r2, rg, hb⟩
  go_wp2
  go_loopw [15] (fun i wr => ∃ j : Nat, j ≤ l.length ∧ i = .int .i64 j ∧ Row wr w.heap.size 43 (bcs A L.length c l.length) ∧ Row wr (w.heap.size + 1) 25 (flt 0 0) ∧ Row wr g 5 (bl (txL (l.take j) ++ List.replicate (l.length - j) 0)).toArray ∧ Below w.heap.size w wr) (fun i _ => l.length - (intOf i).toNat)
  case atStart => exact ⟨0, Nat.zero_le _, rfl, r0, r2, rg, hb⟩
  case round =>
    clear r0 r2 rg hb
    obtain ⟨j, hj, rfl, r0, r2, rg, hb⟩ := hrel
    by_cases hlt : j < l.length
    · have hSr := (hS.below hb).wider hb.size
      have hT : (txL (l.take j) ++ List.replicate (l.length - j) 0).length = l.length := by
        rw [List.length_append, txL_length, List.length_take, List.length_replicate]
        omega
      have hmj : (bl (txL (l.take j) ++ List.replicate (l.length - j) 0)).toArray[j]? = some (.int .u8 (((txL (l.take j) ++ List.replicate (l.length - j) 0).getD j 0).toNat : Int)) := by simpa using bl_get (txL (l.take j) ++ List.replicate (l.length - j) 0) j (by rw [hT]; exact hlt)
      have HMJ := Lib.hid hmj
      clear hT hmj
      obtain ⟨b, hbv⟩ : ∃ b, l.getD j false = b := ⟨_, rfl⟩
      have HBV := Lib.hid hbv
      have HST := Lib.hid (txL_take l j b hlt hbv)
      clear hbv
      cases b
      · have hz : (0 : Int) = ((bt L j).toNat : Int) := by rw [HT.out.2, HBV.out]; rfl
        have HZ := Lib.hid hz
        clear hz
        go_wp2_with (first
          | (refine wpList_load_row rfl 43 _ rfl w.heap.size rfl 43 (bcs A L.length c l.length) (0, 0) _ r0 Try.underlying43 rfl (by rw [bcs_size]; exact cellsB) ?_)
          | (go_at_call 71; refine (number_bit L A c _ j 0 HZ.out (by omega) hl1 _ hSr).mono ?_; rintro e w5 ⟨rfl, hb5⟩; have q0 := r0.below hb5 r0.lt; have q2 := r2.below hb5 r2.lt; have qg := rg.below hb5 rg.lt; have hbq := up_call hb hb5; have e64 := qg.free j; have e65 := (qg.cell j).trans HMJ.out; clear hb5))
        go_roundw
        case rel =>
          refine ⟨j + 1, by omega, by go_num, q0.far (by simp; omega) _, q2.far (by simp; omega) _, ?_, hbq.setCell (show w.heap.size ≤ g by omega) _⟩
          rw [HST.out]
          have := qg.put j (.int .u8 48)
          rw [List.setIfInBounds_toArray] at this
          unfold bl at this ⊢
          rw [List.map_set]
          exact this
        case measure => simp [intOf]; omega
      · have hz : (1 : Int) = ((bt L j).toNat : Int) := by rw [HT.out.2, HBV.out]; rfl
        have HZ := Lib.hid hz
        clear hz
        go_wp2_with (first
          | (refine wpList_load_row rfl 43 _ rfl w.heap.size rfl 43 (bcs A L.length c l.length) (0, 0) _ r0 Try.underlying43 rfl (by rw [bcs_size]; exact cellsB) ?_)
          | (go_at_call 71; refine (number_bit L A c _ j 1 HZ.out (by omega) hl1 _ hSr).mono ?_; rintro e w5 ⟨rfl, hb5⟩; have q0 := r0.below hb5 r0.lt; have q2 := r2.below hb5 r2.lt; have qg := rg.below hb5 rg.lt; have hbq := up_call hb hb5; have e64 := qg.free j; have e65 := (qg.cell j).trans HMJ.out; clear hb5))
        go_roundw
        case rel =>
          refine ⟨j + 1, by omega, by go_num, q0.far (by simp; omega) _, q2.far (by simp; omega) _, ?_, hbq.setCell (show w.heap.size ≤ g by omega) _⟩
          rw [HST.out]
          have := qg.put j (.int .u8 49)
          rw [List.setIfInBounds_toArray] at this
          unfold bl at this ⊢
          rw [List.map_set]
          exact this
        case measure => simp [intOf]; omega
    · obtain rfl : j = l.length := by omega
      rw [List.take_length, Nat.sub_self, List.replicate_zero, List.append_nil] at rg
      have hsl := Sl.of_head rg l.length (by rw [bl_length, txL_length]; exact Nat.le_refl _)
      rw [List.take_of_length_le (by rw [bl_length, txL_length]; exact Nat.le_refl _)] at hsl
      have hcv := conv_sl (P := Try.prog) wr 22 9 5 Try.underlying22 Try.underlying5 Try.underlying9 l.length l.length hsl
      go_wp2_with (first
        | (refine wpList_store_row rfl 25 _ _ rfl (w.heap.size + 1) (flt 0 0) rfl rfl 25 (flt 0 0) r2 (by rw [flt_size]; exact cellsF) rfl (all_one (flt_one _ _)) ?_))
      refine bodyPost_ret (results_tmp_row Try.results62 _ _ _ (w.heap.size + 1) 25 (flt 0 0) _ rfl rfl (Row.row r2 _) Try.underlying25 rfl (by rw [flt_size]; exact cellsF)) rfl ⟨rfl, ?_⟩
      exact blw_row hb (by omega) _
end Go.Proofs.Ytahihgmlkcbfiaa
