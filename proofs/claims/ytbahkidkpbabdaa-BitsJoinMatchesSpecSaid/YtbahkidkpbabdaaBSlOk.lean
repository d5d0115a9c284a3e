/-
  The contract of bits.Slice where the part is made.
-/
import Derived.Test.YtbahkidkpbabdaaBSl
namespace Go.Proofs.Ytbahkidkpbabdaa
open Go.RowKit

theorem shl_byte (x : UInt8) (q m : Nat) (h : x.toNat = q * 2 ^ (8 - m)) : wrap64 ((q : Int) * 2 ^ (8 - m)) = (x.toNat : Int) := by
  have h2 : (q : Int) * 2 ^ (8 - m) = (x.toNat : Int) := by
    rw [h, show (2 : Int) ^ (8 - m) = ((2 ^ (8 - m) : Nat) : Int) by rw [Int.natCast_pow]; rfl, ← Int.natCast_mul]
  rw [h2]
  have := x.toNat_lt
  exact wrap_small _ (by omega)
theorem shl_byte2 (x : UInt8) (q m : Nat) (h : x.toNat = q * 2 ^ (8 - m)) : IntKind.u8.wrap (IntKind.i64.wrap ((q : Int) * 2 ^ (8 - m))) = (x.toNat : Int) := by
  have h2 : (q : Int) * 2 ^ (8 - m) = (x.toNat : Int) := by
    rw [h, show (2 : Int) ^ (8 - m) = ((2 ^ (8 - m) : Nat) : Int) by rw [Int.natCast_pow]; rfl, ← Int.natCast_mul]
  rw [h2]
  have := x.toNat_lt
  rw [IntKind.wrap_i64, IntKind.wrap_u8']
  omega
theorem byte_mod (x : UInt8) : (x.toNat : Int) % 256 = (x.toNat : Int) := by
  have := x.toNat_lt
  omega
theorem extended_nil (z : Nat) (hz : z ≤ 131072) (n : Nat) (hn : n = (z + 7) / 8) (zi : Int) (hzi : zi = (z : Int)) (w : World) :
    Calls Try.prog 37 #[.agg (bcs none 0 0 0), .int .i64 zi] w fun e w' => ∃ g, e = .returned (.agg (bcs (some ⟨g, 0, none⟩) n n (z : Int))) ∧ w.heap.size ≤ g ∧ Row w' g 5 (bl (List.replicate n 0)).toArray ∧ Below w.heap.size w w' := by
  subst hn hzi
  refine (extended_any [] none 0 0 z (by omega) (by simp) w (by rw [bl_nil]; exact Sl.nil _ _ _)).mono ?_
  rintro e w' ⟨g, he, hg, hr, hb⟩
  simp only [List.length_nil, Nat.sub_zero, List.nil_append, Nat.zero_add] at he hr
  exact ⟨g, he, hg, hr, hb⟩

set_option maxRecDepth 100000 in
set_option maxHeartbeats 4000000 in
theorem slice_ok (L : List UInt8) (l : List Bool) (hR : Rep L l) (hl : l.length ≤ 131072) (f t : Nat) (hf : f ≤ t) (ht : t ≤ l.length) (A : Option Addr) (c : Nat) (w : World) (hS : Sl w w.heap.size A L.length (bl L)) :
    Calls Try.prog 26 #[.agg (bcs A L.length c l.length), .int .i64 f, .int .i64 t] w (BitsOut w ((l.drop f).take (t - f))) := by
  have h1 : decide ((f : Int) < 0) = false := decide_eq_false (by omega)
  have h2 : decide (l.length < f) = false := decide_eq_false (by omega)
  have h3 : decide (t < f) = false := decide_eq_false (by omega)
  have h4 : decide (l.length < t) = false := decide_eq_false (by omega)
  have hln := hR.len
  have hl1 : L.length ≤ 16384 := by omega
  have hl2 : l.length ≤ 8 * L.length := by omega
  have HT := Lib.hid hR
  obtain ⟨n, hn⟩ : ∃ n, n = (t - f + 7) / 8 := ⟨_, rfl⟩
  have HN := Lib.hid hn
  have hn1 : 8 * n ≤ t - f + 7 := by omega
  have hn2 : t - f ≤ 8 * n := by omega
  have hzi : (t : Int) - (f : Int) = ((t - f : Nat) : Int) := by omega
  have HZ := Lib.hid hzi
  have htf : t - f ≤ 131072 := by omega
  have HSw := Lib.hid hS
  clear hn hln hR hzi
  go_enter Try.func26, Try.ntmps26
  go_upto_region 1 with (fail)
  refine wp_world (F := fun W => Row W w.heap.size 24 (bcs A L.length c l.length) ∧ Row W (w.heap.size + 1) 24 (bcs none 0 0 0) ∧ Row W (w.heap.size + 1 + 1) 26 (flt 0 0) ∧ Below w.heap.size w W)
    ⟨((Row.new _ _ _).alloc _).alloc _, (Row.newEq _ _ _ _ _ (by simp) rfl).alloc _, Row.newEq _ _ _ _ _ (by simp) rfl, (((Below.refl _ _).alloc (Nat.le_refl _) _).alloc (by simp) _).alloc (by simp; omega) _⟩ ?_
  rintro W0 ⟨r0, r1, r2, hb0⟩
  have hS0 := (hS.below hb0).wider hb0.size
  clear hS
  go_upto_region 7 with (first
      | (refine wpList_load_row rfl 24 _ rfl w.heap.size rfl 24 (bcs A L.length c l.length) (0, 0) _ r0a Try.underlying24 rfl (by rw [bcs_size]; exact cellsB) ?_)
      | (refine wpList_load_row rfl 24 _ rfl w.heap.size rfl 24 (bcs A L.length c l.length) (0, 0) _ r0 Try.underlying24 rfl (by rw [bcs_size]; exact cellsB) ?_)
      | (go_at_call 15; refine (valid_yes L l HT.out hl A c _ hS0).mono ?_; rintro e w1 ⟨rfl, hb1⟩; have r0a := r0.below hb1 r0.lt; have r1a := r1.below hb1 r1.lt; have r2a := r2.below hb1 r2.lt; have hba := up_call hb0 hb1; have hSa := hS0.up hb1; have c1 : w1.cell? ⟨w.heap.size, 1, none⟩ = some (.int .i64 (l.length)) := (r0a.cell 1).trans rfl; clear hb1))
  clear c1
  go_upto_region 8 with (first
      | (go_at_call 37; refine (extended_nil (t - f) htf n HN.out _ HZ.out _).mono ?_; rintro e w2 ⟨g, rfl, hg, rg, hb2⟩; have r0b := r0a.below hb2 r0a.lt; have r1b := r1a.below hb2 r1a.lt; have r2b := r2a.below hb2 r2a.lt; have hbb := up_call hba hb2; have h2g := r2a.lt; have hgl := rg.lt; clear hb2)
      | (refine wpList_store_row rfl 24 _ _ rfl w2.heap.size (bcs (some ⟨g, 0, none⟩) n n ((t - f : Nat) : Int)) rfl rfl 24 (bcs none 0 0 0) (Row.newEq _ _ _ _ _ rfl rfl) (by rw [bcs_size]; exact cellsB) rfl (all_one (bcs_one _ _ _ _)) ?_))
  refine wp_world (F := fun W => Row W w.heap.size 24 (bcs A L.length c l.length) ∧ Row W (w.heap.size + 1) 24 (bcs none 0 0 0) ∧ Row W (w.heap.size + 1 + 1) 26 (flt 0 0) ∧ Row W w2.heap.size 24 (bcs (some ⟨g, 0, none⟩) n n ((t - f : Nat) : Int)) ∧ Row W g 5 (bl (List.replicate n 0)).toArray ∧ Below w.heap.size w W)
    ⟨(r0b.alloc _).rowFar (Nat.ne_of_lt r0b.lt) _, (r1b.alloc _).rowFar (Nat.ne_of_lt r1b.lt) _, (r2b.alloc _).rowFar (Nat.ne_of_lt r2b.lt) _, Row.row (Row.newEq _ _ _ (bcs none 0 0 0) _ rfl rfl) _, (rg.alloc _).rowFar (Nat.ne_of_lt hgl) _, blw_row (hbb.alloc hbb.size _) hbb.size _⟩ ?_
  generalize w2.heap.size = g5 at hgl ⊢
  have hga : w.heap.size + 1 + 1 < g := Nat.lt_of_lt_of_le h2g hg
  clear hbb r0b r1b r2b rg w2 r0a r1a r2a hSa hba h2g hg w1 r0 r1 r2 hb0 hS0 W0
  rintro W3 ⟨r0, r1, r2, r5, rg, hb⟩
  have c50 : W3.cell? ⟨g5, 0, none⟩ = some (.slice (some ⟨g, 0, none⟩) n n) := (r5.cell 0).trans rfl
  go_wp2
  go_loopw [52] (fun i wr => ∃ j : Nat, ∃ M, j ≤ n ∧ i = .int .i64 j ∧ CutTo L f t n j M ∧ Row wr w.heap.size 24 (bcs A L.length c l.length) ∧ Row wr (w.heap.size + 1) 24 (bcs none 0 0 0) ∧ Row wr (w.heap.size + 1 + 1) 26 (flt 0 0) ∧ Row wr g5 24 (bcs (some ⟨g, 0, none⟩) n n ((t - f : Nat) : Int)) ∧ Row wr g 5 (bl M).toArray ∧ Below w.heap.size w wr) (fun i _ => n - (intOf i).toNat)
  case atStart => exact ⟨0, _, Nat.zero_le _, rfl, CutTo.zero _ _ _ _, r0, r1, r2, r5, rg, hb⟩
  case round =>
    clear r0 r1 r2 r5 rg hb c50
    obtain ⟨j, M, hj, rfl, hC, r0, r1, r2, r5, rg, hb⟩ := hrel
    have c00 : wr.cell? ⟨w.heap.size, 0, none⟩ = some (.slice A L.length c) := (r0.cell 0).trans rfl
    have c01 : wr.cell? ⟨w.heap.size, 1, none⟩ = some (.int .i64 (l.length : Int)) := (r0.cell 1).trans rfl
    have c50 : wr.cell? ⟨g5, 0, none⟩ = some (.slice (some ⟨g, 0, none⟩) n n) := (r5.cell 0).trans rfl
    by_cases hlt : j < n
    · obtain ⟨m, hm⟩ : ∃ m, m = min 8 (t - (f + 8 * j)) := ⟨_, rfl⟩
      have hNX := hC.next hlt (by omega) m hm
      have HNX := Lib.hid hNX
      have hm8 : m ≤ 8 := by omega
      have hmt : f + 8 * j + m ≤ 8 * L.length := by omega
      have hrow := rg.lt
      have HM := Lib.hid hm
      have HC := Lib.hid hC
      have hSr := (HSw.out.below hb).wider hb.size
      clear hNX hC
      have hmi : min (8 : Int) ((t : Int) - ((f : Int) + 8 * (j : Int))) = (m : Int) := by omega
      obtain ⟨x, hx⟩ : ∃ x, x = cutByte L (f + 8 * j) m := ⟨_, rfl⟩
      obtain ⟨q, hq⟩ : ∃ q, q = numF (fun i => bt L (f + 8 * j + i)) m := ⟨_, rfl⟩
      have hxn := cutByte_nat L (f + 8 * j) m hm8
      rw [← hx, ← hq] at hxn
      have HVAL := Lib.hid (shl_byte2 x q m hxn)
      have HX := Lib.hid hx
      have HQ := Lib.hid hq
      have f64 := rg.free j
      clear hxn hx hq hm
      go_upto_region 13 with (fail)
      have hmj : (bl M).toArray[j]? = some (.int .u8 ((M.getD j 0).toNat : Int)) := by simpa using bl_get M j (by rw [HC.out.1]; exact hlt)
      have HMJ := Lib.hid hmj
      clear hmj
      have hm60 : m ≤ 60 := by omega
      have hs1 : (0 : Int) ≤ 8 - (m : Int) := by omega
      have hs2 : (8 - (m : Int)).toNat = 8 - m := by omega
      have hs0 : IntKind.i64.wrap (8 - (m : Int)) = 8 - (m : Int) := by rw [IntKind.wrap_i64]; omega
      go_region_law (first
        | (go_simp; go_at_call 39; go_must (refine (number_m L A c _ (f + 8 * j) m q HQ.out hm60 hmt hl1 wr.drew hSr.drew).mono ?_; rintro e w5 ⟨rfl, hb5⟩; have q0 := r0.drew.below hb5 r0.lt; have q1 := r1.drew.below hb5 r1.lt; have q2 := r2.drew.below hb5 r2.lt; have q5 := r5.drew.below hb5 r5.lt; have qg := rg.drew.below hb5 rg.lt; have hbq := up_call hb.drew hb5; have e50 : w5.cell? ⟨g5, 0, none⟩ = some (.slice (some ⟨g, 0, none⟩) n n) := (q5.cell 0).trans rfl; have e64 := qg.free j; have e65 := (qg.cell j).trans HMJ.out)))
      clear hs0 hs1 hs2 hmi
      all_goals
        rw [HVAL.out]
        go_wp2
        go_roundw
        case rel =>
          refine ⟨j + 1, M.set j (cutByte L (f + 8 * j) m), by omega, by go_num, HNX.out, q0.far (by simp; omega) _, q1.far (by simp; omega) _, q2.far (by simp; omega) _, q5.far (Nat.ne_of_gt hgl) _, ?_, hbq.setCell (show w.heap.size ≤ g by omega) _⟩
          rw [← HX.out]
          have := qg.put j (.int .u8 (x.toNat : Int))
          rw [List.setIfInBounds_toArray] at this
          unfold bl at this ⊢
          rw [← List.map_set] at this
          exact this
        case measure => simp [intOf]; omega
    · obtain rfl : j = n := by omega
      have HC := Lib.hid hC
      clear hC
      go_wp2_with (first
        | (refine wpList_load_row rfl 24 _ rfl g5 rfl 24 (bcs (some ⟨g, 0, none⟩) j j ((t - f : Nat) : Int)) (0, 0) _ r5 Try.underlying24 rfl (by rw [bcs_size]; exact cellsB) ?_)
        | (refine wpList_store_row rfl 24 _ _ rfl (w.heap.size + 1) (bcs (some ⟨g, 0, none⟩) j j ((t - f : Nat) : Int)) rfl rfl 24 (bcs none 0 0 0) r1 (by rw [bcs_size]; exact cellsB) rfl (all_one (bcs_one _ _ _ _)) ?_)
        | (refine wpList_store_row rfl 26 _ _ rfl (w.heap.size + 1 + 1) (flt 0 0) rfl rfl 26 (flt 0 0) (r2.rowFar (by omega) _) (by rw [flt_size]; exact cellsF) rfl (all_one (flt_one _ _)) ?_))
      refine bodyPost_ret (results_rows Try.results26 _ _ (w.heap.size + 1) (w.heap.size + 1 + 1) 24 26 (bcs (some ⟨g, 0, none⟩) j j ((t - f : Nat) : Int)) (flt 0 0) _ _ rfl rfl ((Row.row r1 _).rowFar (by omega) _) (Row.row (r2.rowFar (by omega) _) _) Try.underlying24 rfl (by rw [bcs_size]; exact cellsB) Try.underlying26 rfl (by rw [flt_size]; exact cellsF)) rfl ?_
      refine bitsOut_row (HC.out.rep HT.out ht hf HN.out) rfl HC.out.1.symm ?_ ((rg.rowFar (by omega) _).rowFar (by omega) _) (blw_row (blw_row hb (by omega) _) (by omega) _)
      rw [List.length_take, List.length_drop]
      omega
end Go.Proofs.Ytbahkidkpbabdaa
