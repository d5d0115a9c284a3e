/-
  The contract of bits.Append where the number is added.
-/
import Derived.Test.YtbahkidkpbabdaaBApp
namespace Go.Proofs.Ytbahkidkpbabdaa
open Go.RowKit

theorem put_is (L : List UInt8) (n : Nat) (hLn : L.length = n) (g : Nat) (c : Nat) (k : Int) (p v m : Nat) (hm : m ≤ 60) (hf : p + m ≤ 8 * n) (hl : n ≤ 16384) (hv : v < 9223372036854775808) (w : World) (hR : Row w g 5 (bl L).toArray) :
    Calls Try.prog 38 #[.agg (bcs (some ⟨g, 0, none⟩) n c k), .int .i64 p, .int .i64 v, .int .i64 m] w fun e w' => e = .returned (.tuple #[]) ∧ (∃ M, PutTo L p v m m M ∧ Row w' g 5 (bl M).toArray) ∧ w.grownBy w' (some g) := by
  subst hLn
  exact put_any L g c k p v m hm hf hl hv w hR

/-- the call made the bits l, and no fault -/
def BitsOut (w : World) (l : List Bool) (e : Ending) (w' : World) : Prop :=
  ∃ A c, e = .returned (.tuple #[.agg (bcs A (pack l).length c l.length), .agg (flt 0 0)]) ∧ Sl w' w'.heap.size A (pack l).length (bl (pack l)) ∧ Below w.heap.size w w'
theorem bitsOut_row {w w' : World} {l : List Bool} {M : List UInt8} {g n c : Nat} {k : Int} {e : Ending} (hR : Rep M l) (he : e = .returned (.tuple #[.agg (bcs (some ⟨g, 0, none⟩) n c k), .agg (flt 0 0)])) (hn : n = M.length) (hk : k = l.length)
    (hrow : Row w' g 5 (bl M).toArray) (hb : Below w.heap.size w w') : BitsOut w l e w' := by
  subst hn hk
  obtain rfl := hR.pack
  have := Sl.of_head hrow (pack l).length (by rw [bl_length]; exact Nat.le_refl _)
  rw [List.take_of_length_le (by rw [bl_length]; exact Nat.le_refl _)] at this
  exact ⟨_, _, he, this, hb⟩

set_option maxRecDepth 100000 in
set_option maxHeartbeats 4000000 in
theorem append_ok (L : List UInt8) (l : List Bool) (hR : Rep L l) (hl : l.length ≤ 131072) (v m : Nat) (hm : m ≤ 32) (hvm : v < 2 ^ m) (hx : l.length + m ≤ 131072) (A : Option Addr) (c : Nat) (w : World) (hS : Sl w w.heap.size A L.length (bl L)) :
    Calls Try.prog 19 #[.agg (bcs A L.length c l.length), .int .i64 v, .int .i64 m] w (BitsOut w (l ++ digB v m)) := by
  have HV := Lib.hid hvm
  have hd : decide ((v : Int) < 0) = false := decide_eq_false (by omega)
  have hq : (2 : Nat) ^ m ≤ 2 ^ 32 := Nat.pow_le_pow_right (by omega) hm
  have hw : wrap64 ((2 : Int) ^ m) = ((2 ^ m : Nat) : Int) := by
    rw [show (2 : Int) ^ m = ((2 ^ m : Nat) : Int) by rw [Int.natCast_pow]; rfl]
    exact wrap_small _ (by omega)
  obtain ⟨p, hp⟩ : ∃ p, p = (2 : Nat) ^ m := ⟨_, rfl⟩
  rw [← hp] at hw hq hvm
  clear hp
  have hd2 : decide (p ≤ v) = false := decide_eq_false (by omega)
  have hd3 : decide ((131072 : Int) < (l.length : Int) + (m : Int)) = false := decide_eq_false (by omega)
  have hvs : v < 9223372036854775808 := by omega
  go_enter Try.func19, Try.ntmps19
  go_upto_region 1 with (fail)
  refine wp_world (F := fun W => Row W w.heap.size 24 (bcs A L.length c l.length) ∧ Row W (w.heap.size + 1) 24 (bcs none 0 0 0) ∧ Row W (w.heap.size + 1 + 1) 26 (flt 0 0) ∧ Below w.heap.size w W)
    ⟨((Row.new _ _ _).alloc _).alloc _, (Row.newEq _ _ _ _ _ (by simp) rfl).alloc _, Row.newEq _ _ _ _ _ (by simp) rfl, (((Below.refl _ _).alloc (Nat.le_refl _) _).alloc (by simp) _).alloc (by simp; omega) _⟩ ?_
  rintro W0 ⟨r0, r1, r2, hb0⟩
  have hS0 := (hS.below hb0).wider hb0.size
  clear hS
  go_upto_region 10 with (first
      | (refine wpList_load_row rfl 24 _ rfl w.heap.size rfl 24 (bcs A L.length c l.length) (0, 0) _ r0 Try.underlying24 rfl (by rw [bcs_size]; exact cellsB) ?_)
      | (go_at_call 15; refine (valid_yes L l hR hl A c _ hS0).mono ?_; rintro e w1 ⟨rfl, hb1⟩; have r0a := r0.below hb1 r0.lt; have r1a := r1.below hb1 r1.lt; have r2a := r2.below hb1 r2.lt; have hba := up_call hb0 hb1; have hSa := hS0.up hb1; have c1 : w1.cell? ⟨w.heap.size, 1, none⟩ = some (.int .i64 (l.length : Int)) := (r0a.cell 1).trans rfl; clear hb1))
  have hLn := hR.len
  have HLn := Lib.hid hLn
  have hLm : L.length ≤ (l.length + m + 7) / 8 := by omega
  clear c1 hLn
  go_upto_region 11 with (first
      | (refine wpList_load_row rfl 24 _ rfl w.heap.size rfl 24 (bcs A L.length c l.length) (0, 0) _ r0a Try.underlying24 rfl (by rw [bcs_size]; exact cellsB) ?_)
      | (go_at_call 37; refine (extended_any L A c l.length m hx hLm _ hSa).mono ?_; rintro e w2 ⟨g, rfl, hg, rg, hb2⟩; have r0b := r0a.below hb2 r0a.lt; have r1b := r1a.below hb2 r1a.lt; have r2b := r2a.below hb2 r2a.lt; have hbb := up_call hba hb2; have h2g := r2a.lt; have hgl := rg.lt; clear hb2)
      | (refine wpList_store_row rfl 24 _ _ rfl w2.heap.size (bcs (some ⟨g, 0, none⟩) ((l.length + m + 7) / 8) ((l.length + m + 7) / 8) ((l.length + m : Nat) : Int)) rfl rfl 24 (bcs none 0 0 0) (Row.newEq _ _ _ _ _ rfl rfl) (by rw [bcs_size]; exact cellsB) rfl (all_one (bcs_one _ _ _ _)) ?_))
  have hT := hR
  have HT := Lib.hid hT
  clear hT
  refine wp_world (F := fun W => Row W w.heap.size 24 (bcs A L.length c l.length) ∧ Row W (w.heap.size + 1) 24 (bcs none 0 0 0) ∧ Row W (w.heap.size + 1 + 1) 26 (flt 0 0) ∧ Row W w2.heap.size 24 (bcs (some ⟨g, 0, none⟩) ((l.length + m + 7) / 8) ((l.length + m + 7) / 8) ((l.length + m : Nat) : Int)) ∧ Row W g 5 (bl (L ++ List.replicate ((l.length + m + 7) / 8 - L.length) 0)).toArray ∧ Below w.heap.size w W)
    ⟨(r0b.alloc _).rowFar (Nat.ne_of_lt r0b.lt) _, (r1b.alloc _).rowFar (Nat.ne_of_lt r1b.lt) _, (r2b.alloc _).rowFar (Nat.ne_of_lt r2b.lt) _, Row.row (Row.newEq _ _ _ (bcs none 0 0 0) _ rfl rfl) _, (rg.alloc _).rowFar (Nat.ne_of_lt hgl) _, blw_row (hbb.alloc hbb.size _) hbb.size _⟩ ?_
  generalize w2.heap.size = g5 at hgl ⊢
  have hga : w.heap.size + 1 + 1 < g := Nat.lt_of_lt_of_le h2g hg
  clear hbb r0b r1b r2b rg w2 r0a r1a r2a hSa hba h2g hg w1 r0 r1 r2 hb0 hS0 W0
  rintro W3 ⟨r0, r1, r2, r5, rg, hb⟩
  have c1 : W3.cell? ⟨w.heap.size, 1, none⟩ = some (.int .i64 (l.length : Int)) := (r0.cell 1).trans rfl
  have hln : (L ++ List.replicate ((l.length + m + 7) / 8 - L.length) 0).length = (l.length + m + 7) / 8 := by
    rw [List.length_append, List.length_replicate]
    omega
  have HLN := Lib.hid hln
  clear hln
  go_upto_region 12 with (first
      | (refine wpList_load_row rfl 24 _ rfl g5 rfl 24 (bcs (some ⟨g, 0, none⟩) ((l.length + m + 7) / 8) ((l.length + m + 7) / 8) ((l.length + m : Nat) : Int)) (0, 0) _ r5 Try.underlying24 rfl (by rw [bcs_size]; exact cellsB) ?_)
      | (go_at_call 38; refine (put_is _ ((l.length + m + 7) / 8) HLN.out g _ _ l.length v m (by omega) (by omega) (by omega) hvs _ rg).mono ?_; rintro e w4 ⟨rfl, ⟨M, hM, rM⟩, hgr⟩))
  have r1b := r1.grown hgr (by simp; omega)
  have r2b := r2.grown hgr (by simp; omega)
  have r5b := r5.grown hgr (by simp; omega)
  have hbb := gr_below hb hgr hb.size (by omega)
  have HM := Lib.hid hM
  clear hM
  go_wp2_with (first
      | (refine wpList_load_row rfl 24 _ rfl g5 rfl 24 (bcs (some ⟨g, 0, none⟩) ((l.length + m + 7) / 8) ((l.length + m + 7) / 8) ((l.length + m : Nat) : Int)) (0, 0) _ r5b Try.underlying24 rfl (by rw [bcs_size]; exact cellsB) ?_)
      | (refine wpList_store_row rfl 24 _ _ rfl (w.heap.size + 1) (bcs (some ⟨g, 0, none⟩) ((l.length + m + 7) / 8) ((l.length + m + 7) / 8) ((l.length + m : Nat) : Int)) rfl rfl 24 (bcs none 0 0 0) r1b (by rw [bcs_size]; exact cellsB) rfl (all_one (bcs_one _ _ _ _)) ?_)
      | (refine wpList_store_row rfl 26 _ _ rfl (w.heap.size + 1 + 1) (flt 0 0) rfl rfl 26 (flt 0 0) (r2b.rowFar (by omega) _) (by rw [flt_size]; exact cellsF) rfl (all_one (flt_one _ _)) ?_))
  refine bodyPost_ret (results_rows Try.results19 _ _ (w.heap.size + 1) (w.heap.size + 1 + 1) 24 26 (bcs (some ⟨g, 0, none⟩) ((l.length + m + 7) / 8) ((l.length + m + 7) / 8) ((l.length + m : Nat) : Int)) (flt 0 0) _ _ rfl rfl ((Row.row r1b _).rowFar (by omega) _) (Row.row (r2b.rowFar (by omega) _) _) Try.underlying24 rfl (by rw [bcs_size]; exact cellsB) Try.underlying26 rfl (by rw [flt_size]; exact cellsF)) rfl ?_
  refine bitsOut_row (append_rep HT.out HV.out (Nat.le_refl _) (by rw [Nat.sub_self]; exact HM.out)) rfl ?_ ?_ ((rM.rowFar (by omega) _).rowFar (by omega) _) (blw_row (blw_row hbb (by omega) _) (by omega) _)
  · rw [HM.out.1, HLN.out]
  · rw [List.length_append, digB_length]
end Go.Proofs.Ytbahkidkpbabdaa
