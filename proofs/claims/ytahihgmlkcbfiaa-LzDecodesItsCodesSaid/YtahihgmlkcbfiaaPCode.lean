/-
  The contract of the package's code of a token, as a text of bits; the bits of such a text again.
-/
import Derived.Test.YtahihgmlkcbfiaaPSm
import Derived.Test.YtahihgmlkcbfiaaBGam
import Derived.Test.YtahihgmlkcbfiaaBText
import Derived.Test.YtahihgmlkcbfiaaGFlat
import Derived.Test.YtahihgmlkcbfiaaGMem
import Derived.Lib.AppendStr
namespace Go.Proofs.Ytahihgmlkcbfiaa
open Go.RowKit

theorem txB_of (l : List Bool) : txB (txL l) = l := by
  unfold txB txL
  rw [List.map_map]
  conv => rhs; rw [← List.map_id l]
  refine List.map_congr_left fun b _ => ?_
  cases b <;> rfl
theorem txS_len (l : List Bool) : (txS l).size = l.length := by
  show (txL l).toArray.size = _
  simp [txL_length]
theorem txS_bit (l : List Bool) (i : Nat) (h : i < (txS l).size) : (txS l)[i] = 48 ∨ (txS l)[i] = 49 := by
  have hl : i < l.length := by rw [txS_len] at h; exact h
  have e : (txS l)[i] = chB l[i] := by
    show (txL l).toArray[i]'(by simpa [txL_length] using hl) = _
    simp [txL]
  rw [e]
  unfold chB
  split
  · exact .inr rfl
  · exact .inl rfl
theorem make_text (l : List Bool) (hl : l.length ≤ 131072) (w : World) :
    Calls Try.prog 44 #[.string (txS l)] w (BitsOut w l) := by
  have h := (make_upto (txS l) (by rw [txS_len]; exact hl) (txS l).size (Nat.le_refl _) (fun i h _ => txS_bit l i h) (fun h => absurd h (Nat.lt_irrefl _)) w).mono fun _ _ hm => hm.1 rfl
  have e : txB (txS l).data.toList = l := by
    show txB (txL l).toArray.toList = l
    rw [List.toList_toArray]
    exact txB_of l
  rw [e] at h
  exact h
theorem txL_append (a b : List Bool) : txL (a ++ b) = txL a ++ txL b := by simp [txL]
theorem str_cells (l : List Bool) : Lib.strCells (txS l) = bl (txL l) := by
  unfold Lib.strCells bl txS
  simp
/-- Append to no bits -/
theorem append_new (v m : Nat) (hm : m ≤ 32) (hv : v < 2 ^ m) (w : World) :
    Calls Try.prog 60 #[.agg #[.slice none 0 0, .int .i64 0], .int .i64 v, .int .i64 m] w (BitsOut w (digB v m)) := by
  exact append_ok [] [] Rep.nil (by decide) v m hm hv (by simp; omega) none 0 w (by rw [bl_nil]; exact Sl.nil _ _ _)
theorem append_new1 (w : World) : Calls Try.prog 60 #[.agg #[.slice none 0 0, .int .i64 0], .int .i64 1, .int .i64 1] w (BitsOut w [true]) := by
  have h := append_new 1 1 (by omega) (by decide) w
  have e : digB 1 1 = [true] := by decide
  rw [e] at h
  exact h
theorem append_new9 (x : UInt8) (z : Int) (hz : z = (x.toNat : Int)) (w : World) : Calls Try.prog 60 #[.agg #[.slice none 0 0, .int .i64 0], .int .i64 z, .int .i64 9] w (BitsOut w (Tk.lit x).code) := by
  subst hz
  have h : x.toNat < 256 := UInt8.toNat_lt x
  exact append_new x.toNat 9 (by omega) (by omega) w
/-- AppendGamma, with the bits written out -/
theorem gamma_add (l m : List Bool) (v : Nat) (h0 : 1 ≤ v) (h : v ≤ 100000) (hm : m = l ++ gamL v) (hl : m.length ≤ 131072) (A : Option Addr) (c : Nat) (w : World) (hS : Sl w w.heap.size A (pack l).length (bl (pack l))) :
    Calls Try.prog 61 #[.agg (bcs A (pack l).length c l.length), .int .i64 v] w (BitsOut w m) := by
  have hs : Nat.log2 v + (Nat.log2 v + 1) = gsz v := by rw [gsz_nat v h0]; omega
  have hg : gamL v = digB v (Nat.log2 v + (Nat.log2 v + 1)) := rfl
  have hx : l.length + (Nat.log2 v + (Nat.log2 v + 1)) ≤ 131072 := by
    have := hl
    rw [hm, List.length_append, gamL_length] at this
    omega
  have hh := gamma_ok (pack l) l (pack_rep l) (by omega) v h0 (by omega) (Nat.log2 v + (Nat.log2 v + 1)) hs hx A c w hS
  rw [← hg, ← hm] at hh
  exact hh

set_option maxRecDepth 100000 in
set_option maxHeartbeats 8000000 in
theorem code_lit (x : UInt8) (w : World) :
    Calls Try.prog 43 #[.agg (tcs 0 0 x)] w fun e w' => e = .returned (.string (txS (Tk.lit x).code)) ∧ Below w.heap.size w w' := by
  obtain ⟨z, hz⟩ : ∃ z : Int, z = (x.toNat : Int) := ⟨_, rfl⟩
  have hlen : (Tk.lit x).code.length ≤ 131072 := by rw [code_cost]; show 9 ≤ 131072; omega
  have HA := Lib.hid (fun w => append_new9 x z hz w)
  have hz0 : 0 ≤ z ∧ z ≤ 255 := by have : x.toNat < 256 := UInt8.toNat_lt x; omega
  obtain ⟨l, hl⟩ : ∃ l, l = (Tk.lit x).code := ⟨_, rfl⟩
  have htx := fun A c w hS => text_ok (pack l) l (pack_rep l) (by rw [hl]; exact hlen) A c w hS
  rw [← hl] at HA ⊢
  have HT := Lib.hid htx
  unfold tcs
  rw [← hz]
  clear hz hl hlen htx
  go_enter Try.func43, Try.ntmps43
  go_upto_region 2 with (fail)
  refine wp_world (F := fun W => Row W w.heap.size 37 #[.int .i64 0, .int .i64 0, .int .u8 z] ∧ Row W (w.heap.size + 1) 43 (bcs none 0 0 0) ∧ Below w.heap.size w W) ⟨(Row.newEq _ _ _ _ _ rfl rfl).alloc _, Row.newEq _ _ _ _ _ (by simp) rfl, ((Below.refl _ _).alloc (Nat.le_refl _) _).alloc (by simp) _⟩ ?_
  rintro W0 ⟨rt, rb, hb⟩
  have c0 := (rt.cell 0).trans rfl
  have c1 := (rt.cell 1).trans rfl
  have c2 := (rt.cell 2).trans rfl
  go_upto_region 3 with (first
    | (go_at_call 57; refine (islit_lit _ _).mono ?_; rintro e w1 ⟨rfl, h1⟩; have q1 := rb.below h1 rb.lt; have d2 := ((rt.below h1 rt.lt).cell 2).trans rfl; have hb1 := up_call hb h1))
  clear c0 c1 c2
  go_upto_region 7 with (first
    | (refine wpList_load_row rfl 43 _ rfl (w.heap.size + 1) rfl 43 (bcs none 0 0 0) (0, 0) _ q1 Try.underlying43 rfl (by rw [bcs_size]; exact cellsB) ?_)
    | (go_at_call 60; refine (HA.out _).mono ?_; rintro e w2 ⟨A2, cc2, rfl, hS2, hb2⟩; have q2 := q1.below hb2 q1.lt; have hba := up_call hb1 hb2)
    | (refine wpList_store_row rfl 43 _ _ rfl (w.heap.size + 1) (bcs A2 (pack l).length cc2 l.length) rfl rfl 43 (bcs none 0 0 0) q2 (by rw [bcs_size]; exact cellsB) rfl (all_one (bcs_one _ _ _ _)) ?_))
  refine wp_world (F := fun W => Row W (w.heap.size + 1) 43 (bcs A2 (pack l).length cc2 l.length) ∧ Sl W W.heap.size A2 (pack l).length (bl (pack l)) ∧ Below w.heap.size w W) ⟨Row.row q2 _, by simpa using hS2.rowFar q2 (no_bcs _ _ _ _) _, blw_row hba (by omega) _⟩ ?_
  clear q2 hS2 hba hb2 d2 hb1 q1 h1 rt rb hb
  rintro W3 ⟨rb, hS, hb⟩
  go_upto_region 8 with (first
    | (refine wpList_load_row rfl 43 _ rfl (w.heap.size + 1) rfl 43 (bcs A2 (pack l).length cc2 l.length) (0, 0) _ rb Try.underlying43 rfl (by rw [bcs_size]; exact cellsB) ?_)
    | (go_at_call 62; refine (HT.out _ _ _ hS).mono ?_; rintro e w5 ⟨rfl, hb5⟩)
    | (refine wpList_store_row rfl 25 _ _ rfl w5.heap.size (flt 0 0) rfl rfl 25 (flt 0 0) (Row.newEq _ _ _ _ _ rfl rfl) (by rw [flt_size]; exact cellsF) rfl (all_one (flt_one _ _)) ?_))
  go_wp2
  go_ret
  exact ⟨rfl, up_call hb (up_call hb5 (blw_new1 _ _ _))⟩

set_option maxRecDepth 100000 in
set_option maxHeartbeats 8000000 in
theorem code_mat (d n : Nat) (h : (Tk.mat d n).ok) (w : World) :
    Calls Try.prog 43 #[.agg #[.int .i64 d, .int .i64 n, .int .u8 0]] w fun e w' => e = .returned (.string (txS (Tk.mat d n).code)) ∧ Below w.heap.size w w' := by
  have hcl := cost_le _ h
  rw [← code_cost] at hcl
  obtain ⟨h1, h2, h3, h4⟩ := h
  have hc : (Tk.mat d n).code = ([true] ++ gamL d) ++ gamL (n - 2) := by
    rw [Tk.code, List.append_assoc]
    rfl
  obtain ⟨l, hl⟩ : ∃ l, l = (Tk.mat d n).code := ⟨_, rfl⟩
  obtain ⟨l1, hl1⟩ : ∃ l1, l1 = [true] ++ gamL d := ⟨_, rfl⟩
  rw [← hl, ← hl1] at hc
  rw [← hl] at hcl ⊢
  have hl1l : l1.length ≤ l.length := by rw [hc, List.length_append]; omega
  have hg1 := fun A c w hS => gamma_add [true] l1 d h1 (by omega) hl1 (by omega) A c w hS
  have hg2 := fun A c w hS => gamma_add l1 l (n - 2) (by omega) (by omega) hc (by omega) A c w hS
  have hn2 : ((n - 2 : Nat) : Int) = (n : Int) - 2 := by omega
  rw [hn2] at hg2
  have HG1 := Lib.hid hg1
  have HG2 := Lib.hid hg2
  have HI := Lib.hid (fun w => islit_mat d n (by omega) w)
  have HT := Lib.hid (fun A c w hS => text_ok (pack l) l (pack_rep l) (by omega) A c w hS)
  clear hg1 hg2 hn2 hl hl1 hc hl1l hcl
  go_enter Try.func43, Try.ntmps43
  go_upto_region 2 with (fail)
  refine wp_world (F := fun W => Row W w.heap.size 37 #[.int .i64 d, .int .i64 n, .int .u8 0] ∧ Row W (w.heap.size + 1) 43 (bcs none 0 0 0) ∧ Below w.heap.size w W) ⟨(Row.newEq _ _ _ _ _ rfl rfl).alloc _, Row.newEq _ _ _ _ _ (by simp) rfl, ((Below.refl _ _).alloc (Nat.le_refl _) _).alloc (by simp) _⟩ ?_
  rintro W0 ⟨rt, rb, hb⟩
  have c0 := (rt.cell 0).trans rfl
  have c1 := (rt.cell 1).trans rfl
  have c2 := (rt.cell 2).trans rfl
  go_upto_region 4 with (first
    | (go_at_call 57; refine (HI.out _).mono ?_; rintro e w1 ⟨rfl, h1⟩; have q1 := rb.below h1 rb.lt; have qt := rt.below h1 rt.lt; have hb1 := up_call hb h1))
  clear c0 c1 c2
  go_upto_region 5 with (first
    | (refine wpList_load_row rfl 43 _ rfl (w.heap.size + 1) rfl 43 (bcs none 0 0 0) (0, 0) _ q1 Try.underlying43 rfl (by rw [bcs_size]; exact cellsB) ?_)
    | (go_at_call 60; refine (append_new1 _).mono ?_; rintro e w2 ⟨A2, cc2, rfl, hS2, hb2⟩; have q2 := q1.below hb2 q1.lt; have hba := up_call hb1 hb2; have qt2 := qt.below hb2 qt.lt)
    | (refine wpList_store_row rfl 43 _ _ rfl (w.heap.size + 1) (bcs A2 (pack [true]).length cc2 [true].length) rfl rfl 43 (bcs none 0 0 0) q2 (by rw [bcs_size]; exact cellsB) rfl (all_one (bcs_one _ _ _ _)) ?_))
  refine wp_world (F := fun W => Row W w.heap.size 37 #[.int .i64 d, .int .i64 n, .int .u8 0] ∧ Row W (w.heap.size + 1) 43 (bcs A2 (pack [true]).length cc2 [true].length) ∧ Sl W W.heap.size A2 (pack [true]).length (bl (pack [true])) ∧ Below w.heap.size w W) ⟨qt2.rowFar (by omega) _, Row.row q2 _, by simpa using hS2.rowFar q2 (no_bcs _ _ _ _) _, blw_row hba (by omega) _⟩ ?_
  obtain ⟨l0, hl0⟩ : ∃ l0, l0 = [true] := ⟨_, rfl⟩
  rw [← hl0] at HG1 ⊢
  clear q2 hS2 hba hb2 hb1 q1 h1 rt rb hb qt qt2 hl0
  rintro W3 ⟨rt, rb, hS, hb⟩
  have c0 := (rt.cell 0).trans rfl
  go_upto_region 6 with (first
    | (refine wpList_load_row rfl 43 _ rfl (w.heap.size + 1) rfl 43 (bcs A2 (pack l0).length cc2 l0.length) (0, 0) _ rb Try.underlying43 rfl (by rw [bcs_size]; exact cellsB) ?_)
    | (go_at_call 61; refine (HG1.out _ _ _ hS).mono ?_; rintro e w4 ⟨A4, cc4, rfl, hS4, hb4⟩; have q4 := rb.below hb4 rb.lt; have hb5 := up_call hb hb4; have qt4 := rt.below hb4 rt.lt)
    | (refine wpList_store_row rfl 43 _ _ rfl (w.heap.size + 1) (bcs A4 (pack l1).length cc4 l1.length) rfl rfl 43 (bcs A2 (pack l0).length cc2 l0.length) q4 (by rw [bcs_size]; exact cellsB) rfl (all_one (bcs_one _ _ _ _)) ?_))
  refine wp_world (F := fun W => Row W w.heap.size 37 #[.int .i64 d, .int .i64 n, .int .u8 0] ∧ Row W (w.heap.size + 1) 43 (bcs A4 (pack l1).length cc4 l1.length) ∧ Sl W W.heap.size A4 (pack l1).length (bl (pack l1)) ∧ Below w.heap.size w W) ⟨qt4.rowFar (by omega) _, Row.row q4 _, by simpa using hS4.rowFar q4 (no_bcs _ _ _ _) _, blw_row hb5 (by omega) _⟩ ?_
  clear q4 hS4 hb5 hb4 rt rb hb hS qt4 c0
  rintro W5 ⟨rt, rb, hS, hb⟩
  have c1 := (rt.cell 1).trans rfl
  go_upto_region 7 with (first
    | (refine wpList_load_row rfl 43 _ rfl (w.heap.size + 1) rfl 43 (bcs A4 (pack l1).length cc4 l1.length) (0, 0) _ rb Try.underlying43 rfl (by rw [bcs_size]; exact cellsB) ?_)
    | (go_at_call 61; refine (HG2.out _ _ _ hS).mono ?_; rintro e w6 ⟨A6, cc6, rfl, hS6, hb6⟩; have q6 := rb.below hb6 rb.lt; have hb7 := up_call hb hb6)
    | (refine wpList_store_row rfl 43 _ _ rfl (w.heap.size + 1) (bcs A6 (pack l).length cc6 l.length) rfl rfl 43 (bcs A4 (pack l1).length cc4 l1.length) q6 (by rw [bcs_size]; exact cellsB) rfl (all_one (bcs_one _ _ _ _)) ?_))
  refine wp_world (F := fun W => Row W (w.heap.size + 1) 43 (bcs A6 (pack l).length cc6 l.length) ∧ Sl W W.heap.size A6 (pack l).length (bl (pack l)) ∧ Below w.heap.size w W) ⟨Row.row q6 _, by simpa using hS6.rowFar q6 (no_bcs _ _ _ _) _, blw_row hb7 (by omega) _⟩ ?_
  clear q6 hS6 hb7 hb6 rt rb hb hS c1
  rintro W7 ⟨rb, hS, hb⟩
  go_upto_region 8 with (first
    | (refine wpList_load_row rfl 43 _ rfl (w.heap.size + 1) rfl 43 (bcs A6 (pack l).length cc6 l.length) (0, 0) _ rb Try.underlying43 rfl (by rw [bcs_size]; exact cellsB) ?_)
    | (go_at_call 62; refine (HT.out _ _ _ hS).mono ?_; rintro e w8 ⟨rfl, hb8⟩)
    | (refine wpList_store_row rfl 25 _ _ rfl w8.heap.size (flt 0 0) rfl rfl 25 (flt 0 0) (Row.newEq _ _ _ _ _ rfl rfl) (by rw [flt_size]; exact cellsF) rfl (all_one (flt_one _ _)) ?_))
  go_wp2
  go_ret
  exact ⟨rfl, up_call hb (up_call hb8 (blw_new1 _ _ _))⟩
theorem code_any (t : Tk) (h : t.ok) (w : World) :
    Calls Try.prog 43 #[.agg (tcs t.z.1 t.z.2.1 t.z.2.2)] w fun e w' => e = .returned (.string (txS t.code)) ∧ Below w.heap.size w w' := by
  cases t with
  | lit x => exact code_lit x w
  | mat d n => exact code_mat d n h w
end Go.Proofs.Ytahihgmlkcbfiaa
