/-
  The contracts of digest.Finish, Write, Sum and Short.
-/
import Derived.Test.YtcippenhomhpbaaDoorShaApi
namespace Go.Proofs.YtcippenhomhpbaaDoor
open Go.RowKit

/-- the digest of zeros, as cells -/
def zD : Array Value := bs (List.replicate 32 0)
theorem zD_eq : bs (List.replicate 32 0) = zD := rfl
theorem zD_size : zD.size = 32 := by rw [← zD_eq, bs_size]; rfl
theorem zD_one : ∀ v ∈ zD, v.oneCell' = true := bs_one _
theorem zD_lit : (#[.int .u8 0, .int .u8 0, .int .u8 0, .int .u8 0, .int .u8 0, .int .u8 0, .int .u8 0, .int .u8 0, .int .u8 0, .int .u8 0, .int .u8 0, .int .u8 0, .int .u8 0, .int .u8 0, .int .u8 0, .int .u8 0, .int .u8 0, .int .u8 0, .int .u8 0, .int .u8 0, .int .u8 0, .int .u8 0, .int .u8 0, .int .u8 0, .int .u8 0, .int .u8 0, .int .u8 0, .int .u8 0, .int .u8 0, .int .u8 0, .int .u8 0, .int .u8 0] : Array Value) = zD := by kernel_rfl
attribute [irreducible] zD

set_option maxRecDepth 100000 in
set_option maxHeartbeats 4000000 in
/-- digest.Finish of a state that is not valid. -/
theorem finish_bad (s : St) (n : Int) (hn : -9223372036854775808 ≤ n ∧ n ≤ 9223372036854775807) (TA : Option Addr) (tl : Nat) (tc : Nat) (w : World) (hv : okH tl n = false) :
    Calls Tryd.prog 14 #[.agg (hsc s (.slice TA tl tc) n)] w fun e w' => e = .returned (.tuple #[.agg zD, .agg (flt 6 (-1))]) ∧ Below w.heap.size w w' := by
  have hlt : w.heap.size < w.heap.size + 1 := Nat.lt_succ_self _
  go_enter Tryd.func14, Tryd.ntmps14
  go_wp2_with (first
    | (refine wpList_load_row rfl 30 _ rfl w.heap.size rfl 30 (hsc s (.slice TA tl tc) n) (0, 0) _ (((Row.new _ _ _).alloc _).alloc _) Tryd.underlying30 rfl (by rw [hsc_size]; exact cellsH) ?_)
    | (go_at_call 31; go_must (refine (valid_any s n hn TA tl tc _).mono ?_; rintro e w1 ⟨rfl, hb1⟩; have r1 : Row w1 (w.heap.size + 1) 24 zD := Row.below ((Row.newEq _ _ _ _ _ (by simp) zD_lit).alloc _) hb1 (by simp); have r2 : Row w1 (w.heap.size + 1 + 1) 32 (flt 0 0) := Row.below (Row.newEq _ _ _ _ _ (by simp) rfl) hb1 (by simp); have hbb : Below w.heap.size w w1 := blw_call ((((Below.refl _ _).alloc (Nat.le_refl _) _).alloc (by simp) _).alloc (by simp; omega) _) (by simp; omega) hb1; clear hb1))
    | (refine wpList_store_row rfl 24 _ _ rfl (w.heap.size + 1) zD rfl (congrArg Value.agg zD_lit) 24 zD r1 (by rw [zD_size]; exact cellsD) rfl (all_one zD_one) ?_)
    | (refine wpList_store_row rfl 32 _ _ rfl (w.heap.size + 1 + 1) (flt 6 (-1)) rfl rfl 32 (flt 0 0) (r2.rowFar (by omega) _) (by rw [flt_size]; exact cellsF) rfl (all_one (flt_one _ _)) ?_))
  refine bodyPost_ret (results_rows Tryd.results14 _ _ (w.heap.size + 1) (w.heap.size + 1 + 1) 24 32 zD (flt 6 (-1)) _ _ rfl rfl ((Row.row r1 _).rowFar (by omega) _) (Row.row (r2.rowFar (by omega) _) _) Tryd.underlying24 rfl (by rw [zD_size]; exact cellsD) Tryd.underlying32 rfl (by rw [flt_size]; exact cellsF)) rfl ⟨rfl, ?_⟩
  exact blw_row (blw_row hbb (Nat.le_succ _) _) (by omega) _

set_option maxRecDepth 100000 in
set_option maxHeartbeats 4000000 in
/-- digest.Finish of a valid state. -/
theorem finish_ok (s : St) (n : Nat) (TA : Option Addr) (tl : List UInt8) (tc : Nat) (w : World) (hk : KIs w) (hS : Sl w w.heap.size TA tl.length (bl tl)) (hv : okH tl.length n = true) :
    Calls Tryd.prog 14 #[.agg (hsc s (.slice TA tl.length tc) n)] w fun e w' => e = .returned (.tuple #[.agg (bs (hashed s tl n)), .agg (flt 0 0)]) ∧ Below w.heap.size w w' := by
  obtain ⟨_, hn, ht⟩ := okH_of hv
  have ht64 : tl.length < 64 := by omega
  have hlt : w.heap.size < w.heap.size + 1 := Nat.lt_succ_self _
  have hn2 : n ≤ 1099511627776 := by omega
  have hn3 : -9223372036854775808 ≤ (n : Int) ∧ (n : Int) ≤ 9223372036854775807 := by omega
  have HK := Lib.hid hk
  have hg := hk.lt
  have hl := hashed_length s tl n
  have HT := Lib.hid ht
  have HL := Lib.hid hl
  clear hk ht hl
  go_enter Tryd.func14, Tryd.ntmps14
  go_wp2_with (first
    | (refine wpList_load_row rfl 30 _ rfl w.heap.size rfl 30 (hsc s (.slice TA tl.length tc) n) (0, 0) _ (((Row.new _ _ _).alloc _).alloc _) Tryd.underlying30 rfl (by rw [hsc_size]; exact cellsH) ?_)
    | (go_at_call 31; refine (valid_any s n hn3 TA tl.length tc _).mono ?_; rintro e w1 ⟨rfl, hb1⟩; have r0 : Row w1 w.heap.size 30 (hsc s (.slice TA tl.length tc) n) := Row.below (((Row.new _ _ _).alloc _).alloc _) hb1 (by simp; omega); have r1 : Row w1 (w.heap.size + 1) 24 zD := Row.below ((Row.newEq _ _ _ _ _ (by simp) zD_lit).alloc _) hb1 (by simp); have r2 : Row w1 (w.heap.size + 1 + 1) 32 (flt 0 0) := Row.below (Row.newEq _ _ _ _ _ (by simp) rfl) hb1 (by simp); have hbb : Below w.heap.size w w1 := blw_call ((((Below.refl _ _).alloc (Nat.le_refl _) _).alloc (by simp) _).alloc (by simp; omega) _) (by simp; omega) hb1; clear hb1)
    | (refine wpList_load_row rfl 30 _ rfl w.heap.size rfl 30 (hsc s (.slice TA tl.length tc) n) (0, 0) _ r0 Tryd.underlying30 rfl (by rw [hsc_size]; exact cellsH) ?_)
    | (go_at_call 29; refine (pad_any s n TA tl tc w1 (KIs.keep HK.out hbb hg) ht64 ((hS.below hbb).wider hbb.size) (by omega)).mono ?_; rintro e w2 ⟨rfl, hb2⟩; have q1 := Row.below r1 hb2 r1.lt; have q2 := Row.below r2 hb2 r2.lt; have hbc := hbb.trans (hb2.mono hbb.size))
    | (refine wpList_store_row rfl 24 _ _ rfl (w.heap.size + 1) (bs (hashed s tl n)) rfl rfl 24 zD q1 (by rw [bs_size, HL.out]; exact cellsD) (by rw [zD_size, bs_size, HL.out]) (all_one (bs_one _)) ?_)
    | (refine wpList_store_row rfl 32 _ _ rfl (w.heap.size + 1 + 1) (flt 0 0) rfl rfl 32 (flt 0 0) (q2.rowFar (by omega) _) (by rw [flt_size]; exact cellsF) rfl (all_one (flt_one _ _)) ?_))
  refine bodyPost_ret (results_rows Tryd.results14 _ _ (w.heap.size + 1) (w.heap.size + 1 + 1) 24 32 (bs (hashed s tl n)) (flt 0 0) _ _ rfl rfl ((Row.row q1 _).rowFar (by omega) _) (Row.row (q2.rowFar (by omega) _) _) Tryd.underlying24 rfl (by rw [bs_size, HL.out]; exact cellsD) Tryd.underlying32 rfl (by rw [flt_size]; exact cellsF)) rfl ⟨rfl, ?_⟩
  exact blw_row (blw_row hbc (Nat.le_succ _) _) (by omega) _

/-- an owned row, where another block is written whole -/
theorem own_row {w : World} {base : Nat} {e : TypeId} {u : Value} {k : Nat} {xs : List Value} (h : w.ownsRow base e 1 u k xs) {g : Nat} (hg : g < base) (cs : Array Value) : (w.setRow g cs).ownsRow base e 1 u k xs := by
  refine ⟨h.1, ?_⟩
  rcases h.2 with h0 | ⟨b, cap, cur, h1, h2, h3, h4⟩
  · exact .inl h0
  · exact .inr ⟨b, cap, cur, h1, h2, (setRow_other w g b cs (by omega)).trans h3, h4⟩
/-- the state of zeros, as cells -/
def zH : Array Value := hsc ⟨0, 0, 0, 0, 0, 0, 0, 0⟩ (.slice none 0 0) 0
theorem zH_eq : hsc ⟨0, 0, 0, 0, 0, 0, 0, 0⟩ (.slice none 0 0) 0 = zH := rfl
theorem zH_size : zH.size = 10 := rfl
theorem hsc_one (s : St) (v : Value) (n : Int) (hv : v.oneCell' = true) : ∀ u ∈ hsc s v n, u.oneCell' = true := by
  intro u hu
  simp only [hsc, List.mem_toArray, List.mem_cons, List.not_mem_nil, or_false] at hu
  rcases hu with rfl | rfl | rfl | rfl | rfl | rfl | rfl | rfl | rfl | rfl <;> first | rfl | exact hv
theorem zH_one : ∀ v ∈ zH, v.oneCell' = true := hsc_one _ _ _ rfl
theorem zH_lit : (#[.int .u32 0, .int .u32 0, .int .u32 0, .int .u32 0, .int .u32 0, .int .u32 0, .int .u32 0, .int .u32 0, .slice none 0 0, .int .i64 0] : Array Value) = zH := by kernel_rfl
attribute [irreducible] zH

set_option maxRecDepth 100000 in
set_option maxHeartbeats 4000000 in
/-- digest.Write to a state that is not valid. -/
theorem write_bad (s : St) (n : Int) (hn : -9223372036854775808 ≤ n ∧ n ≤ 9223372036854775807) (TA : Option Addr) (tl : Nat) (tc : Nat) (x : Value) (w : World) (hv : okH tl n = false) :
    Calls Tryd.prog 13 #[.agg (hsc s (.slice TA tl tc) n), x] w fun e w' => e = .returned (.tuple #[.agg zH, .agg (flt 6 (-1))]) ∧ Below w.heap.size w w' := by
  have hlt : w.heap.size < w.heap.size + 1 := Nat.lt_succ_self _
  go_enter Tryd.func13, Tryd.ntmps13
  go_wp2_with (first
    | (refine wpList_load_row rfl 30 _ rfl w.heap.size rfl 30 (hsc s (.slice TA tl tc) n) (0, 0) _ (((Row.new _ _ _).alloc _).alloc _) Tryd.underlying30 rfl (by rw [hsc_size]; exact cellsH) ?_)
    | (go_at_call 31; refine (valid_any s n hn TA tl tc _).mono ?_; rintro e w1 ⟨rfl, hb1⟩; have r1 : Row w1 (w.heap.size + 1) 30 zH := Row.below ((Row.newEq _ _ _ _ _ (by simp) zH_lit).alloc _) hb1 (by simp); have r2 : Row w1 (w.heap.size + 1 + 1) 32 (flt 0 0) := Row.below (Row.newEq _ _ _ _ _ (by simp) rfl) hb1 (by simp); have hbb : Below w.heap.size w w1 := blw_call ((((Below.refl _ _).alloc (Nat.le_refl _) _).alloc (by simp) _).alloc (by simp; omega) _) (by simp; omega) hb1; clear hb1)
    | (refine wpList_store_row rfl 30 _ _ rfl (w.heap.size + 1) zH rfl (congrArg Value.agg zH_lit) 30 zH r1 (by rw [zH_size]; exact cellsH) rfl (all_one zH_one) ?_)
    | (refine wpList_store_row rfl 32 _ _ rfl (w.heap.size + 1 + 1) (flt 6 (-1)) rfl rfl 32 (flt 0 0) (r2.rowFar (by omega) _) (by rw [flt_size]; exact cellsF) rfl (all_one (flt_one _ _)) ?_))
  refine bodyPost_ret (results_rows Tryd.results13 _ _ (w.heap.size + 1) (w.heap.size + 1 + 1) 30 32 zH (flt 6 (-1)) _ _ rfl rfl ((Row.row r1 _).rowFar (by omega) _) (Row.row (r2.rowFar (by omega) _) _) Tryd.underlying30 rfl (by rw [zH_size]; exact cellsH) Tryd.underlying32 rfl (by rw [flt_size]; exact cellsF)) rfl ⟨rfl, ?_⟩
  exact blw_row (blw_row hbb (Nat.le_succ _) _) (by omega) _

set_option maxRecDepth 100000 in
set_option maxHeartbeats 4000000 in
/-- digest.Write of too many bytes. -/
theorem write_long (s : St) (n : Int) (TA : Option Addr) (tl : Nat) (tc : Nat) (A : Option Addr) (len c : Nat) (w : World) (hv : okH tl n = true) (hl : 1099511627776 - n < (len : Int)) :
    Calls Tryd.prog 13 #[.agg (hsc s (.slice TA tl tc) n), .slice A len c] w fun e w' => e = .returned (.tuple #[.agg zH, .agg (flt 3 (-2))]) ∧ Below w.heap.size w w' := by
  obtain ⟨hn0, hn, ht⟩ := okH_of hv
  have hlt : w.heap.size < w.heap.size + 1 := Nat.lt_succ_self _
  have hn3 : -9223372036854775808 ≤ (n : Int) ∧ (n : Int) ≤ 9223372036854775807 := by omega
  clear ht
  go_enter Tryd.func13, Tryd.ntmps13
  go_wp2_with (first
    | (refine wpList_load_row rfl 30 _ rfl w.heap.size rfl 30 (hsc s (.slice TA tl tc) n) (0, 0) _ (((Row.new _ _ _).alloc _).alloc _) Tryd.underlying30 rfl (by rw [hsc_size]; exact cellsH) ?_)
    | (go_at_call 31; refine (valid_any s n hn3 TA tl tc _).mono ?_; rintro e w1 ⟨rfl, hb1⟩; have r0 : Row w1 w.heap.size 30 (hsc s (.slice TA tl tc) n) := Row.below (((Row.new _ _ _).alloc _).alloc _) hb1 (by simp; omega); have c9 : w1.cell? ⟨w.heap.size, 9, none⟩ = some (.int .i64 n) := (r0.cell 9).trans rfl; have r1 : Row w1 (w.heap.size + 1) 30 zH := Row.below ((Row.newEq _ _ _ _ _ (by simp) zH_lit).alloc _) hb1 (by simp); have r2 : Row w1 (w.heap.size + 1 + 1) 32 (flt 0 0) := Row.below (Row.newEq _ _ _ _ _ (by simp) rfl) hb1 (by simp); have hbb : Below w.heap.size w w1 := blw_call ((((Below.refl _ _).alloc (Nat.le_refl _) _).alloc (by simp) _).alloc (by simp; omega) _) (by simp; omega) hb1; clear hb1)
    | (refine wpList_store_row rfl 30 _ _ rfl (w.heap.size + 1) zH rfl (congrArg Value.agg zH_lit) 30 zH r1 (by rw [zH_size]; exact cellsH) rfl (all_one zH_one) ?_)
    | (refine wpList_store_row rfl 32 _ _ rfl (w.heap.size + 1 + 1) (flt 3 (-2)) rfl rfl 32 (flt 0 0) (r2.rowFar (by omega) _) (by rw [flt_size]; exact cellsF) rfl (all_one (flt_one _ _)) ?_))
  refine bodyPost_ret (results_rows Tryd.results13 _ _ (w.heap.size + 1) (w.heap.size + 1 + 1) 30 32 zH (flt 3 (-2)) _ _ rfl rfl ((Row.row r1 _).rowFar (by omega) _) (Row.row (r2.rowFar (by omega) _) _) Tryd.underlying30 rfl (by rw [zH_size]; exact cellsH) Tryd.underlying32 rfl (by rw [flt_size]; exact cellsF)) rfl ⟨rfl, ?_⟩
  exact blw_row (blw_row hbb (Nat.le_succ _) _) (by omega) _

set_option maxRecDepth 100000 in
set_option maxHeartbeats 4000000 in
/-- digest.Write to a valid state. -/
theorem write_ok (s : St) (n : Nat) (TA : Option Addr) (tl : List UInt8) (tc : Nat) (A : Option Addr) (L : List UInt8) (c : Nat) (w : World) (hk : KIs w) (hS : Sl w w.heap.size TA tl.length (bl tl)) (hL : Sl w w.heap.size A L.length (bl L)) (hc : L.length ≤ c) (hcm : c ≤ maxLen)
    (hv : okH tl.length n = true) (hl : (L.length : Int) ≤ 1099511627776 - (n : Int)) :
    Calls Tryd.prog 13 #[.agg (hsc s (.slice TA tl.length tc) n), .slice A L.length c] w fun e w' =>
      ∃ v, e = .returned (.tuple #[.agg (hsc (chew s (tl ++ L) ((tl ++ L).length / 64)) v ((n + L.length : Nat) : Int)), .agg (flt 0 0)]) ∧
        w'.ownsRow w.heap.size 5 1 v ((tl ++ L).length % 64) (bl ((tl ++ L).drop (64 * ((tl ++ L).length / 64)))) ∧ Below w.heap.size w w' := by
  obtain ⟨hn0, hn, ht⟩ := okH_of hv
  have ht64 : tl.length < 64 := by omega
  have hnL : n + L.length ≤ 1152921504606846975 := by omega
  have hlt : w.heap.size < w.heap.size + 1 := Nat.lt_succ_self _
  have hn3 : -9223372036854775808 ≤ (n : Int) ∧ (n : Int) ≤ 9223372036854775807 := by omega
  have HK := Lib.hid hk
  have hg := hk.lt
  have HCM := Lib.hid hcm
  clear ht hk hcm
  go_enter Tryd.func13, Tryd.ntmps13
  go_wp2_with (first
    | (refine wpList_load_row rfl 30 _ rfl w.heap.size rfl 30 (hsc s (.slice TA tl.length tc) n) (0, 0) _ (((Row.new _ _ _).alloc _).alloc _) Tryd.underlying30 rfl (by rw [hsc_size]; exact cellsH) ?_)
    | (go_at_call 31; refine (valid_any s n hn3 TA tl.length tc _).mono ?_; rintro e w1 ⟨rfl, hb1⟩; have r0 : Row w1 w.heap.size 30 (hsc s (.slice TA tl.length tc) n) := Row.below (((Row.new _ _ _).alloc _).alloc _) hb1 (by simp; omega); have c9 : w1.cell? ⟨w.heap.size, 9, none⟩ = some (.int .i64 n) := (r0.cell 9).trans rfl; have r1 : Row w1 (w.heap.size + 1) 30 zH := Row.below ((Row.newEq _ _ _ _ _ (by simp) zH_lit).alloc _) hb1 (by simp); have r2 : Row w1 (w.heap.size + 1 + 1) 32 (flt 0 0) := Row.below (Row.newEq _ _ _ _ _ (by simp) rfl) hb1 (by simp); have hbb : Below w.heap.size w w1 := blw_call ((((Below.refl _ _).alloc (Nat.le_refl _) _).alloc (by simp) _).alloc (by simp; omega) _) (by simp; omega) hb1; clear hb1)
    | (refine wpList_load_row rfl 30 _ rfl w.heap.size rfl 30 (hsc s (.slice TA tl.length tc) n) (0, 0) _ r0 Tryd.underlying30 rfl (by rw [hsc_size]; exact cellsH) ?_)
    | (go_at_call 30; refine (absorb_any s n TA tl tc A L c w1 (KIs.keep HK.out hbb hg) ht64 ((hS.below hbb).wider hbb.size) hc HCM.out ((hL.below hbb).wider hbb.size) hnL).mono ?_; rintro e w2 ⟨v2, rfl, ho2, hb2⟩; obtain ⟨A2, c2, hv2, _, _⟩ := own_form ho2; subst hv2; have q1 := Row.below r1 hb2 r1.lt; have q2 := Row.below r2 hb2 r2.lt; have hbc := hbb.trans (hb2.mono hbb.size))
    | (refine wpList_store_row rfl 30 _ _ rfl (w.heap.size + 1) (hsc _ _ _) rfl rfl 30 zH q1 (by rw [hsc_size]; exact cellsH) (by rw [zH_size, hsc_size]) (all_one (hsc_one _ _ _ rfl)) ?_)
    | (refine wpList_store_row rfl 32 _ _ rfl (w.heap.size + 1 + 1) (flt 0 0) rfl rfl 32 (flt 0 0) (q2.rowFar (by omega) _) (by rw [flt_size]; exact cellsF) rfl (all_one (flt_one _ _)) ?_))
  have hw1 : w.heap.size + 1 + 1 < w1.heap.size := r2.lt
  have hlen : (tl ++ L).length = tl.length + L.length := List.length_append
  refine bodyPost_ret (results_rows Tryd.results13 _ _ (w.heap.size + 1) (w.heap.size + 1 + 1) 30 32 _ (flt 0 0) _ _ rfl rfl ((Row.row q1 _).rowFar (by omega) _) (Row.row (q2.rowFar (by omega) _) _) Tryd.underlying30 rfl (by rw [hsc_size]; exact cellsH) Tryd.underlying32 rfl (by rw [flt_size]; exact cellsF)) rfl ⟨.slice A2 ((tl ++ L).length % 64) c2, ?_, ?_, ?_⟩
  · rw [hlen]
    rfl
  · exact own_base (own_row (own_row ho2 (by omega) _) (by omega) _) hbb.size
  · exact blw_row (blw_row hbc (Nat.le_succ _) _) (by omega) _

end Go.Proofs.YtcippenhomhpbaaDoor
