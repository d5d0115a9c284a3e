/-
  The contract of digest.absorb: the state after further bytes, for every valid state and every slice of bytes.
-/
import Derived.Test.YtcippenhomhpbaaDoorShaOut
import Derived.Deep.RegionLaw
namespace Go.Proofs.YtcippenhomhpbaaDoor
open Go.RowKit

/-- a state after m blocks of a byte string -/
def chew (s : St) (all : List UInt8) : Nat → St
  | 0 => s
  | m + 1 => mixed (chew s all m) ((all.drop (64 * m)).take 64)
theorem chew_zero (s : St) (all : List UInt8) : chew s all 0 = s := rfl
theorem chew_next (s : St) (all : List UInt8) (m : Nat) : chew s all (m + 1) = mixed (chew s all m) ((all.drop (64 * m)).take 64) := rfl
attribute [irreducible] chew

theorem zeroH : (#[.int .u32 0, .int .u32 0, .int .u32 0, .int .u32 0, .int .u32 0, .int .u32 0, .int .u32 0, .int .u32 0, .slice none 0 0, .int .i64 0] : Array Value) = hsc ⟨0, 0, 0, 0, 0, 0, 0, 0⟩ (.slice none 0 0) 0 := by kernel_rfl
theorem zeroB : (#[.int .u8 0, .int .u8 0, .int .u8 0, .int .u8 0, .int .u8 0, .int .u8 0, .int .u8 0, .int .u8 0, .int .u8 0, .int .u8 0, .int .u8 0, .int .u8 0, .int .u8 0, .int .u8 0, .int .u8 0, .int .u8 0, .int .u8 0, .int .u8 0, .int .u8 0, .int .u8 0, .int .u8 0, .int .u8 0, .int .u8 0, .int .u8 0, .int .u8 0, .int .u8 0, .int .u8 0, .int .u8 0, .int .u8 0, .int .u8 0, .int .u8 0, .int .u8 0, .int .u8 0, .int .u8 0, .int .u8 0, .int .u8 0, .int .u8 0, .int .u8 0, .int .u8 0, .int .u8 0, .int .u8 0, .int .u8 0, .int .u8 0, .int .u8 0, .int .u8 0, .int .u8 0, .int .u8 0, .int .u8 0, .int .u8 0, .int .u8 0, .int .u8 0, .int .u8 0, .int .u8 0, .int .u8 0, .int .u8 0, .int .u8 0, .int .u8 0, .int .u8 0, .int .u8 0, .int .u8 0, .int .u8 0, .int .u8 0, .int .u8 0, .int .u8 0] : Array Value) = bs (List.replicate 64 0) := by kernel_rfl
theorem bs_bl (l : List UInt8) : bs l = (bl l).toArray := by unfold bs bl; rfl
theorem mix_eq (s : St) (B : List UInt8) (cs : Array Value) (h : cs = bs B) (hB : B.length = 64) (w : World) (hk : KIs w) :
    Calls Tryd.prog 41 #[.agg (stc s), .agg cs] w fun e w' => e = .returned (.agg (stc (mixed s B))) ∧ Below w.heap.size w w' := by
  subst h
  exact mix_any s B hB w hk
theorem bl_take (l : List UInt8) (k : Nat) : (bl l).take k = bl (l.take k) := by unfold bl; rw [List.map_take]
theorem bl_drop (l : List UInt8) (k : Nat) : (bl l).drop k = bl (l.drop k) := by unfold bl; rw [List.map_drop]
/-- a block that is filled to its end -/
theorem splice_full (bk : List Value) (D : List UInt8) (f k : Nat) (h1 : bk.length = 64) (h2 : bk.take f = bl (D.take f)) (h3 : f + k = 64) (h4 : 64 ≤ D.length) :
    (splice bk f ((bl (D.drop f)).take k)).toArray = bs (D.take 64) := by
  rw [bs_bl]
  congr 1
  have e : ((bl (D.drop f)).take k).length = k := by rw [List.length_take, bl_length, List.length_drop]; omega
  have e2 : bk.drop 64 = [] := List.drop_eq_nil_of_le (by omega)
  unfold splice
  rw [h2, e, h3, e2, List.append_nil, bl_take, ← bl_append, ← h3, List.take_add]
/-- a block that is filled a little further -/
theorem splice_more (bk : List Value) (D : List UInt8) (f k : Nat) (h2 : bk.take f = bl (D.take f)) (h4 : f + k ≤ D.length) :
    (splice bk f ((bl (D.drop f)).take k)).take (f + k) = bl (D.take (f + k)) := by
  have e : ((bl (D.drop f)).take k).length = k := by rw [List.length_take, bl_length, List.length_drop]; omega
  unfold splice
  rw [h2, bl_take, ← List.append_assoc, ← bl_append, ← List.take_add]
  exact List.take_left' (by rw [bl_length, List.length_take]; omega)
theorem stc_size (s : St) : (stc s).size = 8 := rfl
theorem zeroAt (k : Nat) (v : Value) (h : (#[.int .u32 0, .int .u32 0, .int .u32 0, .int .u32 0, .int .u32 0, .int .u32 0, .int .u32 0, .int .u32 0, .slice none 0 0, .int .i64 0] : Array Value)[k]? = some v) : (hsc ⟨0, 0, 0, 0, 0, 0, 0, 0⟩ (.slice none 0 0) 0)[k]? = some v := by
  rw [← zeroH]
  exact h
/-- a state in pieces as it is stored, cell by cell -/
def putH (w : World) (g : Nat) (s : St) (v : Value) (n : Int) : World :=
  ((((((((((w.setCell ⟨g, 0, none⟩ (.int .u32 (W s.a))).setCell ⟨g, 1, none⟩ (.int .u32 (W s.b))).setCell ⟨g, 2, none⟩ (.int .u32 (W s.c))).setCell ⟨g, 3, none⟩ (.int .u32 (W s.d))).setCell ⟨g, 4, none⟩ (.int .u32 (W s.e))).setCell ⟨g, 5, none⟩ (.int .u32 (W s.f))).setCell ⟨g, 6, none⟩ (.int .u32 (W s.g))).setCell ⟨g, 7, none⟩ (.int .u32 (W s.h))).setCell ⟨g, 8, none⟩ v).setCell ⟨g, 9, none⟩ (.int .i64 n))
theorem row_hsc {w : World} {g : Nat} {t : TypeId} (h : Row w g t (hsc ⟨0, 0, 0, 0, 0, 0, 0, 0⟩ (.slice none 0 0) 0)) (s : St) (v : Value) (n : Int) : Row (putH w g s v n) g t (hsc s v n) := by
  have h2 := ((((((((((h.put 0 (.int .u32 (W s.a))).put 1 (.int .u32 (W s.b))).put 2 (.int .u32 (W s.c))).put 3 (.int .u32 (W s.d))).put 4 (.int .u32 (W s.e))).put 5 (.int .u32 (W s.f))).put 6 (.int .u32 (W s.g))).put 7 (.int .u32 (W s.h))).put 8 v).put 9 (.int .i64 n))
  simp only [hsc, List.setIfInBounds_toArray, List.set_cons_succ, List.set_cons_zero] at h2 ⊢
  exact h2
theorem own_putH {w : World} {base : Nat} {e : TypeId} {u : Value} {k : Nat} {xs : List Value} (h : w.ownsRow base e 1 u k xs) {g : Nat} (hg : g < base) (s : St) (v : Value) (n : Int) : (putH w g s v n).ownsRow base e 1 u k xs :=
  (ownsRow_setCell_below (ownsRow_setCell_below (ownsRow_setCell_below (ownsRow_setCell_below (ownsRow_setCell_below (ownsRow_setCell_below (ownsRow_setCell_below (ownsRow_setCell_below (ownsRow_setCell_below (ownsRow_setCell_below h hg _) hg _) hg _) hg _) hg _) hg _) hg _) hg _) hg _) hg _)
theorem blw_putH {B : Nat} {a w : World} (h : Below B a w) {g : Nat} (hg : B ≤ g) (s : St) (v : Value) (n : Int) : Below B a (putH w g s v n) :=
  ((((((((((h.setCell hg _).setCell hg _).setCell hg _).setCell hg _).setCell hg _).setCell hg _).setCell hg _).setCell hg _).setCell hg _).setCell hg _)
/-- the length of a slice -/
def lenV : Value → Nat
  | .slice _ n _ => n
  | _ => 0
theorem hsc_size (s : St) (t : Value) (n : Int) : (hsc s t n).size = 10 := rfl
theorem cellsH : (Tryd.prog.info? 30).map (·.size) = some 10 := by kernel_rfl

set_option maxRecDepth 100000 in
set_option maxHeartbeats 4000000 in
theorem absorb_any (s : St) (n : Nat) (TA : Option Addr) (tl : List UInt8) (tc : Nat) (A : Option Addr) (L : List UInt8) (c : Nat) (w : World) (hk : KIs w)
    (ht : tl.length < 64) (hS : Sl w w.heap.size TA tl.length (bl tl)) (hc : L.length ≤ c) (hcm : c ≤ maxLen) (hL : Sl w w.heap.size A L.length (bl L)) (hn : n + L.length ≤ 1152921504606846975) :
    Calls Tryd.prog 30 #[.agg (hsc s (.slice TA tl.length tc) n), .slice A L.length c] w fun e w' =>
      ∃ v, e = .returned (.agg (hsc (chew s (tl ++ L) ((tl ++ L).length / 64)) v ((n + L.length : Nat) : Int))) ∧
        w'.ownsRow w.heap.size 5 1 v ((tl ++ L).length % 64) (bl ((tl ++ L).drop (64 * ((tl ++ L).length / 64)))) ∧ Below w.heap.size w w' := by
  have HK := Lib.hid hk
  have hg := hk.lt
  clear hk
  obtain ⟨i0, hi, hz0, hz1, hz2⟩ := info_parts infoB
  unfold maxLen at hcm
  go_enter Tryd.func30, Tryd.ntmps30
  go_wp2_with fail
  have r0 := ((Row.new w 30 (hsc s (.slice TA tl.length tc) n)).alloc (.cells (hsc ⟨0, 0, 0, 0, 0, 0, 0, 0⟩ (.slice none 0 0) 0) 30)).alloc (.cells (bs (List.replicate 64 0)) 69)
  have r1 := (Row.newAt (w.alloc (.cells (hsc s (.slice TA tl.length tc) n) 30)) 30 (hsc ⟨0, 0, 0, 0, 0, 0, 0, 0⟩ (.slice none 0 0) 0) (w.heap.size + 1) (by simp)).alloc (.cells (bs (List.replicate 64 0)) 69)
  have r2 := Row.newAt ((w.alloc (.cells (hsc s (.slice TA tl.length tc) n) 30)).alloc (.cells (hsc ⟨0, 0, 0, 0, 0, 0, 0, 0⟩ (.slice none 0 0) 0) 30)) 69 (bs (List.replicate 64 0)) (w.heap.size + 1 + 1) (by simp)
  have hb : Below w.heap.size w (((w.alloc (.cells (hsc s (.slice TA tl.length tc) n) 30)).alloc (.cells (hsc ⟨0, 0, 0, 0, 0, 0, 0, 0⟩ (.slice none 0 0) 0) 30)).alloc (.cells (bs (List.replicate 64 0)) 69)) := (((Below.refl _ _).alloc (Nat.le_refl _) _).alloc (by simp) _).alloc (by simp; omega) _
  have hsz : w.heap.size + 1 + 1 + 1 = (((w.alloc (.cells (hsc s (.slice TA tl.length tc) n) 30)).alloc (.cells (hsc ⟨0, 0, 0, 0, 0, 0, 0, 0⟩ (.slice none 0 0) 0) 30)).alloc (.cells (bs (List.replicate 64 0)) 69)).heap.size := by simp
  rw [zeroH, zeroB]
  obtain ⟨W0, hW0⟩ : ∃ W0, W0 = (((w.alloc (.cells (hsc s (.slice TA tl.length tc) n) 30)).alloc (.cells (hsc ⟨0, 0, 0, 0, 0, 0, 0, 0⟩ (.slice none 0 0) 0) 30)).alloc (.cells (bs (List.replicate 64 0)) 69)) := ⟨_, rfl⟩
  rw [← hW0] at r0 r1 r2 hb hsz ⊢
  clear hW0
  have c0 : W0.cell? ⟨w.heap.size, 0, none⟩ = some (.int .u32 (W s.a)) := (r0.cell 0).trans rfl
  have c1 : W0.cell? ⟨w.heap.size, 1, none⟩ = some (.int .u32 (W s.b)) := (r0.cell 1).trans rfl
  have c2 : W0.cell? ⟨w.heap.size, 2, none⟩ = some (.int .u32 (W s.c)) := (r0.cell 2).trans rfl
  have c3 : W0.cell? ⟨w.heap.size, 3, none⟩ = some (.int .u32 (W s.d)) := (r0.cell 3).trans rfl
  have c4 : W0.cell? ⟨w.heap.size, 4, none⟩ = some (.int .u32 (W s.e)) := (r0.cell 4).trans rfl
  have c5 : W0.cell? ⟨w.heap.size, 5, none⟩ = some (.int .u32 (W s.f)) := (r0.cell 5).trans rfl
  have c6 : W0.cell? ⟨w.heap.size, 6, none⟩ = some (.int .u32 (W s.g)) := (r0.cell 6).trans rfl
  have c7 : W0.cell? ⟨w.heap.size, 7, none⟩ = some (.int .u32 (W s.h)) := (r0.cell 7).trans rfl
  have c8 : W0.cell? ⟨w.heap.size, 8, none⟩ = some (.slice TA tl.length tc) := (r0.cell 8).trans rfl
  have c9 : W0.cell? ⟨w.heap.size, 9, none⟩ = some (.int .i64 n) := (r0.cell 9).trans rfl
  have HSZ := Lib.hid hsz
  have hlt : w.heap.size < W0.heap.size := r0.lt
  have hlt1 : w.heap.size + 1 + 1 < W0.heap.size := r2.lt
  clear hsz
  go_region
  go_wp2_with fail
  have q0 := (r0.alloc (.cells (stc s) 28)).drew
  have q1 := (r1.alloc (.cells (stc s) 28)).drew
  have q2 := (r2.alloc (.cells (stc s) 28)).drew
  have q3 := (Row.new W0 28 (stc s)).drew
  have qb := (hb.alloc (Nat.le_of_lt hlt) (.cells (stc s) 28)).drew
  have hgs : w.heap.size + 1 + 1 < W0.heap.size := hlt1
  have HW := Lib.hid (show (W0.alloc (.cells (stc s) 28)).drew.heap.size = W0.heap.size + 1 from by simp)
  rw [show (#[Value.int .u32 (W s.a), Value.int .u32 (W s.b), Value.int .u32 (W s.c), Value.int .u32 (W s.d), Value.int .u32 (W s.e), Value.int .u32 (W s.f), Value.int .u32 (W s.g), Value.int .u32 (W s.h)] : Array Value) = stc s from rfl]
  clear c0 c1 c2 c3 c4 c5 c6 c7 c8 c9 r0 r1 r2 hb HSZ hlt hlt1
  obtain ⟨W1, hW1⟩ : ∃ W1, W1 = (W0.alloc (.cells (stc s) 28)).drew := ⟨_, rfl⟩
  obtain ⟨gs, hgs0⟩ : ∃ gs, gs = W0.heap.size := ⟨_, rfl⟩
  rw [← hW1, ← hgs0] at HW
  rw [← hW1] at q0 q1 q2 q3 qb ⊢
  rw [← hgs0] at q3 hgs ⊢
  clear hW1 hgs0 W0
  have c8 : W1.cell? ⟨w.heap.size, 8, none⟩ = some (.slice TA tl.length tc) := (q0.cell 8).trans rfl
  obtain ⟨z, hz⟩ : ∃ z, z = bl (List.replicate 64 0) := ⟨_, rfl⟩
  obtain ⟨X, hX⟩ : ∃ X, X = bl tl := ⟨_, rfl⟩
  have hzl : z.length = 64 := by rw [hz, bl_length]; rfl
  rw [bs_bl, ← hz] at q2
  rw [← hX] at hS
  have hX1 : ∀ v ∈ X, v.oneCell' = true := by rw [hX]; exact bl_one tl
  have HX := Lib.hid hX
  have HZ := Lib.hid hzl
  clear hz hX hzl
  go_region_law (refine step_copy _ rfl (.tmp 17) (.tmp 19) _ _ rfl 5 Tryd.underlying22 (by kernel_rfl) (w.heap.size + 1 + 1) 0 64 64 rfl z 69 q2 w.heap.size TA tl.length tc rfl X (hS.below qb.drew) hX1 tl.length (by have : Nat.min tl.length 64 = tl.length := Nat.min_eq_left (by omega); exact this.symm) (by rw [HZ.out]; omega) ?_)
  go_wp2_with fail
  have d2 : Row (W1.drew.setRow (w.heap.size + 1 + 1) (splice z 0 (X.take tl.length)).toArray) (w.heap.size + 1 + 1) 69 (splice z 0 (X.take tl.length)).toArray := Row.row (cs := z.toArray) q2 _
  have d1 : Row (W1.drew.setRow (w.heap.size + 1 + 1) (splice z 0 (X.take tl.length)).toArray) (w.heap.size + 1) 30 (hsc ⟨0, 0, 0, 0, 0, 0, 0, 0⟩ (.slice none 0 0) 0) := Row.rowFar q1 (by omega) _
  have d3 : Row (W1.drew.setRow (w.heap.size + 1 + 1) (splice z 0 (X.take tl.length)).toArray) gs 28 (stc s) := Row.rowFar q3 (by omega) _
  have db : Below w.heap.size w (W1.drew.setRow (w.heap.size + 1 + 1) (splice z 0 (X.take tl.length)).toArray) := blw_row qb.drew (by omega) _
  have e1 : (splice z 0 (X.take tl.length)).length = 64 := by
    rw [length_splice _ _ _ (by rw [HZ.out, HX.out, List.length_take, bl_length]; omega)]
    exact HZ.out
  have e2 : (splice z 0 (X.take tl.length)).take tl.length = bl tl := by
    rw [HX.out, List.take_of_length_le (l := bl tl) (by rw [bl_length]; exact Nat.le_refl _)]
    unfold splice
    rw [List.take_zero, List.nil_append]
    exact List.take_left' (bl_length tl)
  obtain ⟨bk, hbk⟩ : ∃ bk, bk = splice z 0 (X.take tl.length) := ⟨_, rfl⟩
  rw [← hbk] at d1 d2 d3 db e1 e2 ⊢
  obtain ⟨W2, hW2⟩ : ∃ W2, W2 = W1.drew.setRow (w.heap.size + 1 + 1) bk.toArray := ⟨_, rfl⟩
  rw [← hW2] at d1 d2 d3 db ⊢
  clear hW2 hbk q0 q1 q2 q3 qb c8 HW W1
  have E1 := Lib.hid e1
  have E2 := Lib.hid e2
  clear e1 e2
  simp only [List.getElem_toArray, List.getElem_cons_succ, List.getElem_cons_zero, Act.put, List.setIfInBounds_toArray, List.set_cons_succ, List.set_cons_zero]
  go_loopw [1, 8, 9] (fun dv fv _ wr => ∃ m f r : Nat, ∃ (A' : Option Addr) (c' : Nat) (bk : List Value), dv = .slice A' r c' ∧ fv = .int .i64 f ∧ f < 64 ∧ r ≤ c' ∧ c' ≤ 9223372036854775807 ∧ Hid (64 * m + f + r = (tl ++ L).length) ∧
    Sl wr w.heap.size A' r (bl ((tl ++ L).drop (64 * m + f))) ∧ Hid (bk.length = 64) ∧ Hid (bk.take f = bl (((tl ++ L).drop (64 * m)).take f)) ∧ Row wr (w.heap.size + 1 + 1) 69 bk.toArray ∧
    Row wr gs 28 (stc (chew s (tl ++ L) m)) ∧ Row wr (w.heap.size + 1) 30 (hsc ⟨0, 0, 0, 0, 0, 0, 0, 0⟩ (.slice none 0 0) 0) ∧ Below w.heap.size w wr) (fun dv _ _ _ => lenV dv)
  case atStart =>
    refine ⟨0, tl.length, L.length, A, c, bk, rfl, rfl, ht, hc, by omega, Lib.hid (by rw [List.length_append]; omega), ?_, E1, Lib.hid ?_, d2, ?_, d1, db⟩
    · rw [Nat.mul_zero, Nat.zero_add, List.drop_left]
      exact hL.below db
    · rw [E2.out]
      simp
    · rw [chew_zero]
      exact d3
  case round =>
    clear d1 d2 d3 db
    obtain ⟨m, f, r, A', c', bk, rfl, rfl, hf, hr, hcm', HS, hD, HB1, HB2, q2, q3, q1, qb⟩ := hrel
    by_cases hr0 : 0 < r
    · by_cases hfull : 64 - f ≤ r
      · obtain ⟨k, hk⟩ : ∃ k, k = 64 - f := ⟨_, rfl⟩
        have hmin : k = Nat.min r (64 - f) := by rw [hk]; exact (Nat.min_eq_right hfull).symm
        have HM := Lib.hid hmin
        have k1 : f + k ≤ 64 := by omega
        have k2 : 64 ≤ f + k := by omega
        have k3 : (k : Int) ≤ r := by omega
        have k4 : (f : Int) ≤ 64 := by omega
        have k5 : ((f : Int) + (k : Int) == 64) = true := by simp; omega
        clear hmin hk
        have hbl : (splice bk f ((bl ((tl ++ L).drop (64 * m + f))).take k)).toArray = bs (((tl ++ L).drop (64 * m)).take 64) := by
          have h := splice_full bk ((tl ++ L).drop (64 * m)) f k HB1.out HB2.out (by omega) (by rw [List.length_drop]; have := HS.out; omega)
          rw [List.drop_drop] at h
          exact h
        have HBL := Lib.hid hbl
        have hlen : (bs (((tl ++ L).drop (64 * m)).take 64)).size = 64 := by
          rw [bs_size, List.length_take, List.length_drop]
          have := HS.out
          omega
        have HLEN := Lib.hid hlen
        have HC := Lib.hid (mix_eq (chew s (tl ++ L) m) (((tl ++ L).drop (64 * m)).take 64) _ hbl (by rwa [bs_size] at hlen) (wr.setRow (w.heap.size + 1 + 1) (splice bk f ((bl ((tl ++ L).drop (64 * m + f))).take k)).toArray) (KIs.keep HK.out (blw_row qb (by omega) _) hg))
        clear hbl hlen
        go_wp2_with (first
          | (refine wpList_copy _ rfl (.tmp 25) (.tmp 26) _ _ rfl 5 Tryd.underlying22 (by kernel_rfl) (w.heap.size + 1 + 1) f (64 - f) (64 - f) rfl bk 69 q2 w.heap.size A' r _ rfl _ hD (bl_one _) k HM.out (by rw [HB1.out]; omega) ?_)
          | (refine wpList_load_row rfl 28 _ rfl gs rfl 28 _ (0, 0) _ (Row.rowFar q3 (by omega) _) Tryd.underlying28 rfl cells8 ?_)
          | (refine wpList_load_row rfl 69 _ rfl (w.heap.size + 1 + 1) rfl 69 _ (0, 0) _ (Row.row q2 _) Tryd.underlying69 rfl (by rw [HBL.out, HLEN.out]; exact cellsB) ?_)
          | (go_at_call 41; refine HC.out.mono ?_; rintro e w1 ⟨rfl, hb1⟩; have q4 : Row w1 gs 28 (stc (chew s (tl ++ L) m)) := Row.below (Row.rowFar q3 (Nat.ne_of_gt (Nat.lt_of_lt_of_le (Nat.lt_succ_self _) hgs)) _) hb1 (by rw [setRow_size]; exact q3.lt))
          | (refine wpList_store_row rfl 28 _ _ rfl gs _ rfl rfl 28 (stc (chew s (tl ++ L) m)) q4 (by rw [stc_size]; exact cells8) (by rw [stc_size, stc_size]) (all_one (stc_one _)) ?_))
        have hlp : (splice bk f ((bl ((tl ++ L).drop (64 * m + f))).take k)).length = 64 := by
          rw [length_splice _ _ _ (by rw [HB1.out, List.length_take, bl_length, List.length_drop]; have := HS.out; omega)]
          exact HB1.out
        have p2 : Row w1 (w.heap.size + 1 + 1) 69 (splice bk f ((bl ((tl ++ L).drop (64 * m + f))).take k)).toArray := Row.below (Row.row q2 _) hb1 (by rw [setRow_size]; exact q2.lt)
        have p1 : Row w1 (w.heap.size + 1) 30 (hsc ⟨0, 0, 0, 0, 0, 0, 0, 0⟩ (.slice none 0 0) 0) := Row.below (Row.rowFar q1 (by omega) _) hb1 (by rw [setRow_size]; exact q1.lt)
        have hw1 : Below w.heap.size wr w1 := blw_call (blw_row (Below.refl _ _) (by omega) _) (by rw [setRow_size]; exact qb.size) hb1
        have pb : Below w.heap.size w w1 := qb.trans hw1
        clear hb1 HBL HLEN HC
        go_roundw
        case rel =>
          refine ⟨m + 1, 0, r - k, _, _, _, rfl, rfl, by omega, by omega, by omega, Lib.hid (by have := HS.out; omega), ?_, Lib.hid hlp, Lib.hid ?_, p2.rowFar (by omega) _, ?_, p1.rowFar (by omega) _, blw_row pb (by omega) _⟩
          · have h := (hD.cut (k := k) (cap := c') (by omega) hr).below (blw_row hw1 (g := gs) (by omega) (stc (mixed (chew s (tl ++ L) m) (((tl ++ L).drop (64 * m)).take 64))))
            rw [bl_drop, List.drop_drop, show 64 * m + f + k = 64 * (m + 1) + 0 from by omega] at h
            exact h
          · rw [List.take_zero, List.take_zero, bl_nil]
          · rw [chew_next]
            exact Row.row q4 _
        case measure =>
          simp only [lenV]
          omega
      · have hmin : r = Nat.min r (64 - f) := (Nat.min_eq_left (by omega)).symm
        have HM := Lib.hid hmin
        have k3 : (r : Int) ≤ r := by omega
        have k4 : (f : Int) ≤ 64 := by omega
        have k5 : ((f : Int) + (r : Int) == 64) = false := by simp; omega
        clear hmin
        go_wp2_with (first
          | (refine wpList_copy _ rfl (.tmp 25) (.tmp 26) _ _ rfl 5 Tryd.underlying22 (by kernel_rfl) (w.heap.size + 1 + 1) f (64 - f) (64 - f) rfl bk 69 q2 w.heap.size A' r _ rfl _ hD (bl_one _) r HM.out (by rw [HB1.out]; omega) ?_))
        have hlp : (splice bk f ((bl ((tl ++ L).drop (64 * m + f))).take r)).length = 64 := by
          rw [length_splice _ _ _ (by rw [HB1.out, List.length_take, bl_length, List.length_drop]; have := HS.out; omega)]
          exact HB1.out
        have hmore := splice_more bk ((tl ++ L).drop (64 * m)) f r HB2.out (by rw [List.length_drop]; have := HS.out; omega)
        rw [List.drop_drop] at hmore
        go_roundw
        case rel =>
          refine ⟨m, f + r, 0, _, _, _, rfl, by go_num, by omega, by omega, by omega, Lib.hid (by have := HS.out; omega), ?_, Lib.hid hlp, Lib.hid hmore, q2.row _, q3.rowFar (by omega) _, q1.rowFar (by omega) _, blw_row qb (by omega) _⟩
          have h := (hD.cut (k := r) (cap := c') (Nat.le_refl _) hr).below (blw_row (Below.refl _ wr) (g := w.heap.size + 1 + 1) (by omega) (splice bk f ((bl ((tl ++ L).drop (64 * m + f))).take r)).toArray)
          rw [bl_drop, List.drop_drop, Nat.sub_self, show 64 * m + f + r = 64 * m + (f + r) from by omega] at h
          exact h
        case measure =>
          simp only [lenV]
          omega
    · obtain rfl : r = 0 := by omega
      clear hr0
      have c0 : wr.cell? ⟨gs, 0, none⟩ = some (.int .u32 (W (chew s (tl ++ L) m).a)) := (q3.cell 0).trans rfl
      have c1 : wr.cell? ⟨gs, 1, none⟩ = some (.int .u32 (W (chew s (tl ++ L) m).b)) := (q3.cell 1).trans rfl
      have c2 : wr.cell? ⟨gs, 2, none⟩ = some (.int .u32 (W (chew s (tl ++ L) m).c)) := (q3.cell 2).trans rfl
      have c3 : wr.cell? ⟨gs, 3, none⟩ = some (.int .u32 (W (chew s (tl ++ L) m).d)) := (q3.cell 3).trans rfl
      have c4 : wr.cell? ⟨gs, 4, none⟩ = some (.int .u32 (W (chew s (tl ++ L) m).e)) := (q3.cell 4).trans rfl
      have c5 : wr.cell? ⟨gs, 5, none⟩ = some (.int .u32 (W (chew s (tl ++ L) m).f)) := (q3.cell 5).trans rfl
      have c6 : wr.cell? ⟨gs, 6, none⟩ = some (.int .u32 (W (chew s (tl ++ L) m).g)) := (q3.cell 6).trans rfl
      have c7 : wr.cell? ⟨gs, 7, none⟩ = some (.int .u32 (W (chew s (tl ++ L) m).h)) := (q3.cell 7).trans rfl
      have k4 : (f : Int) ≤ 64 := by omega
      have hF : Sl wr.drew wr.heap.size (some ⟨w.heap.size + 1 + 1, 0, none⟩) f (bk.take f) := (Sl.of_head q2 f (by rw [HB1.out]; omega)).drew
      have hF1 : ∀ u ∈ bk.take f, u.oneCell' = true := by rw [HB2.out]; exact bl_one _
      have HF := Lib.hid hF
      have HF1 := Lib.hid hF1
      have hsz : w.heap.size ≤ wr.drew.heap.size := qb.size
      clear hF hF1
      go_wp2_with fail
      go_region_law (refine step_app _ rfl _ (.tmp 41) _ rfl wr.heap.size 5 i0 (.int .u8 0) 1 Tryd.underlying22 hi hz0 hz1 hz2 rfl (.slice none 0 0) 0 [] rfl (World.ownsRow_nil _ _ _ _) wr.heap.size _ f _ _ rfl HF.out HF1.out (by unfold maxLen; omega) (by omega) (Nat.le_refl _) ?_; intro v2 w2 hown2 hg2; obtain ⟨A2, cc2, hv2, _, _⟩ := own_form hown2; subst hv2; have p3 := q3.drew.grown hg2 (by simp [Value.ownBlock]); have p1 := q1.drew.grown hg2 (by simp [Value.ownBlock]); have e0 : w2.cell? ⟨gs, 0, none⟩ = some (.int .u32 (W (chew s (tl ++ L) m).a)) := (p3.cell 0).trans rfl; have e1 : w2.cell? ⟨gs, 1, none⟩ = some (.int .u32 (W (chew s (tl ++ L) m).b)) := (p3.cell 1).trans rfl; have e2 : w2.cell? ⟨gs, 2, none⟩ = some (.int .u32 (W (chew s (tl ++ L) m).c)) := (p3.cell 2).trans rfl; have e3 : w2.cell? ⟨gs, 3, none⟩ = some (.int .u32 (W (chew s (tl ++ L) m).d)) := (p3.cell 3).trans rfl; have e4 : w2.cell? ⟨gs, 4, none⟩ = some (.int .u32 (W (chew s (tl ++ L) m).e)) := (p3.cell 4).trans rfl; have e5 : w2.cell? ⟨gs, 5, none⟩ = some (.int .u32 (W (chew s (tl ++ L) m).f)) := (p3.cell 5).trans rfl; have e6 : w2.cell? ⟨gs, 6, none⟩ = some (.int .u32 (W (chew s (tl ++ L) m).g)) := (p3.cell 6).trans rfl; have e7 : w2.cell? ⟨gs, 7, none⟩ = some (.int .u32 (W (chew s (tl ++ L) m).h)) := (p3.cell 7).trans rfl; have z0 : w2.cell? ⟨w.heap.size + 1, 0, none⟩ = some (.int .u32 0) := (p1.cell 0).trans (zeroAt 0 (.int .u32 0) rfl); have y0 := p1.free 0; have z1 : w2.cell? ⟨w.heap.size + 1, 1, none⟩ = some (.int .u32 0) := (p1.cell 1).trans (zeroAt 1 (.int .u32 0) rfl); have y1 := p1.free 1; have z2 : w2.cell? ⟨w.heap.size + 1, 2, none⟩ = some (.int .u32 0) := (p1.cell 2).trans (zeroAt 2 (.int .u32 0) rfl); have y2 := p1.free 2; have z3 : w2.cell? ⟨w.heap.size + 1, 3, none⟩ = some (.int .u32 0) := (p1.cell 3).trans (zeroAt 3 (.int .u32 0) rfl); have y3 := p1.free 3; have z4 : w2.cell? ⟨w.heap.size + 1, 4, none⟩ = some (.int .u32 0) := (p1.cell 4).trans (zeroAt 4 (.int .u32 0) rfl); have y4 := p1.free 4; have z5 : w2.cell? ⟨w.heap.size + 1, 5, none⟩ = some (.int .u32 0) := (p1.cell 5).trans (zeroAt 5 (.int .u32 0) rfl); have y5 := p1.free 5; have z6 : w2.cell? ⟨w.heap.size + 1, 6, none⟩ = some (.int .u32 0) := (p1.cell 6).trans (zeroAt 6 (.int .u32 0) rfl); have y6 := p1.free 6; have z7 : w2.cell? ⟨w.heap.size + 1, 7, none⟩ = some (.int .u32 0) := (p1.cell 7).trans (zeroAt 7 (.int .u32 0) rfl); have y7 := p1.free 7; have z8 : w2.cell? ⟨w.heap.size + 1, 8, none⟩ = some (.slice none 0 0) := (p1.cell 8).trans (zeroAt 8 (.slice none 0 0) rfl); have y8 := p1.free 8; have z9 : w2.cell? ⟨w.heap.size + 1, 9, none⟩ = some (.int .i64 0) := (p1.cell 9).trans (zeroAt 9 (.int .i64 0) rfl); have y9 := p1.free 9)
      all_goals
        go_wp2
        have hm : m = (tl ++ L).length / 64 := by have := HS.out; omega
        have hfm : f = (tl ++ L).length % 64 := by have := HS.out; omega
        have pb : Below w.heap.size w w2 := qb.drew.grown hg2 qb.size (by simp [Value.ownBlock])
        refine bodyPost_ret (results_row Tryd.results30 _ _ (w.heap.size + 1) 30 (hsc (chew s (tl ++ L) m) (.slice A2 f cc2) ((n : Int) + (L.length : Int))) _ rfl ?_ Tryd.underlying30 rfl (by rw [hsc_size]; exact cellsH)) rfl ⟨.slice A2 f cc2, ?_, ?_, ?_⟩
        · exact row_hsc p1 _ _ _
        · rw [hm]
          rfl
        · have hb1 : w.heap.size + 1 < wr.heap.size := q1.lt
          have ho := own_base (own_putH hown2 hb1 (chew s (tl ++ L) m) (.slice A2 f cc2) ((n : Int) + (L.length : Int))) qb.size
          rw [List.nil_append, Nat.zero_add, HB2.out] at ho
          rw [← hfm, ← hm]
          have ht2 : ((tl ++ L).drop (64 * m)).take f = (tl ++ L).drop (64 * m) := List.take_of_length_le (by rw [List.length_drop]; have := HS.out; omega)
          rw [ht2] at ho
          exact ho
        · exact blw_putH pb (Nat.le_succ _) _ _ _
end Go.Proofs.YtcippenhomhpbaaDoor
