/-
  The closed examples of the statements about dictionaries are answered as they ought to be, where package dictionary keeps its contracts.
-/
import Derived.Test.YtcmbpniikcghfaaYP
import Derived.Test.YtcmbpniikcghfaaYEx
import Derived.Test.YtcmbpniikcghfaaGFlatF
import Derived.Test.YtcmbpniikcghfaaRKit
import Derived.Lib.SlBytesConst
import Derived.Lib.SmallJoins
namespace Go.Proofs.Ytcmbpniikcghfaa.lawDiM
open Go.RowKit Go.Proofs.Ytcmbpniikcghfaa

theorem add_lit0 (g j : Nat) : (⟨g, 0, none⟩ : Addr).add j = ⟨g, j, none⟩ := by unfold Addr.add; split <;> simp_all
theorem sl_const (w : World) (C : Array Value) (fz : Nat × Nat) (L : List UInt8) (n g : Nat) (hn : n = L.length) (hC : C.toList = bl L) (hg : g = w.heap.size) : Sl (w.alloc (.cells C 5 fz)) (w.alloc (.cells C 5 fz)).heap.size (some ⟨g, 0, none⟩) n (bl L) := by
  subst hg
  refine ⟨by rw [bl_length, hn], fun _ => ⟨_, rfl, by simp, fun j u hu => ?_⟩⟩
  rw [add_lit0, cell_of_row _ w.heap.size j C 5 fz (heap_alloc_new w _), ← hu, ← hC, Array.getElem?_toList]
theorem alloc_up (w : World) (o : Obj) : Below w.heap.size w (w.alloc o) := (Below.refl _ _).alloc (Nat.le_refl _) _
/-- a new row of byte slices -/
theorem sls_new (w : World) (vs : Array Value) (Ls : List (List UInt8)) (n g : Nat) (hg : g = w.heap.size) (hn : Ls.length = n) (h : ∀ (i : Nat) (L : List UInt8), Ls[i]? = some L → ∃ Ai ci, L.length ≤ ci ∧ ci ≤ maxLen ∧ vs[i]? = some (Value.slice Ai L.length ci) ∧ Sl w w.heap.size Ai L.length (bl L)) :
    Sls (w.alloc (.cells vs 23)) (w.alloc (.cells vs 23)).heap.size (some ⟨g, 0, none⟩) n Ls := by
  subst hg
  refine ⟨hn, fun _ => ⟨_, rfl, by simp, fun i L hi => ?_⟩⟩
  obtain ⟨Ai, ci, h1, h2, h3, h4⟩ := h i L hi
  have r := Row.new w 23 vs
  rw [add_lit0]
  exact ⟨Ai, ci, h1, h2, (r.cell i).trans h3, h4.up (alloc_up _ _)⟩
abbrev c1 : Array Value := #[.int .u8 97, .int .u8 98, .int .u8 99, .int .u8 100, .int .u8 101, .int .u8 102, .int .u8 103, .int .u8 104, .int .u8 105]
abbrev c2 : Array Value := #[.int .u8 120, .int .u8 97, .int .u8 98, .int .u8 99, .int .u8 100, .int .u8 101, .int .u8 102, .int .u8 103, .int .u8 104, .int .u8 105]
abbrev c3 : Array Value := #[.int .u8 97, .int .u8 98, .int .u8 99]
abbrev c4 : Array Value := #[.int .u8 97, .int .u8 98, .int .u8 99, .int .u8 100]
theorem ex_train (h : PTrain) (w : World) (hm : ML w) :
    Calls Try.prog 8 #[.slice (some ⟨w.heap.size + 1 + 1, 0, none⟩) 2 2, .int .i64 512] (((w.alloc (.cells c1 5 (9, 10))).alloc (.cells c2 5 (10, 11))).alloc (.cells #[.slice (some ⟨w.heap.size, 0, none⟩) 9 9, .slice (some ⟨w.heap.size + 1, 0, none⟩) 10 10] 23)) fun e w' => (∃ G g, e = .returned (.tuple #[.slice G 9 g, .agg (flt 0 0)]) ∧ Sl w' w'.heap.size G 9 (bl dex1)) ∧ Below w.heap.size w w' := by
  have hb := up_call (up_call (alloc_up w (.cells c1 5 (9, 10))) (alloc_up _ (.cells c2 5 (10, 11)))) (alloc_up _ (.cells #[.slice (some ⟨w.heap.size, 0, none⟩) 9 9, .slice (some ⟨w.heap.size + 1, 0, none⟩) 10 10] 23))
  have s1 := (sl_const w c1 (9, 10) dex1 9 w.heap.size rfl (by kernel_rfl) rfl).up (alloc_up _ (.cells c2 5 (10, 11)))
  have s2 := sl_const (w.alloc (.cells c1 5 (9, 10))) c2 (10, 11) dex2 10 (w.heap.size + 1) rfl (by kernel_rfl) (by simp)
  refine (h [dex1, dex2] 2 512 rfl (by decide) _ 2 (by omega) _ (hm.below hb) (sls_new _ _ _ _ _ (by simp) rfl fun i L hi => ?_)).mono ?_
  · rcases i with _ | _ | i
    · simp only [List.getElem?_cons_zero, Option.some.injEq] at hi
      subst hi
      exact ⟨_, 9, Nat.le_refl _, by unfold maxLen; omega, rfl, s1⟩
    · simp only [List.getElem?_cons_succ, List.getElem?_cons_zero, Option.some.injEq] at hi
      subst hi
      exact ⟨_, 10, Nat.le_refl _, by unfold maxLen; omega, rfl, s2⟩
    · simp at hi
  · rintro e w' ⟨⟨R, G, g, hR, rfl, _, hS⟩, hb'⟩
    obtain rfl := dex_train hR
    exact ⟨⟨G, g, rfl, hS⟩, up_call hb hb'⟩
theorem ex_worth (h : PWorth) (w : World) :
    Calls Try.prog 19 #[.slice (some ⟨w.heap.size + 1, 0, none⟩) 1 1, .slice (some ⟨w.heap.size + 1 + 1, 0, none⟩) 3 3] (((w.alloc (.cells c3 5 (3, 4))).alloc (.cells #[.slice (some ⟨w.heap.size, 0, none⟩) 3 3] 23)).alloc (.cells c3 5 (3, 4))) fun e w' => e = .returned (.tuple #[.int .i64 22, .agg (flt 0 0)]) ∧ Below w.heap.size w w' := by
  have hb := up_call (up_call (alloc_up w (.cells c3 5 (3, 4))) (alloc_up _ (.cells #[.slice (some ⟨w.heap.size, 0, none⟩) 3 3] 23))) (alloc_up _ (.cells c3 5 (3, 4)))
  have s1 := sl_const w c3 (3, 4) dabc 3 w.heap.size rfl (by kernel_rfl) rfl
  have s2 := sl_const ((w.alloc (.cells c3 5 (3, 4))).alloc (.cells #[.slice (some ⟨w.heap.size, 0, none⟩) 3 3] 23)) c3 (3, 4) dabc 3 (w.heap.size + 1 + 1) rfl (by kernel_rfl) (by simp)
  have s3 := sls_new (w.alloc (.cells c3 5 (3, 4))) #[.slice (some ⟨w.heap.size, 0, none⟩) 3 3] [dabc] 1 (w.heap.size + 1) (by simp) rfl fun i L hi => by
    rcases i with _ | i
    · simp only [List.getElem?_cons_zero, Option.some.injEq] at hi
      subst hi
      exact ⟨_, 3, Nat.le_refl _, by unfold maxLen; omega, rfl, s1⟩
    · simp at hi
  refine (h [dabc] dabc 1 3 rfl rfl (by decide) _ _ 1 3 (by omega) (by omega) _ (s3.up (alloc_up _ _)) s2).mono ?_
  rintro e w' ⟨⟨x, y, hxy, rfl⟩, hb'⟩
  rw [dex_worth hxy]
  exact ⟨rfl, up_call hb hb'⟩
theorem ex_next (h : PNext) (w : World) (hm : ML w) :
    Calls Try.prog 16 #[.slice (some ⟨w.heap.size, 0, none⟩) 4 4, .slice none 0 0, .int .i64 3] (w.alloc (.cells c4 5 (4, 5))) fun e w' => (∃ G g, e = .returned (.tuple #[.slice G 3 g, .agg (flt 0 0)]) ∧ Sl w' w'.heap.size G 3 (bl [98, 99, 100])) ∧ Below w.heap.size w w' := by
  have s1 := sl_const w c4 (4, 5) [97, 98, 99, 100] 4 w.heap.size rfl (by kernel_rfl) rfl
  refine (h [97, 98, 99, 100] [] 0 4 3 rfl rfl (by decide) none _ 0 4 (by omega) (by omega) _ (hm.below (alloc_up _ _)) ⟨rfl, fun h => absurd h (Nat.lt_irrefl _)⟩ s1).mono ?_
  rintro e w' ⟨⟨R, G, g, hR, rfl, _, hS⟩, hb'⟩
  obtain rfl := dex_none hR
  exact ⟨⟨G, g, rfl, hS⟩, up_call (alloc_up _ _) hb'⟩

set_option maxRecDepth 100000 in
set_option maxHeartbeats 16000000 in
theorem trains_any (H : DI) : PTrains := by
  intro w hm
  have HML := Lib.hid hm
  clear hm
  have kc := fun (w : World) (C : Array Value) (n c : Nat) => Lib.run_convert_bytes_const (P := Try.prog) w 23 5 C n c Try.underlying23 Try.underlying5
  have kc2 := fun (w : World) (C : Array Value) (n c g : Nat) hg => Joins.run_convert_bytes_const_at (P := Try.prog) w 23 5 C n c g hg Try.underlying23 Try.underlying5
  have HT := Lib.hid (ex_train H.train)
  have HW := Lib.hid (ex_worth H.worth)
  have HX := Lib.hid (ex_next H.next)
  clear H
  go_enter Try.func12, Try.ntmps12
  go_upto_region 2 with (first
    | (go_at_call 8; refine (HT.out w HML.out).mono ?_; rintro e w1 ⟨⟨G1, g1, rfl, s1⟩, hb1⟩)
    | (refine wpList_store_row rfl 25 _ _ rfl w1.heap.size (flt 0 0) rfl rfl 25 (flt 0 0) (Row.newEq _ _ _ _ _ rfl rfl) (by rw [flt_size]; exact cellsF) rfl (all_one (flt_one _ _)) ?_))
  have hk1 := blw_new1 w1 (.cells #[.int .i64 0, .int .i64 0] 25) (flt 0 0)
  refine wp_world (F := fun W => Row W w1.heap.size 25 (flt 0 0) ∧ Sl W W.heap.size G1 9 (bl dex1) ∧ Below w.heap.size w W) ⟨row_new1 _ _ _ _, s1.up hk1, up_call hb1 hk1⟩ ?_
  generalize w1.heap.size = g2
  clear hk1 hb1 s1 HT w1
  rintro W1 ⟨r2, s1, hb⟩
  go_upto_region 3 with (first
    | (go_at_call 19; refine (HW.out W1).mono ?_; rintro e w2 ⟨rfl, hb2⟩)
    | (refine wpList_store_row rfl 25 _ _ rfl w2.heap.size (flt 0 0) rfl rfl 25 (flt 0 0) (Row.newEq _ _ _ _ _ rfl rfl) (by rw [flt_size]; exact cellsF) rfl (all_one (flt_one _ _)) ?_))
  have hk1 := blw_new1 w2 (.cells #[.int .i64 0, .int .i64 0] 25) (flt 0 0)
  have hk2 := up_call hb2 hk1
  refine wp_world (F := fun W => Row W w2.heap.size 25 (flt 0 0) ∧ Row W g2 25 (flt 0 0) ∧ Sl W W.heap.size G1 9 (bl dex1) ∧ Below w.heap.size w W) ⟨row_new1 _ _ _ _, r2.below hk2 r2.lt, s1.up hk2, up_call hb hk2⟩ ?_
  generalize w2.heap.size = g4
  clear hk1 hk2 hb2 s1 r2 hb HW w2
  rintro W2 ⟨r4, r2, s1, hb⟩
  go_upto_region 4 with (first
    | (go_at_call 16; refine (HX.out W2 (HML.out.below hb)).mono ?_; rintro e w3 ⟨⟨G5, g5, rfl, s5⟩, hb3⟩)
    | (refine wpList_store_row rfl 25 _ _ rfl w3.heap.size (flt 0 0) rfl rfl 25 (flt 0 0) (Row.newEq _ _ _ _ _ rfl rfl) (by rw [flt_size]; exact cellsF) rfl (all_one (flt_one _ _)) ?_))
  have hk1 := blw_new1 w3 (.cells #[.int .i64 0, .int .i64 0] 25) (flt 0 0)
  have hk2 := up_call hb3 hk1
  refine wp_world (F := fun W => Row W w3.heap.size 25 (flt 0 0) ∧ Row W g4 25 (flt 0 0) ∧ Row W g2 25 (flt 0 0) ∧ Sl W W.heap.size G1 9 (bl dex1) ∧ Sl W W.heap.size G5 3 (bl [98, 99, 100]) ∧ Below w.heap.size w W)
    ⟨row_new1 _ _ _ _, r4.below hk2 r4.lt, r2.below hk2 r2.lt, s1.up hk2, s5.up hk1, up_call hb hk2⟩ ?_
  generalize w3.heap.size = g6
  clear hk1 hk2 hb3 s1 s5 r2 r4 hb HX w3
  rintro W3 ⟨r6, r4, r2, s1, s5, hb⟩
  have e2 : W3.cell? ⟨g2, 0, none⟩ = some (.int .i64 0) := (r2.cell 0).trans rfl
  have e4 : W3.cell? ⟨g4, 0, none⟩ = some (.int .i64 0) := (r4.cell 0).trans rfl
  have e6 : W3.cell? ⟨g6, 0, none⟩ = some (.int .i64 0) := (r6.cell 0).trans rfl
  have a1 := (Below.refl W3.heap.size W3).alloc (Nat.le_refl _) (.cells c1 5 (9, 10))
  have hs1 := fun x y => same_any G1 (some ⟨W3.heap.size, 0, none⟩) dex1 dex1 9 9 x y _ (s1.up a1) (sl_const W3 c1 (9, 10) dex1 9 W3.heap.size rfl (by kernel_rfl) rfl)
  rw [decide_eq_true rfl] at hs1
  have HS1 := Lib.hid hs1
  have f4 : (W3.alloc (.cells c1 5 (9, 10))).cell? ⟨g4, 0, none⟩ = some (.int .i64 0) := ((r4.below a1 r4.lt).cell 0).trans rfl
  have f6 : (W3.alloc (.cells c1 5 (9, 10))).cell? ⟨g6, 0, none⟩ = some (.int .i64 0) := ((r6.below a1 r6.lt).cell 0).trans rfl
  have a2 := (Below.refl _ (W3.alloc (.cells c1 5 (9, 10)))).alloc (Nat.le_refl _) (.cells c3 5 (3, 4))
  have hs2 := fun x y C hC => same_any G5 (some ⟨W3.heap.size + 1, 0, none⟩) [98, 99, 100] [98, 99, 100] 3 3 x y _ ((s5.up a1).up (alloc_up _ _)) (sl_const (W3.alloc (.cells c1 5 (9, 10))) C (3, 4) [98, 99, 100] 3 (W3.heap.size + 1) rfl hC (by simp))
  have hs2 := fun x y => hs2 x y #[.int .u8 98, .int .u8 99, .int .u8 100] (by kernel_rfl)
  rw [decide_eq_true rfl] at hs2
  have HS2 := Lib.hid hs2
  have hbb := up_call (up_call hb a1) (alloc_up (W3.alloc (.cells c1 5 (9, 10))) (.cells #[.int .u8 98, .int .u8 99, .int .u8 100] 5 (3, 4)))
  clear hs1 hs2 s1 s5 r2 r4 r6
  go_wp2_with (first
    | (go_at_call 14; (with_reducible refine (HS1.out _ _).mono ?_); rintro e w5 ⟨rfl, h5⟩; subst w5)
    | (go_at_call 14; (with_reducible refine (HS2.out _ _).mono ?_); rintro e w6 ⟨rfl, h6⟩; subst w6))
  go_ret
  exact ⟨rfl, hbb⟩
end Go.Proofs.Ytcmbpniikcghfaa.lawDiM
