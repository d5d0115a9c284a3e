/-
  The walks of ModelLooksBackOnly.
-/
import Derived.Test.YtgpacgmgdnongaaMLaw
import Derived.Test.YtgpacgmgdnongaaGPost
import Derived.Test.YtgpacgmgdnongaaRows
namespace Go.Proofs.Ytgpacgmgdnongaa.lawBks
open Go.RowKit

theorem zl_one (zs : List Int) : ∀ v ∈ zl zs, v.oneCell' = true := by
  intro v hv
  unfold zl at hv
  obtain ⟨x, _, rfl⟩ : ∃ x, x ∈ zs ∧ Value.int .i64 x = v := by simpa using hv
  rfl
theorem zl_append (a b : List Int) : zl (a ++ b) = zl a ++ zl b := by unfold zl; rw [List.map_append]
theorem zl_nil : zl [] = [] := by unfold zl; rfl

/-- what Predict answers: nothing beside a fault, or predictions -/
def Ans (zs : List Int) (d : Int) (m : Nat) (k i : Int) (X : List Value) : Prop := ∀ (A : Option Addr) (cp : Nat) (w : World), zs.length ≤ cp → Sl w w.heap.size A zs.length (zl zs) →
    Calls Try.prog 8 #[.int .i64 d, .slice A zs.length cp] w fun e w' => ∃ A1 c1, e = .returned (.tuple #[.slice A1 m c1, .agg (flt k i)]) ∧ m ≤ c1 ∧ c1 ≤ maxLen ∧ Sl w' w'.heap.size A1 m X ∧ Below w.heap.size w w'
theorem ans_bad {d : Int} {zs : List Int} {k i : Int} (h : PF d zs k i) : Ans zs d 0 k i [] := fun A cp w _ hS =>
  (predict_bad d zs k i h A cp w hS).mono fun _e _w' ⟨h1, h2⟩ => ⟨none, 0, h1, Nat.le_refl _, Nat.zero_le _, Sl.nil _ _ _, h2⟩
theorem ans_ok (d : Nat) (hd : d ≤ 2) (l : List Bool) (hl : l.length < 8192) : Ans (bz l) d (l.length + 1) 0 0 (nl (preds d l (l.length + 1))) := by
  intro A cp w hc hS
  rw [bz_length] at hc hS ⊢
  rw [zl_bz] at hS
  refine (predict_ok d hd l hl A cp hc w hS).mono fun e w' ⟨v, h1, h2, h3⟩ => ?_
  obtain ⟨A1, c1, rfl, h4, h5⟩ := own_form h2
  exact ⟨A1, c1, h1, h4, h5, Sl.of_own h2, h3⟩

set_option maxRecDepth 100000 in
set_option maxHeartbeats 8000000 in
theorem walk_out (d : Int) (zs ys : List Int) (hz : zs.length ≤ 1048576) (hy : ys.length ≤ 1048576) (m1 m2 : Nat) (k1 i1 k2 i2 : Int) (X1 X2 : List Value) (h1 : Ans zs d m1 k1 i1 X1) (h2 : Ans (zs ++ ys) d m2 k2 i2 X2) (hm1 : k1 = 0 ∨ m1 = 0) (hm2 : k2 = 0 ∨ m2 = 0) (hk : ¬ (k1 = 0 ∧ k2 = 0))
    (A : Option Addr) (cp : Nat) (hcp : zs.length ≤ cp) (B : Option Addr) (cq : Nat) (w : World) (hA : Sl w w.heap.size A zs.length (zl zs)) (hB : Sl w w.heap.size B ys.length (zl ys)) :
    Calls Try.prog 5 #[.int .i64 d, .slice A zs.length cp, .slice B ys.length cq] w fun e w' => e = .returned (.bool true) ∧ Below w.heap.size w w' := by
  obtain ⟨i0, hi, hz0, hz1, hz2⟩ := info_parts infoI
  obtain ⟨zt, hzt⟩ : ∃ zt, zt = zs ++ ys := ⟨_, rfl⟩
  have hlen : 0 + zs.length + ys.length = zt.length := by rw [hzt, List.length_append]; omega
  rw [← hzt] at h2
  have HZT := Lib.hid hzt
  have HL := Lib.hid hlen
  have H1 := Lib.hid h1
  have H2 := Lib.hid h2
  have HB := Lib.hid hB
  have HA := Lib.hid hA
  clear h1 h2 hB hA hlen hzt
  go_enter Try.func5, Try.ntmps5
  go_upto_region 4 with (first
    | (at_builtin; refine wpList_app _ rfl (.tmp 12) (.tmp 13) 22 rfl w.heap.size 3 i0 (.int .i64 0) 8 Try.underlying22 hi hz0 hz1 hz2 rfl (.slice none 0 0) 0 [] rfl (World.ownsRow_nil _ _ _ _) w.heap.size A zs.length cp (zl zs) rfl HA.out (zl_one zs) (by unfold maxLen; omega) (by omega) (Nat.le_refl _) ?_; intro v2 w14 hown14 hgr14; have hb14 := (Below.refl w.heap.size w).grown hgr14 (Nat.le_refl _) (fun _ h => by cases h); have HV := Lib.hid hown14; clear hown14)
    | (at_builtin; refine wpList_app _ rfl (.tmp 15) (.tmp 16) 22 rfl w.heap.size 3 i0 (.int .i64 0) 8 Try.underlying22 hi hz0 hz1 hz2 rfl v2 (0 + zs.length) ([] ++ zl zs) rfl HV.out w.heap.size B ys.length cq (zl ys) rfl (HB.out.below hb14) (zl_one ys) (by unfold maxLen; omega) (by omega) hb14.size ?_; intro v3 w17 hown17 hgr17; have hb17 := blw_grown hb14 hgr17 hb14.size HV.out (Nat.le_refl _); rw [HL.out] at hown17; obtain ⟨A3, c3, rfl, hc3, _⟩ := own_form hown17))
  have hS17 := Sl.of_own hown17
  rw [List.nil_append, ← zl_append, ← HZT.out] at hS17
  refine wp_world (F := fun W => Sl W W.heap.size A3 zt.length (zl zt) ∧ Below w.heap.size w W) ⟨hS17, hb17⟩ ?_
  clear hS17 hb17 hown17 hgr17 hb14 hgr14 HV w14 w17
  rintro W3 ⟨hS3, hb3⟩
  go_upto_region 5 with (first
    | (go_at_call 8; refine (H1.out A cp _ hcp (HA.out.up hb3)).mono ?_; rintro e w21 ⟨A1, c1, rfl, hc1, hcm1, hS21, hb21⟩)
    | (refine wpList_store_row rfl 24 _ _ rfl w21.heap.size (flt k1 i1) rfl rfl 24 (flt 0 0) (Row.newEq _ _ _ _ _ rfl rfl) (by rw [flt_size]; exact cellsF) rfl (all_one (flt_one _ _)) ?_))
  have hk0 := blw_new1 w21 (.cells #[.int .i64 0, .int .i64 0] 24) (flt k1 i1)
  have hk1 := up_call hb21 hk0
  refine wp_world (F := fun W => Row W w21.heap.size 24 (flt k1 i1) ∧ Sl W W.heap.size A1 m1 X1 ∧ Sl W W.heap.size A3 zt.length (zl zt) ∧ Below w.heap.size w W) ⟨row_new1 _ _ _ _, hS21.up hk0, hS3.up hk1, up_call hb3 hk1⟩ ?_
  generalize w21.heap.size = g9
  clear hk0 hk1 hS21 hb21 hS3 hb3 w21 W3
  rintro W4 ⟨r9, hS1, hS3, hb⟩
  go_upto_region 6 with (first
    | (go_at_call 8; refine (H2.out A3 c3 _ hc3 hS3).mono ?_; rintro e w27 ⟨A2, c2, rfl, hc2, hcm2, hS27, hb27⟩)
    | (refine wpList_store_row rfl 24 _ _ rfl w27.heap.size (flt k2 i2) rfl rfl 24 (flt 0 0) (Row.newEq _ _ _ _ _ rfl rfl) (by rw [flt_size]; exact cellsF) rfl (all_one (flt_one _ _)) ?_))
  have hk0 := blw_new1 w27 (.cells #[.int .i64 0, .int .i64 0] 24) (flt k2 i2)
  have hk1 := up_call hb27 hk0
  refine wp_world (F := fun W => Row W g9 24 (flt k1 i1) ∧ Row W w27.heap.size 24 (flt k2 i2) ∧ Sl W W.heap.size A1 m1 X1 ∧ Sl W W.heap.size A2 m2 X2 ∧ Below w.heap.size w W) ⟨r9.below hk1 r9.lt, row_new1 _ _ _ _, hS1.up hk1, hS27.up hk0, up_call hb hk1⟩ ?_
  generalize w27.heap.size = g11
  clear hk0 hk1 hS27 hb27 hS3 hS1 r9 hb w27 W4
  rintro W5 ⟨r9, r11, hS1, hS2, hb⟩
  clear hS1 hS2
  have n1 : ∀ k : Int, k ≠ 0 → (k != 0) = true ∧ (k == 0) = false := fun k hk => ⟨bne_iff_ne.2 hk, beq_eq_false_iff_ne.2 hk⟩
  by_cases e1 : k1 = 0
  · have e2 : k2 ≠ 0 := fun e2 => hk ⟨e1, e2⟩
    obtain rfl : m2 = 0 := by rcases hm2 with h | h; exact absurd h e2; exact h
    obtain ⟨p1, p2⟩ := n1 k2 e2
    clear hm1 hm2 hk n1 e2
    subst e1
    go_wp2_with (first
      | (go_at_call 10; refine (predicts_any _).mono ?_; rintro e w30 ⟨rfl, hb30⟩; have q9 := r9.below hb30 r9.lt; have q11 := r11.below hb30 r11.lt; have c0 : w30.cell? ⟨g9, 0, none⟩ = some (.int .i64 0) := (q9.cell 0).trans rfl; have c1' : w30.cell? ⟨g11, 0, none⟩ = some (.int .i64 k2) := (q11.cell 0).trans rfl; have hb2 := up_call hb hb30)
      | (go_at_call 10; refine (predicts_any _).mono ?_; rintro e w42 ⟨rfl, hb42⟩; have d0 : w42.cell? ⟨g9, 0, none⟩ = some (.int .i64 0) := ((q9.below hb42 q9.lt).cell 0).trans rfl; have d1 : w42.cell? ⟨g11, 0, none⟩ = some (.int .i64 k2) := ((q11.below hb42 q11.lt).cell 0).trans rfl; have hb3 := up_call hb2 hb42))
    go_ret
    exact ⟨rfl, hb3⟩
  · obtain rfl : m1 = 0 := by rcases hm1 with h | h; exact absurd h e1; exact h
    obtain ⟨p1, p2⟩ := n1 k1 e1
    by_cases e2 : k2 = 0
    · clear hm1 hm2 hk n1 e1
      subst e2
      go_wp2_with (first
        | (go_at_call 10; refine (predicts_any _).mono ?_; rintro e w30 ⟨rfl, hb30⟩; have q9 := r9.below hb30 r9.lt; have q11 := r11.below hb30 r11.lt; have c0 : w30.cell? ⟨g9, 0, none⟩ = some (.int .i64 k1) := (q9.cell 0).trans rfl; have c1' : w30.cell? ⟨g11, 0, none⟩ = some (.int .i64 0) := (q11.cell 0).trans rfl; have hb2 := up_call hb hb30)
        | (go_at_call 10; refine (predicts_any _).mono ?_; rintro e w42 ⟨rfl, hb42⟩; have d0 : w42.cell? ⟨g9, 0, none⟩ = some (.int .i64 k1) := ((q9.below hb42 q9.lt).cell 0).trans rfl; have d1 : w42.cell? ⟨g11, 0, none⟩ = some (.int .i64 0) := ((q11.below hb42 q11.lt).cell 0).trans rfl; have hb3 := up_call hb2 hb42))
      go_ret
      exact ⟨rfl, hb3⟩
    · obtain rfl : m2 = 0 := by rcases hm2 with h | h; exact absurd h e2; exact h
      obtain ⟨p3, p4⟩ := n1 k2 e2
      clear hm1 hm2 hk n1 e1 e2
      go_wp2_with (first
        | (go_at_call 10; refine (predicts_any _).mono ?_; rintro e w30 ⟨rfl, hb30⟩; have q9 := r9.below hb30 r9.lt; have q11 := r11.below hb30 r11.lt; have c0 : w30.cell? ⟨g9, 0, none⟩ = some (.int .i64 k1) := (q9.cell 0).trans rfl; have c1' : w30.cell? ⟨g11, 0, none⟩ = some (.int .i64 k2) := (q11.cell 0).trans rfl; have hb2 := up_call hb hb30)
        | (go_at_call 10; refine (predicts_any _).mono ?_; rintro e w42 ⟨rfl, hb42⟩; have d0 : w42.cell? ⟨g9, 0, none⟩ = some (.int .i64 k1) := ((q9.below hb42 q9.lt).cell 0).trans rfl; have d1 : w42.cell? ⟨g11, 0, none⟩ = some (.int .i64 k2) := ((q11.below hb42 q11.lt).cell 0).trans rfl; have hb3 := up_call hb2 hb42))
      go_ret
      exact ⟨rfl, hb3⟩

set_option maxRecDepth 100000 in
set_option maxHeartbeats 8000000 in
theorem walk_in (d : Int) (zs ys : List Int) (hz : zs.length ≤ 1048576) (hy : ys.length ≤ 1048576) (m1 m2 : Nat) (X1 X2 : List Value) (h1 : Ans zs d m1 0 0 X1) (h2 : Ans (zs ++ ys) d m2 0 0 X2) (e1 : m1 = zs.length + 1) (e2 : m2 = (zs ++ ys).length + 1) (hle : m1 ≤ 100000) (ns : List Nat) (hns : ns.length = m1) (hX1 : X1 = nl ns) (hX2 : X2.take m1 = nl ns)
    (A : Option Addr) (cp : Nat) (hcp : zs.length ≤ cp) (B : Option Addr) (cq : Nat) (w : World) (hA : Sl w w.heap.size A zs.length (zl zs)) (hB : Sl w w.heap.size B ys.length (zl ys)) :
    Calls Try.prog 5 #[.int .i64 d, .slice A zs.length cp, .slice B ys.length cq] w fun e w' => e = .returned (.bool true) ∧ Below w.heap.size w w' := by
  obtain ⟨i0, hi, hz0, hz1, hz2⟩ := info_parts infoI
  obtain ⟨zt, hzt⟩ : ∃ zt, zt = zs ++ ys := ⟨_, rfl⟩
  have hlen : 0 + zs.length + ys.length = zt.length := by rw [hzt, List.length_append]; omega
  rw [← hzt] at h2 e2
  have hm12 : m1 ≤ m2 := by rw [e1, e2, hzt, List.length_append]; omega
  subst e1
  subst e2
  have HX := Lib.hid (And.intro hns (And.intro hX1 hX2))
  have HZT := Lib.hid hzt
  have HL := Lib.hid hlen
  have H1 := Lib.hid h1
  have H2 := Lib.hid h2
  have HB := Lib.hid hB
  have HA := Lib.hid hA
  clear h1 h2 hB hA hlen hzt hns hX1 hX2
  go_enter Try.func5, Try.ntmps5
  go_upto_region 4 with (first
    | (at_builtin; refine wpList_app _ rfl (.tmp 12) (.tmp 13) 22 rfl w.heap.size 3 i0 (.int .i64 0) 8 Try.underlying22 hi hz0 hz1 hz2 rfl (.slice none 0 0) 0 [] rfl (World.ownsRow_nil _ _ _ _) w.heap.size A zs.length cp (zl zs) rfl HA.out (zl_one zs) (by unfold maxLen; omega) (by omega) (Nat.le_refl _) ?_; intro v2 w14 hown14 hgr14; have hb14 := (Below.refl w.heap.size w).grown hgr14 (Nat.le_refl _) (fun _ h => by cases h); have HV := Lib.hid hown14; clear hown14)
    | (at_builtin; refine wpList_app _ rfl (.tmp 15) (.tmp 16) 22 rfl w.heap.size 3 i0 (.int .i64 0) 8 Try.underlying22 hi hz0 hz1 hz2 rfl v2 (0 + zs.length) ([] ++ zl zs) rfl HV.out w.heap.size B ys.length cq (zl ys) rfl (HB.out.below hb14) (zl_one ys) (by unfold maxLen; omega) (by omega) hb14.size ?_; intro v3 w17 hown17 hgr17; have hb17 := blw_grown hb14 hgr17 hb14.size HV.out (Nat.le_refl _); rw [HL.out] at hown17; obtain ⟨A3, c3, rfl, hc3, _⟩ := own_form hown17))
  have hS17 := Sl.of_own hown17
  rw [List.nil_append, ← zl_append, ← HZT.out] at hS17
  refine wp_world (F := fun W => Sl W W.heap.size A3 zt.length (zl zt) ∧ Below w.heap.size w W) ⟨hS17, hb17⟩ ?_
  clear hS17 hb17 hown17 hgr17 hb14 hgr14 HV w14 w17
  rintro W3 ⟨hS3, hb3⟩
  go_upto_region 5 with (first
    | (go_at_call 8; refine (H1.out A cp _ hcp (HA.out.up hb3)).mono ?_; rintro e w21 ⟨A1, c1, rfl, hc1, hcm1, hS21, hb21⟩)
    | (refine wpList_store_row rfl 24 _ _ rfl w21.heap.size (flt 0 0) rfl rfl 24 (flt 0 0) (Row.newEq _ _ _ _ _ rfl rfl) (by rw [flt_size]; exact cellsF) rfl (all_one (flt_one _ _)) ?_))
  have hk0 := blw_new1 w21 (.cells #[.int .i64 0, .int .i64 0] 24) (flt 0 0)
  have hk1 := up_call hb21 hk0
  refine wp_world (F := fun W => Row W w21.heap.size 24 (flt 0 0) ∧ Sl W W.heap.size A1 (zs.length + 1) X1 ∧ Sl W W.heap.size A3 zt.length (zl zt) ∧ Below w.heap.size w W) ⟨row_new1 _ _ _ _, hS21.up hk0, hS3.up hk1, up_call hb3 hk1⟩ ?_
  generalize w21.heap.size = g9
  clear hk0 hk1 hS21 hb21 hS3 hb3 w21 W3
  rintro W4 ⟨r9, hS1, hS3, hb⟩
  go_upto_region 6 with (first
    | (go_at_call 8; refine (H2.out A3 c3 _ hc3 hS3).mono ?_; rintro e w27 ⟨A2, c2, rfl, hc2, hcm2, hS27, hb27⟩)
    | (refine wpList_store_row rfl 24 _ _ rfl w27.heap.size (flt 0 0) rfl rfl 24 (flt 0 0) (Row.newEq _ _ _ _ _ rfl rfl) (by rw [flt_size]; exact cellsF) rfl (all_one (flt_one _ _)) ?_))
  have hk0 := blw_new1 w27 (.cells #[.int .i64 0, .int .i64 0] 24) (flt 0 0)
  have hk1 := up_call hb27 hk0
  refine wp_world (F := fun W => Row W g9 24 (flt 0 0) ∧ Row W w27.heap.size 24 (flt 0 0) ∧ Sl W W.heap.size A1 (zs.length + 1) X1 ∧ Sl W W.heap.size A2 (zt.length + 1) X2 ∧ Below w.heap.size w W) ⟨r9.below hk1 r9.lt, row_new1 _ _ _ _, hS1.up hk1, hS27.up hk0, up_call hb hk1⟩ ?_
  generalize w27.heap.size = g11
  clear hk0 hk1 hS27 hb27 hS3 hS1 r9 hb w27 W4
  rintro W5 ⟨r9, r11, hS1, hS2, hb⟩
  have hT1 : Sl W5 W5.heap.size A1 (zs.length + 1) (nl ns) := by rw [← HX.out.2.1]; exact hS1
  have hT2 : Sl W5 W5.heap.size A2 (zs.length + 1) (nl ns) := by rw [← HX.out.2.2]; exact hS2.first hm12
  have HT := Lib.hid (And.intro hT1 hT2)
  have hcm2' : c2 ≤ 9223372036854775807 := hcm2
  clear hT1 hT2 hS1 hS2 hcm1 hcm2
  go_upto_region 8 with (first
    | (go_at_call 10; refine (predicts_any _).mono ?_; rintro e w30 ⟨rfl, hb30⟩; have c0 : w30.cell? ⟨g9, 0, none⟩ = some (.int .i64 0) := ((r9.below hb30 r9.lt).cell 0).trans rfl; have c1' : w30.cell? ⟨g11, 0, none⟩ = some (.int .i64 0) := ((r11.below hb30 r11.lt).cell 0).trans rfl; have hb2 := up_call hb hb30))
  have z1 : (0 : Int) ≤ ((zs.length : Int) + 1) := by omega
  have z2 : ((zs.length : Int) + 1) ≤ (c2 : Int) := by omega
  have hT1 := HT.out.1.up hb30
  have hT2 := HT.out.2.up hb30
  have HI := Lib.hid (ints_yes ns (zs.length + 1) HX.out.1 hle A1 A2 c1 c2 _ hT1 hT2)
  clear c0 c1' hT1 hT2 r9 r11 HT HX hb hb30 hc1 hm12 hle
  clear hz hy hcp HZT HL H1 H2 HB HA hi hz0 hz1 hz2
  go_wp2_with (first
    | (go_at_call 13; refine HI.out.mono ?_; rintro e w83 ⟨rfl, hb83⟩))
  go_ret
  exact ⟨rfl, up_call hb2 hb83⟩
theorem bz_inj : ∀ {l m : List Bool}, bz l = bz m → l = m
  | [], [], _ => rfl
  | [], _ :: _, h => by simp [bz] at h
  | _ :: _, [], h => by simp [bz] at h
  | a :: l, b :: m, h => by
    simp only [bz, List.map_cons, List.cons.injEq] at h
    have h1 : a = b := by
      cases a <;> cases b <;> first | rfl | (simp at h)
    rw [h1, bz_inj (l := l) (m := m) h.2]
theorem bz_append_inv {l2 : List Bool} {zs ys : List Int} (h : zs ++ ys = bz l2) : zs = bz (l2.take zs.length) ∧ l2.length = zs.length + ys.length := by
  have h1 := congrArg (List.take zs.length) h
  rw [List.take_left] at h1
  have h2 := congrArg List.length h
  rw [List.length_append, bz_length] at h2
  refine ⟨?_, h2.symm⟩
  unfold bz at h1 ⊢
  rw [h1, List.map_take]
  simp

theorem walk_any (d : Int) (zs ys : List Int) (hz : zs.length ≤ 1048576) (hy : ys.length ≤ 1048576) (A : Option Addr) (cp : Nat) (hcp : zs.length ≤ cp) (B : Option Addr) (cq : Nat) (w : World) (hA : Sl w w.heap.size A zs.length (zl zs)) (hB : Sl w w.heap.size B ys.length (zl ys)) :
    Calls Try.prog 5 #[.int .i64 d, .slice A zs.length cp, .slice B ys.length cq] w fun e w' => e = .returned (.bool true) ∧ Below w.heap.size w w' := by
  rcases pf_or d zs with ⟨k1, i1, h1⟩ | ⟨D, l, rfl, hD, hl, hl2⟩
  · rcases pf_or d (zs ++ ys) with ⟨k2, i2, h2⟩ | ⟨D, l, rfl, hD, hl, hl2⟩
    · exact walk_out d zs ys hz hy 0 0 k1 i1 k2 i2 [] [] (ans_bad h1) (ans_bad h2) (.inr rfl) (.inr rfl) (fun e => h1.ne e.1) A cp hcp B cq w hA hB
    · exact walk_out D zs ys hz hy 0 _ k1 i1 0 0 [] _ (ans_bad h1) (by rw [hl]; exact ans_ok D hD l hl2) (.inr rfl) (.inl rfl) (fun e => h1.ne e.1) A cp hcp B cq w hA hB
  · rcases pf_or D (zs ++ ys) with ⟨k2, i2, h2⟩ | ⟨E, l2, hE, hE2, hl3, hl4⟩
    · exact walk_out D zs ys hz hy _ 0 0 0 k2 i2 _ [] (by rw [hl]; exact ans_ok D hD l hl2) (ans_bad h2) (.inl rfl) (.inr rfl) (fun e => h2.ne e.2) A cp hcp B cq w hA hB
    · obtain ⟨h5, h6⟩ := bz_append_inv hl3
      have hzl : zs.length = l.length := by rw [hl, bz_length]
      have hll : l = l2.take l.length := by
        have h7 : bz l = bz (l2.take l.length) := by rw [← hl, h5, hzl]
        exact bz_inj h7
      refine walk_in D zs ys hz hy (l.length + 1) (l2.length + 1) _ _ (by rw [hl]; exact ans_ok D hD l hl2) (by rw [hl3]; exact ans_ok D hD l2 hl4) (by rw [hzl]) (by rw [hl3, bz_length]) (by omega) (preds D l (l.length + 1)) (preds_length _ _ _) rfl ?_ A cp hcp B cq w hA hB
      have hle : l.length ≤ l2.length := by omega
      have h8 : preds D l (l.length + 1) = preds D l2 (l.length + 1) := preds_congr D l l2 (l.length + 1) (Nat.le_refl _) (by omega) (by simpa using hll)
      rw [h8]
      unfold nl preds
      rw [← List.map_take, ← List.map_take, List.take_range, Nat.min_eq_left (by omega)]
end Go.Proofs.Ytgpacgmgdnongaa.lawBks
