/-
  PROVED: the statements on texts of digests (DigestParseMatchesSpec, DigestTextsRoundTrip): the walks.
-/
import Derived.Test.YtcippenhomhpbaaDoorHexRead
namespace Go.Proofs.YtcippenhomhpbaaDoor.lawParse
open Go.ChangeShapes Go.WideShapes Go.ChangeAt Go.RowKit

attribute [local go_sem ↓] wp_load_flat run_load_flat
attribute [local go_sem] blkOf_ptr cells_agg sizedD sizeTD aggD sizedF sizeTF aggF

/-- the first place at which something fails -/
theorem first_bad (p : Nat → Bool) : ∀ n : Nat, ¬ (∀ k, k < n → p k = true) → ∃ i, i < n ∧ (∀ k, k < i → p k = true) ∧ p i = false
  | 0, h => absurd (fun k hk => absurd hk (Nat.not_lt_zero k)) h
  | n + 1, h => by
    by_cases h0 : ∀ k, k < n → p k = true
    · refine ⟨n, Nat.lt_succ_self n, h0, ?_⟩
      cases hp : p n with
      | false => rfl
      | true =>
        refine absurd (fun k hk => ?_) h
        rcases Nat.lt_succ_iff_lt_or_eq.1 hk with h1 | rfl
        · exact h0 k h1
        · exact hp
    · obtain ⟨i, h1, h2, h3⟩ := first_bad p n h0
      exact ⟨i, Nat.lt_succ_of_lt h1, h2, h3⟩

set_option maxRecDepth 100000 in
set_option maxHeartbeats 4000000 in
/-- the text is refused -/
theorem walk_bad (s : ByteArray) (c i : Int) (hc : c ≠ 0)
    (hP : ∀ w, Calls Tryd.prog 25 #[.string s] w fun e w' => e = .returned (.tuple #[.agg zD, .agg (flt c i)]) ∧ Below w.heap.size w w')
    (hF : ∀ w, Calls Tryd.prog 28 #[.string s] w fun e w' => e = .returned (.agg (flt c i)) ∧ Below w.heap.size w w') (w : World) (hK : KIs w) :
    Calls Tryd.prog 9 #[.string s] w fun e w' => e = .returned (.bool true) ∧ Below w.heap.size w w' := by
  have HK := Lib.hid hK
  have HP := Lib.hid hP
  have HF := Lib.hid hF
  have hg := hK.lt
  have hnf := neq_flt c i c i
  simp only [beq_self_eq_true, Bool.and_self, Bool.not_true] at hnf
  have hcz : (c != 0) = true := by simpa using hc
  have hez := eql_zD
  clear hK hP hF hc
  go_enter Tryd.func9, Tryd.ntmps9
  go_upto_region 2 with (first
    | (go_at_call 25; refine (HP.out _).mono ?_; rintro e w1 ⟨rfl, hb1⟩)
    | (refine wpList_store_row rfl 24 _ _ rfl w1.heap.size zD rfl rfl 24 zD ((Row.newEq _ _ _ _ _ rfl zD_lit).alloc _) (by rw [zD_size]; exact cellsD) rfl (all_one zD_one) ?_)
    | (refine wpList_store_row rfl 32 _ _ rfl (w1.heap.size + 1) (flt c i) rfl rfl 32 (flt 0 0) (Row.rowFar (Row.newEq _ _ _ _ _ (by simp) rfl) (by omega) _) (by rw [flt_size]; exact cellsF) rfl (all_one (flt_one _ _)) ?_))
  refine wp_world (F := fun W => Row W w1.heap.size 24 zD ∧ Row W (w1.heap.size + 1) 32 (flt c i) ∧ Below w.heap.size w W) ⟨Row.rowFar (Row.row ((Row.newEq _ _ _ _ _ rfl zD_lit).alloc _) _) (by omega) _, Row.row (Row.rowFar (Row.newEq _ _ _ _ _ (by simp) rfl) (by omega) _) _, blw_row (blw_row ((hb1.alloc hb1.size _).alloc (by have := hb1.size; simp; omega) _) hb1.size _) (by have := hb1.size; omega) _⟩ ?_
  generalize w1.heap.size = g1
  clear hb1 w1
  rintro w1 ⟨s1, f1, hb1⟩
  go_upto_region 3 with (first
    | (go_at_call 28; refine (HF.out _).mono ?_; rintro e w2 ⟨rfl, hb2'⟩; have s2 := s1.below hb2' s1.lt; have f2 := f1.below hb2' f1.lt; have hb2 := blw_call hb1 hb1.size hb2')
    | (refine wpList_store_row rfl 32 _ _ rfl w2.heap.size (flt c i) rfl rfl 32 (flt 0 0) (Row.newEq _ _ _ _ _ rfl rfl) (by rw [flt_size]; exact cellsF) rfl (all_one (flt_one _ _)) ?_))
  have l2 := f2.lt
  refine wp_world (F := fun W => Row W g1 24 zD ∧ Row W (g1 + 1) 32 (flt c i) ∧ Row W w2.heap.size 32 (flt c i) ∧ Below w.heap.size w W) ⟨(s2.alloc _).rowFar (by omega) _, (f2.alloc _).rowFar (by omega) _, Row.row (Row.newEq _ _ _ _ _ rfl rfl) _, blw_row (hb2.alloc hb2.size _) hb2.size _⟩ ?_
  generalize w2.heap.size = g2
  clear hb2 hb2' s2 f2 l2 s1 f1 hb1 w2
  rintro w2 ⟨s2, f2, h2, hb2⟩
  go_wp2_with (go_at_call 10; refine (digests_any _ (KIs.keep HK.out hb2 hg)).mono ?_; rintro e w3 ⟨rfl, hb3'⟩; have s3 := s2.below hb3' s2.lt; have f3 := f2.below hb3' f2.lt; have h3 := h2.below hb3' h2.lt; have hb3 := blw_call hb2 hb2.size hb3'; have i1 := f3.is (n := 2) rfl; have i2 := s3.is (n := 32) zD_size; have i3 := h3.is (n := 2) rfl; have j1 := f3.at; have j2 := s3.at; have j3 := h3.at; have c3 : w3.cell? ⟨g2, 0, none⟩ = some (.int .i64 c) := (h3.cell 0).trans rfl)
  go_ret
  exact ⟨rfl, hb3⟩

theorem hex_back (s : ByteArray) (hs : s.size = 64) (hg : ∀ k, k < 64 → isHex (s.data.toList.getD k 0) = true) (w : World) :
    Calls Tryd.prog 27 #[.agg (bs (parsed s.data.toList))] w fun e w' => e = .returned (.string s) ∧ Below w.heap.size w w' := by
  refine (refHex_any (parsed s.data.toList) (parsed_length _) w).mono ?_
  rintro e w' ⟨rfl, hb⟩
  refine ⟨ret_string ?_, hb⟩
  rw [hexOf_parsed s.data.toList (by simpa using hs) hg]

set_option maxRecDepth 100000 in
set_option maxHeartbeats 4000000 in
/-- the text is read -/
theorem walk_ok (s : ByteArray) (hs : s.size = 64) (hgd : ∀ k, k < 64 → isHex (s.data.toList.getD k 0) = true) (w : World) (hK : KIs w) :
    Calls Tryd.prog 9 #[.string s] w fun e w' => e = .returned (.bool true) ∧ Below w.heap.size w w' := by
  have HK := Lib.hid hK
  have HP := Lib.hid (parse_ok s hs hgd)
  have HF := Lib.hid (hexFault_ok s hs hgd)
  have HB := Lib.hid (hex_back s hs hgd)
  have HL := Lib.hid (parsed_length s.data.toList)
  have hg := hK.lt
  have hnf := neq_flt 0 0 0 0
  simp only [beq_self_eq_true, Bool.and_self, Bool.not_true] at hnf
  clear hK hs hgd
  go_enter Tryd.func9, Tryd.ntmps9
  go_upto_region 2 with (first
    | (go_at_call 25; refine (HP.out _).mono ?_; rintro e w1 ⟨rfl, hb1⟩)
    | (refine wpList_store_row rfl 24 _ _ rfl w1.heap.size (bs (parsed s.data.toList)) rfl rfl 24 zD ((Row.newEq _ _ _ _ _ rfl zD_lit).alloc _) (by rw [bs_size, HL.out]; exact cellsD) (by rw [zD_size, bs_size, HL.out]) (all_one (bs_one _)) ?_)
    | (refine wpList_store_row rfl 32 _ _ rfl (w1.heap.size + 1) (flt 0 0) rfl rfl 32 (flt 0 0) (Row.rowFar (Row.newEq _ _ _ _ _ (by simp) rfl) (by omega) _) (by rw [flt_size]; exact cellsF) rfl (all_one (flt_one _ _)) ?_))
  refine wp_world (F := fun W => Row W w1.heap.size 24 (bs (parsed s.data.toList)) ∧ Row W (w1.heap.size + 1) 32 (flt 0 0) ∧ Below w.heap.size w W) ⟨Row.rowFar (Row.row ((Row.newEq _ _ _ _ _ rfl zD_lit).alloc _) _) (by omega) _, Row.row (Row.rowFar (Row.newEq _ _ _ _ _ (by simp) rfl) (by omega) _) _, blw_row (blw_row ((hb1.alloc hb1.size _).alloc (by have := hb1.size; simp; omega) _) hb1.size _) (by have := hb1.size; omega) _⟩ ?_
  generalize w1.heap.size = g1
  clear hb1 w1
  rintro w1 ⟨s1, f1, hb1⟩
  go_upto_region 3 with (first
    | (go_at_call 28; refine (HF.out _).mono ?_; rintro e w2 ⟨rfl, hb2'⟩; have s2 := s1.below hb2' s1.lt; have f2 := f1.below hb2' f1.lt; have hb2 := blw_call hb1 hb1.size hb2')
    | (refine wpList_store_row rfl 32 _ _ rfl w2.heap.size (flt 0 0) rfl rfl 32 (flt 0 0) (Row.newEq _ _ _ _ _ rfl rfl) (by rw [flt_size]; exact cellsF) rfl (all_one (flt_one _ _)) ?_))
  have l2 := f2.lt
  refine wp_world (F := fun W => Row W g1 24 (bs (parsed s.data.toList)) ∧ Row W (g1 + 1) 32 (flt 0 0) ∧ Row W w2.heap.size 32 (flt 0 0) ∧ Below w.heap.size w W) ⟨(s2.alloc _).rowFar (by omega) _, (f2.alloc _).rowFar (by omega) _, Row.row (Row.newEq _ _ _ _ _ rfl rfl) _, blw_row (hb2.alloc hb2.size _) hb2.size _⟩ ?_
  generalize w2.heap.size = g2
  clear hb2 hb2' s2 f2 l2 s1 f1 hb1 w2
  rintro w2 ⟨s2, f2, h2, hb2⟩
  go_wp2_with (first
    | (go_at_call 10; refine (digests_any _ (KIs.keep HK.out hb2 hg)).mono ?_; rintro e w3 ⟨rfl, hb3'⟩; have s3 := s2.below hb3' s2.lt; have f3 := f2.below hb3' f2.lt; have h3 := h2.below hb3' h2.lt; have hb3 := blw_call hb2 hb2.size hb3'; have i1 := f3.is (n := 2) rfl; have i2 := s3.is (n := 32) (by rw [bs_size, HL.out]); have i3 := h3.is (n := 2) rfl; have j1 := f3.at; have j2 := s3.at; have j3 := h3.at; have c3 : w3.cell? ⟨g2, 0, none⟩ = some (.int .i64 0) := (h3.cell 0).trans rfl)
    | (go_at_call 27; refine (HB.out _).mono ?_; rintro e w4 ⟨rfl, hb4'⟩))
  go_ret
  exact ⟨rfl, blw_call hb3 hb3.size hb4'⟩
end Go.Proofs.YtcippenhomhpbaaDoor.lawParse
