/-
  The walks of ArithRoundTrips.
-/
import Derived.Test.YtcnokjiohbifeaaAArgs
import Derived.Test.YtcnokjiohbifeaaGTwo
namespace Go.Proofs.Ytcnokjiohbifeaa.lawRound
open Go.RowKit


theorem Sl.one1 (w : World) (t : TypeId) (u : Value) : ∀ j x, [u][j]? = some x → (w.alloc (.cells #[u] t)).cell? ((⟨w.heap.size, 0, none⟩ : Addr).add j) = some x := by
  obtain ⟨_, h⟩ := Sl.one w t u
  obtain ⟨ad, e, _, hc⟩ := h (by omega)
  injection e with e
  subst e
  exact hc
set_option maxRecDepth 100000 in
set_option maxHeartbeats 4000000 in
theorem walk_bad (zs : List (Int × Int)) (k i : Int) (h : ChF zs k i) (A : Option Addr) (cp : Nat) (w : World) (hS : Chs w w.heap.size A zs.length zs) :
    Calls Try.prog 7 #[.slice A zs.length cp] w fun e w' => e = .returned (.bool true) ∧ Below w.heap.size w w' := by
  have hne : (k != 0) = true := bne_iff_ne.2 h.ne
  have he := Encode_bad zs k i h A cp w hS
  have HS := Lib.hid hS
  clear h hS
  go_enter Try.func7, Try.ntmps7
  go_upto_region 2 with (first
    | (go_at_call 29; refine he.mono ?_; rintro e w1 ⟨rfl, hb1⟩)
    | (refine wpList_store_row rfl 26 _ _ rfl w1.heap.size (bcs none 0 0 0) rfl rfl 26 (bcs none 0 0 0) ((Row.newEq _ _ _ _ _ rfl rfl).alloc _) (by rw [bcs_size]; exact cellsB) rfl (all_one (bcs_one _ _ _ _)) ?_)
    | (refine wpList_store_row rfl 28 _ _ rfl (w1.heap.size + 1) (flt k i) rfl rfl 28 (flt 0 0) (row_far_new2 _ _ _ _ _ _) (by rw [flt_size]; exact cellsF) rfl (all_one (flt_one _ _)) ?_))
  have hk0 := blw_new2 w1 (.cells #[.slice none 0 0, .int .i64 0] 26) (.cells #[.int .i64 0, .int .i64 0] 28) (bcs none 0 0 0) (flt k i)
  have hk := up_call hb1 hk0
  refine wp_world (F := fun W => Row W w1.heap.size 26 (bcs none 0 0 0) ∧ Row W (w1.heap.size + 1) 28 (flt k i) ∧ Below w.heap.size w W)
    ⟨row_new2a _ _ _ _ _ _ _, row_new2b _ _ _ _ _ _ _, hk⟩ ?_
  generalize w1.heap.size = g3
  clear hk hk0 hb1  w1
  rintro W1 ⟨r3, r4, hb⟩
  clear he
  go_wp2_with (first
    | (go_at_call 13; refine (codes_any _).mono ?_; rintro e w14 ⟨rfl, hb14⟩; have k0 : w14.cell? ⟨g3 + 1, 0, none⟩ = some (.int .i64 k) := ((r4.below hb14 r4.lt).cell 0).trans rfl; have s3 := r3.below hb14 r3.lt; have hb2 := up_call hb hb14)
    | (go_at_call 13; refine (codes_any _).mono ?_; rintro e w21 ⟨rfl, hb21⟩; have u3 := s3.below hb21 s3.lt; have hb3 := up_call hb2 hb21)
    | (refine wpList_load_rowG (by simp [Region.wanted, yielded, Act.put]) 26 _ rfl g3 rfl 26 (bcs none 0 0 0) (0, 0) _ u3 Try.underlying26 rfl (by rw [bcs_size]; exact cellsB) ?_)
    | (go_at_call 17; refine (same_none _).mono ?_; rintro e w23 ⟨rfl, hb23⟩))
  go_ret
  exact ⟨rfl, up_call hb3 hb23⟩

set_option maxRecDepth 100000 in
set_option maxHeartbeats 8000000 in
theorem walk_good (l : List (Bool × Nat)) (hg : GoodP l) (n : Nat) (hn : n = l.length) (hl : n ≤ 8192) (A : Option Addr) (cp : Nat) (w : World) (hS : Chs w w.heap.size A n (cz l)) :
    Calls Try.prog 7 #[.slice A n cp] w fun e w' => e = .returned (.bool true) ∧ Below w.heap.size w w' := by
  obtain ⟨i0, hi, hz0, hz1, hz2⟩ := info_parts infoI
  have he := Encode_ok l hg n hn hl A cp w hS
  obtain ⟨cd, hcd⟩ : ∃ cd, cd = codeN l := ⟨_, rfl⟩
  rw [← hcd] at he
  have HS := Lib.hid hS
  have HL := Lib.hid (And.intro hcd (And.intro hn hg))
  clear hS hcd hn hg
  go_enter Try.func7, Try.ntmps7
  go_upto_region 2 with (first
    | (go_at_call 29; refine he.mono ?_; rintro e w1 ⟨A1, c1, rfl, s1, hb1⟩)
    | (refine wpList_store_row rfl 26 _ _ rfl w1.heap.size (bcs A1 (pack cd).length c1 cd.length) rfl rfl 26 (bcs none 0 0 0) ((Row.newEq _ _ _ _ _ rfl rfl).alloc _) (by rw [bcs_size]; exact cellsB) rfl (all_one (bcs_one _ _ _ _)) ?_)
    | (refine wpList_store_row rfl 28 _ _ rfl (w1.heap.size + 1) (flt 0 0) rfl rfl 28 (flt 0 0) (row_far_new2 _ _ _ _ _ _) (by rw [flt_size]; exact cellsF) rfl (all_one (flt_one _ _)) ?_))
  have hk0 := blw_new2 w1 (.cells #[.slice none 0 0, .int .i64 0] 26) (.cells #[.int .i64 0, .int .i64 0] 28) (bcs A1 (pack cd).length c1 cd.length) (flt 0 0)
  have hk := up_call hb1 hk0
  refine wp_world (F := fun W => Row W w1.heap.size 26 (bcs A1 (pack cd).length c1 cd.length) ∧ Row W (w1.heap.size + 1) 28 (flt 0 0) ∧ Sl W W.heap.size A1 (pack cd).length (bl (pack cd)) ∧ Chs W W.heap.size A n (cz l) ∧ Below w.heap.size w W)
    ⟨row_new2a _ _ _ _ _ _ _, row_new2b _ _ _ _ _ _ _, s1.up hk0, HS.out.up hk, hk⟩ ?_
  generalize w1.heap.size = g3
  clear hk hk0 hb1 s1 w1
  rintro W1 ⟨r3, r4, s1, hC, hb⟩
  clear he HS
  go_upto_region 6 with (first
    | (go_at_call 13; refine (codes_any _).mono ?_; rintro e w14 ⟨rfl, hb14⟩; have k0 : w14.cell? ⟨g3 + 1, 0, none⟩ = some (.int .i64 0) := ((r4.below hb14 r4.lt).cell 0).trans rfl))
  have hb2 := up_call hb hb14
  have s2 := s1.up hb14
  have q3 := r3.below hb14 r3.lt
  have HC := Lib.hid (hC.up hb14)
  clear k0 r3 r4 s1 hC hb hb14 W1
  obtain ⟨base, hbase⟩ : ∃ b, b = w14.heap.size := ⟨_, rfl⟩
  have hbs0 : base ≤ w14.heap.size := by omega
  have hg3 : g3 < base := by rw [hbase]; exact q3.lt
  have hwb : w.heap.size ≤ base := by rw [hbase]; exact hb2.size
  rw [← hbase] at HC s2
  clear hbase
  go_loopw [5, 6, 7] (fun u v i wr => ∃ j : Nat, j ≤ n ∧ i = .int .i64 j ∧ Hid (wr.ownsRow base 3 1 u j (nl ((l.take j).map (·.2)))) ∧ Hid (wr.ownsRow base 3 1 v j (il ((l.take j).map (·.1)))) ∧ Apart2 u v ∧ base ≤ wr.heap.size ∧ Below base w14 wr) (fun _ _ i _ => n - (intOf i).toNat)
  case atStart => exact ⟨0, Nat.zero_le _, rfl, Lib.hid (by rw [List.take_zero, List.map_nil, nl_nil]; exact World.ownsRow_nil _ _ _ _), Lib.hid (by rw [List.take_zero, List.map_nil, il_nil]; exact World.ownsRow_nil _ _ _ _), apart_none _, hbs0, Below.refl _ _⟩
  case round =>
    obtain ⟨j, hj, rfl, HU, HV, hap, hbs, hbr⟩ := hrel
    obtain ⟨A5, c5, hv5, _, _⟩ := own_form HU.out
    obtain ⟨A6, c6, hv6, _, _⟩ := own_form HV.out
    subst hv5 hv6
    by_cases hlt : j < n
    · obtain ⟨ad, rfl, hbl, k1, k2⟩ := (HC.out.below hbr).at_ hlt
      have hjl : j < l.length := by rw [← HL.out.2.1]; exact hlt
      rw [cz_getD l j hjl] at k1 k2
      simp only at k1 k2
      have hU : nl ((l.take (j + 1)).map (·.2)) = nl ((l.take j).map (·.2)) ++ [.int .i64 ((l[j].2 : Nat) : Int)] := by rw [List.take_succ_eq_append_getElem hjl, List.map_append, nl_append, List.map_cons, List.map_nil, nl_one']
      have hV : il ((l.take (j + 1)).map (·.1)) = il ((l.take j).map (·.1)) ++ [.int .i64 ((l[j].1.toNat : Nat) : Int)] := by rw [List.take_succ_eq_append_getElem hjl, List.map_append, il_append, List.map_cons, List.map_nil]; congr 1; unfold il; rfl
      obtain ⟨x, hx⟩ : ∃ x : Int, x = ((l[j].1.toNat : Nat) : Int) := ⟨_, rfl⟩
      obtain ⟨y, hy⟩ : ∃ y : Int, y = ((l[j].2 : Nat) : Int) := ⟨_, rfl⟩
      rw [← hx] at k1 hV
      rw [← hy] at k2 hU
      have HEU := Lib.hid hU
      have HEV := Lib.hid hV
      have HAP := Lib.hid hap
      have HK1 := Lib.hid k1
      have hadb : (ad.add (j * 2)).block < base := by rw [add_block]; exact hbl
      clear hU hV hap hx hy hjl k1
      go_upto_region 9 with (first
        | (at_builtin; refine wpList_app_at _ rfl _ _ _ rfl base 3 i0 (.int .i64 0) 8 Try.underlying38 hi hz0 hz1 hz2 rfl _ j _ rfl (HU.out.alloc _) ⟨_, 0, none⟩ 1 _ [_] rfl rfl (Sl.one1 _ _ _) (fun u hu => by obtain rfl := List.mem_singleton.1 hu; rfl) (by unfold maxLen; omega) (by omega) (Nat.le_trans hbs (by simp)) ?_; intro v7 w7 hown7 hg7 hw7))
      have hV2 := own_kept2 (HV.out.alloc _) hg7 HAP.out
      have hap2 := apart_after (HV.out.alloc (.cells #[.int .i64 y] 3)) HAP.out hw7
      have hb7 := blw_grown (hbr.alloc hbs _) hg7 (Nat.le_trans hbs (by simp)) (HU.out.alloc _) (Nat.le_refl _)
      have hbs7 : base ≤ w7.heap.size := Nat.le_trans hbs (Nat.le_trans (by simp) hg7.size)
      rw [← HEU.out] at hown7
      have k1 : w7.cell? (ad.add (j * 2)) = some (.int .i64 x) := ((blw_grown ((Below.refl base wr).alloc hbs (.cells #[.int .i64 y] 3)) hg7 (Nat.le_trans hbs (by simp)) (HU.out.alloc _) (Nat.le_refl _)).cell hadb).trans HK1.out
      have HU7 := Lib.hid hown7
      have HV7 := Lib.hid hV2
      have HB7 := Lib.hid hb7
      have HA7 := Lib.hid hap2
      clear hown7 hV2 hb7 hap2 hg7 hw7 HAP HEU HK1 HU HV hbr k2
      obtain ⟨A7, c7, hv7, _, _⟩ := own_form HU7.out
      subst hv7
      go_wp2_with (first
        | (at_builtin; refine wpList_app_at _ rfl _ _ _ rfl base 3 i0 (.int .i64 0) 8 Try.underlying38 hi hz0 hz1 hz2 rfl _ j _ rfl (HV7.out.alloc _) ⟨_, 0, none⟩ 1 _ [_] rfl rfl (Sl.one1 _ _ _) (fun u hu => by obtain rfl := List.mem_singleton.1 hu; rfl) (by unfold maxLen; omega) (by omega) (Nat.le_trans hbs7 (by simp)) ?_; intro v8 w8 hown8 hg8 hw8))
      have hU8 := own_kept2 (HU7.out.alloc _) hg8 HA7.out.symm
      have hap3 := apart_after (HU7.out.alloc (.cells #[.int .i64 x] 3)) HA7.out.symm hw8
      have hb8 := blw_grown (HB7.out.alloc hbs7 _) hg8 (Nat.le_trans hbs7 (by simp)) (HV7.out.alloc _) (Nat.le_refl _)
      have hbs8 : base ≤ w8.heap.size := Nat.le_trans hbs7 (Nat.le_trans (by simp) hg8.size)
      rw [← HEV.out] at hown8
      have HV8 := Lib.hid hown8
      have HU8 := Lib.hid hU8
      clear hown8 hU8 hg8 hw8
      go_roundw
      case rel => exact ⟨j + 1, by omega, by go_num, HU8, HV8, hap3.symm, hbs8, hb8⟩
      case measure => simp [intOf]; omega
    · obtain rfl : n = j := by omega
      have htk : l.take n = l := List.take_of_length_le (by rw [← HL.out.2.1]; exact Nat.le_refl _)
      have hU := Sl.of_own HU.out
      have hV := Sl.of_own HV.out
      rw [htk] at hU hV
      have hbz := HL.out.2.2
      have hrt := round_trip l hbz
      rw [← HL.out.1] at hrt
      have hlen : cd.length ≤ 131072 := by
        rw [HL.out.1, code_length]
        have := (run_ok l 0 65535 (by decide) hbz).2.1
        have h2 := HL.out.2.1
        omega
      have hlen2 : 2 ≤ cd.length := by omega
      have hdec := fun (w : World) (hS : Sl w w.heap.size A1 (pack cd).length (bl (pack cd))) (hP : Sl w w.heap.size A5 n (nl (l.map (·.2)))) => Decode_run cd (l.map (·.2)) hlen (fun p hp => by obtain ⟨c, hc, rfl⟩ := List.mem_map.1 hp; exact hbz c hc) n (by rw [List.length_map]; exact HL.out.2.1) hl hlen2 (fun j => cd.getD j false) rfl (l.map (·.1)) _ hrt.1 rfl A1 A5 c1 c5 w hS hP
      have HD := Lib.hid (And.intro hdec hrt.2)
      have s3 := (s2.below hbr).wider hbs
      have p3 := q3.below hbr hg3
      have hbb := hb2.trans (hbr.mono hwb)
      obtain ⟨bs, hbs2⟩ : ∃ bs, bs = l.map (·.1) := ⟨_, rfl⟩
      obtain ⟨ps, hps2⟩ : ∃ ps, ps = l.map (·.2) := ⟨_, rfl⟩
      rw [← hbs2, ← hps2] at HD
      rw [← hbs2] at hV
      rw [← hps2] at hU
      have hnb : bs.length = n := by rw [hbs2, List.length_map]; exact HL.out.2.1.symm
      have HNB := Lib.hid hnb
      clear htk hrt hdec hbz hlen hlen2 hbr HU HV hap q3 s2 hb2 HC hbs2 hps2 HL hlt hj hnb
      go_upto_region 11 with (first
        | (refine wpList_load_row rfl 26 _ rfl g3 rfl 26 (bcs A1 (pack cd).length c1 cd.length) (0, 0) _ p3 Try.underlying26 rfl (by rw [bcs_size]; exact cellsB) ?_)
        | (go_at_call 32; refine (HD.out.1 _ s3 hU).mono ?_; rintro e w9 ⟨_, _, h9, hb9⟩; obtain ⟨A9, c9, rfl, s9, _, _⟩ := h9 HD.out.2)
        | (refine wpList_store_row rfl 28 _ _ rfl w9.heap.size (flt 0 0) rfl rfl 28 (flt 0 0) (Row.newEq _ _ _ _ _ rfl rfl) (by rw [flt_size]; exact cellsF) rfl (all_one (flt_one _ _)) ?_))
      have hk0 := blw_new1 w9 (.cells #[.int .i64 0, .int .i64 0] 28) (flt 0 0)
      have hk := up_call hb9 hk0
      refine wp_world (F := fun W => Row W w9.heap.size 28 (flt 0 0) ∧ Sl W W.heap.size A9 n (il bs) ∧ Sl W W.heap.size A6 n (il bs) ∧ Below w.heap.size w W)
        ⟨row_new1 _ _ _ _, s9.up hk0, hV.up hk, up_call hbb hk⟩ ?_
      generalize w9.heap.size = g9
      clear hk hk0 hb9 s9 hV hU s3 p3 hbb HD
      rintro W9 ⟨r9, s9, s6, hb⟩
      have k0 : W9.cell? ⟨g9, 0, none⟩ = some (.int .i64 0) := (r9.cell 0).trans rfl
      rw [← nl_bool] at s9 s6
      go_wp2_with (first
        | (go_at_call 34; refine (ints_yes (bs.map Bool.toNat) n (by rw [List.length_map]; exact HNB.out) (by omega) A9 A6 _ _ _ s9 s6).mono ?_; rintro e w10 ⟨rfl, hb10⟩))
      go_ret
      exact ⟨rfl, up_call hb hb10⟩
end Go.Proofs.Ytcnokjiohbifeaa.lawRound
