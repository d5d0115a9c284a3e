/-
  The reference's JoinFault and Joined.
-/
import Derived.Test.YtbahkidkpbabdaaBJoin2
import Derived.Test.YtbahkidkpbabdaaRPack
import Derived.Test.YtbahkidkpbabdaaRGam
namespace Go.Proofs.Ytbahkidkpbabdaa
open Go.RowKit
theorem bytes_far {w : World} {B g n : Nat} {A : Option Addr} {M : List UInt8} (h : Sl w B A n (bl M)) {A' : Option Addr} {a c : Nat} {k : Int} {t : TypeId} (r : Row w g t (bcs A' a c k)) (cs : Array Value) : Sl (w.setRow g cs) B A n (bl M) := by
  refine ⟨h.1, fun hn => ?_⟩
  obtain ⟨ad, rfl, hb, hc⟩ := h.2 hn
  refine ⟨ad, rfl, hb, fun j u hu => ?_⟩
  have h2 := hc j u hu
  have hne : (ad.add j).block ≠ g := by
    intro he
    obtain ⟨x, hx⟩ : ∃ x, u = .int .u8 x := by
      unfold bl at hu
      rw [List.getElem?_map] at hu
      obtain ⟨y, _, hy⟩ := Option.map_eq_some_iff.1 hu
      exact ⟨_, hy.symm⟩
    have h3 := h2
    unfold World.cell? at h3
    rw [he, show w.heap[g]? = some (.cells (bcs A' a c k) t (0, 0)) from r, hx] at h3
    simp only at h3
    split at h3
    · exact absurd h3 (by simp)
    unfold bcs at h3
    match (ad.add j).off, h3 with
    | 0, h => simp at h
    | 1, h => simp at h
    | n + 2, h => simp at h
  rw [← h2]
  unfold World.cell?
  rw [show (w.setRow g cs).heap[(ad.add j).block]? = w.heap[(ad.add j).block]? from setRow_other w g _ cs hne]

set_option maxRecDepth 100000 in
set_option maxHeartbeats 4000000 in
theorem jf_bad (es : List (List UInt8 × Int)) (ls : List (List Bool)) (n : Nat) (hn : n ≤ 256) (q : Nat) (hqn : q ≤ n) (hp : PV es ls q) (L : List UInt8) (k : Int) (hbad : es[q]? = some (L, k)) (hG : ¬ Good L k) (A : Option Addr) (c : Nat) (w : World) (hS : BsG w w.heap.size A n es) :
    Calls Try.prog 34 #[.slice A n c] w fun e w' => e = .returned (.agg (flt 6 q)) ∧ Below w.heap.size w w' := by
  have h0 : decide ((256 : Int) < (n : Int)) = false := decide_eq_false (by omega)
  go_enter Try.func34, Try.ntmps34
  go_upto_region 1 with (fail)
  refine wp_world (F := fun W => Row W w.heap.size 26 (flt 0 0) ∧ Below w.heap.size w W)
    ⟨Row.newEq _ _ _ _ _ rfl rfl, (Below.refl _ _).alloc (Nat.le_refl _) _⟩ ?_
  rintro W0 ⟨r2, hb⟩
  go_wp2
  go_loopw [3, 4] (fun t i wr => ∃ j : Nat, j ≤ q ∧ i = .int .i64 j ∧ t = .int .i64 ((ls.take j).flatten.length : Nat) ∧ (ls.take j).flatten.length ≤ 131072 * j ∧ Row wr w.heap.size 26 (flt 0 0) ∧ Below w.heap.size w wr) (fun _ i _ => n - (intOf i).toNat)
  case atStart => exact ⟨0, Nat.zero_le _, rfl, rfl, Nat.le_refl _, r2, hb⟩
  case round =>
    clear r2 hb
    obtain ⟨j, hj, rfl, rfl, ht, r2, hb⟩ := hrel
    by_cases hlt : j < q
    · obtain ⟨ad, l, Ai, ci, rfl, hbl, hget, k1, k2, k3, k4⟩ := (hS.below hb).at_ hp hqn hlt
      have hjn : j < n := by omega
      have hfs := flat_snoc ls j l hget
      have HFS := Lib.hid hfs
      obtain ⟨t, htt⟩ : ∃ t, t = (ls.take j).flatten.length := ⟨_, rfl⟩
      rw [← htt] at ht ⊢
      have HT := Lib.hid htt
      clear hfs htt hget
      have hSl := k3.wider hb.size
      go_wp2_with (first
        | (go_at_call 13; go_loud (refine (ok_yes (pack l) l (pack_rep l) k4 Ai ci _ hSl).mono ?_; rintro e w6 ⟨rfl, hb6⟩; have c1 : w6.cell? ⟨(ad.add (j * 2)).block, (ad.add (j * 2)).off + 1, none⟩ = some (.int .i64 (l.length : Int)) := (hb6.cell (p := ⟨(ad.add (j * 2)).block, (ad.add (j * 2)).off + 1, none⟩) (show (ad.add (j * 2)).block < wr.heap.size by rw [add_block]; exact Nat.lt_of_lt_of_le hbl hb.size)).trans k2; have r2a := r2.below hb6 r2.lt; have hba := up_call hb hb6; clear hb6)))
      go_roundw
      case rel =>
        refine ⟨j + 1, by omega, by go_num, ?_, ?_, r2a, hba⟩
        · rw [HFS.out, List.length_append, ← HT.out]
          go_num
        · rw [HFS.out, List.length_append, ← HT.out]
          omega
      case measure => simp [intOf]; omega
    · obtain rfl : j = q := by omega
      obtain ⟨hjn, ad, Ai, ci, rfl, hbl, k1, k2, k3⟩ := (hS.below hb).bad hbad
      have HG := Lib.hid hG
      obtain ⟨t, htt⟩ : ∃ t, t = (ls.take j).flatten.length := ⟨_, rfl⟩
      rw [← htt] at ht ⊢
      clear htt hbad hG hp
      have hSl := k3.wider hb.size
      go_upto_region 8 with (first
        | (go_at_call 13; refine (ok_no L k HG.out Ai ci _ hSl).mono ?_; rintro e w6 ⟨rfl, hb6⟩))
      refine wp_world (F := fun W => Row W w.heap.size 26 (flt 0 0) ∧ Below w.heap.size w W) ⟨r2.below hb6 r2.lt, up_call hb hb6⟩ ?_
      clear r2 k1 k2 k3 hSl hb hb6 w6 wr
      rintro W6 ⟨r2, hb⟩
      go_wp2_with (first
        | (go_at_call 16; refine (at_any 6 j _).mono ?_; rintro e w2 ⟨rfl, hb2⟩; have r2b := r2.below hb2 r2.lt; have hbb := up_call hb hb2; clear hb2)
        | (refine wpList_store_row rfl 26 _ _ rfl w.heap.size (flt 6 j) rfl rfl 26 (flt 0 0) r2b (by rw [flt_size]; exact cellsF) rfl (all_one (flt_one _ _)) ?_))
      refine bodyPost_ret (results_row Try.results34 _ _ w.heap.size 26 (flt 6 j) _ rfl (Row.row r2b _) Try.underlying26 rfl (by rw [flt_size]; exact cellsF)) rfl ⟨rfl, ?_⟩
      exact blw_row hbb (Nat.le_refl _) _

set_option maxRecDepth 100000 in
set_option maxHeartbeats 4000000 in
theorem jf_big (es : List (List UInt8 × Int)) (ls : List (List Bool)) (n : Nat) (hn : n ≤ 256) (hp : PV es ls n) (hbig : 131072 < ls.flatten.length) (A : Option Addr) (c : Nat) (w : World) (hS : BsG w w.heap.size A n es) :
    Calls Try.prog 34 #[.slice A n c] w fun e w' => e = .returned (.agg (flt 14 (-1))) ∧ Below w.heap.size w w' := by
  have h0 : decide ((256 : Int) < (n : Int)) = false := decide_eq_false (by omega)
  go_enter Try.func34, Try.ntmps34
  go_upto_region 1 with (fail)
  refine wp_world (F := fun W => Row W w.heap.size 26 (flt 0 0) ∧ Below w.heap.size w W)
    ⟨Row.newEq _ _ _ _ _ rfl rfl, (Below.refl _ _).alloc (Nat.le_refl _) _⟩ ?_
  rintro W0 ⟨r2, hb⟩
  go_wp2
  go_loopw [3, 4] (fun t i wr => ∃ j : Nat, j ≤ n ∧ i = .int .i64 j ∧ t = .int .i64 ((ls.take j).flatten.length : Nat) ∧ (ls.take j).flatten.length ≤ 131072 * j ∧ Row wr w.heap.size 26 (flt 0 0) ∧ Below w.heap.size w wr) (fun _ i _ => n - (intOf i).toNat)
  case atStart => exact ⟨0, Nat.zero_le _, rfl, rfl, Nat.le_refl _, r2, hb⟩
  case round =>
    clear r2 hb
    obtain ⟨j, hj, rfl, rfl, ht, r2, hb⟩ := hrel
    by_cases hlt : j < n
    · obtain ⟨ad, l, Ai, ci, rfl, hbl, hget, k1, k2, k3, k4⟩ := (hS.below hb).at_ hp (Nat.le_refl _) hlt
      have hjn : j < n := by omega
      have hfs := flat_snoc ls j l hget
      have HFS := Lib.hid hfs
      obtain ⟨t, htt⟩ : ∃ t, t = (ls.take j).flatten.length := ⟨_, rfl⟩
      rw [← htt] at ht ⊢
      have HT := Lib.hid htt
      clear hfs htt hget
      have hSl := k3.wider hb.size
      go_wp2_with (first
        | (go_at_call 13; go_loud (refine (ok_yes (pack l) l (pack_rep l) k4 Ai ci _ hSl).mono ?_; rintro e w6 ⟨rfl, hb6⟩; have c1 : w6.cell? ⟨(ad.add (j * 2)).block, (ad.add (j * 2)).off + 1, none⟩ = some (.int .i64 (l.length : Int)) := (hb6.cell (p := ⟨(ad.add (j * 2)).block, (ad.add (j * 2)).off + 1, none⟩) (show (ad.add (j * 2)).block < wr.heap.size by rw [add_block]; exact Nat.lt_of_lt_of_le hbl hb.size)).trans k2; have r2a := r2.below hb6 r2.lt; have hba := up_call hb hb6; clear hb6)))
      go_roundw
      case rel =>
        refine ⟨j + 1, by omega, by go_num, ?_, ?_, r2a, hba⟩
        · rw [HFS.out, List.length_append, ← HT.out]
          go_num
        · rw [HFS.out, List.length_append, ← HT.out]
          omega
      case measure => simp [intOf]; omega
    · obtain rfl : n = j := by omega
      rw [List.take_of_length_le (by rw [hp.1]; exact Nat.le_refl _)] at ht ⊢
      clear ht
      obtain ⟨t, htt⟩ : ∃ t, t = ls.flatten.length := ⟨_, rfl⟩
      rw [← htt] at hbig ⊢
      clear htt
      have t1 : decide ((131072 : Int) < (t : Int)) = true := decide_eq_true (by omega)
      have t1b : decide (131072 < t) = true := decide_eq_true (by omega)
      go_wp2_with (first
        | (go_at_call 16; refine (at_any 14 (-1) _).mono ?_; rintro e w2 ⟨rfl, hb2⟩; have r2b := r2.below hb2 r2.lt; have hbb := up_call hb hb2; clear hb2)
        | (refine wpList_store_row rfl 26 _ _ rfl w.heap.size (flt 14 (-1)) rfl rfl 26 (flt 0 0) r2b (by rw [flt_size]; exact cellsF) rfl (all_one (flt_one _ _)) ?_))
      refine bodyPost_ret (results_row Try.results34 _ _ w.heap.size 26 (flt 14 (-1)) _ rfl (Row.row r2b _) Try.underlying26 rfl (by rw [flt_size]; exact cellsF)) rfl ⟨rfl, ?_⟩
      exact blw_row hbb (Nat.le_refl _) _

set_option maxRecDepth 100000 in
set_option maxHeartbeats 4000000 in
theorem jf_ok (es : List (List UInt8 × Int)) (ls : List (List Bool)) (n : Nat) (hn : n ≤ 256) (hp : PV es ls n) (hle : ls.flatten.length ≤ 131072) (A : Option Addr) (c : Nat) (w : World) (hS : BsG w w.heap.size A n es) :
    Calls Try.prog 34 #[.slice A n c] w fun e w' => e = .returned (.agg (flt 0 0)) ∧ Below w.heap.size w w' := by
  have h0 : decide ((256 : Int) < (n : Int)) = false := decide_eq_false (by omega)
  go_enter Try.func34, Try.ntmps34
  go_upto_region 1 with (fail)
  refine wp_world (F := fun W => Row W w.heap.size 26 (flt 0 0) ∧ Below w.heap.size w W)
    ⟨Row.newEq _ _ _ _ _ rfl rfl, (Below.refl _ _).alloc (Nat.le_refl _) _⟩ ?_
  rintro W0 ⟨r2, hb⟩
  go_wp2
  go_loopw [3, 4] (fun t i wr => ∃ j : Nat, j ≤ n ∧ i = .int .i64 j ∧ t = .int .i64 ((ls.take j).flatten.length : Nat) ∧ (ls.take j).flatten.length ≤ 131072 * j ∧ Row wr w.heap.size 26 (flt 0 0) ∧ Below w.heap.size w wr) (fun _ i _ => n - (intOf i).toNat)
  case atStart => exact ⟨0, Nat.zero_le _, rfl, rfl, Nat.le_refl _, r2, hb⟩
  case round =>
    clear r2 hb
    obtain ⟨j, hj, rfl, rfl, ht, r2, hb⟩ := hrel
    by_cases hlt : j < n
    · obtain ⟨ad, l, Ai, ci, rfl, hbl, hget, k1, k2, k3, k4⟩ := (hS.below hb).at_ hp (Nat.le_refl _) hlt
      have hjn : j < n := by omega
      have hfs := flat_snoc ls j l hget
      have HFS := Lib.hid hfs
      obtain ⟨t, htt⟩ : ∃ t, t = (ls.take j).flatten.length := ⟨_, rfl⟩
      rw [← htt] at ht ⊢
      have HT := Lib.hid htt
      clear hfs htt hget
      have hSl := k3.wider hb.size
      go_wp2_with (first
        | (go_at_call 13; go_loud (refine (ok_yes (pack l) l (pack_rep l) k4 Ai ci _ hSl).mono ?_; rintro e w6 ⟨rfl, hb6⟩; have c1 : w6.cell? ⟨(ad.add (j * 2)).block, (ad.add (j * 2)).off + 1, none⟩ = some (.int .i64 (l.length : Int)) := (hb6.cell (p := ⟨(ad.add (j * 2)).block, (ad.add (j * 2)).off + 1, none⟩) (show (ad.add (j * 2)).block < wr.heap.size by rw [add_block]; exact Nat.lt_of_lt_of_le hbl hb.size)).trans k2; have r2a := r2.below hb6 r2.lt; have hba := up_call hb hb6; clear hb6)))
      go_roundw
      case rel =>
        refine ⟨j + 1, by omega, by go_num, ?_, ?_, r2a, hba⟩
        · rw [HFS.out, List.length_append, ← HT.out]
          go_num
        · rw [HFS.out, List.length_append, ← HT.out]
          omega
      case measure => simp [intOf]; omega
    · obtain rfl : n = j := by omega
      rw [List.take_of_length_le (by rw [hp.1]; exact Nat.le_refl _)] at ht ⊢
      clear ht
      obtain ⟨t, htt⟩ : ∃ t, t = ls.flatten.length := ⟨_, rfl⟩
      rw [← htt] at hle ⊢
      clear htt
      have t1 : decide ((131072 : Int) < (t : Int)) = false := decide_eq_false (by omega)
      have t1b : decide (131072 < t) = false := decide_eq_false (by omega)
      go_wp2_with (first
        | (refine wpList_store_row rfl 26 _ _ rfl w.heap.size (flt 0 0) rfl rfl 26 (flt 0 0) r2 (by rw [flt_size]; exact cellsF) rfl (all_one (flt_one _ _)) ?_))
      refine bodyPost_ret (results_row Try.results34 _ _ w.heap.size 26 (flt 0 0) _ rfl (Row.row r2 _) Try.underlying26 rfl (by rw [flt_size]; exact cellsF)) rfl ⟨rfl, ?_⟩
      exact blw_row hb (Nat.le_refl _) _

set_option maxRecDepth 100000 in
set_option maxHeartbeats 4000000 in
theorem joined_any (ls : List (List Bool)) (n : Nat) (hn : n ≤ 256) (hle : ls.flatten.length ≤ 131072) (A : Option Addr) (c : Nat) (w : World) (hS : BsV w w.heap.size A n ls) :
    Calls Try.prog 35 #[.slice A n c] w (BitsOne w ls.flatten) := by
  obtain ⟨i0, hi, hz0, hz1, hz2⟩ := info_parts infoI
  go_enter Try.func35, Try.ntmps35
  go_upto_region 1 with (fail)
  refine wp_world (F := fun W => Row W w.heap.size 24 (bcs none 0 0 0) ∧ w.heap.size < W.heap.size ∧ Below w.heap.size w W)
    ⟨Row.newEq _ _ _ _ _ rfl rfl, by simp, (Below.refl _ _).alloc (Nat.le_refl _) _⟩ ?_
  rintro W0 ⟨r1, hgt, hb⟩
  go_wp2
  go_loopw [3, 4] (fun v i wr => ∃ j : Nat, j ≤ n ∧ i = .int .i64 j ∧ wr.ownsRow (w.heap.size + 1) 3 1 v (ls.take j).flatten.length (il (ls.take j).flatten) ∧ Row wr w.heap.size 24 (bcs none 0 0 0) ∧ Below w.heap.size w wr) (fun _ i _ => n - (intOf i).toNat)
  case atStart => exact ⟨0, Nat.zero_le _, rfl, by rw [List.take_zero, List.flatten_nil, il_nil]; exact World.ownsRow_nil _ _ _ _, r1, hb⟩
  case round =>
    clear r1 hb
    obtain ⟨j, hj, rfl, ho, r1, hb⟩ := hrel
    have hrl := r1.lt
    by_cases hlt : j < n
    · obtain ⟨ad, l, Ai, ci, rfl, hbl, hget, k1, k2, k3, k4⟩ := (hS.below hb).at_ hlt
      have HFS := Lib.hid (flat_snoc ls j l hget)
      have hfl := flat_le ls j l hget
      obtain ⟨m, hm⟩ : ∃ m, m = (ls.take j).flatten := ⟨_, rfl⟩
      rw [← hm] at ho hfl
      have HM := Lib.hid hm
      have hml : m.length + l.length ≤ 131072 := Nat.le_trans hfl hle
      have hSl := k3.wider hb.size
      clear hm hget hfl
      go_wp2_with (first
        | (go_at_call 23; refine (rbits_any (pack l) l (pack_rep l) k4 Ai ci _ hSl).mono ?_; rintro e w6 ⟨v6, rfl, ho6, hb6⟩; obtain ⟨A6, c6, hv6, h61, h62⟩ := own_form ho6; subst hv6; have hs6 := Sl.of_own ho6; have hox := own_below ho hb6; have rx := r1.below hb6 r1.lt; have hbx := up_call hb hb6; have hgt6 := rx.lt; clear h61 h62 ho6)
        | (at_builtin; refine wpList_app _ rfl _ _ _ rfl (w.heap.size + 1) 3 i0 (.int .i64 0) 8 Try.underlying35 hi hz0 hz1 hz2 rfl _ m.length _ rfl hox w6.heap.size A6 l.length c6 (il l) rfl hs6 (il_one _) (by unfold maxLen; omega) (by omega) hgt6 ?_; intro v2 w2 hown2 hg2))
      go_roundw
      case rel =>
        refine ⟨j + 1, by omega, by go_num, ?_, ?_, ?_⟩
        · rw [HFS.out, ← HM.out, List.length_append, il_append]
          exact hown2
        · exact rx.grown hg2 (fun h => Nat.lt_irrefl _ (hox.lt _ h.symm).1)
        · exact blw_grown hbx hg2 hbx.size hox (Nat.le_succ _)
      case measure => simp [intOf]; omega
    · obtain rfl : n = j := by omega
      rw [List.take_of_length_le (by rw [hS.1]; exact Nat.le_refl _)] at ho
      obtain ⟨m, hm⟩ : ∃ m, m = ls.flatten := ⟨_, rfl⟩
      rw [← hm] at ho hle ⊢
      have HMM := Lib.hid hm
      clear hm
      obtain ⟨A6, c6, hv6, h61, h62⟩ := own_form ho
      subst hv6
      have hs6 := Sl.of_own ho
      have hm6 : m.length ≤ 1000000 := by omega
      clear h61 h62
      go_wp2_with (first
        | (go_at_call 18; refine (packed_any m hm6 A6 c6 m.length rfl _ hs6).mono ?_; rintro e w7 ⟨A7, c7, rfl, s7, hb7⟩; have rx := r1.below hb7 r1.lt; have hbx := up_call hb hb7)
        | (refine wpList_store_row rfl 24 _ _ rfl w.heap.size (bcs A7 (pack m).length c7 m.length) rfl rfl 24 (bcs none 0 0 0) rx (by rw [bcs_size]; exact cellsB) rfl (all_one (bcs_one _ _ _ _)) ?_))
      refine bodyPost_ret (results_row Try.results35 _ _ w.heap.size 24 (bcs A7 (pack m).length c7 m.length) _ rfl (Row.row rx _) Try.underlying24 rfl (by rw [bcs_size]; exact cellsB)) rfl ?_
      rw [← HMM.out]
      refine ⟨A7, c7, rfl, ?_, blw_row hbx (Nat.le_refl _) _⟩
      have h := bytes_far s7 rx (bcs A7 (pack m).length c7 m.length)
      rw [show (w7.setRow w.heap.size (bcs A7 (pack m).length c7 m.length)).heap.size = w7.heap.size by simp]
      exact h
end Go.Proofs.Ytbahkidkpbabdaa
