/-
  The contracts of digest.Parse and of the reference's HexFault.
-/
import Derived.Test.YtcippenhomhpbaaDoorHex
namespace Go.Proofs.YtcippenhomhpbaaDoor
open Go.RowKit

/-- one digit more -/
theorem dig_step (L : List UInt8) (k : Nat) (h : k < 64) (hg : ∀ j, j ≤ k → isHex (L.getD j 0) = true) :
    ∃ b : UInt8, bits .or .u8 ((((digPart L k).getD (k / 2) 0).toNat : Int) * 16 % 256) (hexVal (L.getD k 0) : Int) = (b.toNat : Int) ∧ (digPart L k).set (k / 2) b = digPart L (k + 1) := by
  have v1 := hexVal_lt _ (hg k (Nat.le_refl _))
  rcases Nat.mod_two_eq_zero_or_one k with e | e
  · obtain ⟨m, rfl⟩ : ∃ m, k = 2 * m := ⟨k / 2, by omega⟩
    rw [show 2 * m / 2 = m by omega, digPart_even L m (by omega)]
    refine ⟨UInt8.ofNat (hexVal (L.getD (2 * m) 0)), ?_, digPart_next0 L m⟩
    have h1 := nibs_or 0 (hexVal (L.getD (2 * m) 0)) (by omega) v1
    rw [show (((0 : UInt8).toNat : Nat) : Int) = ((0 : Nat) : Int) from rfl, h1, UInt8.toNat_ofNat']
    omega
  · obtain ⟨m, rfl⟩ : ∃ m, k = 2 * m + 1 := ⟨k / 2, by omega⟩
    have v0 := hexVal_lt _ (hg (2 * m) (by omega))
    rw [show (2 * m + 1) / 2 = m by omega, digPart_odd L m (by omega)]
    refine ⟨UInt8.ofNat (16 * hexVal (L.getD (2 * m) 0) + hexVal (L.getD (2 * m + 1) 0)), ?_, digPart_next1 L m⟩
    have h1 := nibs_or (hexVal (L.getD (2 * m) 0)) (hexVal (L.getD (2 * m + 1) 0)) v0 v1
    rw [UInt8.toNat_ofNat', show hexVal (L.getD (2 * m) 0) % 2 ^ 8 = hexVal (L.getD (2 * m) 0) by omega, h1, UInt8.toNat_ofNat']
    omega

theorem byte_of (s : ByteArray) (k : Nat) (h : k < s.size) : s.data.toList.getD k 0 = s[k] := by
  have h' : k < s.data.toList.length := by simpa using h
  rw [List.getD_eq_getElem?_getD, List.getElem?_eq_getElem h']
  rfl
theorem byte_back (c : UInt8) : ((c.toNat : Int)).toNat.toUInt8 = c := by
  rw [Int.toNat_natCast]
  exact UInt8.ofNat_toNat
theorem digit_yes (c : UInt8) (h : isHex c = true) (w : World) :
    Calls Tryd.prog 37 #[.string ⟨#[48, 49, 50, 51, 52, 53, 54, 55, 56, 57, 97, 98, 99, 100, 101, 102]⟩, .int .u8 (c.toNat : Int)] w fun e w' => e = .returned (.int .i64 (hexVal c : Int)) ∧ w' = w := by
  refine (indexByte_any _ _ w).mono ?_
  rintro e w' ⟨rfl, rfl⟩
  refine ⟨ret_int ?_, rfl⟩
  rw [byte_back]
  exact (index_hex c).trans (if_pos h)
theorem digit_no (c : UInt8) (h : isHex c = false) (w : World) :
    Calls Tryd.prog 37 #[.string ⟨#[48, 49, 50, 51, 52, 53, 54, 55, 56, 57, 97, 98, 99, 100, 101, 102]⟩, .int .u8 (c.toNat : Int)] w fun e w' => e = .returned (.int .i64 (-1)) ∧ w' = w := by
  refine (indexByte_any _ _ w).mono ?_
  rintro e w' ⟨rfl, rfl⟩
  refine ⟨ret_int ?_, rfl⟩
  rw [byte_back]
  exact (index_hex c).trans (if_neg (by rw [h]; exact Bool.false_ne_true))

set_option maxRecDepth 100000 in
set_option maxHeartbeats 4000000 in
/-- digest.Parse of a text of another length -/
theorem parse_len (s : ByteArray) (hs : s.size ≠ 64) (w : World) :
    Calls Tryd.prog 25 #[.string s] w fun e w' => e = .returned (.tuple #[.agg zD, .agg (flt 9 (-1))]) ∧ Below w.heap.size w w' := by
  go_enter Tryd.func25, Tryd.ntmps25
  go_wp2_with (first
    | (refine wpList_store_row rfl 24 _ _ rfl w.heap.size zD rfl (congrArg Value.agg zD_lit) 24 zD ((Row.newEq _ _ _ _ _ rfl zD_lit).alloc _) (by rw [zD_size]; exact cellsD) rfl (all_one zD_one) ?_)
    | (refine wpList_store_row rfl 32 _ _ rfl (w.heap.size + 1) (flt 9 (-1)) rfl rfl 32 (flt 0 0) (Row.rowFar (Row.newEq _ _ _ _ _ (by simp) rfl) (by omega) _) (by rw [flt_size]; exact cellsF) rfl (all_one (flt_one _ _)) ?_))
  refine bodyPost_ret (results_rows Tryd.results25 _ _ w.heap.size (w.heap.size + 1) 24 32 zD (flt 9 (-1)) _ _ rfl rfl (Row.rowFar (Row.row ((Row.newEq _ _ _ _ _ rfl zD_lit).alloc _) _) (by omega) _) (Row.row (Row.rowFar (Row.newEq _ _ _ _ _ (by simp) rfl) (by omega) _) _) Tryd.underlying24 rfl (by rw [zD_size]; exact cellsD) Tryd.underlying32 rfl (by rw [flt_size]; exact cellsF)) rfl ⟨rfl, ?_⟩
  exact blw_row (blw_row (((Below.refl _ _).alloc (Nat.le_refl _) _).alloc (by simp) _) (Nat.le_refl _) _) (by omega) _

set_option maxRecDepth 100000 in
set_option maxHeartbeats 4000000 in
/-- digest.Parse of digits -/
theorem parse_ok (s : ByteArray) (hs : s.size = 64) (hg : ∀ k, k < 64 → isHex (s.data.toList.getD k 0) = true) (w : World) :
    Calls Tryd.prog 25 #[.string s] w fun e w' => e = .returned (.tuple #[.agg (bs (parsed s.data.toList)), .agg (flt 0 0)]) ∧ Below w.heap.size w w' := by
  have HS := Lib.hid hs
  have HG := Lib.hid hg
  have h1 : s.size ≤ 64 := by omega
  have h2 : 64 ≤ s.size := by omega
  have HP := Lib.hid (digPart_last s.data.toList)
  have hne : ((s.size : Int) != 64) = false := by rw [hs]; rfl
  clear hs hg
  go_enter Tryd.func25, Tryd.ntmps25
  go_wp2
  clear hne
  refine wp_world (F := fun W => Row W w.heap.size 24 zD ∧ Row W (w.heap.size + 1) 32 (flt 0 0) ∧ Row W (w.heap.size + 1 + 1) 24 zD ∧ Below w.heap.size w W) ⟨((Row.newEq _ _ _ _ _ rfl zD_lit).alloc _).alloc _, (Row.newEq _ _ _ _ _ (by simp) rfl).alloc _, Row.newEq _ _ _ _ _ (by simp) zD_lit, (((Below.refl _ _).alloc (Nat.le_refl _) _).alloc (by simp) _).alloc (by simp; omega) _⟩ ?_
  rintro W0 ⟨r0, r1, r2, rb⟩
  go_loopw [12] (fun i wr => ∃ k : Nat, k ≤ 64 ∧ i = .int .i64 k ∧ Row wr w.heap.size 24 zD ∧ Row wr (w.heap.size + 1) 32 (flt 0 0) ∧ Row wr (w.heap.size + 1 + 1) 24 (bs (digPart s.data.toList k)) ∧ Below w.heap.size w wr) (fun i _ => 64 - (intOf i).toNat)
  case atStart => exact ⟨0, by omega, rfl, r0, r1, by rw [digPart_zero, zD_eq]; exact r2, rb⟩
  case round =>
    clear r0 r1 r2 rb
    obtain ⟨k, hk, rfl, r0, r1, r2, rb⟩ := hrel
    by_cases hlt : k < 64
    · obtain ⟨b, hb1, hb2⟩ := dig_step s.data.toList k hlt (fun j hj => HG.out j (by omega))
      have hlt2 : k < s.size := by omega
      have hy : isHex s[k] = true := by rw [← byte_of s k hlt2]; exact HG.out k hlt
      rw [byte_of s k hlt2] at hb1
      have HY := Lib.hid hy
      have c2 := (r2.cell (k / 2)).trans (bs_get _ _ (by rw [digPart_length]; omega))
      have f2 := r2.free (k / 2)
      generalize (digPart s.data.toList k).getD (k / 2) 0 = d at *
      have hd := d.toNat_lt
      have hv := hexVal_lt _ hy
      have HB := Lib.hid hb1
      have HC := Lib.hid hb2
      clear hb1 hb2 hy
      go_wp2_with (go_at_call 37; refine (digit_yes s[k] HY.out _).mono ?_; rintro e w' ⟨rfl, rfl⟩)
      go_roundw
      case rel =>
        refine ⟨k + 1, by omega, by go_num, r0.far (by simp; omega) _, r1.far (by simp) _, ?_, rb.setCell (by simp; omega) _⟩
        rw [HB.out, ← HC.out, ← bs_set]
        exact r2.put _ _
      case measure => simp [intOf]; omega
    · obtain rfl : k = 64 := by omega
      have HZ := Lib.hid (parsed_length s.data.toList)
      rw [HP.out] at r2
      go_wp2_with (first
        | (refine wpList_load_row rfl 24 _ rfl (w.heap.size + 1 + 1) rfl 24 (bs (parsed s.data.toList)) (0, 0) _ r2 Tryd.underlying24 rfl (by rw [bs_size, HZ.out]; exact cellsD) ?_)
        | (refine wpList_store_row rfl 24 _ _ rfl w.heap.size (bs (parsed s.data.toList)) rfl rfl 24 zD r0 (by rw [bs_size, HZ.out]; exact cellsD) (by rw [zD_size, bs_size, HZ.out]) (all_one (bs_one _)) ?_)
        | (refine wpList_store_row rfl 32 _ _ rfl (w.heap.size + 1) (flt 0 0) rfl rfl 32 (flt 0 0) (r1.rowFar (by omega) _) (by rw [flt_size]; exact cellsF) rfl (all_one (flt_one _ _)) ?_))
      refine bodyPost_ret (results_rows Tryd.results25 _ _ w.heap.size (w.heap.size + 1) 24 32 (bs (parsed s.data.toList)) (flt 0 0) _ _ rfl rfl ((Row.row r0 _).rowFar (by omega) _) (Row.row (r1.rowFar (by omega) _) _) Tryd.underlying24 rfl (by rw [bs_size, HZ.out]; exact cellsD) Tryd.underlying32 rfl (by rw [flt_size]; exact cellsF)) rfl ⟨rfl, ?_⟩
      exact blw_row (blw_row rb (Nat.le_refl _) _) (by omega) _

set_option maxRecDepth 100000 in
set_option maxHeartbeats 4000000 in
/-- digest.Parse of a text whose place i is its first that is no digit -/
theorem parse_bad (s : ByteArray) (hs : s.size = 64) (i : Nat) (hi : i < 64) (hg : ∀ k, k < i → isHex (s.data.toList.getD k 0) = true) (hb : isHex (s.data.toList.getD i 0) = false) (w : World) :
    Calls Tryd.prog 25 #[.string s] w fun e w' => e = .returned (.tuple #[.agg zD, .agg (flt 6 i)]) ∧ Below w.heap.size w w' := by
  have HS := Lib.hid hs
  have HG := Lib.hid hg
  have h1 : s.size ≤ 64 := by omega
  have h2 : 64 ≤ s.size := by omega
  have HI := Lib.hid hb
  have hne : ((s.size : Int) != 64) = false := by rw [hs]; rfl
  clear hs hg hb
  go_enter Tryd.func25, Tryd.ntmps25
  go_wp2
  clear hne
  refine wp_world (F := fun W => Row W w.heap.size 24 zD ∧ Row W (w.heap.size + 1) 32 (flt 0 0) ∧ Row W (w.heap.size + 1 + 1) 24 zD ∧ Below w.heap.size w W) ⟨((Row.newEq _ _ _ _ _ rfl zD_lit).alloc _).alloc _, (Row.newEq _ _ _ _ _ (by simp) rfl).alloc _, Row.newEq _ _ _ _ _ (by simp) zD_lit, (((Below.refl _ _).alloc (Nat.le_refl _) _).alloc (by simp) _).alloc (by simp; omega) _⟩ ?_
  rintro W0 ⟨r0, r1, r2, rb⟩
  go_loopw [12] (fun u wr => ∃ k : Nat, k ≤ i ∧ u = .int .i64 k ∧ Row wr w.heap.size 24 zD ∧ Row wr (w.heap.size + 1) 32 (flt 0 0) ∧ Row wr (w.heap.size + 1 + 1) 24 (bs (digPart s.data.toList k)) ∧ Below w.heap.size w wr) (fun u _ => 64 - (intOf u).toNat)
  case atStart => exact ⟨0, by omega, rfl, r0, r1, by rw [digPart_zero, zD_eq]; exact r2, rb⟩
  case round =>
    clear r0 r1 r2 rb
    obtain ⟨k, hk, rfl, r0, r1, r2, rb⟩ := hrel
    by_cases hlt : k < i
    · have hlt3 : k < 64 := by omega
      obtain ⟨b, hb1, hb2⟩ := dig_step s.data.toList k (by omega) (fun j hj => HG.out j (by omega))
      have hlt2 : k < s.size := by omega
      have hy : isHex s[k] = true := by rw [← byte_of s k hlt2]; exact HG.out k hlt
      rw [byte_of s k hlt2] at hb1
      have HY := Lib.hid hy
      have c2 := (r2.cell (k / 2)).trans (bs_get _ _ (by rw [digPart_length]; omega))
      have f2 := r2.free (k / 2)
      generalize (digPart s.data.toList k).getD (k / 2) 0 = d at *
      have hd := d.toNat_lt
      have hv := hexVal_lt _ hy
      have HB := Lib.hid hb1
      have HC := Lib.hid hb2
      clear hb1 hb2 hy
      go_wp2_with (go_at_call 37; refine (digit_yes s[k] HY.out _).mono ?_; rintro e w' ⟨rfl, rfl⟩)
      go_roundw
      case rel =>
        refine ⟨k + 1, by omega, by go_num, r0.far (by simp; omega) _, r1.far (by simp) _, ?_, rb.setCell (by simp; omega) _⟩
        rw [HB.out, ← HC.out, ← bs_set]
        exact r2.put _ _
      case measure => simp [intOf]; omega
    · obtain rfl : k = i := by omega
      have hlt2 : k < s.size := by omega
      have hy : isHex s[k] = false := by rw [← byte_of s k hlt2]; exact HI.out
      have HY := Lib.hid hy
      clear hy
      go_wp2_with (first
        | (go_at_call 37; refine (digit_no s[k] HY.out _).mono ?_; rintro e w' ⟨rfl, rfl⟩)
        | (refine wpList_store_row rfl 24 _ _ rfl w.heap.size zD rfl (congrArg Value.agg zD_lit) 24 zD r0 (by rw [zD_size]; exact cellsD) rfl (all_one zD_one) ?_)
        | (refine wpList_store_row rfl 32 _ _ rfl (w.heap.size + 1) (flt 6 k) rfl rfl 32 (flt 0 0) (r1.rowFar (by omega) _) (by rw [flt_size]; exact cellsF) rfl (all_one (flt_one _ _)) ?_))
      refine bodyPost_ret (results_rows Tryd.results25 _ _ w.heap.size (w.heap.size + 1) 24 32 zD (flt 6 k) _ _ rfl rfl ((Row.row r0 _).rowFar (by omega) _) (Row.row (r1.rowFar (by omega) _) _) Tryd.underlying24 rfl (by rw [zD_size]; exact cellsD) Tryd.underlying32 rfl (by rw [flt_size]; exact cellsF)) rfl ⟨rfl, ?_⟩
      exact blw_row (blw_row rb (Nat.le_refl _) _) (by omega) _

theorem isHex_true {c : UInt8} (h : isHex c = true) : (48 ≤ (c.toNat : Int) ∧ (c.toNat : Int) ≤ 57) ∨ (¬ (48 ≤ (c.toNat : Int) ∧ (c.toNat : Int) ≤ 57) ∧ 97 ≤ (c.toNat : Int) ∧ (c.toNat : Int) ≤ 102) := by
  simp [isHex] at h
  omega
theorem isHex_false {c : UInt8} (h : isHex c = false) : ((c.toNat : Int) < 48 ∨ 57 < (c.toNat : Int)) ∧ ((c.toNat : Int) < 97 ∨ 102 < (c.toNat : Int)) := by
  simp [isHex] at h
  omega

set_option maxRecDepth 100000 in
set_option maxHeartbeats 4000000 in
/-- the reference's HexFault of a text of another length -/
theorem hexFault_len (s : ByteArray) (hs : s.size ≠ 64) (w : World) :
    Calls Tryd.prog 28 #[.string s] w fun e w' => e = .returned (.agg (flt 9 (-1))) ∧ Below w.heap.size w w' := by
  go_enter Tryd.func28, Tryd.ntmps28
  go_wp2_with (first
    | (go_at_call 19; refine (at_any 9 (-1) _).mono ?_; rintro e w1 ⟨rfl, hb1⟩; have r1 := Row.below (Row.newEq w 32 _ (flt 0 0) _ rfl rfl) hb1 (by simp))
    | (refine wpList_store_row rfl 32 _ _ rfl w.heap.size (flt 9 (-1)) rfl rfl 32 (flt 0 0) r1 (by rw [flt_size]; exact cellsF) rfl (all_one (flt_one _ _)) ?_))
  refine bodyPost_ret (results_row Tryd.results28 _ _ w.heap.size 32 (flt 9 (-1)) _ rfl (Row.row r1 _) Tryd.underlying32 rfl (by rw [flt_size]; exact cellsF)) rfl ⟨rfl, ?_⟩
  exact blw_row (blw_call ((Below.refl _ _).alloc (Nat.le_refl _) _) (by simp) hb1) (Nat.le_refl _) _

set_option maxRecDepth 100000 in
set_option maxHeartbeats 4000000 in
/-- the reference's HexFault of digits -/
theorem hexFault_ok (s : ByteArray) (hs : s.size = 64) (hg : ∀ k, k < 64 → isHex (s.data.toList.getD k 0) = true) (w : World) :
    Calls Tryd.prog 28 #[.string s] w fun e w' => e = .returned (.agg (flt 0 0)) ∧ Below w.heap.size w w' := by
  have HG := Lib.hid hg
  have h1 : s.size ≤ 64 := by omega
  have h2 : 64 ≤ s.size := by omega
  have hne : ((s.size : Int) != 64) = false := by rw [hs]; rfl
  clear hs hg
  go_enter Tryd.func28, Tryd.ntmps28
  go_wp2
  clear hne
  refine wp_world (F := fun W => Row W w.heap.size 32 (flt 0 0) ∧ Below w.heap.size w W) ⟨Row.newEq _ _ _ _ _ rfl rfl, (Below.refl _ _).alloc (Nat.le_refl _) _⟩ ?_
  rintro W0 ⟨r0, rb⟩
  go_loop [3] (fun u => ∃ k : Nat, k ≤ 64 ∧ u = .int .i64 k) (fun u => 64 - (intOf u).toNat)
  case atStart => exact ⟨0, by omega, rfl⟩
  case round =>
    obtain ⟨k, hk, rfl⟩ := hrel
    by_cases hlt : k < 64
    · have hlt2 : k < s.size := by omega
      have hy : isHex s[k] = true := by rw [← byte_of s k hlt2]; exact HG.out k hlt
      have hbl := s[k].toNat_lt
      rcases isHex_true hy with hc | ⟨hc, hd⟩
      · clear hy
        obtain ⟨ha, hb⟩ := hc
        go_wp2_with (go_at_call 22; refine (in_yes (s[k].toNat : Int) 48 57 ha hb _).mono ?_; rintro e w' ⟨rfl, rfl⟩)
        go_round
        case rel => exact ⟨k + 1, by omega, by go_num⟩
        case measure => simp [intOf]; omega
      · clear hy
        have hc' : (s[k].toNat : Int) < 48 ∨ 57 < (s[k].toNat : Int) := by omega
        have HC := Lib.hid hc'
        have HD := Lib.hid hd
        clear hc hc' hd
        go_wp2_with (first
          | (go_at_call 22; (with_reducible refine (in_no (s[k].toNat : Int) 48 57 HC.out _).mono ?_); rintro e w' ⟨rfl, rfl⟩)
          | (go_at_call 22; (with_reducible refine (in_yes (s[k].toNat : Int) 97 102 HD.out.1 HD.out.2 _).mono ?_); rintro e w' ⟨rfl, rfl⟩))
        go_round
        case rel => exact ⟨k + 1, by omega, by go_num⟩
        case measure => simp [intOf]; omega
    · obtain rfl : k = 64 := by omega
      go_wp2_with (refine wpList_store_row rfl 32 _ _ rfl w.heap.size (flt 0 0) rfl rfl 32 (flt 0 0) r0 (by rw [flt_size]; exact cellsF) rfl (all_one (flt_one _ _)) ?_)
      refine bodyPost_ret (results_row Tryd.results28 _ _ w.heap.size 32 (flt 0 0) _ rfl (Row.row r0 _) Tryd.underlying32 rfl (by rw [flt_size]; exact cellsF)) rfl ⟨rfl, ?_⟩
      exact blw_row rb (Nat.le_refl _) _

set_option maxRecDepth 100000 in
set_option maxHeartbeats 4000000 in
/-- the reference's HexFault of a text whose place i is its first that is no digit -/
theorem hexFault_bad (s : ByteArray) (hs : s.size = 64) (i : Nat) (hi : i < 64) (hg : ∀ k, k < i → isHex (s.data.toList.getD k 0) = true) (hb : isHex (s.data.toList.getD i 0) = false) (w : World) :
    Calls Tryd.prog 28 #[.string s] w fun e w' => e = .returned (.agg (flt 6 i)) ∧ Below w.heap.size w w' := by
  have HG := Lib.hid hg
  have HI := Lib.hid hb
  have h1 : s.size ≤ 64 := by omega
  have h2 : 64 ≤ s.size := by omega
  have hne : ((s.size : Int) != 64) = false := by rw [hs]; rfl
  clear hs hg hb
  go_enter Tryd.func28, Tryd.ntmps28
  go_wp2
  clear hne
  refine wp_world (F := fun W => Row W w.heap.size 32 (flt 0 0) ∧ Below w.heap.size w W) ⟨Row.newEq _ _ _ _ _ rfl rfl, (Below.refl _ _).alloc (Nat.le_refl _) _⟩ ?_
  rintro W0 ⟨r0, rb⟩
  go_loop [3] (fun u => ∃ k : Nat, k ≤ i ∧ u = .int .i64 k) (fun u => 64 - (intOf u).toNat)
  case atStart => exact ⟨0, by omega, rfl⟩
  case round =>
    obtain ⟨k, hk, rfl⟩ := hrel
    have hlt3 : k < 64 := by omega
    have hlt2 : k < s.size := by omega
    by_cases hlt : k < i
    · have hy : isHex s[k] = true := by rw [← byte_of s k hlt2]; exact HG.out k hlt
      have hbl := s[k].toNat_lt
      rcases isHex_true hy with hc | ⟨hc, hd⟩
      · clear hy
        obtain ⟨ha, hb⟩ := hc
        go_wp2_with (go_at_call 22; refine (in_yes (s[k].toNat : Int) 48 57 ha hb _).mono ?_; rintro e w' ⟨rfl, rfl⟩)
        go_round
        case rel => exact ⟨k + 1, by omega, by go_num⟩
        case measure => simp [intOf]; omega
      · clear hy
        have hc' : (s[k].toNat : Int) < 48 ∨ 57 < (s[k].toNat : Int) := by omega
        have HC := Lib.hid hc'
        have HD := Lib.hid hd
        clear hc hc' hd
        go_wp2_with (first
          | (go_at_call 22; (with_reducible refine (in_no (s[k].toNat : Int) 48 57 HC.out _).mono ?_); rintro e w' ⟨rfl, rfl⟩)
          | (go_at_call 22; (with_reducible refine (in_yes (s[k].toNat : Int) 97 102 HD.out.1 HD.out.2 _).mono ?_); rintro e w' ⟨rfl, rfl⟩))
        go_round
        case rel => exact ⟨k + 1, by omega, by go_num⟩
        case measure => simp [intOf]; omega
    · obtain rfl : k = i := by omega
      have hbl := s[k].toNat_lt
      have hy := isHex_false (by rw [← byte_of s k hlt2]; exact HI.out : isHex s[k] = false)
      have HY := Lib.hid hy
      clear hy
      go_wp2_with (first
        | (go_at_call 22; (with_reducible refine (in_no (s[k].toNat : Int) 48 57 HY.out.1 _).mono ?_); rintro e w' ⟨rfl, rfl⟩)
        | (go_at_call 22; (with_reducible refine (in_no (s[k].toNat : Int) 97 102 HY.out.2 _).mono ?_); rintro e w' ⟨rfl, rfl⟩)
        | (go_at_call 19; refine (at_any 6 k _).mono ?_; rintro e w1 ⟨rfl, hb1⟩; have r1 := Row.below r0 hb1 r0.lt)
        | (refine wpList_store_row rfl 32 _ _ rfl w.heap.size (flt 6 k) rfl rfl 32 (flt 0 0) r1 (by rw [flt_size]; exact cellsF) rfl (all_one (flt_one _ _)) ?_))
      refine bodyPost_ret (results_row Tryd.results28 _ _ w.heap.size 32 (flt 6 k) _ rfl (Row.row r1 _) Tryd.underlying32 rfl (by rw [flt_size]; exact cellsF)) rfl ⟨rfl, ?_⟩
      exact blw_row (blw_call rb rb.size hb1) (Nat.le_refl _) _
end Go.Proofs.YtcippenhomhpbaaDoor
