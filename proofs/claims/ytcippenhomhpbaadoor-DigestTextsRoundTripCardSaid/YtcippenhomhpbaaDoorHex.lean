/-
  The contracts of digest.Text, digest.Parse and of the reference's HexDigit, Hex and HexFault.
-/
import Derived.Test.YtcippenhomhpbaaDoorLawKit
import Derived.Test.YtcippenhomhpbaaDoorHexPlain
import Derived.Laws.IdiomStrings
import Derived.Deep.QuietTactic
import Derived.BigQuiet
namespace Go.Proofs.YtcippenhomhpbaaDoor
open Go.RowKit

theorem hexc_lo (n : Nat) (h : n < 10) : ((hexc n).toNat : Int) = (48 + (n : Int)) := by
  unfold hexc
  rw [if_pos h, UInt8.toNat_ofNat']
  omega
theorem hexc_hi (n : Nat) (h : 10 ≤ n) (h2 : n < 16) : ((hexc n).toNat : Int) = (97 + (n : Int) - 10) := by
  unfold hexc
  rw [if_neg (by omega), UInt8.toNat_ofNat']
  omega

/-- the reference's HexDigit -/
theorem hexDigit_any (n : Nat) (h : n < 16) (w : World) :
    Calls Tryd.prog 38 #[.int .i64 n] w fun e w' => e = .returned (.int .u8 ((hexc n).toNat : Int)) ∧ w' = w := by
  by_cases h1 : n < 10
  · have H := Lib.hid (hexc_lo n h1)
    go_enter Tryd.func38, Tryd.ntmps38
    go_wp2
    go_ret
    refine ⟨ret_int ?_, rfl⟩
    rw [H.out]
  · have H := Lib.hid (hexc_hi n (by omega) h)
    have h2 : 10 ≤ n := by omega
    clear h1
    go_enter Tryd.func38, Tryd.ntmps38
    go_wp2
    go_ret
    refine ⟨ret_int ?_, rfl⟩
    rw [H.out]

/-- strings.IndexByte among the digits -/
theorem stringslite_any (s : ByteArray) (c : Int) (w : World) :
    Calls Tryd.prog 42 #[.string s, .int .u8 c] w fun e w' => e = .returned (.int .i64 (Lib.indexByte s.data.toList c.toNat.toUInt8)) ∧ w' = w := by
  go_enter Tryd.func42, Tryd.ntmps42
  go_wp2
  rw [run_callFunc_extern Tryd.func45 (by kernel_rfl) (by kernel_rfl) (by kernel_rfl) (e := Extern.BytealgIndexByte.indexByte) (by kernel_rfl), Lib.run_indexByteString]
  simp only [Result.andThen]
  rw [Oper.upon_value]
  go_wp2
  go_ret
  exact ⟨rfl, rfl⟩
theorem indexByte_any (s : ByteArray) (c : Int) (w : World) :
    Calls Tryd.prog 37 #[.string s, .int .u8 c] w fun e w' => e = .returned (.int .i64 (Lib.indexByte s.data.toList c.toNat.toUInt8)) ∧ w' = w := by
  go_enter Tryd.func37, Tryd.ntmps37
  go_wp2_with (go_at_call 42; refine (stringslite_any _ _ _).mono ?_; rintro e w' ⟨rfl, rfl⟩)
  go_ret
  exact ⟨rfl, rfl⟩

theorem infoB' : (Tryd.prog.info? 5).map (fun i => (i.zero, i.size, i.bytes)) = some (some (.int .u8 0), 1, 1) := by kernel_rfl
theorem indexD (D : List UInt8) (hD : D.length = 32) (k : Nat) (h : k < 32) (w : World) : (Instr.index 24 (.agg (bs D)) (.int .i64 (k : Int))).run Tryd.prog w = .ok (.int .u8 ((D.getD k 0).toNat : Int)) w := by
  have h1 := bs_get D k (by omega)
  have h2 : k < (bs D).size := by rw [bs_size]; omega
  rw [Array.getElem?_eq_getElem h2] at h1
  injection h1 with h1
  simp [Instr.index, go_sem, hD, bs_size, h]
  rw [h1]
  simp [List.getD_eq_getElem?_getD, hD, h]
/-- a new block of two cells, as a source -/
theorem Sl.two (w : World) (t : TypeId) (u v : Value) : Sl (w.alloc (.cells #[u, v] t)) (w.heap.size + 1) (some ⟨w.heap.size, 0, none⟩) 2 [u, v] := by
  refine ⟨rfl, fun _ => ⟨_, rfl, Nat.lt_succ_self _, fun j x hx => ?_⟩⟩
  rw [add_at, (Row.new w t #[u, v]).cell]
  simpa using hx
theorem two_one (a b : Int) : ∀ u ∈ [Value.int .u8 a, Value.int .u8 b], u.oneCell' = true := by
  intro u hu
  simp only [List.mem_cons, List.not_mem_nil, or_false] at hu
  rcases hu with rfl | rfl <;> rfl
/-- the string of an owned row of bytes -/
theorem own_string {P : Program} {w : World} {base n : Nat} {src dst e : TypeId} {v : Value} {L : List UInt8} (h : w.ownsRow base e 1 v n (bl L)) (hs : P.underlying src = some (.slice e)) (he : P.underlying e = some (.int .u8)) (hd : P.underlying dst = some .string) :
    (convert src dst v).run P w = .ok (.string ⟨L.toArray⟩) w := by
  have hl : L.length = n := by rw [← bl_length]; simpa using h.1
  subst hl
  rcases h.2 with ⟨rfl, h0⟩ | ⟨g, cap, cur, rfl, _, hg, _⟩
  · obtain rfl : L = [] := List.eq_nil_of_length_eq_zero h0
    rw [run_convert_bytes_string w src dst e none 0 0 hs he hd]
    rfl
  · refine run_convert_bytes_back w src dst e _ cap L hs he hd (fun j hj => h.cells (g := g) rfl j _ ?_)
    unfold bl
    rw [List.getElem?_map, List.getElem?_eq_getElem hj, Option.map_some]
theorem and15 (b : UInt8) : bits .and .u8 (b.toNat : Int) 15 = ((b.toNat % 16 : Nat) : Int) := by
  have h := all_bytes (fun b => bits .and .u8 (b.toNat : Int) 15 == ((b.toNat % 16 : Nat) : Int)) (by decide +kernel) b
  exact eq_of_beq h
theorem hexdig_index (n : Nat) (h : n < 16) (m : Int) (hm : m = (n : Int)) (w : World) : (Instr.index 9 (.string ⟨#[48, 49, 50, 51, 52, 53, 54, 55, 56, 57, 97, 98, 99, 100, 101, 102]⟩) (.int .u8 m)).run Tryd.prog w = .ok (.int .u8 ((hexc n).toNat : Int)) w := by
  subst hm
  have hp := nib_lt (fun n => (#[48, 49, 50, 51, 52, 53, 54, 55, 56, 57, 97, 98, 99, 100, 101, 102] : Array UInt8)[n]? == some (hexc n)) (by decide +kernel) n h
  have hp := eq_of_beq hp
  obtain ⟨hl, hp⟩ := Array.getElem?_eq_some_iff.1 hp
  have hq : (⟨#[48, 49, 50, 51, 52, 53, 54, 55, 56, 57, 97, 98, 99, 100, 101, 102]⟩ : ByteArray)[n]? = some (hexc n) := by
    rw [← hp]
    exact getElem?_pos (⟨#[48, 49, 50, 51, 52, 53, 54, 55, 56, 57, 97, 98, 99, 100, 101, 102]⟩ : ByteArray) n hl
  simp [Instr.index, go_sem, hq]

set_option maxRecDepth 100000 in
set_option maxHeartbeats 4000000 in
/-- digest.Text -/
theorem text_any (D : List UInt8) (hD : D.length = 32) (w : World) :
    Calls Tryd.prog 26 #[.agg (bs D)] w fun e w' => e = .returned (.string ⟨(hexOf D).toArray⟩) ∧ Below w.heap.size w w' := by
  obtain ⟨i0, hi, hz0, hz1, hz2⟩ := info_parts infoB'
  have HD := Lib.hid hD
  have hix := fun k h w' => indexD D hD k h w'
  clear hD
  go_enter Tryd.func26, Tryd.ntmps26
  go_wp2_with (first
    | (at_make; refine wpList_make_own _ rfl _ _ 22 rfl w.heap.size 5 i0 (.int .u8 0) 1 Tryd.underlying22 hi hz0 hz1 .i64 .i64 _ 64 rfl rfl rfl (by rw [hz2]; omega) (by unfold maxLen; omega) (by simp) ?_; intro w1 hown1 hg1)
    | (refine wpList_load_row rfl 24 _ rfl w.heap.size rfl 24 (bs D) (0, 0) _ (Row.grown (Row.new w 24 (bs D)) hg1 (by simp)) Tryd.underlying24 rfl (by rw [bs_size, HD.out]; exact cellsD) ?_))
  have hb1 : Below w.heap.size w w1 := ((Below.refl _ _).alloc (Nat.le_refl _) _).grown hg1 (by simp) (fun k hk => by cases hk)
  clear hg1
  go_loopw [3, 5, 8] (fun v _ i wr => ∃ k : Nat, k ≤ 32 ∧ i = .int .i64 k ∧ wr.ownsRow w.heap.size 5 1 v (2 * k) (bl (hexOf (D.take k))) ∧ Below w.heap.size w wr) (fun _ _ i _ => 32 - (intOf i).toNat)
  case atStart => exact ⟨0, by omega, rfl, by rw [List.take_zero, hexOf, bl_nil]; simpa using hown1, hb1⟩
  case round =>
    clear hown1 hb1
    obtain ⟨k, hk, rfl, ho, hb⟩ := hrel
    by_cases hlt : k < 32
    · have hi1 := fun w' => hix k hlt w'
      have HN := Lib.hid (hexOf_snoc D k (by rw [HD.out]; exact hlt))
      have hbl := (D.getD k 0).toNat_lt
      generalize D.getD k 0 = b at *
      clear hix
      have x1 := fun w' => hexdig_index (b.toNat / 16) (by omega) ((b.toNat : Int) / 16) (by omega) w'
      have x2 := fun w' => hexdig_index (b.toNat % 16) (by omega) (bits .and .u8 (b.toNat : Int) 15) (and15 b) w'
      go_wp2
      go_region_law (refine step_app _ rfl (.tmp 11) (.tmp 18) _ rfl w.heap.size 5 i0 (.int .u8 0) 1 Tryd.underlying22 hi hz0 hz1 hz2 rfl _ (2 * k) _ rfl (ho.drew.alloc _) (wr.heap.size + 1) _ 2 _ [_, _] rfl (Sl.two wr.drew _ _ _) (two_one _ _) (by unfold maxLen; omega) (by omega) (Nat.le_trans hb.size (by simp)) ?_; intro v2 w2 hown2 hg2)
      all_goals
        go_wp2
        refine ⟨⟨k + 1, by omega, by go_num, ?_, ?_⟩, by simp [intOf]; omega⟩
        · rw [HN.out, bl_append, bl_cons, bl_cons, bl_nil]
          exact hown2
        · exact blw_grown (hb.drew.alloc hb.size _) hg2 (Nat.le_trans hb.size (by simp)) (ho.drew.alloc _) (Nat.le_refl _)
    · obtain rfl : k = 32 := by omega
      have hs := own_string ho Tryd.underlying22 Tryd.underlying5 Tryd.underlying9
      rw [List.take_of_length_le (by rw [HD.out]; omega)] at hs
      clear hix
      go_wp2
      go_ret
      exact ⟨rfl, hb⟩

theorem wq16 (b : UInt8) : IntKind.i64.wrap ((IntKind.i64.wrap (b.toNat : Int)).tdiv 16) = ((b.toNat / 16 : Nat) : Int) := by
  have h := all_bytes (fun b => IntKind.i64.wrap ((IntKind.i64.wrap (b.toNat : Int)).tdiv 16) == ((b.toNat / 16 : Nat) : Int)) (by decide +kernel) b
  exact eq_of_beq h
theorem wr16 (b : UInt8) : (IntKind.i64.wrap (b.toNat : Int)).tmod 16 = ((b.toNat % 16 : Nat) : Int) := by
  have h := all_bytes (fun b => (IntKind.i64.wrap (b.toNat : Int)).tmod 16 == ((b.toNat % 16 : Nat) : Int)) (by decide +kernel) b
  exact eq_of_beq h
theorem hexDigit_lit (n : Nat) (m : Int) (hm : m = (n : Int)) (h : n < 16) (w : World) :
    Calls Tryd.prog 38 #[.int .i64 m] w fun e w' => e = .returned (.int .u8 ((hexc n).toNat : Int)) ∧ w' = w := by
  subst hm
  exact hexDigit_any n h w

set_option maxRecDepth 100000 in
set_option maxHeartbeats 4000000 in
/-- the reference's Hex -/
theorem refHex_any (D : List UInt8) (hD : D.length = 32) (w : World) :
    Calls Tryd.prog 27 #[.agg (bs D)] w fun e w' => e = .returned (.string ⟨(hexOf D).toArray⟩) ∧ Below w.heap.size w w' := by
  obtain ⟨i0, hi, hz0, hz1, hz2⟩ := info_parts infoB'
  have HD := Lib.hid hD
  clear hD
  go_enter Tryd.func27, Tryd.ntmps27
  go_wp2
  go_loopw [3, 4] (fun v i wr => ∃ k : Nat, k ≤ 32 ∧ i = .int .i64 k ∧ wr.ownsRow (w.heap.size + 1) 5 1 v (2 * k) (bl (hexOf (D.take k))) ∧ Row wr w.heap.size 24 (bs D) ∧ Below w.heap.size w wr) (fun _ i _ => 32 - (intOf i).toNat)
  case atStart => exact ⟨0, by omega, rfl, by rw [List.take_zero, hexOf, bl_nil]; exact World.ownsRow_nil _ _ _ _, Row.new _ _ _, (Below.refl _ _).alloc (Nat.le_refl _) _⟩
  case round =>
    obtain ⟨k, hk, rfl, ho, r1, hb⟩ := hrel
    have hrl := r1.lt
    by_cases hlt : k < 32
    · have HN := Lib.hid (hexOf_snoc D k (by rw [HD.out]; exact hlt))
      have hbl := (D.getD k 0).toNat_lt
      have c0 := (r1.cell k).trans (bs_get _ _ (by rw [HD.out]; exact hlt))
      have c1 := (r1.drew.cell k).trans (bs_get _ _ (by rw [HD.out]; exact hlt))
      generalize D.getD k 0 = b at *
      go_wp2
      go_region_law (first
        | (go_simp; go_at_call 38; (with_reducible refine (hexDigit_lit (b.toNat / 16) (IntKind.i64.wrap ((IntKind.i64.wrap (b.toNat : Int)).tdiv 16)) (wq16 b) (by omega) _).mono ?_); rintro e w' ⟨rfl, rfl⟩)
        | (go_simp; go_at_call 38; (with_reducible refine (hexDigit_lit (b.toNat % 16) ((IntKind.i64.wrap (b.toNat : Int)).tmod 16) (wr16 b) (by omega) _).mono ?_); rintro e w' ⟨rfl, rfl⟩)
        | (refine step_app _ rfl (.tmp 9) (.tmp 22) _ rfl (w.heap.size + 1) 5 i0 (.int .u8 0) 1 Tryd.underlying22 hi hz0 hz1 hz2 rfl _ (2 * k) _ rfl (ho.drew.alloc _) (wr.heap.size + 1) _ 2 _ [_, _] rfl (Sl.two wr.drew _ _ _) (two_one _ _) (by unfold maxLen; omega) (by omega) (Nat.le_trans hrl (by simp)) ?_; intro v2 w2 hown2 hg2))
      all_goals
        go_wp2
        refine ⟨⟨k + 1, by omega, by go_num, ?_, ?_, ?_⟩, by simp [intOf]; omega⟩
        · rw [HN.out, bl_append, bl_cons, bl_cons, bl_nil]
          exact hown2
        · exact (r1.drew.alloc _).grown hg2 (fun h => Nat.lt_irrefl _ (ho.lt _ h.symm).1)
        · exact blw_grown (hb.drew.alloc hb.size _) hg2 (Nat.le_trans hb.size (by simp)) (ho.drew.alloc _) (Nat.le_succ _)
    · obtain rfl : k = 32 := by omega
      have hs := own_string ho Tryd.underlying22 Tryd.underlying5 Tryd.underlying9
      rw [List.take_of_length_le (by rw [HD.out]; omega)] at hs
      go_wp2
      go_ret
      exact ⟨rfl, hb⟩
end Go.Proofs.YtcippenhomhpbaaDoor
