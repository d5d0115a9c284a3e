/-
  The walks of ArithLikelyBitsAreShort.
-/
import Derived.Test.YtcnokjiohbifeaaAArgs
import Derived.Test.YtcnokjiohbifeaaAShort
namespace Go.Proofs.Ytcnokjiohbifeaa.lawShort
open Go.RowKit

set_option maxRecDepth 100000 in
set_option maxHeartbeats 4000000 in
theorem walk_bad (zs : List (Int × Int)) (k i : Int) (h : ChF zs k i) (A : Option Addr) (cp : Nat) (w : World) (hS : Chs w w.heap.size A zs.length zs) :
    Calls Try.prog 10 #[.slice A zs.length cp] w fun e w' => e = .returned (.bool true) ∧ Below w.heap.size w w' := by
  have hne : (k != 0) = true := bne_iff_ne.2 h.ne
  have he := Encode_bad zs k i h A cp w hS
  have HS := Lib.hid hS
  clear h hS
  go_enter Try.func10, Try.ntmps10
  go_upto_region 2 with (first
    | (go_at_call 29; refine he.mono ?_; rintro e w1 ⟨rfl, hb1⟩)
    | (refine wpList_store_row rfl 26 _ _ rfl w1.heap.size (bcs none 0 0 0) rfl rfl 26 (bcs none 0 0 0) ((Row.newEq _ _ _ _ _ rfl rfl).alloc _) (by rw [bcs_size]; exact cellsB) rfl (all_one (bcs_one _ _ _ _)) ?_)
    | (refine wpList_store_row rfl 28 _ _ rfl (w1.heap.size + 1) (flt k i) rfl rfl 28 (flt 0 0) (row_far_new2 _ _ _ _ _ _) (by rw [flt_size]; exact cellsF) rfl (all_one (flt_one _ _)) ?_))
  have hk0 := blw_new2 w1 (.cells #[.slice none 0 0, .int .i64 0] 26) (.cells #[.int .i64 0, .int .i64 0] 28) (bcs none 0 0 0) (flt k i)
  have hk := up_call hb1 hk0
  refine wp_world (F := fun W => Row W w1.heap.size 26 (bcs none 0 0 0) ∧ Row W (w1.heap.size + 1) 28 (flt k i) ∧ Below w.heap.size w W)
    ⟨row_new2a _ _ _ _ _ _ _, row_new2b _ _ _ _ _ _ _, hk⟩ ?_
  generalize w1.heap.size = g3
  clear hk hk0 hb1  w1
  rintro W1 ⟨r3, r4, hb⟩
  clear he
  go_wp2_with (first
    | (go_at_call 13; refine (codes_any _).mono ?_; rintro e w14 ⟨rfl, hb14⟩; have k0 : w14.cell? ⟨g3 + 1, 0, none⟩ = some (.int .i64 k) := ((r4.below hb14 r4.lt).cell 0).trans rfl; have s3 := r3.below hb14 r3.lt; have hb2 := up_call hb hb14)
    | (go_at_call 13; refine (codes_any _).mono ?_; rintro e w21 ⟨rfl, hb21⟩; have u3 := s3.below hb21 s3.lt; have hb3 := up_call hb2 hb21)
    | (refine wpList_load_rowG (by simp [Region.wanted, yielded, Act.put]) 26 _ rfl g3 rfl 26 (bcs none 0 0 0) (0, 0) _ u3 Try.underlying26 rfl (by rw [bcs_size]; exact cellsB) ?_)
    | (go_at_call 17; refine (same_none _).mono ?_; rintro e w23 ⟨rfl, hb23⟩))
  go_ret
  exact ⟨rfl, up_call hb3 hb23⟩

set_option maxRecDepth 100000 in
set_option maxHeartbeats 4000000 in
theorem walk_good (l : List (Bool × Nat)) (hg : GoodP l) (n : Nat) (hn : n = l.length) (hl : n ≤ 8192) (A : Option Addr) (cp : Nat) (w : World) (hS : Chs w w.heap.size A n (cz l)) :
    Calls Try.prog 10 #[.slice A n cp] w fun e w' => e = .returned (.bool true) ∧ Below w.heap.size w w' := by
  have he := Encode_ok l hg n hn hl A cp w hS
  obtain ⟨cd, hcd⟩ : ∃ cd, cd = codeN l := ⟨_, rfl⟩
  rw [← hcd] at he
  have HS := Lib.hid hS
  have HL := Lib.hid (And.intro hcd (And.intro hn hg))
  clear hS hcd hn hg
  go_enter Try.func10, Try.ntmps10
  go_upto_region 2 with (first
    | (go_at_call 29; refine he.mono ?_; rintro e w1 ⟨A1, c1, rfl, s1, hb1⟩)
    | (refine wpList_store_row rfl 26 _ _ rfl w1.heap.size (bcs A1 (pack cd).length c1 cd.length) rfl rfl 26 (bcs none 0 0 0) ((Row.newEq _ _ _ _ _ rfl rfl).alloc _) (by rw [bcs_size]; exact cellsB) rfl (all_one (bcs_one _ _ _ _)) ?_)
    | (refine wpList_store_row rfl 28 _ _ rfl (w1.heap.size + 1) (flt 0 0) rfl rfl 28 (flt 0 0) (row_far_new2 _ _ _ _ _ _) (by rw [flt_size]; exact cellsF) rfl (all_one (flt_one _ _)) ?_))
  have hk0 := blw_new2 w1 (.cells #[.slice none 0 0, .int .i64 0] 26) (.cells #[.int .i64 0, .int .i64 0] 28) (bcs A1 (pack cd).length c1 cd.length) (flt 0 0)
  have hk := up_call hb1 hk0
  refine wp_world (F := fun W => Row W w1.heap.size 26 (bcs A1 (pack cd).length c1 cd.length) ∧ Row W (w1.heap.size + 1) 28 (flt 0 0) ∧ Sl W W.heap.size A1 (pack cd).length (bl (pack cd)) ∧ Chs W W.heap.size A n (cz l) ∧ Below w.heap.size w W)
    ⟨row_new2a _ _ _ _ _ _ _, row_new2b _ _ _ _ _ _ _, s1.up hk0, HS.out.up hk, hk⟩ ?_
  generalize w1.heap.size = g3
  clear hk hk0 hb1 s1 w1
  rintro W1 ⟨r3, r4, s1, hC, hb⟩
  clear he HS
  go_upto_region 5 with (first
    | (go_at_call 13; refine (codes_any _).mono ?_; rintro e w14 ⟨rfl, hb14⟩; have k0 : w14.cell? ⟨g3 + 1, 0, none⟩ = some (.int .i64 0) := ((r4.below hb14 r4.lt).cell 0).trans rfl))
  have HC := Lib.hid (hC.up hb14)
  have hb2 := up_call hb hb14
  have k1 : w14.cell? ⟨g3, 1, none⟩ = some (.int .i64 cd.length) := ((r3.below hb14 r3.lt).cell 1).trans rfl
  have HK1 := Lib.hid k1
  clear k0 k1 r3 r4 s1 hC hb hb14 W1
  go_loop [5] (fun i => ∃ j : Nat, j ≤ n ∧ i = .int .i64 j ∧ Hid (∀ c ∈ l.take j, LikelyN c)) (fun i => n - (intOf i).toNat)
  case atStart => exact ⟨0, Nat.zero_le _, rfl, Lib.hid (fun c hc => by rw [List.take_zero] at hc; cases hc)⟩
  case round =>
    obtain ⟨j, hj, rfl, HT⟩ := hrel
    by_cases hlt : j < n
    · obtain ⟨ad, rfl, hbl, k1, k2⟩ := HC.out.at_ hlt
      have hjl : j < l.length := by rw [← HL.out.2.1]; exact hlt
      rw [cz_getD l j hjl] at k1 k2
      obtain ⟨b, p, hbp⟩ : ∃ b p, l[j] = (b, p) := ⟨_, _, rfl⟩
      have hnext : LikelyN (b, p) → ∀ c ∈ l.take (j + 1), LikelyN c := by
        intro h c hc
        rw [List.take_succ_eq_append_getElem hjl, hbp] at hc
        rcases List.mem_append.1 hc with hc | hc
        · exact HT.out c hc
        · rw [List.mem_singleton.1 hc]; exact h
      rw [hbp] at k1 k2
      simp only at k1 k2
      have HNX := Lib.hid hnext
      clear hnext hbp hjl
      cases b
      · rw [show (((false : Bool).toNat : Nat) : Int) = 0 from rfl] at k1
        by_cases hp : p ≤ 2048
        · have tp : decide ((2048 : Int) < (p : Int)) = false := decide_eq_false (by omega)
          have HP := Lib.hid hp
          clear hp
          go_wp2
          go_round
          case rel => exact ⟨j + 1, by omega, by go_num, Lib.hid (HNX.out HP.out)⟩
          case measure => simp [intOf]; omega
        · have tp : decide ((2048 : Int) < (p : Int)) = true := decide_eq_true (by omega)
          clear hp
          go_wp2
          go_ret
          exact ⟨rfl, hb2⟩
      · rw [show (((true : Bool).toNat : Nat) : Int) = 1 from rfl] at k1
        by_cases hp : 2048 ≤ p
        · have tp : decide ((p : Int) < 2048) = false := decide_eq_false (by omega)
          have HP := Lib.hid hp
          clear hp
          go_wp2
          go_round
          case rel => exact ⟨j + 1, by omega, by go_num, Lib.hid (HNX.out HP.out)⟩
          case measure => simp [intOf]; omega
        · have tp : decide ((p : Int) < 2048) = true := decide_eq_true (by omega)
          clear hp
          go_wp2
          go_ret
          exact ⟨rfl, hb2⟩
    · obtain rfl : n = j := by omega
      have htk : l.take n = l := List.take_of_length_le (by rw [← HL.out.2.1]; exact Nat.le_refl _)
      have hall := HT.out
      rw [htk] at hall
      have hsh := code_short l HL.out.2.2 hall (by rw [← HL.out.2.1]; exact hl)
      rw [← HL.out.1, ← HL.out.2.1] at hsh
      have k1 := HK1.out
      obtain ⟨m, hm⟩ : ∃ m, m = cd.length := ⟨_, rfl⟩
      rw [← hm] at hsh k1
      have t1 : decide ((m : Int) ≤ (n : Int) + 2) = true := decide_eq_true (by omega)
      have t2 : decide (m ≤ n + 2) = true := decide_eq_true hsh
      clear htk hall hm hsh HT
      go_wp2
      go_ret
      exact ⟨by first | rfl | (rw [t1]) | (rw [t2]) | simp_all, hb2⟩
end Go.Proofs.Ytcnokjiohbifeaa.lawShort
