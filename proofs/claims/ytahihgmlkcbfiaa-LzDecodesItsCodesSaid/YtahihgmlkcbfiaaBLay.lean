/-
  The contract of bits.lay: a bit string is written over zeros of a row of bytes.
-/
import Derived.Test.YtahihgmlkcbfiaaBOut
namespace Go.Proofs.Ytahihgmlkcbfiaa
open Go.RowKit

/-- a byte with the bits of a number more -/
def orN (x : UInt8) (y : Nat) : UInt8 := UInt8.ofNat (x.toNat ||| y)
theorem orN_nat (x : UInt8) (y : Nat) (hy : y < 256) : (orN x y).toNat = x.toNat ||| y := by
  unfold orN
  rw [UInt8.toNat_ofNat']
  exact Nat.mod_eq_of_lt (Nat.or_lt_two_pow (n := 8) x.toNat_lt hy)
theorem orN_bit (x : UInt8) (y k : Nat) (hy : y < 256) : (orN x y).toNat.testBit k = (x.toNat.testBit k || y.testBit k) := by rw [orN_nat x y hy, Nat.testBit_or]
theorem or_u8 (x : UInt8) (y : Nat) (hy : y < 256) : bits .or .u8 (x.toNat : Int) (y : Int) = ((orN x y).toNat : Int) := by
  rw [u8_or_nat _ _ x.toNat_lt hy, orN_nat x y hy]
theorem bt_orN (M : List UInt8) (i y : Nat) (hi : i < M.length) (hy : y < 256) (p : Nat) : bt (M.set i (orN (M.getD i 0) y)) p = (bt M p || (decide (p / 8 = i) && y.testBit (7 - p % 8))) := by
  rw [bt_set _ _ _ hi]
  by_cases h : p / 8 = i
  · rw [if_pos h, orN_bit _ _ _ hy, bt_eq, h, decide_eq_true rfl, Bool.true_and]
  · rw [if_neg h, decide_eq_false h]
    simp

theorem or_div (y x : UInt8) (s : Nat) : bits .or .u8 (y.toNat : Int) ((x.toNat : Int) / 2 ^ s) = ((orN y (x.toNat / 2 ^ s)).toNat : Int) := by
  have h1 : (x.toNat : Int) / 2 ^ s = ((x.toNat / 2 ^ s : Nat) : Int) := by
    rw [Int.natCast_ediv, Int.natCast_pow]
    rfl
  have h2 := x.toNat_lt
  have h3 := Nat.div_le_self x.toNat (2 ^ s)
  rw [h1, or_u8 _ _ (Nat.lt_of_le_of_lt h3 h2)]
theorem mul_mod (x : UInt8) (s : Nat) : (x.toNat : Int) * 2 ^ s % 256 = ((x.toNat * 2 ^ s % 256 : Nat) : Int) := by
  have h2 : (2 : Int) ^ s = ((2 ^ s : Nat) : Int) := by rw [Int.natCast_pow]; rfl
  rw [h2, ← Int.natCast_mul]
  generalize x.toNat * 2 ^ s = z
  omega
theorem or_mul (y x : UInt8) (s : Nat) : bits .or .u8 (y.toNat : Int) ((x.toNat : Int) * 2 ^ s % 256) = ((orN y (x.toNat * 2 ^ s % 256)).toNat : Int) := by
  rw [mul_mod, or_u8 _ _ (Nat.mod_lt _ (by decide))]

/-- the bytes behind j rounds of lay -/
def LayTo (O L : List UInt8) (a j : Nat) (M : List UInt8) : Prop := M.length = O.length ∧ ∀ p, bt M p = (bt O p || (decide (a ≤ p ∧ p < a + 8 * j) && bt L (p - a)))
theorem LayTo.zero (O L : List UInt8) (a : Nat) : LayTo O L a 0 O := ⟨rfl, fun p => by rw [decide_eq_false (by omega)]; simp⟩
theorem byte_hi (L : List UInt8) (j s r : Nat) (hs : s < 8) (hr : r < 8) : ((L.getD j 0).toNat / 2 ^ s).testBit (7 - r) = (decide (s ≤ r) && bt L (8 * j + r - s)) := by
  rw [Nat.testBit_div_two_pow]
  by_cases h : s ≤ r
  · rw [decide_eq_true h, bt_eq, show (8 * j + r - s) / 8 = j by omega, show 7 - (8 * j + r - s) % 8 = 7 - r + s by omega, Bool.true_and]
  · rw [decide_eq_false h]
    have hx := (L.getD j 0).toNat_lt
    rw [Nat.testBit_lt_two_pow (Nat.lt_of_lt_of_le hx (Nat.pow_le_pow_right (by omega) (by omega)))]
    rfl
theorem byte_lo (L : List UInt8) (j s r : Nat) (hs : s < 8) (hr : r < 8) : ((L.getD j 0).toNat * 2 ^ (8 - s) % 256).testBit (7 - r) = (decide (r < s) && bt L (8 * j + 8 - s + r)) := by
  rw [show (256 : Nat) = 2 ^ 8 from rfl, Nat.testBit_mod_two_pow, Nat.mul_comm, Nat.testBit_two_pow_mul, decide_eq_true (by omega : 7 - r < 8), Bool.true_and]
  by_cases h : r < s
  · rw [decide_eq_true (by omega : 7 - r ≥ 8 - s), decide_eq_true h, bt_eq, show (8 * j + 8 - s + r) / 8 = j by omega, show 7 - (8 * j + 8 - s + r) % 8 = 7 - r - (8 - s) by omega]
  · rw [decide_eq_false (by omega : ¬ 7 - r ≥ 8 - s), decide_eq_false h]
    rfl
/-- one round -/
theorem LayTo.next {O L M M1 M2 : List UInt8} {a j : Nat} (h : LayTo O L a j M) (hi : a / 8 + j < O.length)
    (h1 : M1 = M.set (a / 8 + j) (orN (M.getD (a / 8 + j) 0) ((L.getD j 0).toNat / 2 ^ (a % 8))))
    (h2 : (M2 = M1 ∧ (L.getD j 0).toNat * 2 ^ (8 - a % 8) % 256 = 0) ∨ (a / 8 + j + 1 < O.length ∧ M2 = M1.set (a / 8 + j + 1) (orN (M1.getD (a / 8 + j + 1) 0) ((L.getD j 0).toNat * 2 ^ (8 - a % 8) % 256)))) :
    LayTo O L a (j + 1) M2 := by
  have hx := (L.getD j 0).toNat_lt
  have hd := Nat.div_le_self (L.getD j 0).toNat (2 ^ (a % 8))
  have hl1 : M1.length = O.length := by rw [h1, List.length_set, h.1]
  have e1 : ∀ p, bt M1 p = (bt M p || (decide (p / 8 = a / 8 + j) && (decide (a % 8 ≤ p % 8) && bt L (8 * j + p % 8 - a % 8)))) := by
    intro p
    rw [h1, bt_orN _ _ _ (by rw [h.1]; exact hi) (Nat.lt_of_le_of_lt hd hx), byte_hi _ _ _ _ (by omega) (by omega)]
  have e2 : M2.length = O.length ∧ ∀ p, bt M2 p = (bt M1 p || (decide (p / 8 = a / 8 + j + 1) && (decide (p % 8 < a % 8) && bt L (8 * j + 8 - a % 8 + p % 8)))) := by
    rcases h2 with ⟨rfl, hz⟩ | ⟨hb, h2⟩
    · refine ⟨hl1, fun p => ?_⟩
      have := byte_lo L j (a % 8) (p % 8) (by omega) (by omega)
      rw [hz, Nat.zero_testBit] at this
      rw [← this]
      simp
    · refine ⟨by rw [h2, List.length_set, hl1], fun p => ?_⟩
      rw [h2, bt_orN _ _ _ (by rw [hl1]; exact hb) (Nat.mod_lt _ (by omega)), byte_lo _ _ _ _ (by omega) (by omega)]
  refine ⟨e2.1, fun p => ?_⟩
  rw [e2.2, e1, h.2]
  rw [← Bool.and_assoc (decide (p / 8 = a / 8 + j)), ← Bool.and_assoc (decide (p / 8 = a / 8 + j + 1)), ← Bool.decide_and, ← Bool.decide_and]
  by_cases c1 : a ≤ p ∧ p < a + 8 * j
  · rw [decide_eq_true c1, decide_eq_true (by omega : a ≤ p ∧ p < a + 8 * (j + 1)), decide_eq_false (by omega : ¬ (p / 8 = a / 8 + j ∧ a % 8 ≤ p % 8)), decide_eq_false (by omega : ¬ (p / 8 = a / 8 + j + 1 ∧ p % 8 < a % 8))]
    simp
  · rw [decide_eq_false c1]
    by_cases c2 : a ≤ p ∧ p < a + 8 * (j + 1)
    · rw [decide_eq_true c2]
      by_cases c3 : p / 8 = a / 8 + j
      · rw [decide_eq_true (by omega : p / 8 = a / 8 + j ∧ a % 8 ≤ p % 8), decide_eq_false (by omega : ¬ (p / 8 = a / 8 + j + 1 ∧ p % 8 < a % 8)), show 8 * j + p % 8 - a % 8 = p - a by omega]
        simp
      · rw [decide_eq_false (by omega : ¬ (p / 8 = a / 8 + j ∧ a % 8 ≤ p % 8)), decide_eq_true (by omega : p / 8 = a / 8 + j + 1 ∧ p % 8 < a % 8), show 8 * j + 8 - a % 8 + p % 8 = p - a by omega]
        simp
    · rw [decide_eq_false c2, decide_eq_false (by omega : ¬ (p / 8 = a / 8 + j ∧ a % 8 ≤ p % 8)), decide_eq_false (by omega : ¬ (p / 8 = a / 8 + j + 1 ∧ p % 8 < a % 8))]
      simp
/-- a bit that is laid has a place -/
theorem lay_room {L : List UInt8} {l : List Bool} (hR : Rep L l) {a j n : Nat} (_hj : j < L.length) (ha : a + l.length ≤ 8 * n) (hne : (L.getD j 0).toNat * 2 ^ (8 - a % 8) % 256 ≠ 0) : a / 8 + j + 1 < n := by
  by_cases hlt : a / 8 + j + 1 < n
  · exact hlt
  · exfalso
    have hbig : l.length ≤ 8 * j + (8 - a % 8) := by omega
    apply hne
    apply Nat.eq_of_testBit_eq
    intro k
    rw [Nat.zero_testBit]
    by_cases hk : k < 8
    · have := byte_lo L j (a % 8) (7 - k) (by omega) (by omega)
      rw [show 7 - (7 - k) = k by omega] at this
      rw [this, hR.2, List.getD_eq_getElem?_getD, List.getElem?_eq_none (by omega)]
      simp
    · have h256 : (L.getD j 0).toNat * 2 ^ (8 - a % 8) % 256 < 256 := Nat.mod_lt _ (by decide)
      exact Nat.testBit_lt_two_pow (Nat.lt_of_lt_of_le h256 (show 2 ^ 8 ≤ 2 ^ k from Nat.pow_le_pow_right (by decide) (by omega)))

set_option maxRecDepth 100000 in
set_option maxHeartbeats 2000000 in
theorem lay_any (O L : List UInt8) (l : List Bool) (hR : Rep L l) (hl : l.length ≤ 131072) (g c a : Nat) (k : Int) (n : Nat) (hn : n = O.length) (hn2 : n ≤ 16384) (ha : a + l.length ≤ 8 * n) (A : Option Addr) (cb : Nat) (w : World) (hO : Row w g 5 (bl O).toArray) (hS : Sl w g A L.length (bl L)) :
    Calls Try.prog 53 #[.agg (bcs (some ⟨g, 0, none⟩) n c k), .int .i64 a, .agg (bcs A L.length cb l.length)] w fun e w' => e = .returned (.tuple #[]) ∧ (∃ M, LayTo O L a L.length M ∧ Row w' g 5 (bl M).toArray) ∧ w.grownBy w' (some g) := by
  have hln := hR.len
  have hl1 : L.length ≤ 16384 := by omega
  have hjn : ∀ j, j < L.length → a / 8 + j < n := by intro j hj; omega
  have HJ := Lib.hid hjn
  have HN := Lib.hid hn
  have HR := Lib.hid hR
  have ha1 : a ≤ 131072 := by omega
  have HA := Lib.hid ha
  clear hln hjn hn hR ha
  go_enter Try.func53, Try.ntmps53
  go_upto_region 1 with (fail)
  refine wp_world (F := fun W => Row W w.heap.size 43 (bcs (some ⟨g, 0, none⟩) n c k) ∧ Row W (w.heap.size + 1) 43 (bcs A L.length cb l.length) ∧ Row W g 5 (bl O).toArray ∧ Sl W g A L.length (bl L) ∧ g < w.heap.size ∧ w.grownBy W (some g)) ⟨(Row.new _ _ _).alloc _, Row.newAt _ _ _ _ (by simp), (hO.alloc _).alloc _, hS.below (((Below.refl _ _).alloc (Nat.le_of_lt hO.lt) _).alloc (by have := hO.lt; simp; omega) _), hO.lt, gr_alloc (gr_alloc (gr_refl _ _) _) _⟩ ?_
  clear hO hS
  rintro W0 ⟨r0, r1, rg, hS, hg, hgr⟩
  have c1 : W0.cell? ⟨w.heap.size + 1, 0, none⟩ = some (.slice A L.length cb) := (r1.cell 0).trans rfl
  go_wp2
  go_loopw [15] (fun i wr => ∃ j : Nat, ∃ M, j ≤ L.length ∧ i = .int .i64 j ∧ LayTo O L a j M ∧ Row wr w.heap.size 43 (bcs (some ⟨g, 0, none⟩) n c k) ∧ Row wr g 5 (bl M).toArray ∧ Sl wr g A L.length (bl L) ∧ w.grownBy wr (some g)) (fun i _ => L.length - (intOf i).toNat)
  case atStart => exact ⟨0, O, Nat.zero_le _, rfl, LayTo.zero _ _ _, r0, rg, hS, hgr⟩
  case round =>
    clear r0 r1 rg hS hgr c1
    obtain ⟨j, M, hj, rfl, hM, r0, rg, hS, hgr⟩ := hrel
    have c0 : wr.cell? ⟨w.heap.size, 0, none⟩ = some (.slice (some ⟨g, 0, none⟩) n c) := (r0.cell 0).trans rfl
    by_cases hlt : j < L.length
    · obtain ⟨ad, rfl, hbl, hcell⟩ := hS.byte hlt
      have hidx := HJ.out j hlt
      obtain ⟨x, hx⟩ : ∃ x, x = L.getD j 0 := ⟨_, rfl⟩
      rw [← hx] at hcell
      obtain ⟨y, hy⟩ : ∃ y, y = M.getD (a / 8 + j) 0 := ⟨_, rfl⟩
      have hMl : M.length = O.length := hM.1
      have hc1 : wr.cell? ⟨g, a / 8 + j, none⟩ = some (.int .u8 (y.toNat : Int)) := (rg.cell _).trans (by rw [hy]; simpa using bl_get M _ (by rw [hMl, ← HN.out]; exact hidx))
      have hf1 := rg.free (a / 8 + j)
      have HX := Lib.hid hx
      have HY := Lib.hid hy
      have HML := Lib.hid hMl
      have HM := Lib.hid hM
      clear hx hy hMl hM
      go_wp2
      go_region
      rw [or_div]
      go_upto_region 6 with (fail)
      obtain ⟨M1, hM1⟩ : ∃ M1, M1 = M.set (a / 8 + j) (orN y (x.toNat / 2 ^ (a % 8))) := ⟨_, rfl⟩
      have hrow := rg.put (a / 8 + j) (.int .u8 ((orN y (x.toNat / 2 ^ (a % 8))).toNat : Int))
      have hbl1 : (bl M).toArray.setIfInBounds (a / 8 + j) (.int .u8 ((orN y (x.toNat / 2 ^ (a % 8))).toNat : Int)) = (bl M1).toArray := by
        rw [hM1, List.setIfInBounds_toArray]
        unfold bl
        rw [← List.map_set]
      rw [hbl1] at hrow
      have HM1 := Lib.hid (show M1 = M.set (a / 8 + j) (orN (M.getD (a / 8 + j) 0) ((L.getD j 0).toNat / 2 ^ (a % 8))) by rw [← HX.out, ← HY.out]; exact hM1)
      have HL1 := Lib.hid (show M1.length = O.length by rw [hM1, List.length_set]; exact HML.out)
      have k0 := hgr
      refine wp_world (F := fun W => Row W w.heap.size 43 (bcs (some ⟨g, 0, none⟩) n c k) ∧ Row W g 5 (bl M1).toArray ∧ Sl W g (some ad) L.length (bl L) ∧ w.grownBy W (some g)) ⟨(r0.far (by simp; omega) _).drew, hrow.drew, hS.keepCell (Nat.le_refl _) _, gr_drew (gr_cell hgr _ _)⟩ ?_
      clear hrow hbl1 hM1 k0 r0 rg hS hgr hcell hc1 hf1 c0
      rintro W5 ⟨r0, rg, hS, hgr⟩
      have c0 : W5.cell? ⟨w.heap.size, 0, none⟩ = some (.slice (some ⟨g, 0, none⟩) n c) := (r0.cell 0).trans rfl
      by_cases hz : x.toNat * 2 ^ (8 - a % 8) % 256 = 0
      · have k1 : ((x.toNat : Int) * 2 ^ (8 - a % 8) % 256 == 0) = true := by rw [mul_mod, hz]; rfl
        have k2 : ((x.toNat : Int) * 2 ^ (8 - a % 8) % 256 != 0) = false := by rw [mul_mod, hz]; rfl
        have HZ := Lib.hid (show (L.getD j 0).toNat * 2 ^ (8 - a % 8) % 256 = 0 by rw [← HX.out]; exact hz)
        clear hz
        go_wp2
        go_roundw
        case rel => exact ⟨j + 1, M1, by omega, by go_num, HM.out.next (by rw [← HN.out]; exact hidx) HM1.out (.inl ⟨rfl, HZ.out⟩), r0, rg, hS, hgr⟩
        case measure => simp [intOf]; omega
      · have hzi : (x.toNat : Int) * 2 ^ (8 - a % 8) % 256 ≠ 0 := by rw [mul_mod]; exact fun h => hz (Int.ofNat.inj h)
        have k1 : ((x.toNat : Int) * 2 ^ (8 - a % 8) % 256 == 0) = false := beq_eq_false_iff_ne.2 hzi
        have k2 : ((x.toNat : Int) * 2 ^ (8 - a % 8) % 256 != 0) = true := bne_iff_ne.2 hzi
        have hro := lay_room HR.out hlt HA.out (by rw [← HX.out]; exact hz)
        obtain ⟨y2, hy2⟩ : ∃ y, y = M1.getD (a / 8 + j + 1) 0 := ⟨_, rfl⟩
        have hc2 : W5.cell? ⟨g, a / 8 + j + 1, none⟩ = some (.int .u8 (y2.toNat : Int)) := (rg.cell _).trans (by rw [hy2]; simpa using bl_get M1 _ (by rw [HL1.out, ← HN.out]; exact hro))
        have hf2 := rg.free (a / 8 + j + 1)
        have HY2 := Lib.hid hy2
        clear hz hzi hy2
        go_wp2
        rw [or_mul]
        go_roundw
        case rel =>
          refine ⟨j + 1, M1.set (a / 8 + j + 1) (orN y2 (x.toNat * 2 ^ (8 - a % 8) % 256)), by omega, by go_num, ?_, r0.far (by simp; omega) _, ?_, hS.keepCell (Nat.le_refl _) _, gr_cell hgr _ _⟩
          · refine HM.out.next (by rw [← HN.out]; exact hidx) HM1.out (.inr ⟨by rw [← HN.out]; exact hro, ?_⟩)
            rw [← HX.out, ← HY2.out]
          · have := rg.put (a / 8 + j + 1) (.int .u8 ((orN y2 (x.toNat * 2 ^ (8 - a % 8) % 256)).toNat : Int))
            rw [List.setIfInBounds_toArray] at this
            unfold bl at this ⊢
            rw [← List.map_set] at this
            exact this
        case measure => simp [intOf]; omega
    · obtain rfl : j = L.length := by omega
      go_wp2
      go_end0
      exact ⟨rfl, ⟨M, hM, rg⟩, hgr⟩
end Go.Proofs.Ytahihgmlkcbfiaa
