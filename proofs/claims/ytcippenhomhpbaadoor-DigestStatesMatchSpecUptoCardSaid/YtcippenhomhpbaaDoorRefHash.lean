/-
  The contracts of the reference's Hashed and Digest.
-/
import Derived.Test.YtcippenhomhpbaaDoorRefTail
namespace Go.Proofs.YtcippenhomhpbaaDoor
open Go.RowKit

theorem pad_whole (n l : Nat) (h : l % 64 = n % 64) : ∃ m, l + (padBytes n).length = 64 * m := by
  refine ⟨(l + (padBytes n).length) / 64, ?_⟩
  rw [padBytes_eq, endPart_length]
  have := zeros_done n l h
  omega
theorem padBytes_le (n : Nat) : (padBytes n).length ≤ 72 := by
  rw [padBytes_eq, endPart_length]
  have := zeroCount_le n
  omega

/-- a slice with a block of its own, behind a store into a lower block -/
theorem Sl.keepRow {w : World} {A : Option Addr} {n c g base : Nat} {xs : List Value} (h : Sl w w.heap.size A n xs) (hA : ∀ b, (Value.slice A n c).ownBlock = some b → base ≤ b) (hg : g < base) (cs : Array Value) : Sl (w.setRow g cs) (w.setRow g cs).heap.size A n xs := by
  refine ⟨h.1, fun hn => ?_⟩
  obtain ⟨ad, rfl, hb, hc⟩ := h.2 hn
  refine ⟨ad, rfl, by simpa using hb, fun j u hu => ?_⟩
  have h1 := hA ad.block rfl
  have h2 := hc j u hu
  rw [← h2]
  unfold World.cell?
  rw [show (w.setRow g cs).heap[(ad.add j).block]? = w.heap[(ad.add j).block]? from setRow_other w g _ cs (by rw [add_block]; omega)]
set_option maxRecDepth 100000 in
set_option maxHeartbeats 4000000 in
/-- scriptoriumref3.Hashed -/
theorem refHashed_any (s : St) (A : Option Addr) (L : List UInt8) (l c : Nat) (n : Nat) (w : World) (hL : Sl w w.heap.size A l (bl L)) (hl : l ≤ 70368744177664) (hn : n ≤ 1125899906842624) (hm : l % 64 = n % 64) :
    Calls Tryd.prog 20 #[.agg (stc s), .slice A l c, .int .i64 n] w fun e w' => e = .returned (.agg (bs (hashed s L n))) ∧ Below w.heap.size w w' := by
  have hLl : L.length = l := by rw [← bl_length]; exact hL.1
  obtain ⟨m, hm2⟩ := pad_whole n l hm
  have hpl := padBytes_le n
  obtain ⟨all, hall⟩ : ∃ all, all = L ++ padBytes n := ⟨_, rfl⟩
  obtain ⟨t, ht⟩ : ∃ t, t = all.length := ⟨_, rfl⟩
  have hlen : t = 64 * m := by rw [ht, hall, List.length_append, hLl, hm2]
  have HE : Hid (outBytes (chew s all m) = hashed s L n) := by
    apply Lib.hid
    rw [hashed_eq, ← hall, ← ht, hlen, Nat.mul_div_cancel_left _ (by omega)]
  have hmb : t ≤ l + 72 := by omega
  have HA := Lib.hid hall
  have HT := Lib.hid ht
  have HN := Lib.hid hlen
  have HM := Lib.hid hm
  clear hall hlen hm hm2 hLl ht
  go_enter Tryd.func20, Tryd.ntmps20
  go_wp2_with (go_at_call 33; refine (refTail_any A L l c n _ (hL.up (((Below.refl _ _).alloc (Nat.le_refl _) _).alloc (by simp) _)) hl hn HM.out).mono ?_; rintro e w1 ⟨v1, rfl, ho1, hb1⟩)
  rw [← HA.out, ← HT.out] at ho1
  obtain ⟨A1, c1, rfl, hc1, hcm1⟩ := own_form ho1
  have r1 : Row w1 w.heap.size 28 (stc s) := Row.below ((Row.new _ _ _).alloc _) hb1 (by simp; omega)
  have d1 : Row w1 (w.heap.size + 1) 24 (bs (List.replicate 32 0)) := Row.below (Row.newEq _ _ _ _ _ (by simp) (by kernel_rfl)) hb1 (by simp)
  have hbb : Below w.heap.size w w1 := blw_call (((Below.refl _ _).alloc (Nat.le_refl _) _).alloc (by simp) _) (by simp; omega) hb1
  have ho : Sl w1 w1.heap.size A1 t (bl all) := Sl.of_own ho1
  have hlt1 : ∀ b, (Value.slice A1 t c1).ownBlock = some b → w.heap.size + 1 + 1 ≤ b := fun b hb => by simpa using (ho1.lt b hb).1
  clear ho1 hb1 hL
  go_loopw [8] (fun i wr => ∃ q k : Nat, k ≤ m ∧ Hid (q = 64 * k) ∧ i = .int .i64 q ∧ Row wr w.heap.size 28 (stc (chew s all k)) ∧ Row wr (w.heap.size + 1) 24 (bs (List.replicate 32 0)) ∧ Sl wr wr.heap.size A1 t (bl all) ∧ Below w.heap.size w wr) (fun i _ => t - (intOf i).toNat)
  case atStart => exact ⟨0, 0, by omega, Lib.hid rfl, rfl, by rw [chew_zero]; exact r1, d1, ho, hbb⟩
  case round =>
    clear r1 d1 ho hbb
    obtain ⟨q, k, hk, HQ, rfl, r1, d1, ho, hb⟩ := hrel
    by_cases hlt : k < m
    · have HC := Lib.hid (chew_next s all k)
      have hq : q + 64 ≤ t := by have := HQ.out; have := HN.out; omega
      go_wp2_with (first
        | (refine wpList_load_row rfl 28 _ rfl w.heap.size rfl 28 (stc (chew s all k)) (0, 0) _ r1 Tryd.underlying28 rfl (by rw [stc_size]; exact cells8) ?_)
        | (go_at_call 21; refine (refMixed_any (chew s all k) A1 all t c1 q _ ho hq (by omega)).mono ?_; rintro e w2 ⟨rfl, hb2⟩; have r2 := r1.below hb2 r1.lt)
        | (refine wpList_store_row rfl 28 _ _ rfl w.heap.size (stc (mixed (chew s all k) ((all.drop q).take 64))) rfl rfl 28 (stc (chew s all k)) r2 (by rw [stc_size]; exact cells8) (by rw [stc_size, stc_size]) (all_one (stc_one _)) ?_))
      go_roundw
      case rel =>
        refine ⟨q + 64, k + 1, by omega, Lib.hid (by have := HQ.out; omega), by go_num, ?_, (d1.below hb2 d1.lt).rowFar (by omega) _, ?_, blw_row (blw_call hb hb.size hb2) (Nat.le_refl _) _⟩
        · rw [HC.out, ← HQ.out]
          exact r2.row _
        · exact ((ho.below hb2).wider hb2.size).keepRow hlt1 (by omega) _
      case measure => simp [intOf]; omega
    · obtain rfl : k = m := by omega
      have hq : t ≤ q := by have := HQ.out; have := HN.out; omega
      obtain ⟨x, hx⟩ : ∃ x, x = chew s all k := ⟨_, rfl⟩
      rw [← hx] at r1
      have HX := Lib.hid hx
      clear hx
      go_wp2
      have hgs := hb.size
      have hl1 := d1.lt
      refine wp_world (F := fun W => Row W w.heap.size 28 (stc x) ∧ Row W (w.heap.size + 1) 24 (bs (List.replicate 32 0)) ∧ Row W wr.heap.size 24 (bs (outPart x 0)) ∧ Below w.heap.size w W) ⟨r1.alloc _, d1.alloc _, by rw [outPart_zero]; exact Row.newEq _ _ _ _ _ rfl (by kernel_rfl), hb.alloc hb.size _⟩ ?_
      clear r1 d1 ho hb
      generalize wr.heap.size = gd at *
      clear wr
      rintro W0 ⟨r1, d1, o1, hb⟩
      go_loopw [10] (fun i wr => ∃ k : Nat, k ≤ 32 ∧ i = .int .i64 k ∧ Row wr w.heap.size 28 (stc x) ∧ Row wr (w.heap.size + 1) 24 (bs (List.replicate 32 0)) ∧ Row wr gd 24 (bs (outPart x k)) ∧ Below w.heap.size w wr) (fun i _ => 32 - (intOf i).toNat)
      case atStart => exact ⟨0, by omega, rfl, r1, d1, o1, hb⟩
      case round =>
        clear r1 d1 o1 hb
        obtain ⟨k, hk, rfl, h1, h2, h3, hb⟩ := hrel
        by_cases hlt : k < 32
        · have c1 := (h1.cell (k / 4)).trans (stc_get x (k / 4) (by omega))
          have c3 := (h3.cell k).trans (bs_get _ _ (by rw [outPart_length]; exact hlt))
          have f3 := h3.free k
          have hm : k % 4 ≤ 3 := by omega
          go_wp2
          go_roundw
          case rel =>
            rw [outByte_num]
            refine ⟨k + 1, by omega, by go_num, ?_, ?_, ?_, ?_⟩
            · exact h1.far (by simp; omega) _
            · exact h2.far (by simp; omega) _
            · rw [← outPart_next x k, ← bs_set]
              exact h3.put _ _
            · exact hb.setCell (by simp; omega) _
          case measure => simp [intOf]; omega
        · obtain rfl : k = 32 := by omega
          have HZ := Lib.hid (outPart_length x 32)
          go_wp2_with (first
            | (refine wpList_load_row rfl 24 _ rfl gd rfl 24 (bs (outPart x 32)) (0, 0) _ h3 Tryd.underlying24 rfl (by rw [bs_size, HZ.out]; exact cellsD) ?_)
            | (refine wpList_store_row rfl 24 _ _ rfl (w.heap.size + 1) (bs (outPart x 32)) rfl rfl 24 (bs (List.replicate 32 0)) h2 (by rw [bs_size, HZ.out]; exact cellsD) (by rw [bs_size, bs_size, HZ.out]; rfl) (all_one (bs_one _)) ?_))
          refine bodyPost_ret (results_row Tryd.results20 _ _ (w.heap.size + 1) 24 (bs (outPart x 32)) _ rfl (Row.row h2 _) Tryd.underlying24 rfl (by rw [bs_size, HZ.out]; exact cellsD)) rfl ⟨?_, ?_⟩
          · rw [outPart_all, HX.out, HE.out]
          · exact blw_row hb (by omega) _

/-- what Sum gives is what the reference gives -/
theorem hashed_sum (L : List UInt8) : hashed first L L.length = sumOf L := by
  rw [sumOf_eq, hashed_eq, hashed_eq]
  congr 1
  have h1 : 64 * (L.length / 64) ≤ L.length := by omega
  have h2 := chew_chew first L (padBytes L.length) (L.length / 64) h1 ((L.drop (64 * (L.length / 64)) ++ padBytes L.length).length / 64)
  rw [h2]
  congr 1
  simp only [List.length_append, List.length_drop]
  omega

set_option maxRecDepth 100000 in
set_option maxHeartbeats 4000000 in
/-- scriptoriumref3.Digest -/
theorem refDigest_any (A : Option Addr) (L : List UInt8) (c : Nat) (w : World) (hL : Sl w w.heap.size A L.length (bl L)) (hl : L.length ≤ 70368744177664) :
    Calls Tryd.prog 12 #[.slice A L.length c] w fun e w' => e = .returned (.agg (bs (sumOf L))) ∧ Below w.heap.size w w' := by
  have HS := Lib.hid (hashed_sum L)
  have HL := Lib.hid (sumOf_length L)
  go_enter Tryd.func12, Tryd.ntmps12
  go_wp2_with (first
    | (go_at_call 17; refine (firstState_any _).mono ?_; rintro e w1 ⟨rfl, hb1'⟩; have r1 := Row.below (Row.newEq w 24 _ zD w.heap.size rfl zD_lit) hb1' (by simp); have hb1 := blw_call ((Below.refl _ w).alloc (Nat.le_refl _) _) (by simp) hb1')
    | (go_at_call 20; refine (refHashed_any first A L L.length c L.length _ (hL.up hb1) hl (by omega) rfl).mono ?_; rw [HS.out]; rintro e w2 ⟨rfl, hb2'⟩; have r2 := r1.below hb2' r1.lt; have hb2 := blw_call hb1 hb1.size hb2')
    | (refine wpList_store_row rfl 24 _ _ rfl w.heap.size (bs (sumOf L)) rfl rfl 24 zD r2 (by rw [bs_size, HL.out]; exact cellsD) (by rw [zD_size, bs_size, HL.out]) (all_one (bs_one _)) ?_))
  refine bodyPost_ret (results_row Tryd.results12 _ _ w.heap.size 24 (bs (sumOf L)) _ rfl (Row.row r2 _) Tryd.underlying24 rfl (by rw [bs_size, HL.out]; exact cellsD)) rfl ⟨rfl, ?_⟩
  exact blw_row hb2 (Nat.le_refl _) _
end Go.Proofs.YtcippenhomhpbaaDoor
