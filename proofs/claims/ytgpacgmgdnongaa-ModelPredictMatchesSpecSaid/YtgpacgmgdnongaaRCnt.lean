/-
  The contract of the reference's Counts.
-/
import Derived.Test.YtgpacgmgdnongaaRCtx
import Derived.Test.YtgpacgmgdnongaaArrEq
namespace Go.Proofs.Ytgpacgmgdnongaa
open Go.RowKit

theorem kcs_ints (k : Ctx) : kcs k = (([(k.o : Int), (k.a : Int), (k.b : Int), (k.g : Int)]).map (Value.int .i64)).toArray := rfl
theorem ints_ctx (k k' : Ctx) : decide ([(k.o : Int), (k.a : Int), (k.b : Int), (k.g : Int)] = [(k'.o : Int), (k'.a : Int), (k'.b : Int), (k'.g : Int)]) = decide (k = k') := by
  obtain ⟨o, a, b, g⟩ := k
  obtain ⟨o', a', b', g'⟩ := k'
  refine decide_eq_decide.2 ?_
  simp only [List.cons.injEq, and_true, Ctx.mk.injEq]
  omega
theorem eqin_ctx (k k' : Ctx) (w : World) : (Op.equalIn 10000 51 (.agg (kcs k)) (.agg (kcs k'))).run Try.prog w = .ok (decide (k = k')) w := by
  have h := run_equalIn_ints (P := Try.prog) w 9998 51 3 .i64 4 Try.underlying51 Try.underlying3 infoI1 [(k.o : Int), (k.a : Int), (k.b : Int), (k.g : Int)] [(k'.o : Int), (k'.a : Int), (k'.b : Int), (k'.g : Int)] rfl rfl
  rw [← kcs_ints, ← kcs_ints, ints_ctx] at h
  exact h
theorem neq_ctx (k k' : Ctx) (w : World) : (binOp .neq 51 (.agg (kcs k)) (.agg (kcs k'))).run Try.prog w = .ok (.bool (!decide (k = k'))) w := by
  have h := run_equalIn_ints (P := Try.prog) w 9998 51 3 .i64 4 Try.underlying51 Try.underlying3 infoI1 [(k.o : Int), (k.a : Int), (k.b : Int), (k.g : Int)] [(k'.o : Int), (k'.a : Int), (k'.b : Int), (k'.g : Int)] rfl rfl
  rw [← kcs_ints, ← kcs_ints, ints_ctx] at h
  simp only [binOp]
  simp [Op.equal, Op.maxDepth, h]

set_option maxRecDepth 100000 in
set_option maxHeartbeats 8000000 in
theorem rcounts_any (l : List Bool) (i o : Nat) (hi : i ≤ l.length) (hl : l.length ≤ 8192) (ho : o ≤ 2) (A : Option Addr) (c : Nat) (hc : l.length ≤ c) (hcm : c ≤ maxLen) (w : World) (hS : Sl w w.heap.size A l.length (il l)) :
    Calls Try.prog 21 #[.slice A l.length c, .int .i64 i, .int .i64 o] w fun e w' => e = .returned (.tuple #[.int .i64 ((cntTo l (ctxOf (l.take i) o) i).1 : Nat), .int .i64 ((cntTo l (ctxOf (l.take i) o) i).2 : Nat)]) ∧ Below w.heap.size w w' := by
  have hcx := rcontext_any l i o hi hl ho A c hc hcm w hS
  obtain ⟨K, hK⟩ : ∃ K, K = ctxOf (l.take i) o := ⟨_, rfl⟩
  have hKo : K.o = o := by rw [hK, ctxOf_o]
  rw [← hK] at hcx ⊢
  have HKO := Lib.hid hKo
  clear hKo
  have HCX := Lib.hid hcx
  clear hcx hK
  go_enter Try.func21, Try.ntmps21
  go_upto_region 4 with (first
    | (go_at_call 26; refine HCX.out.mono ?_; rintro e w15 ⟨rfl, hb15⟩)
    | (refine wpList_store_row rfl 51 _ _ rfl w15.heap.size (kcs K) rfl rfl 51 (kcs ⟨0, 0, 0, 0⟩) (Row.newEq _ _ _ _ _ rfl rfl) (by rw [kcs_size]; exact cells4) rfl (all_one (kcs_one _)) ?_))
  refine wp_world (F := fun W => Row W w15.heap.size 51 (kcs K) ∧ Below w.heap.size w W) ⟨row_new1 _ _ _ _, up_call hb15 (blw_new1 _ _ _)⟩ ?_
  have hg0 := hb15.size
  generalize w15.heap.size = g8 at *
  clear HCX hb15 w15
  rintro W0 ⟨r8, hb⟩
  go_loopw [9, 10, 11] (fun z n k wr => ∃ j : Nat, j ≤ i ∧ k = .int .i64 j ∧ z = .int .i64 ((cntTo l K j).1 : Nat) ∧ n = .int .i64 ((cntTo l K j).2 : Nat) ∧ Row wr g8 51 (kcs K) ∧ Below w.heap.size w wr) (fun _ _ k _ => i - (intOf k).toNat)
  case atStart => exact ⟨0, Nat.zero_le _, rfl, rfl, rfl, r8, hb⟩
  case round =>
    clear r8 hb
    obtain ⟨j, hj, rfl, rfl, rfl, r8, hb⟩ := hrel
    by_cases hlt : j < i
    · obtain ⟨ad, rfl, hbk, hcell0⟩ := (hS.up hb).bit (show j < l.length by omega)
      have HCE := Lib.hid hcell0
      have HBK := Lib.hid hbk
      clear hcell0 hbk
      have hcx := fun W (hW : Below w.heap.size w W) => rcontext_any l j o (by omega) hl ho (some ad) c hc hcm W (hS.up hW)
      have hcl := cntTo_le l K j
      have hsc : cntTo l K (j + 1) = if ctxOf (l.take j) o = K then incB (l.getD j false) (cntTo l K j) else cntTo l K j := by rw [← HKO.out]; rfl
      obtain ⟨K', hK'⟩ : ∃ K', K' = ctxOf (l.take j) o := ⟨_, rfl⟩
      obtain ⟨z, n, hzn⟩ : ∃ z n, cntTo l K j = (z, n) := ⟨_, _, rfl⟩
      rw [← hK'] at hcx hsc
      rw [hzn] at hcl hsc ⊢
      have hnq := eqin_ctx K' K
      have HC := Lib.hid hcx
      have HSC := Lib.hid hsc
      have HB := Lib.hid (And.intro r8 hb)
      clear hcx hsc hK' hzn
      simp only at hcl ⊢
      go_upto_region 6 with fail
      by_cases hkk : K' = K
      · simp only [decide_eq_true hkk] at hnq
        have hnq2 : ∀ w, (Op.equalIn 10000 51 (.agg (kcs K')) (.agg #[.int .i64 K.o, .int .i64 K.a, .int .i64 K.b, .int .i64 K.g])).run Try.prog w = .ok true w := hnq
        have HKK := Lib.hid hkk
        clear hkk hnq
        go_region_held3 (fun W => W.cell? ⟨g8, 0, none⟩ = some (.int .i64 K.o) ∧ W.cell? ⟨g8, 1, none⟩ = some (.int .i64 K.a) ∧ W.cell? ⟨g8, 2, none⟩ = some (.int .i64 K.b) ∧ W.cell? ⟨g8, 3, none⟩ = some (.int .i64 K.g))
          (first
            | exact ⟨(HB.out.1.drew.cell 0).trans rfl, (HB.out.1.drew.cell 1).trans rfl, (HB.out.1.drew.cell 2).trans rfl, (HB.out.1.drew.cell 3).trans rfl⟩
            | exact ⟨(q8.cell 0).trans rfl, (q8.cell 1).trans rfl, (q8.cell 2).trans rfl, (q8.cell 3).trans rfl⟩)
          (first
            | (go_at_call 26; refine (HC.out _ HB.out.2.drew).mono ?_; rintro e w24 ⟨rfl, hb24⟩; have q8 := HB.out.1.drew.below hb24 HB.out.1.lt; have hbw := up_call HB.out.2.drew hb24))
        have hbv0 : l.getD j false = false ∨ l.getD j false = true := by cases l.getD j false <;> simp
        have HB24 := Lib.hid hb24
        rcases hbv0 with hbv | hbv
        · have hinc : cntTo l K (j + 1) = if z + 1 + n = 255 then ((z + 1 + 1) / 2, (n + 1) / 2) else (z + 1, n) := by
            rw [HSC.out, if_pos HKK.out, hbv]
            rfl
          have c7 : w24.cell? (ad.add j) = some (.int .i64 0) := by
            rw [hb24.cell (by rw [add_block]; exact HBK.out), show wr.drew.cell? (ad.add j) = wr.cell? (ad.add j) from rfl, HCE.out, hbv]
            rfl
          by_cases hh : z + 1 + n = 255
          · have q1 : ((z : Int) + 1 + (n : Int) == 255) = true := beq_iff_eq.2 (by omega)
            go_wp2
            go_roundw
            case rel => exact ⟨j + 1, by omega, by go_num, by rw [hinc]; simp [hh]; omega, by rw [hinc]; simp [hh]; omega, q8, hbw⟩
            case measure => simp [intOf]; omega
          · have q1 : ((z : Int) + 1 + (n : Int) == 255) = false := beq_eq_false_iff_ne.2 (by omega)
            go_wp2
            go_roundw
            case rel => exact ⟨j + 1, by omega, by go_num, by rw [hinc]; simp [hh], by rw [hinc]; simp [hh], q8, hbw⟩
            case measure => simp [intOf]; omega
        · have hinc : cntTo l K (j + 1) = if z + (n + 1) = 255 then ((z + 1) / 2, (n + 1 + 1) / 2) else (z, n + 1) := by
            rw [HSC.out, if_pos HKK.out, hbv]
            rfl
          have c7 : w24.cell? (ad.add j) = some (.int .i64 1) := by
            rw [hb24.cell (by rw [add_block]; exact HBK.out), show wr.drew.cell? (ad.add j) = wr.cell? (ad.add j) from rfl, HCE.out, hbv]
            rfl
          by_cases hh : z + (n + 1) = 255
          · have q1 : ((z : Int) + ((n : Int) + 1) == 255) = true := beq_iff_eq.2 (by omega)
            go_wp2
            go_roundw
            case rel => exact ⟨j + 1, by omega, by go_num, by rw [hinc]; simp [hh]; omega, by rw [hinc]; simp [hh]; omega, q8, hbw⟩
            case measure => simp [intOf]; omega
          · have q1 : ((z : Int) + ((n : Int) + 1) == 255) = false := beq_eq_false_iff_ne.2 (by omega)
            go_wp2
            go_roundw
            case rel => exact ⟨j + 1, by omega, by go_num, by rw [hinc]; simp [hh], by rw [hinc]; simp [hh], q8, hbw⟩
            case measure => simp [intOf]; omega
      · simp only [decide_eq_false hkk] at hnq
        have hnq2 : ∀ w, (Op.equalIn 10000 51 (.agg (kcs K')) (.agg #[.int .i64 K.o, .int .i64 K.a, .int .i64 K.b, .int .i64 K.g])).run Try.prog w = .ok false w := hnq
        have HKK := Lib.hid hkk
        clear hkk hnq
        go_region_held3 (fun W => W.cell? ⟨g8, 0, none⟩ = some (.int .i64 K.o) ∧ W.cell? ⟨g8, 1, none⟩ = some (.int .i64 K.a) ∧ W.cell? ⟨g8, 2, none⟩ = some (.int .i64 K.b) ∧ W.cell? ⟨g8, 3, none⟩ = some (.int .i64 K.g))
          (first
            | exact ⟨(HB.out.1.drew.cell 0).trans rfl, (HB.out.1.drew.cell 1).trans rfl, (HB.out.1.drew.cell 2).trans rfl, (HB.out.1.drew.cell 3).trans rfl⟩
            | exact ⟨(q8.cell 0).trans rfl, (q8.cell 1).trans rfl, (q8.cell 2).trans rfl, (q8.cell 3).trans rfl⟩)
          (first
            | (go_at_call 26; refine (HC.out _ HB.out.2.drew).mono ?_; rintro e w24 ⟨rfl, hb24⟩; have q8 := HB.out.1.drew.below hb24 HB.out.1.lt; have hbw := up_call HB.out.2.drew hb24))
        go_wp2
        go_roundw
        case rel => exact ⟨j + 1, by omega, by go_num, by rw [HSC.out, if_neg HKK.out], by rw [HSC.out, if_neg HKK.out], q8, hbw⟩
        case measure => simp [intOf]; omega
    · obtain rfl : j = i := by omega
      go_wp2
      go_ret2
      exact ⟨rfl, hb⟩
end Go.Proofs.Ytgpacgmgdnongaa
