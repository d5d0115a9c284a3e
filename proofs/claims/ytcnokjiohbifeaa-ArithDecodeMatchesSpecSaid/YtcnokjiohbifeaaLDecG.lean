/-
  Decode, whatever the length of the code; what the statement compares with.
-/
import Derived.Test.YtcnokjiohbifeaaAArgs
import Derived.Test.YtcnokjiohbifeaaRBits3
import Derived.Test.YtcnokjiohbifeaaRDec
import Derived.Deep.RegionHeld3
namespace Go.Proofs.Ytcnokjiohbifeaa.lawDec
open Go.RowKit
attribute [local go_sem ↓] wp_load_flat run_load_flat
attribute [local go_sem] blkOf_ptr cells_agg sizedF sizeTF aggF

theorem decode_all (l : List Bool) (ps : List Nat) (hl : l.length ≤ 131072) (hps : ∀ p ∈ ps, 1 ≤ p ∧ p ≤ 4095) (m : Nat) (hm : m = ps.length) (hz : m ≤ 8192) (C : Nat → Bool) (hC : C = fun j => l.getD j false) (T : List Bool) (M : Nat) (hT : takeN C 0 65535 (numF C 16) 16 ps = T) (hM : manyN C 0 65535 (numF C 16) 16 ps = M) (A B : Option Addr) (cp dp : Nat) (w : World) (hS : Sl w w.heap.size A (pack l).length (bl (pack l))) (hP : Sl w w.heap.size B m (nl ps)) :
    Calls Try.prog 32 #[.agg (bcs A (pack l).length cp l.length), .slice B m dp] w (DecOut w M l.length T m) := by
  by_cases h2 : 2 ≤ l.length
  · exact Decode_run l ps hl hps m hm hz h2 C hC T M hT hM A B cp dp w hS hP
  · exact (Decode_short l ps hl hps m hm hz (by omega) A B cp dp w hS hP).mono fun e w' ⟨he, hb⟩ => ⟨fun _ => he, fun h => absurd h (by omega), fun h => absurd h (by omega), hb⟩
theorem take_length (C : Nat → Bool) : ∀ (ps : List Nat) (L H v i : Nat), (takeN C L H v i ps).length = ps.length
  | [], _, _, _, _ => rfl
  | p :: ps, L, H, v, i => by rw [takeN, List.length_cons, List.length_cons, take_length C ps]

theorem eqin_flt2 (a b c d : Int) (w : World) : (Op.equalIn 10000 28 (.agg (flt a b)) (.agg (flt c d))).run Try.prog w = .ok (a == c && b == d) w := by
  have h := eql_flt a b c d w
  simp only [binOp] at h
  simp only [Op.equal, Op.maxDepth, Sem.run_bind] at h
  cases hq : (Op.equalIn 10000 28 (.agg (flt a b)) (.agg (flt c d))).run Try.prog w with
  | ok v w' =>
    rw [hq] at h
    simp only [Result.andThen_ok, Sem.run_pure, Result.ok.injEq, Value.bool.injEq] at h
    rw [h.1, h.2]
  | halt e w' =>
    rw [hq] at h
    simp at h
theorem many_le (C : Nat → Bool) (ps : List Nat) (hps : ∀ p ∈ ps, 1 ≤ p ∧ p ≤ 4095) (m : Nat) (hm : m = ps.length) (hz : m ≤ 8192) : manyN C 0 65535 (numF C 16) 16 ps ≤ 14 * 8192 := by
  have key : ∀ (ps : List Nat) (L H v i : Nat), (∀ p ∈ ps, 1 ≤ p ∧ p ≤ 4095) → WideR L H → L ≤ v → v ≤ H → manyN C L H v i ps ≤ 14 * ps.length := by
    intro ps
    induction ps with
    | nil => intro L H v i _ _ _ _; exact Nat.le_refl _
    | cons p ps ih =>
      intro L H v i hp hw h1 h2
      obtain ⟨p1, p2⟩ := hp p List.mem_cons_self
      obtain ⟨fL, fH, s, hf⟩ : ∃ fL fH s, stepN L H p (decide (v ≤ splitN L H p)) = (fL, fH, s) := ⟨_, _, _, rfl⟩
      obtain ⟨d1, d2, d3, d4, _, d6⟩ := dec_next (C := C) (i := i) hf hw p1 p2 h1 h2 rfl ps
      have := ih fL fH _ (i + s.length) (fun q hq => hp q (List.mem_cons_of_mem _ hq)) d1 d2 d3
      rw [d6, List.length_cons]
      omega
  have hv := numF_lt C 16
  have := key ps 0 65535 (numF C 16) 16 hps (by decide) (Nat.zero_le _) (by omega)
  omega
set_option maxRecDepth 100000 in
set_option maxHeartbeats 8000000 in
theorem walk_trunc (l : List Bool) (ps : List Nat) (hl : l.length ≤ 131072) (hps : ∀ p ∈ ps, 1 ≤ p ∧ p ≤ 4095) (m : Nat) (hm : m = ps.length) (hz : m ≤ 8192) (C : Nat → Bool) (hC : C = fun j => l.getD j false) (T : List Bool) (M : Nat) (hT : takeN C 0 65535 (numF C 16) 16 ps = T) (hM : manyN C 0 65535 (numF C 16) 16 ps = M) (hk : l.length < M + 2) (A B : Option Addr) (cp dp : Nat) (w : World) (hS : Sl w w.heap.size A (pack l).length (bl (pack l))) (hP : Sl w w.heap.size B m (nl ps)) :
    Calls Try.prog 6 #[.agg (bcs A (pack l).length cp l.length), .slice B m dp] w fun e w' => e = .returned (.bool true) ∧ Below w.heap.size w w' := by
  have hd := fun (w : World) (hS : Sl w w.heap.size A (pack l).length (bl (pack l))) (hP : Sl w w.heap.size B m (nl ps)) => decode_all l ps hl hps m hm hz C hC T M hT hM A B cp dp w hS hP
  have hok := ok_yes (pack l) l (pack_rep l) hl A cp
  have hbi := rbits_any (pack l) l (pack_rep l) hl A cp
  have hTl : T.length = m := by rw [← hT, take_length, hm]
  obtain ⟨n, hn⟩ : ∃ n, n = l.length := ⟨_, rfl⟩
  have hde := fun (A : Option Addr) (c : Nat) (w : World) (hS : Sl w w.heap.size A n (il l)) (hP : Sl w w.heap.size B m (nl ps)) => decoded_any l (by omega) ps hps m hm (by omega) n hn A B c dp w hS hP C hC T M hT hM
  have HPB : Hid (∀ j, j < m → ∀ w : World, Calls Try.prog 20 #[.int .i64 ((ps.getD j 0 : Nat) : Int), .int .i64 1, .int .i64 4095] w fun e w' => e = .returned (.bool true) ∧ w' = w) :=
    Lib.hid (fun j hj w => by
      have h := okP_nz ps hps j (by omega)
      rw [nz_getD] at h
      exact in_yes _ 1 4095 h.1 h.2 w)
  rw [← hn] at hd hok hbi hk ⊢
  rw [hTl] at hde
  have t8 : decide ((8192 : Int) < (m : Int)) = false := decide_eq_false (by omega)
  have hMb : n ≤ 131072 := by omega
  have HMB : Hid (M ≤ 14 * 8192) := Lib.hid (by rw [← hM]; exact many_le C ps hps m hm hz)
  have HBI := Lib.hid hbi
  have HDE := Lib.hid hde
  have HK := Lib.hid hk
  have HTL := Lib.hid hTl
  have HP0 := Lib.hid hP
  clear hl hps hm hC hT hM hn hbi hde hk hTl
  have hef : ∀ w : World, (binOp .eql 28 (.agg (flt 15 (-1))) (.agg (flt 15 (-1)))).run Try.prog w = .ok (.bool true) w := fun w => by have h := eql_flt 15 (-1) 15 (-1) w; simp only [beq_self_eq_true, Bool.and_self] at h; exact h
  have hef2 : ∀ w : World, (Op.equalIn 10000 28 (.agg (flt 15 (-1))) (.agg (flt 15 (-1)))).run Try.prog w = .ok true w := fun w => by have h := eqin_flt2 15 (-1) 15 (-1) w; simp only [beq_self_eq_true, Bool.and_self] at h; exact h
  go_enter Try.func6, Try.ntmps6
  go_upto_region 1 with (fail)
  refine wp_world (F := fun W => Row W w.heap.size 26 (bcs A (pack l).length cp n) ∧ Sl W W.heap.size A (pack l).length (bl (pack l)) ∧ Sl W W.heap.size B m (nl ps) ∧ Below w.heap.size w W)
    ⟨Row.newEq _ _ _ _ _ rfl rfl, hS.up ((Below.refl _ _).alloc (Nat.le_refl _) _), hP.up ((Below.refl _ _).alloc (Nat.le_refl _) _), (Below.refl _ _).alloc (Nat.le_refl _) _⟩ ?_
  clear hS hP
  rintro W0 ⟨r0, hS, hP, hb⟩
  go_upto_region 2 with (first
    | (refine wpList_load_row rfl 26 _ rfl w.heap.size rfl 26 (bcs A (pack l).length cp n) (0, 0) _ r0 Try.underlying26 rfl (by rw [bcs_size]; exact cellsB) ?_)
    | (go_at_call 32; refine (hd _ hS hP).mono ?_; rintro e w1 ⟨h1, -, -, hb1⟩; obtain rfl := h1 HK.out; clear h1)
    | (refine wpList_store_row rfl 28 _ _ rfl w1.heap.size (flt 15 (-1)) rfl rfl 28 (flt 0 0) (Row.newEq _ _ _ _ _ rfl rfl) (by rw [flt_size]; exact cellsF) rfl (all_one (flt_one _ _)) ?_))
  have hk0 := blw_new1 w1 (.cells #[.int .i64 0, .int .i64 0] 28) (flt 15 (-1))
  have hk := up_call hb1 hk0
  refine wp_world (F := fun W => Row W w.heap.size 26 (bcs A (pack l).length cp n) ∧ Row W w1.heap.size 28 (flt 15 (-1)) ∧ Sl W W.heap.size A (pack l).length (bl (pack l)) ∧ Sl W W.heap.size B m (nl ps) ∧ Below w.heap.size w W)
    ⟨r0.below hk r0.lt, row_new1 _ _ _ _, hS.up hk, hP.up hk, up_call hb hk⟩ ?_
  have hl6 : w.heap.size < w1.heap.size := Nat.lt_of_lt_of_le r0.lt hb1.size
  generalize w1.heap.size = g6 at hl6
  clear hk hk0 hb1 r0 hS hP hb w1
  rintro W1 ⟨r0, r6, hS, hP, hb⟩
  go_upto_region 3 with (first
    | (refine wpList_store_row rfl 28 _ _ rfl W1.heap.size (flt 0 0) rfl rfl 28 (flt 0 0) (Row.newEq _ _ _ _ _ rfl rfl) (by rw [flt_size]; exact cellsF) rfl (all_one (flt_one _ _)) ?_))
  have hk := blw_new1 W1 (.cells #[.int .i64 0, .int .i64 0] 28) (flt 0 0)
  refine wp_world (F := fun W => Row W w.heap.size 26 (bcs A (pack l).length cp n) ∧ Row W g6 28 (flt 15 (-1)) ∧ Row W W1.heap.size 28 (flt 0 0) ∧ Sl W W.heap.size A (pack l).length (bl (pack l)) ∧ Sl W W.heap.size B m (nl ps) ∧ Below w.heap.size w W)
    ⟨r0.below hk r0.lt, r6.below hk r6.lt, row_new1 _ _ _ _, hS.up hk, hP.up hk, up_call hb hk⟩ ?_
  have hl7 : g6 < W1.heap.size := r6.lt
  generalize W1.heap.size = g7 at hl7
  clear hk r0 r6 hS hP hb
  rintro W2 ⟨r0, r6, r7, hS, hP, hb⟩
  go_upto_region 8 with (first
    | (refine wpList_load_row rfl 26 _ rfl w.heap.size rfl 26 (bcs A (pack l).length cp n) (0, 0) _ r0 Try.underlying26 rfl (by rw [bcs_size]; exact cellsB) ?_)
    | (go_at_call 24; refine (hok _ hS).mono ?_; rintro e w3 ⟨rfl, hb3⟩; have q0 := r0.below hb3 r0.lt; have q6 := r6.below hb3 r6.lt; have q7 := r7.below hb3 r7.lt; have pS := hS.up hb3; have pP := hP.up hb3; have hba := up_call hb hb3))
  clear r0 r6 r7 hS hP hb hd hok hb3
  go_loop [8] (fun i => ∃ j : Nat, i = .int .i64 j ∧ j ≤ m) (fun i => m - (intOf i).toNat)
  case atStart => exact ⟨0, rfl, Nat.zero_le _⟩
  case round =>
    obtain ⟨j, rfl, hjm⟩ := hrel
    have k0 : w3.cell? ⟨g7, 0, none⟩ = some (.int .i64 0) := (q7.cell 0).trans rfl
    by_cases hlt : j < m
    · obtain ⟨ad, rfl, hbk, hcell⟩ := pP.num hlt
      have hin := HPB.out j hlt
      obtain ⟨z, hz2⟩ : ∃ z : Int, z = ((ps.getD j 0 : Nat) : Int) := ⟨_, rfl⟩
      rw [← hz2] at hcell hin
      clear hz2
      go_wp2_with (first
        | (go_at_call 20; refine (hin _).mono ?_; rintro e w9 ⟨rfl, h9⟩; subst w9))
      go_round
      case rel => exact ⟨j + 1, by go_num, by omega⟩
      case measure => simp [intOf]; omega
    · obtain rfl : m = j := by omega
      clear HPB
      go_upto_region 14 with (first
        | (go_at_call 13; refine (codes_any _).mono ?_; rintro e w14 ⟨rfl, hb14⟩; have k1 : w14.cell? ⟨g7, 0, none⟩ = some (.int .i64 0) := ((q7.below hb14 q7.lt).cell 0).trans rfl; have v0 := q0.below hb14 q0.lt; have v6 := q6.below hb14 q6.lt; have v7 := q7.below hb14 q7.lt; have vS := pS.up hb14; have vP := pP.up hb14; have hbv := up_call hba hb14))
      clear k0 q0 q6 q7 pS pP hba hlt hjm
      go_upto_region 15 with (first
        | (refine wpList_load_row rfl 26 _ rfl w.heap.size rfl 26 (bcs A (pack l).length cp n) (0, 0) _ v0 Try.underlying26 rfl (by rw [bcs_size]; exact cellsB) ?_)
        | (go_at_call 25; refine (HBI.out _ vS).mono ?_; rintro e w20 ⟨v20, rfl, ho20, hb20⟩; obtain ⟨A20, d20, hv20, _, _⟩ := own_form ho20; subst hv20; have s20 := Sl.of_own ho20; have p20 := vP.up hb20)
        | (go_at_call 33; refine (HDE.out _ _ _ s20 p20).mono ?_; rintro e w21 ⟨v21, rfl, ho21, hb21⟩; have hkk := up_call hb20 hb21))
      obtain ⟨A21, d21, hv21, _, _⟩ := own_form ho21
      subst hv21
      have s21 := Sl.of_own ho21
      have x0 := v0.below hkk v0.lt
      have x6 := v6.below hkk v6.lt
      skip
      have hbz := up_call hbv hkk
      have e1 : w21.cell? ⟨w.heap.size, 1, none⟩ = some (.int .i64 n) := (x0.cell 1).trans rfl
      clear hkk ho21 s20 p20 ho20 hb20 hb21 v0 v6 v7 vS vP hbv HDE HBI x0
      have hMz := HMB.out
      have tg : decide ((n : Int) < (M : Int) + 2) = true := decide_eq_true (by have := HK.out; omega)
      have tg2 : decide (n < M + 2) = true := decide_eq_true HK.out
      go_upto_region 16 with fail
      have i6 := x6.drew.is (flt_size _ _)
      have a6 := x6.drew.at
      go_region_held3 (fun W => IsRow W g6 2 ∧ rowAt W g6 = flt 15 (-1))
        (first
          | exact ⟨i6, a6⟩
          | exact ⟨(x6.drew.below hb30 x6.lt).is (flt_size _ _), (x6.drew.below hb30 x6.lt).at⟩)
        (first
          | (go_at_call 16; refine (at_any 15 (-1) _).mono ?_; rintro e w30 ⟨rfl, hb30⟩))
      all_goals
        go_wp2
        go_ret
        exact ⟨by first | rfl | simp, up_call hbz.drew hb30⟩

set_option maxRecDepth 100000 in
set_option maxHeartbeats 8000000 in
theorem walk_corrupt (l : List Bool) (ps : List Nat) (hl : l.length ≤ 131072) (hps : ∀ p ∈ ps, 1 ≤ p ∧ p ≤ 4095) (m : Nat) (hm : m = ps.length) (hz : m ≤ 8192) (C : Nat → Bool) (hC : C = fun j => l.getD j false) (T : List Bool) (M : Nat) (hT : takeN C 0 65535 (numF C 16) 16 ps = T) (hM : manyN C 0 65535 (numF C 16) 16 ps = M) (hk : M + 2 < l.length) (A B : Option Addr) (cp dp : Nat) (w : World) (hS : Sl w w.heap.size A (pack l).length (bl (pack l))) (hP : Sl w w.heap.size B m (nl ps)) :
    Calls Try.prog 6 #[.agg (bcs A (pack l).length cp l.length), .slice B m dp] w fun e w' => e = .returned (.bool true) ∧ Below w.heap.size w w' := by
  have hd := fun (w : World) (hS : Sl w w.heap.size A (pack l).length (bl (pack l))) (hP : Sl w w.heap.size B m (nl ps)) => decode_all l ps hl hps m hm hz C hC T M hT hM A B cp dp w hS hP
  have hok := ok_yes (pack l) l (pack_rep l) hl A cp
  have hbi := rbits_any (pack l) l (pack_rep l) hl A cp
  have hTl : T.length = m := by rw [← hT, take_length, hm]
  obtain ⟨n, hn⟩ : ∃ n, n = l.length := ⟨_, rfl⟩
  have hde := fun (A : Option Addr) (c : Nat) (w : World) (hS : Sl w w.heap.size A n (il l)) (hP : Sl w w.heap.size B m (nl ps)) => decoded_any l (by omega) ps hps m hm (by omega) n hn A B c dp w hS hP C hC T M hT hM
  have HPB : Hid (∀ j, j < m → ∀ w : World, Calls Try.prog 20 #[.int .i64 ((ps.getD j 0 : Nat) : Int), .int .i64 1, .int .i64 4095] w fun e w' => e = .returned (.bool true) ∧ w' = w) :=
    Lib.hid (fun j hj w => by
      have h := okP_nz ps hps j (by omega)
      rw [nz_getD] at h
      exact in_yes _ 1 4095 h.1 h.2 w)
  rw [← hn] at hd hok hbi hk ⊢
  rw [hTl] at hde
  have t8 : decide ((8192 : Int) < (m : Int)) = false := decide_eq_false (by omega)
  have hMb : n ≤ 131072 := by omega
  have HMB : Hid (M ≤ 14 * 8192) := Lib.hid (by rw [← hM]; exact many_le C ps hps m hm hz)
  have HBI := Lib.hid hbi
  have HDE := Lib.hid hde
  have HK := Lib.hid hk
  have HTL := Lib.hid hTl
  have HP0 := Lib.hid hP
  clear hl hps hm hC hT hM hn hbi hde hk hTl
  have hef : ∀ w : World, (binOp .eql 28 (.agg (flt 16 (-1))) (.agg (flt 16 (-1)))).run Try.prog w = .ok (.bool true) w := fun w => by have h := eql_flt 16 (-1) 16 (-1) w; simp only [beq_self_eq_true, Bool.and_self] at h; exact h
  have hef2 : ∀ w : World, (Op.equalIn 10000 28 (.agg (flt 16 (-1))) (.agg (flt 16 (-1)))).run Try.prog w = .ok true w := fun w => by have h := eqin_flt2 16 (-1) 16 (-1) w; simp only [beq_self_eq_true, Bool.and_self] at h; exact h
  go_enter Try.func6, Try.ntmps6
  go_upto_region 1 with (fail)
  refine wp_world (F := fun W => Row W w.heap.size 26 (bcs A (pack l).length cp n) ∧ Sl W W.heap.size A (pack l).length (bl (pack l)) ∧ Sl W W.heap.size B m (nl ps) ∧ Below w.heap.size w W)
    ⟨Row.newEq _ _ _ _ _ rfl rfl, hS.up ((Below.refl _ _).alloc (Nat.le_refl _) _), hP.up ((Below.refl _ _).alloc (Nat.le_refl _) _), (Below.refl _ _).alloc (Nat.le_refl _) _⟩ ?_
  clear hS hP
  rintro W0 ⟨r0, hS, hP, hb⟩
  go_upto_region 2 with (first
    | (refine wpList_load_row rfl 26 _ rfl w.heap.size rfl 26 (bcs A (pack l).length cp n) (0, 0) _ r0 Try.underlying26 rfl (by rw [bcs_size]; exact cellsB) ?_)
    | (go_at_call 32; refine (hd _ hS hP).mono ?_; rintro e w1 ⟨-, h1, -, hb1⟩; obtain rfl := h1 HK.out; clear h1)
    | (refine wpList_store_row rfl 28 _ _ rfl w1.heap.size (flt 16 (-1)) rfl rfl 28 (flt 0 0) (Row.newEq _ _ _ _ _ rfl rfl) (by rw [flt_size]; exact cellsF) rfl (all_one (flt_one _ _)) ?_))
  have hk0 := blw_new1 w1 (.cells #[.int .i64 0, .int .i64 0] 28) (flt 16 (-1))
  have hk := up_call hb1 hk0
  refine wp_world (F := fun W => Row W w.heap.size 26 (bcs A (pack l).length cp n) ∧ Row W w1.heap.size 28 (flt 16 (-1)) ∧ Sl W W.heap.size A (pack l).length (bl (pack l)) ∧ Sl W W.heap.size B m (nl ps) ∧ Below w.heap.size w W)
    ⟨r0.below hk r0.lt, row_new1 _ _ _ _, hS.up hk, hP.up hk, up_call hb hk⟩ ?_
  have hl6 : w.heap.size < w1.heap.size := Nat.lt_of_lt_of_le r0.lt hb1.size
  generalize w1.heap.size = g6 at hl6
  clear hk hk0 hb1 r0 hS hP hb w1
  rintro W1 ⟨r0, r6, hS, hP, hb⟩
  go_upto_region 3 with (first
    | (refine wpList_store_row rfl 28 _ _ rfl W1.heap.size (flt 0 0) rfl rfl 28 (flt 0 0) (Row.newEq _ _ _ _ _ rfl rfl) (by rw [flt_size]; exact cellsF) rfl (all_one (flt_one _ _)) ?_))
  have hk := blw_new1 W1 (.cells #[.int .i64 0, .int .i64 0] 28) (flt 0 0)
  refine wp_world (F := fun W => Row W w.heap.size 26 (bcs A (pack l).length cp n) ∧ Row W g6 28 (flt 16 (-1)) ∧ Row W W1.heap.size 28 (flt 0 0) ∧ Sl W W.heap.size A (pack l).length (bl (pack l)) ∧ Sl W W.heap.size B m (nl ps) ∧ Below w.heap.size w W)
    ⟨r0.below hk r0.lt, r6.below hk r6.lt, row_new1 _ _ _ _, hS.up hk, hP.up hk, up_call hb hk⟩ ?_
  have hl7 : g6 < W1.heap.size := r6.lt
  generalize W1.heap.size = g7 at hl7
  clear hk r0 r6 hS hP hb
  rintro W2 ⟨r0, r6, r7, hS, hP, hb⟩
  go_upto_region 8 with (first
    | (refine wpList_load_row rfl 26 _ rfl w.heap.size rfl 26 (bcs A (pack l).length cp n) (0, 0) _ r0 Try.underlying26 rfl (by rw [bcs_size]; exact cellsB) ?_)
    | (go_at_call 24; refine (hok _ hS).mono ?_; rintro e w3 ⟨rfl, hb3⟩; have q0 := r0.below hb3 r0.lt; have q6 := r6.below hb3 r6.lt; have q7 := r7.below hb3 r7.lt; have pS := hS.up hb3; have pP := hP.up hb3; have hba := up_call hb hb3))
  clear r0 r6 r7 hS hP hb hd hok hb3
  go_loop [8] (fun i => ∃ j : Nat, i = .int .i64 j ∧ j ≤ m) (fun i => m - (intOf i).toNat)
  case atStart => exact ⟨0, rfl, Nat.zero_le _⟩
  case round =>
    obtain ⟨j, rfl, hjm⟩ := hrel
    have k0 : w3.cell? ⟨g7, 0, none⟩ = some (.int .i64 0) := (q7.cell 0).trans rfl
    by_cases hlt : j < m
    · obtain ⟨ad, rfl, hbk, hcell⟩ := pP.num hlt
      have hin := HPB.out j hlt
      obtain ⟨z, hz2⟩ : ∃ z : Int, z = ((ps.getD j 0 : Nat) : Int) := ⟨_, rfl⟩
      rw [← hz2] at hcell hin
      clear hz2
      go_wp2_with (first
        | (go_at_call 20; refine (hin _).mono ?_; rintro e w9 ⟨rfl, h9⟩; subst w9))
      go_round
      case rel => exact ⟨j + 1, by go_num, by omega⟩
      case measure => simp [intOf]; omega
    · obtain rfl : m = j := by omega
      clear HPB
      go_upto_region 14 with (first
        | (go_at_call 13; refine (codes_any _).mono ?_; rintro e w14 ⟨rfl, hb14⟩; have k1 : w14.cell? ⟨g7, 0, none⟩ = some (.int .i64 0) := ((q7.below hb14 q7.lt).cell 0).trans rfl; have v0 := q0.below hb14 q0.lt; have v6 := q6.below hb14 q6.lt; have v7 := q7.below hb14 q7.lt; have vS := pS.up hb14; have vP := pP.up hb14; have hbv := up_call hba hb14))
      clear k0 q0 q6 q7 pS pP hba hlt hjm
      go_upto_region 15 with (first
        | (refine wpList_load_row rfl 26 _ rfl w.heap.size rfl 26 (bcs A (pack l).length cp n) (0, 0) _ v0 Try.underlying26 rfl (by rw [bcs_size]; exact cellsB) ?_)
        | (go_at_call 25; refine (HBI.out _ vS).mono ?_; rintro e w20 ⟨v20, rfl, ho20, hb20⟩; obtain ⟨A20, d20, hv20, _, _⟩ := own_form ho20; subst hv20; have s20 := Sl.of_own ho20; have p20 := vP.up hb20)
        | (go_at_call 33; refine (HDE.out _ _ _ s20 p20).mono ?_; rintro e w21 ⟨v21, rfl, ho21, hb21⟩; have hkk := up_call hb20 hb21))
      obtain ⟨A21, d21, hv21, _, _⟩ := own_form ho21
      subst hv21
      have s21 := Sl.of_own ho21
      have x0 := v0.below hkk v0.lt
      have x6 := v6.below hkk v6.lt
      skip
      have hbz := up_call hbv hkk
      have e1 : w21.cell? ⟨w.heap.size, 1, none⟩ = some (.int .i64 n) := (x0.cell 1).trans rfl
      clear hkk ho21 s20 p20 ho20 hb20 hb21 v0 v6 v7 vS vP hbv HDE HBI x0
      have hMz := HMB.out
      have hkk := HK.out
      have tg : decide ((n : Int) < (M : Int) + 2) = false := decide_eq_false (by omega)
      have tg2 : decide (n < M + 2) = false := decide_eq_false (by omega)
      have th : decide ((M : Int) + 2 < (n : Int)) = true := decide_eq_true (by omega)
      have th2 : decide (M + 2 < n) = true := decide_eq_true hkk
      clear hkk
      go_upto_region 18 with fail
      have i6 := x6.drew.is (flt_size _ _)
      have a6 := x6.drew.at
      go_region_held3 (fun W => IsRow W g6 2 ∧ rowAt W g6 = flt 16 (-1))
        (first
          | exact ⟨i6, a6⟩
          | exact ⟨(x6.drew.below hb30 x6.lt).is (flt_size _ _), (x6.drew.below hb30 x6.lt).at⟩)
        (first
          | (go_at_call 16; refine (at_any 16 (-1) _).mono ?_; rintro e w30 ⟨rfl, hb30⟩))
      all_goals
        go_wp2
        go_ret
        exact ⟨by first | rfl | simp, up_call hbz.drew hb30⟩

set_option maxRecDepth 100000 in
set_option maxHeartbeats 8000000 in
theorem walk_good (l : List Bool) (ps : List Nat) (hl : l.length ≤ 131072) (hps : ∀ p ∈ ps, 1 ≤ p ∧ p ≤ 4095) (m : Nat) (hm : m = ps.length) (hz : m ≤ 8192) (C : Nat → Bool) (hC : C = fun j => l.getD j false) (T : List Bool) (M : Nat) (hT : takeN C 0 65535 (numF C 16) 16 ps = T) (hM : manyN C 0 65535 (numF C 16) 16 ps = M) (hk : M + 2 = l.length) (A B : Option Addr) (cp dp : Nat) (w : World) (hS : Sl w w.heap.size A (pack l).length (bl (pack l))) (hP : Sl w w.heap.size B m (nl ps)) :
    Calls Try.prog 6 #[.agg (bcs A (pack l).length cp l.length), .slice B m dp] w fun e w' => e = .returned (.bool true) ∧ Below w.heap.size w w' := by
  have hd := fun (w : World) (hS : Sl w w.heap.size A (pack l).length (bl (pack l))) (hP : Sl w w.heap.size B m (nl ps)) => decode_all l ps hl hps m hm hz C hC T M hT hM A B cp dp w hS hP
  have hok := ok_yes (pack l) l (pack_rep l) hl A cp
  have hbi := rbits_any (pack l) l (pack_rep l) hl A cp
  have hTl : T.length = m := by rw [← hT, take_length, hm]
  obtain ⟨n, hn⟩ : ∃ n, n = l.length := ⟨_, rfl⟩
  have hde := fun (A : Option Addr) (c : Nat) (w : World) (hS : Sl w w.heap.size A n (il l)) (hP : Sl w w.heap.size B m (nl ps)) => decoded_any l (by omega) ps hps m hm (by omega) n hn A B c dp w hS hP C hC T M hT hM
  have HPB : Hid (∀ j, j < m → ∀ w : World, Calls Try.prog 20 #[.int .i64 ((ps.getD j 0 : Nat) : Int), .int .i64 1, .int .i64 4095] w fun e w' => e = .returned (.bool true) ∧ w' = w) :=
    Lib.hid (fun j hj w => by
      have h := okP_nz ps hps j (by omega)
      rw [nz_getD] at h
      exact in_yes _ 1 4095 h.1 h.2 w)
  rw [← hn] at hd hok hbi hk ⊢
  rw [hTl] at hde
  have t8 : decide ((8192 : Int) < (m : Int)) = false := decide_eq_false (by omega)
  have hMb : n ≤ 131072 := by omega
  have HMB : Hid (M ≤ 14 * 8192) := Lib.hid (by rw [← hM]; exact many_le C ps hps m hm hz)
  have HBI := Lib.hid hbi
  have HDE := Lib.hid hde
  have HK := Lib.hid hk
  have HTL := Lib.hid hTl
  have HP0 := Lib.hid hP
  clear hl hps hm hC hT hM hn hbi hde hk hTl
  go_enter Try.func6, Try.ntmps6
  go_upto_region 1 with (fail)
  refine wp_world (F := fun W => Row W w.heap.size 26 (bcs A (pack l).length cp n) ∧ Sl W W.heap.size A (pack l).length (bl (pack l)) ∧ Sl W W.heap.size B m (nl ps) ∧ Below w.heap.size w W)
    ⟨Row.newEq _ _ _ _ _ rfl rfl, hS.up ((Below.refl _ _).alloc (Nat.le_refl _) _), hP.up ((Below.refl _ _).alloc (Nat.le_refl _) _), (Below.refl _ _).alloc (Nat.le_refl _) _⟩ ?_
  clear hS hP
  rintro W0 ⟨r0, hS, hP, hb⟩
  go_upto_region 2 with (first
    | (refine wpList_load_row rfl 26 _ rfl w.heap.size rfl 26 (bcs A (pack l).length cp n) (0, 0) _ r0 Try.underlying26 rfl (by rw [bcs_size]; exact cellsB) ?_)
    | (go_at_call 32; refine (hd _ hS hP).mono ?_; rintro e w1 ⟨-, -, h1, hb1⟩; have h2 := h1 HK.out; clear h1; obtain ⟨A1, c1, rfl, s1, -, -⟩ := h2)
    | (refine wpList_store_row rfl 28 _ _ rfl w1.heap.size (flt 0 0) rfl rfl 28 (flt 0 0) (Row.newEq _ _ _ _ _ rfl rfl) (by rw [flt_size]; exact cellsF) rfl (all_one (flt_one _ _)) ?_))
  have hk0 := blw_new1 w1 (.cells #[.int .i64 0, .int .i64 0] 28) (flt 0 0)
  have hk := up_call hb1 hk0
  refine wp_world (F := fun W => Row W w.heap.size 26 (bcs A (pack l).length cp n) ∧ Row W w1.heap.size 28 (flt 0 0) ∧ Sl W W.heap.size A (pack l).length (bl (pack l)) ∧ Sl W W.heap.size B m (nl ps) ∧ Sl W W.heap.size A1 m (il T) ∧ Below w.heap.size w W)
    ⟨r0.below hk r0.lt, row_new1 _ _ _ _, hS.up hk, hP.up hk, s1.up hk0, up_call hb hk⟩ ?_
  have hl6 : w.heap.size < w1.heap.size := Nat.lt_of_lt_of_le r0.lt hb1.size
  generalize w1.heap.size = g6 at hl6
  clear hk hk0 hb1 r0 hS hP s1 hb w1
  rintro W1 ⟨r0, r6, hS, hP, s1, hb⟩
  go_upto_region 3 with (first
    | (refine wpList_store_row rfl 28 _ _ rfl W1.heap.size (flt 0 0) rfl rfl 28 (flt 0 0) (Row.newEq _ _ _ _ _ rfl rfl) (by rw [flt_size]; exact cellsF) rfl (all_one (flt_one _ _)) ?_))
  have hk := blw_new1 W1 (.cells #[.int .i64 0, .int .i64 0] 28) (flt 0 0)
  refine wp_world (F := fun W => Row W w.heap.size 26 (bcs A (pack l).length cp n) ∧ Row W g6 28 (flt 0 0) ∧ Row W W1.heap.size 28 (flt 0 0) ∧ Sl W W.heap.size A (pack l).length (bl (pack l)) ∧ Sl W W.heap.size B m (nl ps) ∧ Sl W W.heap.size A1 m (il T) ∧ Below w.heap.size w W)
    ⟨r0.below hk r0.lt, r6.below hk r6.lt, row_new1 _ _ _ _, hS.up hk, hP.up hk, s1.up hk, up_call hb hk⟩ ?_
  have hl7 : g6 < W1.heap.size := r6.lt
  generalize W1.heap.size = g7 at hl7
  clear hk r0 r6 hS hP s1 hb
  rintro W2 ⟨r0, r6, r7, hS, hP, s1, hb⟩
  go_upto_region 8 with (first
    | (refine wpList_load_row rfl 26 _ rfl w.heap.size rfl 26 (bcs A (pack l).length cp n) (0, 0) _ r0 Try.underlying26 rfl (by rw [bcs_size]; exact cellsB) ?_)
    | (go_at_call 24; refine (hok _ hS).mono ?_; rintro e w3 ⟨rfl, hb3⟩; have q0 := r0.below hb3 r0.lt; have q6 := r6.below hb3 r6.lt; have q7 := r7.below hb3 r7.lt; have pS := hS.up hb3; have pP := hP.up hb3; have q1s := s1.up hb3; have hba := up_call hb hb3))
  clear r0 r6 r7 hS hP hb hd hok hb3 s1
  go_loop [8] (fun i => ∃ j : Nat, i = .int .i64 j ∧ j ≤ m) (fun i => m - (intOf i).toNat)
  case atStart => exact ⟨0, rfl, Nat.zero_le _⟩
  case round =>
    obtain ⟨j, rfl, hjm⟩ := hrel
    have k0 : w3.cell? ⟨g7, 0, none⟩ = some (.int .i64 0) := (q7.cell 0).trans rfl
    by_cases hlt : j < m
    · obtain ⟨ad, rfl, hbk, hcell⟩ := pP.num hlt
      have hin := HPB.out j hlt
      obtain ⟨z, hz2⟩ : ∃ z : Int, z = ((ps.getD j 0 : Nat) : Int) := ⟨_, rfl⟩
      rw [← hz2] at hcell hin
      clear hz2
      go_wp2_with (first
        | (go_at_call 20; refine (hin _).mono ?_; rintro e w9 ⟨rfl, h9⟩; subst w9))
      go_round
      case rel => exact ⟨j + 1, by go_num, by omega⟩
      case measure => simp [intOf]; omega
    · obtain rfl : m = j := by omega
      clear HPB
      go_upto_region 14 with (first
        | (go_at_call 13; refine (codes_any _).mono ?_; rintro e w14 ⟨rfl, hb14⟩; have k1 : w14.cell? ⟨g7, 0, none⟩ = some (.int .i64 0) := ((q7.below hb14 q7.lt).cell 0).trans rfl; have v0 := q0.below hb14 q0.lt; have v6 := q6.below hb14 q6.lt; have v7 := q7.below hb14 q7.lt; have vS := pS.up hb14; have vP := pP.up hb14; have v1s := q1s.up hb14; have hbv := up_call hba hb14))
      clear k0 q0 q6 q7 pS pP hba hlt hjm
      go_upto_region 15 with (first
        | (refine wpList_load_row rfl 26 _ rfl w.heap.size rfl 26 (bcs A (pack l).length cp n) (0, 0) _ v0 Try.underlying26 rfl (by rw [bcs_size]; exact cellsB) ?_)
        | (go_at_call 25; refine (HBI.out _ vS).mono ?_; rintro e w20 ⟨v20, rfl, ho20, hb20⟩; obtain ⟨A20, d20, hv20, _, _⟩ := own_form ho20; subst hv20; have s20 := Sl.of_own ho20; have p20 := vP.up hb20)
        | (go_at_call 33; refine (HDE.out _ _ _ s20 p20).mono ?_; rintro e w21 ⟨v21, rfl, ho21, hb21⟩; have hkk := up_call hb20 hb21))
      obtain ⟨A21, d21, hv21, _, _⟩ := own_form ho21
      subst hv21
      have s21 := Sl.of_own ho21
      have x0 := v0.below hkk v0.lt
      have x6 := v6.below hkk v6.lt
      have x1s := v1s.up hkk
      have hbz := up_call hbv hkk
      have e1 : w21.cell? ⟨w.heap.size, 1, none⟩ = some (.int .i64 n) := (x0.cell 1).trans rfl
      clear hkk ho21 s20 p20 ho20 hb20 hb21 v0 v6 v7 vS vP v1s q1s hbv HDE HBI x0
      have hMz := HMB.out
      have hkk := HK.out
      have tg : decide ((n : Int) < (M : Int) + 2) = false := decide_eq_false (by omega)
      have tg2 : decide (n < M + 2) = false := decide_eq_false (by omega)
      have th : decide ((M : Int) + 2 < (n : Int)) = false := decide_eq_false (by omega)
      have th2 : decide (M + 2 < n) = false := decide_eq_false (by omega)
      have HKK := Lib.hid hkk
      clear hkk
      have y6 : w21.cell? ⟨g6, 0, none⟩ = some (.int .i64 0) := (x6.cell 0).trans rfl
      rw [← nl_bool] at s21 x1s
      go_wp2_with (first
        | (go_at_call 34; refine (ints_yes (T.map Bool.toNat) m (by rw [List.length_map]; exact HTL.out) (by omega) A1 A21 _ _ _ x1s s21).mono ?_; rintro e w10 ⟨rfl, hb10⟩))
      go_ret
      exact ⟨rfl, up_call hbz hb10⟩
end Go.Proofs.Ytcnokjiohbifeaa.lawDec
