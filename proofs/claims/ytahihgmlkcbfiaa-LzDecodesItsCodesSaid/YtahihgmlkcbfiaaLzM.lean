/-
  The closed examples of the statements about tokens are answered as they ought to be, where package lz keeps its contracts.
-/
import Derived.Test.YtahihgmlkcbfiaaLzK
import Derived.Lib.SlBytesConst
namespace Go.Proofs.Ytahihgmlkcbfiaa
open Go.RowKit

theorem sl_const (w : World) (C : Array Value) (fz : Nat × Nat) (L : List UInt8) (n : Nat) (hn : n = L.length) (hC : C.toList = bl L) : Sl (w.alloc (.cells C 5 fz)) (w.alloc (.cells C 5 fz)).heap.size (some ⟨w.heap.size, 0, none⟩) n (bl L) := by
  refine ⟨by rw [bl_length, hn], fun _ => ⟨_, rfl, by simp, fun j u hu => ?_⟩⟩
  rw [add_lit0, cell_of_row _ w.heap.size j C 5 fz (heap_alloc_new w _), ← hu, ← hC, Array.getElem?_toList]
def abc : List UInt8 := [97, 98, 99]
def abca : List UInt8 := [97, 98, 99, 97]
def exm : List Tk := [.mat 3 4]
def exc : List Tk := [.mat 2 5]
theorem exm_good : GoodT exm := fun t ht => by
  obtain rfl := List.mem_singleton.1 ht
  exact ⟨by omega, by omega, by omega, by omega⟩
theorem exc_good : GoodT exc := fun t ht => by
  obtain rfl := List.mem_singleton.1 ht
  exact ⟨by omega, by omega, by omega, by omega⟩
theorem ex_parse (h : PParse) (A : Option Addr) (c : Nat) (w : World) (hA : Sl w w.heap.size A 4 (bl aaaa)) : Calls Try.prog 11 #[.slice A 4 c, .slice none 0 0] w fun e w' => ∃ G d, e = .returned (.tuple #[.slice G 2 d, .agg (flt 0 0)]) ∧ Tks w' w'.heap.size G 2 (tz exl) ∧ Below w.heap.size w w' := by
  refine (h aaaa [] 4 0 rfl rfl (by omega) (by omega) A none c 0 w hA (by rw [bl_nil]; exact Sl.nil _ _ _)).mono ?_
  rintro e w' ⟨⟨G, d, K, t, hT, rfl, hG⟩, hb⟩
  rw [ex_path hT] at hG ⊢
  exact ⟨G, d, rfl, hG, hb⟩
theorem ex_expand (h : PExpand) (A B : Option Addr) (c d : Nat) (w : World) (hA : Tks w w.heap.size A 1 (tz exm)) (hB : Sl w w.heap.size B 3 (bl abc)) : Calls Try.prog 16 #[.slice A 1 c, .slice B 3 d] w fun e w' => ∃ G d, e = .returned (.tuple #[.slice G 4 d, .agg (flt 0 0)]) ∧ Sl w' w'.heap.size G 4 (bl abca) ∧ Below w.heap.size w w' := by
  refine (h exm exm_good 1 rfl (by omega) abc 3 rfl (by omega) A B c d w hA hB).mono ?_
  rintro e w' ⟨h1, hb⟩
  rw [show runT 3 exm abc 0 = .inl [97, 98, 99, 97, 98, 99, 97] from ex_run] at h1
  obtain ⟨G, d, he, hs⟩ := h1
  exact ⟨G, d, he, hs, hb⟩
theorem ex_costs (h : PCost) (A : Option Addr) (c : Nat) (w : World) (hA : Tks w w.heap.size A 1 (tz exc)) : Calls Try.prog 21 #[.slice A 1 c] w fun e w' => e = .returned (.tuple #[.int .i64 7, .agg (flt 0 0)]) ∧ Below w.heap.size w w' := by
  have := h exc exc_good 1 rfl (by omega) A c w hA
  rw [show costT exc = 7 from ex_cost] at this
  exact this
theorem ex_enc (h : PEnc) (A : Option Addr) (c : Nat) (w : World) (hA : Tks w w.heap.size A 2 (tz exl)) : Calls Try.prog 22 #[.slice A 2 c] w fun e w' => ∃ B d, e = .returned (.tuple #[.agg (bcs B (pack (codeT exl)).length d 12), .agg (flt 0 0)]) ∧ Sl w' w'.heap.size B (pack (codeT exl)).length (bl (pack (codeT exl))) ∧ Below w.heap.size w w' := by
  refine (h exl ex_good 2 rfl (by omega) A c w hA).mono ?_
  rintro e w' ⟨B, d, rfl, h1, h2⟩
  rw [ex_code]
  exact ⟨B, d, rfl, h1, h2⟩
theorem ex_decs (h : PDec) (A : Option Addr) (c : Nat) (w : World) (hA : Sl w w.heap.size A (pack (codeT exl)).length (bl (pack (codeT exl)))) : Calls Try.prog 27 #[.agg (bcs A (pack (codeT exl)).length c 12), .int .i64 4] w fun e w' => ∃ G d, e = .returned (.tuple #[.slice G 2 d, .int .i64 12, .agg (flt 0 0)]) ∧ Tks w' w'.heap.size G 2 (tz exl) ∧ Below w.heap.size w w' := by
  have h1 := h (codeT exl) (by rw [ex_code]; omega) 4 (by omega) A c w hA
  rw [ex_dec, ex_code] at h1
  refine h1.mono ?_
  rintro e w' ⟨⟨G, d, he, hs⟩, hb⟩
  exact ⟨G, d, he, hs, hb⟩

theorem tks_exl (w : World) : Tks (w.alloc (.cells #[.int .i64 0, .int .i64 0, .int .u8 97, .int .i64 1, .int .i64 3, .int .u8 0] 37)) (w.alloc (.cells #[.int .i64 0, .int .i64 0, .int .u8 97, .int .i64 1, .int .i64 3, .int .u8 0] 37)).heap.size (some ⟨w.heap.size, 0, none⟩) 2 (tz exl) := by
  have r := Row.new w 37 #[.int .i64 0, .int .i64 0, .int .u8 97, .int .i64 1, .int .i64 3, .int .u8 0]
  refine ⟨rfl, fun _ => ⟨_, rfl, by simp, fun i q hi => ?_⟩⟩
  have he : tz exl = [(0, 0, 97), (1, 3, 0)] := rfl
  rw [he] at hi
  rw [add_lit0]
  rcases i with _ | _ | i
  · simp only [List.getElem?_cons_zero, Option.some.injEq] at hi
    subst hi
    exact ⟨(r.cell 0).trans rfl, (r.cell 1).trans rfl, (r.cell 2).trans rfl⟩
  · simp only [List.getElem?_cons_succ, List.getElem?_cons_zero, Option.some.injEq] at hi
    subst hi
    exact ⟨(r.cell 3).trans rfl, (r.cell 4).trans rfl, (r.cell 5).trans rfl⟩
  · simp at hi
theorem build_exl (w : World) :
    (Instr.buildSlice 23 2 #[(0, .agg #[.int .i64 0, .int .i64 0, .int .u8 97]), (1, .agg #[.int .i64 1, .int .i64 3, .int .u8 0])]).run Try.prog w = .ok (.slice (some ⟨w.heap.size, 0, none⟩) 2 2) (w.alloc (.cells #[.int .i64 0, .int .i64 0, .int .u8 97, .int .i64 1, .int .i64 3, .int .u8 0] 37)) := by
  kernel_rfl
theorem wpList_exl {ops : Array Oper} {rest : List Oper} {o : Oper} {a : Act} {w : World} {Q : Exit → Act → World → Prop} (hgd : o.guard = none) (p q : Operand) (ho : o.op = .buildSlice 23 2 #[(0, p), (1, q)])
    (hp : a.eval p = .agg #[.int .i64 0, .int .i64 0, .int .u8 97]) (hq : a.eval q = .agg #[.int .i64 1, .int .i64 3, .int .u8 0])
    (h : wpList Try.prog ops Q rest (a.put o.dst (.slice (some ⟨w.heap.size, 0, none⟩) 2 2)) (w.alloc (.cells #[.int .i64 0, .int .i64 0, .int .u8 97, .int .i64 1, .int .i64 3, .int .u8 0] 37))) : wpList Try.prog ops Q (o :: rest) a w := by
  refine wpList_plain hgd fun K hK => ?_
  have hrun := build_exl w
  unfold Oper.wp
  simp [execOp, ho, hp, hq, hrun, Result.andThen]
  exact hK _ _ h

set_option maxRecDepth 100000 in
set_option maxHeartbeats 16000000 in
theorem matches_any (H : LZ) (w : World) : Calls Try.prog 13 #[] w fun e w' => e = .returned (.bool true) ∧ Below w.heap.size w w' := by
  obtain ⟨k, hk⟩ : ∃ k, k = (pack (codeT exl)).length := ⟨_, rfl⟩
  have HP := Lib.hid (ex_parse H.parse)
  have HE := Lib.hid (ex_expand H.expand)
  have HC := Lib.hid (ex_costs H.cost)
  have HN := Lib.hid (ex_enc H.enc)
  have HD := Lib.hid (ex_decs H.dec)
  have hv := H.valid 1 2 0
  rw [show decide (okT (1, 2, 0)) = false by decide] at hv
  unfold tcs at hv
  have HV := Lib.hid hv
  rw [← hk] at HN HD
  have kc := fun (w : World) (C : Array Value) (n c : Nat) => Lib.run_convert_bytes_const (P := Try.prog) w 22 5 C n c Try.underlying22 Try.underlying5
  have ha4 : ∀ w : World, Sl (w.alloc (.cells #[.int .u8 97, .int .u8 97, .int .u8 97, .int .u8 97] 5 (4, 5))) (w.alloc (.cells #[.int .u8 97, .int .u8 97, .int .u8 97, .int .u8 97] 5 (4, 5))).heap.size (some ⟨w.heap.size, 0, none⟩) 4 (bl aaaa) := fun w => sl_const w _ (4, 5) aaaa 4 rfl (by kernel_rfl)
  have hc3 : ∀ w : World, Sl (w.alloc (.cells #[.int .u8 97, .int .u8 98, .int .u8 99] 5 (3, 4))) (w.alloc (.cells #[.int .u8 97, .int .u8 98, .int .u8 99] 5 (3, 4))).heap.size (some ⟨w.heap.size, 0, none⟩) 3 (bl abc) := fun w => sl_const w _ (3, 4) abc 3 rfl (by kernel_rfl)
  have hc4 : ∀ w : World, Sl (w.alloc (.cells #[.int .u8 97, .int .u8 98, .int .u8 99, .int .u8 97] 5 (4, 5))) (w.alloc (.cells #[.int .u8 97, .int .u8 98, .int .u8 99, .int .u8 97] 5 (4, 5))).heap.size (some ⟨w.heap.size, 0, none⟩) 4 (bl abca) := fun w => sl_const w _ (4, 5) abca 4 rfl (by kernel_rfl)
  clear hv hk H
  go_enter Try.func13, Try.ntmps13
  go_upto_region 2 with (first
    | (go_at_call 11; refine (HP.out _ _ _ (ha4 w)).mono ?_; rintro e w1 ⟨G1, c1, rfl, s1, hb1⟩)
    | (refine wpList_store_row rfl 25 _ _ rfl w1.heap.size (flt 0 0) rfl rfl 25 (flt 0 0) ((Row.newEq _ _ _ _ _ rfl rfl)) (by rw [flt_size]; exact cellsF) rfl (all_one (flt_one _ _)) ?_))
  have hk1 := blw_new1 w1 (.cells #[.int .i64 0, .int .i64 0] 25) (flt 0 0)
  have hb0 : Below w.heap.size w w1 := up_call ((Below.refl _ _).alloc (Nat.le_refl _) _) hb1
  refine wp_world (F := fun W => Row W w1.heap.size 25 (flt 0 0) ∧ Tks W W.heap.size G1 2 (tz exl) ∧ Below w.heap.size w W) ⟨row_new1 _ _ _ _, s1.up hk1, up_call hb0 hk1⟩ ?_
  generalize w1.heap.size = g2
  clear hk1 hb0 hb1 s1 w1 HP
  rintro W1 ⟨r2, s1, hb⟩
  have kc2 : ∀ x, (convert 22 22 (.slice (some ⟨W1.heap.size + 1, 0, none⟩) 3 3)).run Try.prog ((W1.alloc x).alloc (.cells #[.int .u8 97, .int .u8 98, .int .u8 99] 5)) = .ok (.slice (some ⟨W1.heap.size + 1, 0, none⟩) 3 3) ((W1.alloc x).alloc (.cells #[.int .u8 97, .int .u8 98, .int .u8 99] 5 (3, 4))) := fun x => by
    have h := kc (W1.alloc x) #[.int .u8 97, .int .u8 98, .int .u8 99] 3 3
    rw [show (W1.alloc x).heap.size = W1.heap.size + 1 by simp] at h
    exact h
  have hc3a : ∀ x, Sl ((W1.alloc x).alloc (.cells #[.int .u8 97, .int .u8 98, .int .u8 99] 5 (3, 4))) ((W1.alloc x).alloc (.cells #[.int .u8 97, .int .u8 98, .int .u8 99] 5 (3, 4))).heap.size (some ⟨W1.heap.size + 1, 0, none⟩) 3 (bl abc) := fun x => by
    rw [show W1.heap.size + 1 = (W1.alloc x).heap.size by simp]
    exact hc3 _
  go_upto_region 3 with (first
    | (refine wpList_tk rfl _ rfl 3 4 0 rfl ?_)
    | (go_at_call 16; refine (HE.out _ _ _ _ _ ((tks_one W1 3 4 (3, 4, 0) 0 rfl rfl).up ((Below.refl _ _).alloc (Nat.le_refl _) _)) (hc3a _)).mono ?_; rintro e w2 ⟨G2, c2, rfl, s2, hb2⟩)
    | (refine wpList_store_row rfl 25 _ _ rfl w2.heap.size (flt 0 0) rfl rfl 25 (flt 0 0) ((Row.newEq _ _ _ _ _ rfl rfl)) (by rw [flt_size]; exact cellsF) rfl (all_one (flt_one _ _)) ?_))
  have hk1 := blw_new1 w2 (.cells #[.int .i64 0, .int .i64 0] 25) (flt 0 0)
  have hb0 := up_call (((Below.refl W1.heap.size W1).alloc (Nat.le_refl _) _).alloc (by simp) _) hb2
  refine wp_world (F := fun W => Row W w2.heap.size 25 (flt 0 0) ∧ Row W g2 25 (flt 0 0) ∧ Tks W W.heap.size G1 2 (tz exl) ∧ Sl W W.heap.size G2 4 (bl abca) ∧ Below w.heap.size w W) ⟨row_new1 _ _ _ _, (r2.below hb0 r2.lt).below hk1 (Nat.lt_of_lt_of_le r2.lt hb0.size), (s1.up hb0).up hk1, s2.up hk1, up_call (up_call hb hb0) hk1⟩ ?_
  generalize w2.heap.size = g4
  clear hk1 hb0 hb2 s2 s1 r2 hb w2 HE
  rintro W2 ⟨r4, r2, s1, s2, hb⟩
  go_upto_region 4 with (first
    | (refine wpList_tk rfl _ rfl 2 5 0 rfl ?_)
    | (go_at_call 21; refine (HC.out _ _ _ (tks_one W2 2 5 (2, 5, 0) 0 rfl rfl)).mono ?_; rintro e w3 ⟨rfl, hb3⟩)
    | (refine wpList_store_row rfl 25 _ _ rfl w3.heap.size (flt 0 0) rfl rfl 25 (flt 0 0) ((Row.newEq _ _ _ _ _ rfl rfl)) (by rw [flt_size]; exact cellsF) rfl (all_one (flt_one _ _)) ?_))
  have hk1 := blw_new1 w3 (.cells #[.int .i64 0, .int .i64 0] 25) (flt 0 0)
  have hb0 := up_call ((Below.refl W2.heap.size W2).alloc (Nat.le_refl _) _) hb3
  refine wp_world (F := fun W => Row W w3.heap.size 25 (flt 0 0) ∧ Row W g4 25 (flt 0 0) ∧ Row W g2 25 (flt 0 0) ∧ Tks W W.heap.size G1 2 (tz exl) ∧ Sl W W.heap.size G2 4 (bl abca) ∧ Below w.heap.size w W) ⟨row_new1 _ _ _ _, (r4.below hb0 r4.lt).below hk1 (Nat.lt_of_lt_of_le r4.lt hb0.size), (r2.below hb0 r2.lt).below hk1 (Nat.lt_of_lt_of_le r2.lt hb0.size), (s1.up hb0).up hk1, (s2.up hb0).up hk1, up_call (up_call hb hb0) hk1⟩ ?_
  generalize w3.heap.size = g6
  clear hk1 hb0 hb3 s2 s1 r2 r4 hb w3 HC
  rintro W3 ⟨r6, r4, r2, s1, s2, hb⟩
  go_upto_region 5 with (first
    | (go_at_call 22; refine (HN.out _ _ _ s1).mono ?_; rintro e w4 ⟨G4, c4, rfl, s4, hb4⟩)
    | (refine wpList_store_row rfl 43 _ _ rfl w4.heap.size (bcs G4 k c4 12) rfl rfl 43 (bcs none 0 0 0) (Row.alloc (Row.newEq _ _ _ _ _ rfl rfl) _) (by rw [bcs_size]; exact cellsB) rfl (all_one (bcs_one _ _ _ _)) ?_)
    | (refine wpList_store_row rfl 25 _ _ rfl (w4.heap.size + 1) (flt 0 0) rfl rfl 25 (flt 0 0) (row_far_new2 _ _ _ _ _ _) (by rw [flt_size]; exact cellsF) rfl (all_one (flt_one _ _)) ?_))
  have hk1 := blw_new2 w4 (.cells #[.slice none 0 0, .int .i64 0] 43) (.cells #[.int .i64 0, .int .i64 0] 25) (bcs G4 k c4 12) (flt 0 0)
  have hk2 := up_call hb4 hk1
  refine wp_world (F := fun W => (Row W w4.heap.size 43 (bcs G4 k c4 12) ∧ Row W (w4.heap.size + 1) 25 (flt 0 0)) ∧ Row W g6 25 (flt 0 0) ∧ Row W g4 25 (flt 0 0) ∧ Row W g2 25 (flt 0 0) ∧ Tks W W.heap.size G1 2 (tz exl) ∧ Sl W W.heap.size G2 4 (bl abca) ∧ Sl W W.heap.size G4 k (bl (pack (codeT exl))) ∧ Below w.heap.size w W)
    ⟨⟨row_new2a _ _ _ _ _ _ _, row_new2b _ _ _ _ _ _ _⟩, r6.below hk2 r6.lt, r4.below hk2 r4.lt, r2.below hk2 r2.lt, s1.up hk2, s2.up hk2, s4.up hk1, up_call hb hk2⟩ ?_
  generalize w4.heap.size = g7
  clear hk1 hk2 hb4 s4 s2 s1 r2 r4 r6 hb w4 HN
  rintro W4 ⟨⟨r7, r8⟩, r6, r4, r2, s1, s2, s4, hb⟩
  go_upto_region 6 with (first
    | (refine wpList_load_row rfl 43 _ rfl g7 rfl 43 (bcs G4 k c4 12) (0, 0) _ (r7) Try.underlying43 rfl (by rw [bcs_size]; exact cellsB) ?_)
    | (go_at_call 27; refine (HD.out _ _ _ s4).mono ?_; rintro e w5 ⟨G5, c5, rfl, s5, hb5⟩)
    | (refine wpList_store_row rfl 25 _ _ rfl w5.heap.size (flt 0 0) rfl rfl 25 (flt 0 0) ((Row.newEq _ _ _ _ _ rfl rfl)) (by rw [flt_size]; exact cellsF) rfl (all_one (flt_one _ _)) ?_))
  have hk1 := blw_new1 w5 (.cells #[.int .i64 0, .int .i64 0] 25) (flt 0 0)
  have hk2 := up_call hb5 hk1
  refine wp_world (F := fun W => Row W w5.heap.size 25 (flt 0 0) ∧ (Row W g7 43 (bcs G4 k c4 12) ∧ Row W (g7 + 1) 25 (flt 0 0)) ∧ Row W g6 25 (flt 0 0) ∧ Row W g4 25 (flt 0 0) ∧ Row W g2 25 (flt 0 0) ∧ Tks W W.heap.size G1 2 (tz exl) ∧ Sl W W.heap.size G2 4 (bl abca) ∧ Tks W W.heap.size G5 2 (tz exl) ∧ Below w.heap.size w W)
    ⟨row_new1 _ _ _ _, ⟨r7.below hk2 r7.lt, r8.below hk2 r8.lt⟩, r6.below hk2 r6.lt, r4.below hk2 r4.lt, r2.below hk2 r2.lt, s1.up hk2, s2.up hk2, s5.up hk1, up_call hb hk2⟩ ?_
  generalize w5.heap.size = g11
  clear hk1 hk2 hb5 s5 s4 s2 s1 r2 r4 r6 r7 r8 hb w5 HD
  rintro W5 ⟨r11, ⟨r7, r8⟩, r6, r4, r2, s1, s2, s5, hb⟩
  have k2 : W5.cell? ⟨g2, 0, none⟩ = some (.int .i64 0) := (r2.cell 0).trans rfl
  have k4 : W5.cell? ⟨g4, 0, none⟩ = some (.int .i64 0) := (r4.cell 0).trans rfl
  have k6 : W5.cell? ⟨g6, 0, none⟩ = some (.int .i64 0) := (r6.cell 0).trans rfl
  have k8 : W5.cell? ⟨g7 + 1, 0, none⟩ = some (.int .i64 0) := (r8.cell 0).trans rfl
  have k11 : W5.cell? ⟨g11, 0, none⟩ = some (.int .i64 0) := (r11.cell 0).trans rfl
  go_upto_region 9 with (first
    | (refine wpList_exl rfl _ _ rfl rfl rfl ?_))
  have hbw := (Below.refl W5.heap.size W5).alloc (Nat.le_refl _) (.cells #[.int .i64 0, .int .i64 0, .int .u8 97, .int .i64 1, .int .i64 3, .int .u8 0] 37)
  have se := tks_exl W5
  refine wp_world (F := fun W => Row W g7 43 (bcs G4 k c4 12) ∧ Tks W W.heap.size (some ⟨W5.heap.size, 0, none⟩) 2 (tz exl) ∧ Tks W W.heap.size G1 2 (tz exl) ∧ Sl W W.heap.size G2 4 (bl abca) ∧ Tks W W.heap.size G5 2 (tz exl) ∧ Below w.heap.size w W) ⟨r7.below hbw r7.lt, se, s1.up hbw, s2.up hbw, s5.up hbw, up_call hb hbw⟩ ?_
  generalize W5.heap.size = g12
  clear hbw se k2 k4 k6 k8 k11 s1 s2 s5 r2 r4 r6 r7 r8 r11 hb W5
  rintro W6 ⟨r7, se, s1, s2, s5, hb⟩
  go_wp2_with (first
    | (go_at_call 14; (with_reducible refine (tokens_yes (tz exl) 2 (by omega) _ _ _ _ W6 s1 se).mono ?_); rintro e w6 ⟨rfl, hb6⟩; have q7 := r7.below hb6 r7.lt; have p2 := s2.up hb6; have p5 := s5.up hb6; have pe := se.up hb6)
    | (go_at_call 20; (refine (same_any _ _ abca abca 4 4 _ _ _ (p2.up ((Below.refl _ _).alloc (Nat.le_refl _) _)) (hc4 w6)).mono ?_); rintro e w7 ⟨rfl, h7⟩; subst w7; have hb7 : Below w6.heap.size w6 (w6.alloc (.cells #[.int .u8 97, .int .u8 98, .int .u8 99, .int .u8 97] 5 (4, 5))) := (Below.refl _ _).alloc (Nat.le_refl _) _; have k12 := (((q7.below hb7 q7.lt).cell 1).trans rfl : _ = some (Value.int .i64 12)))
    | (go_at_call 14; (refine (tokens_yes (tz exl) 2 (by omega) _ _ _ _ _ (p5.up hb7) (pe.up hb7)).mono ?_); rintro e w8 ⟨rfl, hb8⟩)
    | (go_at_call 18; refine (HV.out _).mono ?_; rintro e w9 ⟨rfl, hb9⟩))
  go_ret
  exact ⟨rfl, up_call (up_call (up_call (up_call hb hb6) hb7) hb8) hb9⟩
end Go.Proofs.Ytahihgmlkcbfiaa
