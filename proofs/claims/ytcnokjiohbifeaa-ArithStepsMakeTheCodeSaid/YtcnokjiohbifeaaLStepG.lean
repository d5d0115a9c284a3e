/-
  The walk of ArithStepsMakeTheCode where Encode takes the list and it has at most 250 choices: what Put and Finish send, joined, is the code.
-/
import Derived.Test.YtcnokjiohbifeaaLStepA
import Derived.Test.YtcnokjiohbifeaaLStepB
import Derived.Deep.RegionHeld3
import Derived.Deep.CutRange
namespace Go.Proofs.Ytcnokjiohbifeaa.lawSteps
open Go.RowKit

theorem isRow_drewN (w : World) (k g n : Nat) : IsRow (w.drewN k) g n = IsRow w g n := rfl
theorem rowAt_drewN (w : World) (k g : Nat) : rowAt (w.drewN k) g = rowAt w g := rfl
attribute [local go_sem ↓] wp_load_flat run_load_flat
attribute [local go_sem] isRow_drewN rowAt_drewN blkOf_ptr cells_agg sizedB sizeTB aggB sizedF sizeTF aggF sizedCd sizeTCd aggCd
theorem wpAnyH_world {P : Program} {md : Region.Mode} {ops : Array Oper} {Q : Exit → Act → World → Prop} {S : World → Prop} {fuel : Nat} {listed : Array Bool} {a : Act} {w : World} {F : World → Prop} (hF : F w) (h : ∀ w', F w' → wpAnyH P md ops Q S fuel listed a w') : wpAnyH P md ops Q S fuel listed a w := h w hF
theorem wp_st {P : Program} {ops : Array Oper} {E : Prop} {o : Oper} {a : Act} {w : World} {K : Act → World → Prop} {Q : Exit → Act → World → Prop} (hgd : o.guard = none) (x y : Operand) (ty : TypeId) (ho : o.op = .store ty x y) (g : Nat) (hx : a.eval x = .pointer (some ⟨g, 0, none⟩)) (cs : Array Value) (hy : a.eval y = .agg cs)
    (t : TypeId) (old : Array Value) (hr : Row w g t old) (hi : (P.info? ty).map (·.size) = some cs.size) (he : old.size = cs.size) (h1 : cs.all (·.oneCell') = true) (h : K (a.put o.dst undef) (w.setRow g cs)) : if Region.wanted o (yielded ops a.tmps) = true then Oper.wp P o a w K Q else E := by
  have hw : Region.wanted o (yielded ops a.tmps) = true := by simp [Region.wanted, hgd]
  rw [if_pos hw]
  have h2 := run_storeVar_row (P := P) w g t ty old cs hr hi he h1
  unfold Oper.wp execOp
  simp only [ho, hx, hy, Instr.storeAt, Instr.sureAddr, Sem.run_bind, Sem.run_pure, Result.andThen_ok, h2]
  exact h
theorem Sl.rowHere {w : World} {n g : Nat} {A : Option Addr} {t : TypeId} {cs : Array Value} {L : List UInt8} (h : Sl w w.heap.size A n (bl L)) (r : Row w g t cs) (hx : NoU8 cs) (ds : Array Value) : Sl (w.setRow g ds) (w.setRow g ds).heap.size A n (bl L) := by
  rw [show (w.setRow g ds).heap.size = w.heap.size by simp]
  exact h.rowFar r hx ds
theorem coder_of {L H q : Nat} (h : WideR L H) (hq : q ≤ 131056) : CoderZ L H q := by
  obtain ⟨h1, h2, h3, h4⟩ := h
  unfold CoderZ WideZ
  omega

set_option maxRecDepth 100000 in
set_option maxHeartbeats 16000000 in
theorem walk_good (l : List (Bool × Nat)) (hg : GoodP l) (n : Nat) (hn : n = l.length) (hl : n ≤ 250) (A : Option Addr) (cp : Nat) (w : World) (hS : Chs w w.heap.size A n (cz l)) :
    Calls Try.prog 8 #[.slice A n cp] w fun e w' => e = .returned (.bool true) ∧ Below w.heap.size w w' := by
  have t1 : decide ((250 : Int) < (n : Int)) = false := decide_eq_false (by omega)
  have t2 : decide (250 < n) = false := decide_eq_false (by omega)
  have he := Encode_ok l hg n hn (by omega) A cp w hS
  obtain ⟨cd, hcd⟩ : ∃ cd, cd = codeN l := ⟨_, rfl⟩
  rw [← hcd] at he
  have HS := Lib.hid hS
  have HL := Lib.hid (And.intro hcd (And.intro hn hg))
  clear hS hcd hn hg
  go_enter Try.func8, Try.ntmps8
  go_upto_region 2 with (first
    | (go_at_call 29; refine he.mono ?_; rintro e w1 ⟨A1, c1, rfl, s1, hb1⟩)
    | (refine wpList_store_row rfl 26 _ _ rfl w1.heap.size (bcs A1 (pack cd).length c1 cd.length) rfl rfl 26 (bcs none 0 0 0) ((Row.newEq _ _ _ _ _ rfl rfl).alloc _) (by rw [bcs_size]; exact cellsB) rfl (all_one (bcs_one _ _ _ _)) ?_)
    | (refine wpList_store_row rfl 28 _ _ rfl (w1.heap.size + 1) (flt 0 0) rfl rfl 28 (flt 0 0) (row_far_new2 _ _ _ _ _ _) (by rw [flt_size]; exact cellsF) rfl (all_one (flt_one _ _)) ?_))
  have hk0 := blw_new2 w1 (.cells #[.slice none 0 0, .int .i64 0] 26) (.cells #[.int .i64 0, .int .i64 0] 28) (bcs A1 (pack cd).length c1 cd.length) (flt 0 0)
  have hk := up_call hb1 hk0
  refine wp_world (F := fun W => Row W w1.heap.size 26 (bcs A1 (pack cd).length c1 cd.length) ∧ Row W (w1.heap.size + 1) 28 (flt 0 0) ∧ Sl W W.heap.size A1 (pack cd).length (bl (pack cd)) ∧ Chs W W.heap.size A n (cz l) ∧ Below w.heap.size w W)
    ⟨row_new2a _ _ _ _ _ _ _, row_new2b _ _ _ _ _ _ _, s1.up hk0, HS.out.up hk, hk⟩ ?_
  generalize w1.heap.size = g3
  clear hk hk0 hb1 s1 w1
  rintro W1 ⟨r3, r4, s1, hC, hb⟩
  clear he HS
  go_upto_region 4 with (first
    | (go_at_call 13; refine (codes_any _).mono ?_; rintro e w14 ⟨rfl, hb14⟩; have k0 : w14.cell? ⟨g3 + 1, 0, none⟩ = some (.int .i64 0) := ((r4.below hb14 r4.lt).cell 0).trans rfl; have q3 := r3.below hb14 r3.lt; have s2 := s1.up hb14; have hC2 := hC.up hb14; have hb2 := up_call hb hb14))
  clear t1 t2 k0
  go_upto_region 5 with (first
    | (go_at_call 14; refine (start_any _).mono ?_; rintro e w5 ⟨rfl, hb5⟩)
    | (refine wpList_store_row rfl 23 _ _ rfl w5.heap.size (cds 0 65535 0) rfl rfl 23 (cds 0 0 0) (Row.newEq _ _ _ _ _ rfl rfl) (by rw [cds_size]; exact cellsCd) rfl (all_one (cds_one _ _ _)) ?_))
  have hk0 := blw_new1 w5 (.cells #[.int .i64 0, .int .i64 0, .int .i64 0] 23) (cds 0 65535 0)
  have hk := up_call hb5 hk0
  refine wp_world (F := fun W => Row W w5.heap.size 23 (cds 0 65535 0) ∧ Row W g3 26 (bcs A1 (pack cd).length c1 cd.length) ∧ g3 < w5.heap.size ∧ Sl W w5.heap.size A1 (pack cd).length (bl (pack cd)) ∧ Chs W w5.heap.size A n (cz l) ∧ w.heap.size ≤ w5.heap.size ∧ Below w.heap.size w W)
    ⟨row_new1 _ _ _ _, q3.below hk q3.lt, Nat.lt_of_lt_of_le q3.lt hb5.size, (s2.up hb5).below hk0, (hC2.up hb5).below hk0, (up_call hb2 hb5).size, up_call hb2 hk⟩ ?_
  generalize w5.heap.size = g5
  clear hk hk0 hb5 w5 q3 s2 hC2 hb2 hb14 w14 r3 r4 s1 hC hb W1
  rintro W5 ⟨rc, r3, hg3, s1, hC, hwg, hb⟩
  have HC := Lib.hid hC
  clear hC
  go_upto_region 7 with (fail)
  go_loopw [6, 7] (fun v i wr => ∃ (j x y q : Nat) (ks : List Nat) (qs : List (List Bool × Option Addr × Nat)), j ≤ n ∧ i = .int .i64 j ∧ q ≤ 14 * j ∧ Hid (runN 0 65535 (l.take j) = (x, y, ks) ∧ sentN 0 ks = ((qs.map (·.1)).flatten, q)) ∧ Row wr g5 23 (cds x y q) ∧ Hid (PtS wr g5 v j qs) ∧ Below g5 W5 wr) (fun _ i _ => n - (intOf i).toNat)
  case atStart => exact ⟨0, 0, 65535, 0, [], [], Nat.zero_le _, rfl, Nat.zero_le _, Lib.hid ⟨by rw [List.take_zero]; rfl, rfl⟩, rc, Lib.hid (PtS.nil _ _), Below.refl _ _⟩
  case round =>
    clear rc
    obtain ⟨j, x, y, q, ks, qs, hj, rfl, hq, HR, rc, HP, hbr⟩ := hrel
    obtain ⟨A6, c6, hv6⟩ := HP.out.form
    subst hv6
    by_cases hlt : j < n
    · obtain ⟨ad, rfl, hbl, k1, k2⟩ := (HC.out.below hbr).at_ hlt
      have hadb : (ad.add (j * 2)).block < wr.heap.size := by rw [add_block]; exact Nat.lt_trans hbl rc.lt
      have hjl : j < l.length := by rw [← HL.out.2.1]; exact hlt
      rw [cz_getD l j hjl] at k1 k2
      obtain ⟨b, p, hbp⟩ : ∃ b p, l[j] = (b, p) := ⟨_, _, rfl⟩
      have hgp := HL.out.2.2 l[j] (List.getElem_mem hjl)
      obtain ⟨hr, hs⟩ := HR.out
      have hw := (run_ok (l.take j) 0 65535 (by decide) (good_take HL.out.2.2 j)).1
      rw [hr] at hw
      have hsn := run_snoc l j hjl x y ks hr
      rw [hbp] at k1 k2 hgp hsn
      simp only at k1 k2 hgp hsn hw
      obtain ⟨hp1, hp2⟩ := hgp
      obtain ⟨fL, fH, s, hf⟩ : ∃ fL fH s, stepN x y p b = (fL, fH, s) := ⟨_, _, _, rfl⟩
      have hst := (step_ok hw hp1 hp2 b).2.1
      have hss := sent_append ks s 0
      have hsl := sent_length s q
      rw [hs] at hss
      simp only at hss
      rw [hf] at hsn hst
      simp only at hsn hst
      have hput := Put_ok x y q p b (coder_of hw (by omega)) hp1 hp2 (by rw [hf]; simp only; omega)
      rw [hf] at hput
      simp only at hput
      obtain ⟨o2, q2, ho2⟩ : ∃ o2 q2, sentN q s = (o2, q2) := ⟨_, _, rfl⟩
      rw [ho2] at hput hss hsl
      simp only at hput hss hsl
      have hq2 : q2 ≤ 14 * (j + 1) := by omega
      have ho2l : o2.length ≤ 131072 := by omega
      have hfl : ∀ (A1 : Option Addr) (c1 : Nat), ((qs ++ [(o2, A1, c1)]).map (·.1)).flatten = (qs.map (·.1)).flatten ++ o2 := fun A1 c1 => by simp
      have HR2 := Lib.hid (fun (A1 : Option Addr) (c1 : Nat) => And.intro hsn (show sentN 0 (ks ++ s) = (((qs ++ [(o2, A1, c1)]).map (·.1)).flatten, q2) by rw [hfl A1 c1]; exact hss))
      obtain ⟨bz, hbz⟩ : ∃ z : Int, z = ((b.toNat : Nat) : Int) := ⟨_, rfl⟩
      rw [← hbz] at k1 hput
      have HPUT := Lib.hid hput
      have hj250 : j ≤ 1000 := by omega
      clear hput hr hs hw hsn hbp hp1 hp2 hf hst hss hsl ho2 hbz HR hq hjl hfl hbl
      go_upto_region 9 with (fail)
      go_cut [8, 9, 10] from 44 to 73 (fun s8 s9 s10 W => ∃ (g8 g9 g10 : Nat) (A1 : Option Addr) (c1 : Nat), s8 = .pointer (some ⟨g8, 0, none⟩) ∧ s9 = .pointer (some ⟨g9, 0, none⟩) ∧ s10 = .pointer (some ⟨g10, 0, none⟩) ∧ Row W g8 23 (cds fL fH q2) ∧ Row W g9 26 (bcs A1 (pack o2).length c1 o2.length) ∧ Row W g10 28 (flt 0 0) ∧ Sl W W.heap.size A1 (pack o2).length (bl (pack o2)) ∧ Below wr.heap.size wr W)
      case first =>
        have hkeep : ∀ W, Below wr.heap.size wr W → IsRow W g5 3 ∧ rowAt W g5 = cds x y q ∧ W.cell? (ad.add (j * 2)) = some (.int .i64 bz) ∧ W.cell? ⟨(ad.add (j * 2)).block, (ad.add (j * 2)).off + 1, none⟩ = some (.int .i64 (p : Int)) := fun W h => ⟨(rc.below h rc.lt).is rfl, (rc.below h rc.lt).at, (h.cell (p := ad.add (j * 2)) hadb).trans k1, (h.cell (p := ⟨(ad.add (j * 2)).block, (ad.add (j * 2)).off + 1, none⟩) hadb).trans k2⟩
        have HK := Lib.hid hkeep
        have kk : Below wr.heap.size wr wr.drew := (Below.refl wr.heap.size wr).drew
        clear hkeep
        refine wp_region_held_drew (S := fun W => IsRow W g5 3 ∧ rowAt W g5 = cds x y q ∧ W.cell? (ad.add (j * 2)) = some (.int .i64 bz) ∧ W.cell? ⟨(ad.add (j * 2)).block, (ad.add (j * 2)).off + 1, none⟩ = some (.int .i64 (p : Int))) (by kernel_rfl) (HK.out _ kk) (fun hHeld => ?_)
        clear rc k1 k2
        refine wpAnyH_world (F := fun W => Below wr.heap.size wr W) kk ?_
        clear hHeld kk
        rintro w0 kk
        have hHeld := HK.out _ kk
        refine wpAnyH_take (i := 0) (v := ?_) rfl (by kernel_rfl) (by kernel_rfl) (by kernel_rfl) (fun _ _ _ h => h) (Or.inl ⟨by rfl, ?_⟩) (by assumption) ?_
        rotate_left
        · (rintro wx ⟨sw0, sw1, sw2, sw3⟩; try simp only [List.getElem_toArray, List.getElem_cons_zero]; go_simp; try with_reducible rfl)
        try simp only [List.getElem_toArray, List.getElem_cons_zero, Act.put, List.setIfInBounds_toArray, List.set_cons_zero, List.set_cons_succ]
        refine wpAnyH_take (i := 1) (v := ?_) rfl (by kernel_rfl) (by kernel_rfl) (by kernel_rfl) (fun _ _ _ h => h) (Or.inl ⟨by rfl, ?_⟩) (by assumption) ?_
        rotate_left
        · (rintro wx ⟨sw0, sw1, sw2, sw3⟩; try simp only [List.getElem_toArray, List.getElem_cons_succ, List.getElem_cons_zero]; go_simp; try with_reducible rfl)
        try simp only [List.getElem_toArray, List.getElem_cons_succ, List.getElem_cons_zero, Act.put, List.setIfInBounds_toArray, List.set_cons_zero, List.set_cons_succ]
        refine wpAnyH_take (i := 2) (v := ?_) rfl (by kernel_rfl) (by kernel_rfl) (by kernel_rfl) (fun _ _ _ h => h) (Or.inl ⟨by rfl, ?_⟩) (by assumption) ?_
        rotate_left
        · (rintro wx ⟨sw0, sw1, sw2, sw3⟩; try simp only [List.getElem_toArray, List.getElem_cons_succ, List.getElem_cons_zero]; go_simp; try with_reducible rfl)
        try simp only [List.getElem_toArray, List.getElem_cons_succ, List.getElem_cons_zero, Act.put, List.setIfInBounds_toArray, List.set_cons_zero, List.set_cons_succ]
        refine wpAnyH_take (i := 3) (v := .pointer (some (ad.add (j * 2)))) rfl (by kernel_rfl) (by kernel_rfl) (by kernel_rfl) (fun _ _ _ h => h) (Or.inl ⟨by rfl, ?_⟩) (by assumption) ?_
        · (rintro wx ⟨sw0, sw1, sw2, sw3⟩; try simp only [List.getElem_toArray, List.getElem_cons_succ, List.getElem_cons_zero]; go_simp; try with_reducible rfl)
        try simp only [List.getElem_toArray, List.getElem_cons_succ, List.getElem_cons_zero, Act.put, List.setIfInBounds_toArray, List.set_cons_zero, List.set_cons_succ]
        refine wpAnyH_take (i := 4) (v := ?_) rfl (by kernel_rfl) (by kernel_rfl) (by kernel_rfl) (fun _ _ _ h => h) (Or.inl ⟨by rfl, ?_⟩) (by assumption) ?_
        rotate_left
        · (rintro wx ⟨sw0, sw1, sw2, sw3⟩; try simp only [List.getElem_toArray, List.getElem_cons_succ, List.getElem_cons_zero]; go_simp; try with_reducible rfl)
        try simp only [List.getElem_toArray, List.getElem_cons_succ, List.getElem_cons_zero, Act.put, List.setIfInBounds_toArray, List.set_cons_zero, List.set_cons_succ]
        refine wpAnyH_take (i := 5) (v := ?_) rfl (by kernel_rfl) (by kernel_rfl) (by kernel_rfl) (fun _ _ _ h => h) (Or.inl ⟨by rfl, ?_⟩) (by assumption) ?_
        rotate_left
        · (rintro wx ⟨sw0, sw1, sw2, sw3⟩; try simp only [List.getElem_toArray, List.getElem_cons_succ, List.getElem_cons_zero]; go_simp; try with_reducible rfl)
        try simp only [List.getElem_toArray, List.getElem_cons_succ, List.getElem_cons_zero, Act.put, List.setIfInBounds_toArray, List.set_cons_zero, List.set_cons_succ]
        refine wpAnyH_take (i := 6) (v := ?_) rfl (by kernel_rfl) (by kernel_rfl) (by kernel_rfl) (fun _ _ _ h => h) (Or.inl ⟨by rfl, ?_⟩) (by assumption) ?_
        rotate_left
        · (rintro wx ⟨sw0, sw1, sw2, sw3⟩; try simp only [List.getElem_toArray, List.getElem_cons_succ, List.getElem_cons_zero]; go_simp; try with_reducible rfl)
        try simp only [List.getElem_toArray, List.getElem_cons_succ, List.getElem_cons_zero, Act.put, List.setIfInBounds_toArray, List.set_cons_zero, List.set_cons_succ]
        refine wpAnyH_take (i := 7) (v := ?_) rfl (by kernel_rfl) (by kernel_rfl) (by kernel_rfl) (fun _ _ _ h => h) (Or.inl ⟨by rfl, ?_⟩) (by assumption) ?_
        rotate_left
        · (rintro wx ⟨sw0, sw1, sw2, sw3⟩; try simp only [List.getElem_toArray, List.getElem_cons_succ, List.getElem_cons_zero]; go_simp; try with_reducible rfl)
        try simp only [List.getElem_toArray, List.getElem_cons_succ, List.getElem_cons_zero, Act.put, List.setIfInBounds_toArray, List.set_cons_zero, List.set_cons_succ]
        refine wpAnyH_take (i := 8) (v := .pointer (some (ad.add (j * 2)))) rfl (by kernel_rfl) (by kernel_rfl) (by kernel_rfl) (fun _ _ _ h => h) (Or.inl ⟨by rfl, ?_⟩) (by assumption) ?_
        · (rintro wx ⟨sw0, sw1, sw2, sw3⟩; try simp only [List.getElem_toArray, List.getElem_cons_succ, List.getElem_cons_zero]; go_simp; try with_reducible rfl)
        try simp only [List.getElem_toArray, List.getElem_cons_succ, List.getElem_cons_zero, Act.put, List.setIfInBounds_toArray, List.set_cons_zero, List.set_cons_succ]
        refine wpAnyH_take (i := 9) (v := ?_) rfl (by kernel_rfl) (by kernel_rfl) (by kernel_rfl) (fun _ _ _ h => h) (Or.inl ⟨by rfl, ?_⟩) (by assumption) ?_
        rotate_left
        · (rintro wx ⟨sw0, sw1, sw2, sw3⟩; try simp only [List.getElem_toArray, List.getElem_cons_succ, List.getElem_cons_zero]; go_simp; try with_reducible rfl)
        try simp only [List.getElem_toArray, List.getElem_cons_succ, List.getElem_cons_zero, Act.put, List.setIfInBounds_toArray, List.set_cons_zero, List.set_cons_succ]
        refine wpAnyH_take (i := 10) (v := ?_) rfl (by kernel_rfl) (by kernel_rfl) (by kernel_rfl) (fun _ _ _ h => h) (Or.inl ⟨by rfl, ?_⟩) (by assumption) ?_
        rotate_left
        · (rintro wx ⟨sw0, sw1, sw2, sw3⟩; try simp only [List.getElem_toArray, List.getElem_cons_succ, List.getElem_cons_zero]; go_simp; try with_reducible rfl)
        try simp only [List.getElem_toArray, List.getElem_cons_succ, List.getElem_cons_zero, Act.put, List.setIfInBounds_toArray, List.set_cons_zero, List.set_cons_succ]
        refine wpAnyH_ready (rs := [11, 16, 17, 18]) (by kernel_rfl) (by simp) ?_
        refine AllReadyH.cons rfl (fun K hK => ?_) (AllReadyH.cons rfl (fun K hK => ?_) (AllReadyH.cons rfl (fun K hK => ?_) (AllReadyH.cons rfl (fun K hK => ?_) AllReadyH.nil)))
        · try simp only [List.getElem_toArray, List.getElem_cons_succ, List.getElem_cons_zero]
          go_simp
          (go_at_call 11; refine (HPUT.out _).mono ?_; rintro e w1 ⟨A1, c1, rfl, s1, hbc⟩)
          try go_wp2_with fail
          replace kk := up_call kk hbc
          clear hbc
          refine hK.out _ _ (HK.out _ kk) (fun hHeld => ?_)
          clear hK K
          try simp only [List.getElem_toArray, List.getElem_cons_succ, List.getElem_cons_zero, Act.put, List.setIfInBounds_toArray, List.set_cons_zero, List.set_cons_succ]
          refine wpAnyH_take (i := 12) (v := ?_) rfl (by kernel_rfl) (by kernel_rfl) (by kernel_rfl) (fun _ _ _ h => h) (Or.inl ⟨by rfl, ?_⟩) (by assumption) ?_
          rotate_left
          · (rintro wx ⟨sw0, sw1, sw2, sw3⟩; try simp only [List.getElem_toArray, List.getElem_cons_succ, List.getElem_cons_zero]; go_simp; try with_reducible rfl)
          try simp only [List.getElem_toArray, List.getElem_cons_succ, List.getElem_cons_zero, Act.put, List.setIfInBounds_toArray, List.set_cons_zero, List.set_cons_succ]
          refine wpAnyH_take (i := 13) (v := ?_) rfl (by kernel_rfl) (by kernel_rfl) (by kernel_rfl) (fun _ _ _ h => h) (Or.inl ⟨by rfl, ?_⟩) (by assumption) ?_
          rotate_left
          · (rintro wx ⟨sw0, sw1, sw2, sw3⟩; try simp only [List.getElem_toArray, List.getElem_cons_succ, List.getElem_cons_zero]; go_simp; try with_reducible rfl)
          try simp only [List.getElem_toArray, List.getElem_cons_succ, List.getElem_cons_zero, Act.put, List.setIfInBounds_toArray, List.set_cons_zero, List.set_cons_succ]
          refine wpAnyH_take (i := 14) (v := ?_) rfl (by kernel_rfl) (by kernel_rfl) (by kernel_rfl) (fun _ _ _ h => h) (Or.inl ⟨by rfl, ?_⟩) (by assumption) ?_
          rotate_left
          · (rintro wx ⟨sw0, sw1, sw2, sw3⟩; try simp only [List.getElem_toArray, List.getElem_cons_succ, List.getElem_cons_zero]; go_simp; try with_reducible rfl)
          try simp only [List.getElem_toArray, List.getElem_cons_succ, List.getElem_cons_zero, Act.put, List.setIfInBounds_toArray, List.set_cons_zero, List.set_cons_succ]
          refine wpAnyH_take (i := 15) (v := ?_) rfl (by kernel_rfl) (by kernel_rfl) (by kernel_rfl) (fun _ _ _ h => h) (Or.inl ⟨by rfl, ?_⟩) (by assumption) ?_
          rotate_left
          · (rintro wx ⟨sw0, sw1, sw2, sw3⟩; try simp only [List.getElem_toArray, List.getElem_cons_succ, List.getElem_cons_zero]; go_simp; try with_reducible rfl)
          try simp only [List.getElem_toArray, List.getElem_cons_succ, List.getElem_cons_zero, Act.put, List.setIfInBounds_toArray, List.set_cons_zero, List.set_cons_succ]
          refine wpAnyH_ready (rs := [16, 17, 18]) (by kernel_rfl) (by simp) ?_
          refine AllReadyH.cons rfl (fun K hK => ?_) (AllReadyH.cons rfl (fun K hK => ?_) (AllReadyH.cons rfl (fun K hK => ?_) AllReadyH.nil))
          · try simp only [List.getElem_toArray, List.getElem_cons_succ, List.getElem_cons_zero]
            go_simp
            refine hK.out _ _ (HK.out _ (up_alloc kk _)) (fun _ => ?_)
            clear hK K
            try simp only [List.getElem_toArray, List.getElem_cons_succ, List.getElem_cons_zero, Act.put, List.setIfInBounds_toArray, List.set_cons_zero, List.set_cons_succ]
            refine wpAnyH_world (F := fun W => Row W w1.heap.size 23 (cds 0 0 0) ∧ wr.heap.size ≤ w1.heap.size ∧ Sl W W.heap.size A1 (pack o2).length (bl (pack o2)) ∧ Below wr.heap.size wr W) ⟨Row.newEq _ _ _ _ _ rfl rfl, kk.size, s1.up ((Below.refl _ _).alloc (Nat.le_refl _) _), up_alloc kk _⟩ ?_
            generalize w1.heap.size = g8
            clear hHeld kk  s1
            rintro w2 ⟨r8, l8, s1, kk⟩
            have hHeld := HK.out _ kk
            refine wpAnyH_ready (rs := [17, 18]) (by kernel_rfl) (by simp) ?_
            refine AllReadyH.cons rfl (fun K hK => ?_) (AllReadyH.cons rfl (fun K hK => ?_) AllReadyH.nil)
            · try simp only [List.getElem_toArray, List.getElem_cons_succ, List.getElem_cons_zero]
              go_simp
              refine hK.out _ _ (HK.out _ (up_alloc kk _)) (fun _ => ?_)
              clear hK K
              try simp only [List.getElem_toArray, List.getElem_cons_succ, List.getElem_cons_zero, Act.put, List.setIfInBounds_toArray, List.set_cons_zero, List.set_cons_succ]
              refine wpAnyH_world (F := fun W => Row W w2.heap.size 26 (bcs none 0 0 0) ∧ wr.heap.size ≤ w2.heap.size ∧ Row W g8 23 (cds 0 0 0) ∧ g8 ≠ w2.heap.size ∧ Sl W W.heap.size A1 (pack o2).length (bl (pack o2)) ∧ Below wr.heap.size wr W) ⟨Row.newEq _ _ _ _ _ rfl rfl, kk.size, r8.alloc _, Nat.ne_of_lt r8.lt, s1.up ((Below.refl _ _).alloc (Nat.le_refl _) _), up_alloc kk _⟩ ?_
              generalize w2.heap.size = g9
              clear hHeld kk r8 s1
              rintro w3 ⟨r9, l9, r8, n8_9, s1, kk⟩
              have hHeld := HK.out _ kk
              refine wpAnyH_ready (rs := [18]) (by kernel_rfl) (by simp) ?_
              refine AllReadyH.cons rfl (fun K hK => ?_) AllReadyH.nil
              · try simp only [List.getElem_toArray, List.getElem_cons_succ, List.getElem_cons_zero]
                go_simp
                refine hK.out _ _ (HK.out _ (up_alloc kk _)) (fun _ => ?_)
                clear hK K
                try simp only [List.getElem_toArray, List.getElem_cons_succ, List.getElem_cons_zero, Act.put, List.setIfInBounds_toArray, List.set_cons_zero, List.set_cons_succ]
                refine wpAnyH_world (F := fun W => Row W w3.heap.size 28 (flt 0 0) ∧ wr.heap.size ≤ w3.heap.size ∧ Row W g8 23 (cds 0 0 0) ∧ g8 ≠ w3.heap.size ∧ Row W g9 26 (bcs none 0 0 0) ∧ g9 ≠ w3.heap.size ∧ Sl W W.heap.size A1 (pack o2).length (bl (pack o2)) ∧ Below wr.heap.size wr W) ⟨Row.newEq _ _ _ _ _ rfl rfl, kk.size, r8.alloc _, Nat.ne_of_lt r8.lt, r9.alloc _, Nat.ne_of_lt r9.lt, s1.up ((Below.refl _ _).alloc (Nat.le_refl _) _), up_alloc kk _⟩ ?_
                generalize w3.heap.size = g10
                clear hHeld kk r8 r9 s1
                rintro w4 ⟨r10, l10, r8, n8_10, r9, n9_10, s1, kk⟩
                have hHeld := HK.out _ kk
                refine wpAnyH_ready (rs := [19]) (by kernel_rfl) (by simp) ?_
                refine AllReadyH.cons rfl (fun K hK => ?_) AllReadyH.nil
                (refine wp_st (by rfl) _ _ 23 (by rfl) g8 (by rfl) (cds fL fH q2) (by rfl) 23 (cds 0 0 0) r8 (by rw [cds_size]; exact cellsCd) rfl (all_one (cds_one _ _ _)) ?_)
                replace r9 := r9.rowFar (show g9 ≠ g8 by omega) (cds fL fH q2)
                replace r10 := r10.rowFar (show g10 ≠ g8 by omega) (cds fL fH q2)
                have r8z := r8
                replace s1 := Sl.rowHere s1 r8z (no_cds _ _ _) (cds fL fH q2)
                replace r8 := Row.row r8z (cds fL fH q2)
                clear r8z
                replace kk := blw_row kk l8 (cds fL fH q2)
                refine hK.out _ _ (HK.out _ kk) (fun hHeld => ?_)
                clear hK K
                try simp only [List.getElem_toArray, List.getElem_cons_succ, List.getElem_cons_zero, Act.put]
                refine wpAnyH_ready (rs := [20]) (by kernel_rfl) (by simp) ?_
                refine AllReadyH.cons rfl (fun K hK => ?_) AllReadyH.nil
                (refine wp_st (by rfl) _ _ 26 (by rfl) g9 (by rfl) (bcs A1 (pack o2).length c1 o2.length) (by rfl) 26 (bcs none 0 0 0) r9 (by rw [bcs_size]; exact cellsB) rfl (all_one (bcs_one _ _ _ _)) ?_)
                replace r8 := r8.rowFar (show g8 ≠ g9 by omega) (bcs A1 (pack o2).length c1 o2.length)
                replace r10 := r10.rowFar (show g10 ≠ g9 by omega) (bcs A1 (pack o2).length c1 o2.length)
                have r9z := r9
                replace s1 := Sl.rowHere s1 r9z (no_bcs _ _ _ _) (bcs A1 (pack o2).length c1 o2.length)
                replace r9 := Row.row r9z (bcs A1 (pack o2).length c1 o2.length)
                clear r9z
                replace kk := blw_row kk l9 (bcs A1 (pack o2).length c1 o2.length)
                refine hK.out _ _ (HK.out _ kk) (fun hHeld => ?_)
                clear hK K
                try simp only [List.getElem_toArray, List.getElem_cons_succ, List.getElem_cons_zero, Act.put]
                refine wpAnyH_ready (rs := [21]) (by kernel_rfl) (by simp) ?_
                refine AllReadyH.cons rfl (fun K hK => ?_) AllReadyH.nil
                (refine wp_st (by rfl) _ _ 28 (by rfl) g10 (by rfl) (flt 0 0) (by rfl) 28 (flt 0 0) r10 (by rw [flt_size]; exact cellsF) rfl (all_one (flt_one _ _)) ?_)
                replace r8 := r8.rowFar (show g8 ≠ g10 by omega) (flt 0 0)
                replace r9 := r9.rowFar (show g9 ≠ g10 by omega) (flt 0 0)
                have r10z := r10
                replace s1 := Sl.rowHere s1 r10z (no_flt _ _) (flt 0 0)
                replace r10 := Row.row r10z (flt 0 0)
                clear r10z
                replace kk := blw_row kk l10 (flt 0 0)
                refine hK.out _ _ (HK.out _ kk) (fun hHeld => ?_)
                clear hK K
                try simp only [List.getElem_toArray, List.getElem_cons_succ, List.getElem_cons_zero, Act.put]
                refine wpAnyH_done (by kernel_rfl) ?_ _
                go_wp2_with fail
                go_meet
                exact ⟨g8, g9, g10, A1, c1, rfl, rfl, rfl, r8, r9, r10, s1, kk⟩
            · try simp only [List.getElem_toArray, List.getElem_cons_succ, List.getElem_cons_zero]
              go_simp
              refine hK.out _ _ (HK.out _ (up_alloc kk _)) (fun _ => ?_)
              clear hK K
              try simp only [List.getElem_toArray, List.getElem_cons_succ, List.getElem_cons_zero, Act.put, List.setIfInBounds_toArray, List.set_cons_zero, List.set_cons_succ]
              refine wpAnyH_world (F := fun W => Row W w2.heap.size 28 (flt 0 0) ∧ wr.heap.size ≤ w2.heap.size ∧ Row W g8 23 (cds 0 0 0) ∧ g8 ≠ w2.heap.size ∧ Sl W W.heap.size A1 (pack o2).length (bl (pack o2)) ∧ Below wr.heap.size wr W) ⟨Row.newEq _ _ _ _ _ rfl rfl, kk.size, r8.alloc _, Nat.ne_of_lt r8.lt, s1.up ((Below.refl _ _).alloc (Nat.le_refl _) _), up_alloc kk _⟩ ?_
              generalize w2.heap.size = g10
              clear hHeld kk r8 s1
              rintro w3 ⟨r10, l10, r8, n8_10, s1, kk⟩
              have hHeld := HK.out _ kk
              refine wpAnyH_ready (rs := [17]) (by kernel_rfl) (by simp) ?_
              refine AllReadyH.cons rfl (fun K hK => ?_) AllReadyH.nil
              · try simp only [List.getElem_toArray, List.getElem_cons_succ, List.getElem_cons_zero]
                go_simp
                refine hK.out _ _ (HK.out _ (up_alloc kk _)) (fun _ => ?_)
                clear hK K
                try simp only [List.getElem_toArray, List.getElem_cons_succ, List.getElem_cons_zero, Act.put, List.setIfInBounds_toArray, List.set_cons_zero, List.set_cons_succ]
                refine wpAnyH_world (F := fun W => Row W w3.heap.size 26 (bcs none 0 0 0) ∧ wr.heap.size ≤ w3.heap.size ∧ Row W g8 23 (cds 0 0 0) ∧ g8 ≠ w3.heap.size ∧ Row W g10 28 (flt 0 0) ∧ g10 ≠ w3.heap.size ∧ Sl W W.heap.size A1 (pack o2).length (bl (pack o2)) ∧ Below wr.heap.size wr W) ⟨Row.newEq _ _ _ _ _ rfl rfl, kk.size, r8.alloc _, Nat.ne_of_lt r8.lt, r10.alloc _, Nat.ne_of_lt r10.lt, s1.up ((Below.refl _ _).alloc (Nat.le_refl _) _), up_alloc kk _⟩ ?_
                generalize w3.heap.size = g9
                clear hHeld kk r8 r10 s1
                rintro w4 ⟨r9, l9, r8, n8_9, r10, n10_9, s1, kk⟩
                have hHeld := HK.out _ kk
                refine wpAnyH_ready (rs := [19]) (by kernel_rfl) (by simp) ?_
                refine AllReadyH.cons rfl (fun K hK => ?_) AllReadyH.nil
                (refine wp_st (by rfl) _ _ 23 (by rfl) g8 (by rfl) (cds fL fH q2) (by rfl) 23 (cds 0 0 0) r8 (by rw [cds_size]; exact cellsCd) rfl (all_one (cds_one _ _ _)) ?_)
                replace r9 := r9.rowFar (show g9 ≠ g8 by omega) (cds fL fH q2)
                replace r10 := r10.rowFar (show g10 ≠ g8 by omega) (cds fL fH q2)
                have r8z := r8
                replace s1 := Sl.rowHere s1 r8z (no_cds _ _ _) (cds fL fH q2)
                replace r8 := Row.row r8z (cds fL fH q2)
                clear r8z
                replace kk := blw_row kk l8 (cds fL fH q2)
                refine hK.out _ _ (HK.out _ kk) (fun hHeld => ?_)
                clear hK K
                try simp only [List.getElem_toArray, List.getElem_cons_succ, List.getElem_cons_zero, Act.put]
                refine wpAnyH_ready (rs := [20]) (by kernel_rfl) (by simp) ?_
                refine AllReadyH.cons rfl (fun K hK => ?_) AllReadyH.nil
                (refine wp_st (by rfl) _ _ 26 (by rfl) g9 (by rfl) (bcs A1 (pack o2).length c1 o2.length) (by rfl) 26 (bcs none 0 0 0) r9 (by rw [bcs_size]; exact cellsB) rfl (all_one (bcs_one _ _ _ _)) ?_)
                replace r8 := r8.rowFar (show g8 ≠ g9 by omega) (bcs A1 (pack o2).length c1 o2.length)
                replace r10 := r10.rowFar (show g10 ≠ g9 by omega) (bcs A1 (pack o2).length c1 o2.length)
                have r9z := r9
                replace s1 := Sl.rowHere s1 r9z (no_bcs _ _ _ _) (bcs A1 (pack o2).length c1 o2.length)
                replace r9 := Row.row r9z (bcs A1 (pack o2).length c1 o2.length)
                clear r9z
                replace kk := blw_row kk l9 (bcs A1 (pack o2).length c1 o2.length)
                refine hK.out _ _ (HK.out _ kk) (fun hHeld => ?_)
                clear hK K
                try simp only [List.getElem_toArray, List.getElem_cons_succ, List.getElem_cons_zero, Act.put]
                refine wpAnyH_ready (rs := [21]) (by kernel_rfl) (by simp) ?_
                refine AllReadyH.cons rfl (fun K hK => ?_) AllReadyH.nil
                (refine wp_st (by rfl) _ _ 28 (by rfl) g10 (by rfl) (flt 0 0) (by rfl) 28 (flt 0 0) r10 (by rw [flt_size]; exact cellsF) rfl (all_one (flt_one _ _)) ?_)
                replace r8 := r8.rowFar (show g8 ≠ g10 by omega) (flt 0 0)
                replace r9 := r9.rowFar (show g9 ≠ g10 by omega) (flt 0 0)
                have r10z := r10
                replace s1 := Sl.rowHere s1 r10z (no_flt _ _) (flt 0 0)
                replace r10 := Row.row r10z (flt 0 0)
                clear r10z
                replace kk := blw_row kk l10 (flt 0 0)
                refine hK.out _ _ (HK.out _ kk) (fun hHeld => ?_)
                clear hK K
                try simp only [List.getElem_toArray, List.getElem_cons_succ, List.getElem_cons_zero, Act.put]
                refine wpAnyH_done (by kernel_rfl) ?_ _
                go_wp2_with fail
                go_meet
                exact ⟨g8, g9, g10, A1, c1, rfl, rfl, rfl, r8, r9, r10, s1, kk⟩
          · try simp only [List.getElem_toArray, List.getElem_cons_succ, List.getElem_cons_zero]
            go_simp
            refine hK.out _ _ (HK.out _ (up_alloc kk _)) (fun _ => ?_)
            clear hK K
            try simp only [List.getElem_toArray, List.getElem_cons_succ, List.getElem_cons_zero, Act.put, List.setIfInBounds_toArray, List.set_cons_zero, List.set_cons_succ]
            refine wpAnyH_world (F := fun W => Row W w1.heap.size 26 (bcs none 0 0 0) ∧ wr.heap.size ≤ w1.heap.size ∧ Sl W W.heap.size A1 (pack o2).length (bl (pack o2)) ∧ Below wr.heap.size wr W) ⟨Row.newEq _ _ _ _ _ rfl rfl, kk.size, s1.up ((Below.refl _ _).alloc (Nat.le_refl _) _), up_alloc kk _⟩ ?_
            generalize w1.heap.size = g9
            clear hHeld kk  s1
            rintro w2 ⟨r9, l9, s1, kk⟩
            have hHeld := HK.out _ kk
            refine wpAnyH_ready (rs := [16, 18]) (by kernel_rfl) (by simp) ?_
            refine AllReadyH.cons rfl (fun K hK => ?_) (AllReadyH.cons rfl (fun K hK => ?_) AllReadyH.nil)
            · try simp only [List.getElem_toArray, List.getElem_cons_succ, List.getElem_cons_zero]
              go_simp
              refine hK.out _ _ (HK.out _ (up_alloc kk _)) (fun _ => ?_)
              clear hK K
              try simp only [List.getElem_toArray, List.getElem_cons_succ, List.getElem_cons_zero, Act.put, List.setIfInBounds_toArray, List.set_cons_zero, List.set_cons_succ]
              refine wpAnyH_world (F := fun W => Row W w2.heap.size 23 (cds 0 0 0) ∧ wr.heap.size ≤ w2.heap.size ∧ Row W g9 26 (bcs none 0 0 0) ∧ g9 ≠ w2.heap.size ∧ Sl W W.heap.size A1 (pack o2).length (bl (pack o2)) ∧ Below wr.heap.size wr W) ⟨Row.newEq _ _ _ _ _ rfl rfl, kk.size, r9.alloc _, Nat.ne_of_lt r9.lt, s1.up ((Below.refl _ _).alloc (Nat.le_refl _) _), up_alloc kk _⟩ ?_
              generalize w2.heap.size = g8
              clear hHeld kk r9 s1
              rintro w3 ⟨r8, l8, r9, n9_8, s1, kk⟩
              have hHeld := HK.out _ kk
              refine wpAnyH_ready (rs := [18]) (by kernel_rfl) (by simp) ?_
              refine AllReadyH.cons rfl (fun K hK => ?_) AllReadyH.nil
              · try simp only [List.getElem_toArray, List.getElem_cons_succ, List.getElem_cons_zero]
                go_simp
                refine hK.out _ _ (HK.out _ (up_alloc kk _)) (fun _ => ?_)
                clear hK K
                try simp only [List.getElem_toArray, List.getElem_cons_succ, List.getElem_cons_zero, Act.put, List.setIfInBounds_toArray, List.set_cons_zero, List.set_cons_succ]
                refine wpAnyH_world (F := fun W => Row W w3.heap.size 28 (flt 0 0) ∧ wr.heap.size ≤ w3.heap.size ∧ Row W g8 23 (cds 0 0 0) ∧ g8 ≠ w3.heap.size ∧ Row W g9 26 (bcs none 0 0 0) ∧ g9 ≠ w3.heap.size ∧ Sl W W.heap.size A1 (pack o2).length (bl (pack o2)) ∧ Below wr.heap.size wr W) ⟨Row.newEq _ _ _ _ _ rfl rfl, kk.size, r8.alloc _, Nat.ne_of_lt r8.lt, r9.alloc _, Nat.ne_of_lt r9.lt, s1.up ((Below.refl _ _).alloc (Nat.le_refl _) _), up_alloc kk _⟩ ?_
                generalize w3.heap.size = g10
                clear hHeld kk r8 r9 s1
                rintro w4 ⟨r10, l10, r8, n8_10, r9, n9_10, s1, kk⟩
                have hHeld := HK.out _ kk
                refine wpAnyH_ready (rs := [19]) (by kernel_rfl) (by simp) ?_
                refine AllReadyH.cons rfl (fun K hK => ?_) AllReadyH.nil
                (refine wp_st (by rfl) _ _ 23 (by rfl) g8 (by rfl) (cds fL fH q2) (by rfl) 23 (cds 0 0 0) r8 (by rw [cds_size]; exact cellsCd) rfl (all_one (cds_one _ _ _)) ?_)
                replace r9 := r9.rowFar (show g9 ≠ g8 by omega) (cds fL fH q2)
                replace r10 := r10.rowFar (show g10 ≠ g8 by omega) (cds fL fH q2)
                have r8z := r8
                replace s1 := Sl.rowHere s1 r8z (no_cds _ _ _) (cds fL fH q2)
                replace r8 := Row.row r8z (cds fL fH q2)
                clear r8z
                replace kk := blw_row kk l8 (cds fL fH q2)
                refine hK.out _ _ (HK.out _ kk) (fun hHeld => ?_)
                clear hK K
                try simp only [List.getElem_toArray, List.getElem_cons_succ, List.getElem_cons_zero, Act.put]
                refine wpAnyH_ready (rs := [20]) (by kernel_rfl) (by simp) ?_
                refine AllReadyH.cons rfl (fun K hK => ?_) AllReadyH.nil
                (refine wp_st (by rfl) _ _ 26 (by rfl) g9 (by rfl) (bcs A1 (pack o2).length c1 o2.length) (by rfl) 26 (bcs none 0 0 0) r9 (by rw [bcs_size]; exact cellsB) rfl (all_one (bcs_one _ _ _ _)) ?_)
                replace r8 := r8.rowFar (show g8 ≠ g9 by omega) (bcs A1 (pack o2).length c1 o2.length)
                replace r10 := r10.rowFar (show g10 ≠ g9 by omega) (bcs A1 (pack o2).length c1 o2.length)
                have r9z := r9
                replace s1 := Sl.rowHere s1 r9z (no_bcs _ _ _ _) (bcs A1 (pack o2).length c1 o2.length)
                replace r9 := Row.row r9z (bcs A1 (pack o2).length c1 o2.length)
                clear r9z
                replace kk := blw_row kk l9 (bcs A1 (pack o2).length c1 o2.length)
                refine hK.out _ _ (HK.out _ kk) (fun hHeld => ?_)
                clear hK K
                try simp only [List.getElem_toArray, List.getElem_cons_succ, List.getElem_cons_zero, Act.put]
                refine wpAnyH_ready (rs := [21]) (by kernel_rfl) (by simp) ?_
                refine AllReadyH.cons rfl (fun K hK => ?_) AllReadyH.nil
                (refine wp_st (by rfl) _ _ 28 (by rfl) g10 (by rfl) (flt 0 0) (by rfl) 28 (flt 0 0) r10 (by rw [flt_size]; exact cellsF) rfl (all_one (flt_one _ _)) ?_)
                replace r8 := r8.rowFar (show g8 ≠ g10 by omega) (flt 0 0)
                replace r9 := r9.rowFar (show g9 ≠ g10 by omega) (flt 0 0)
                have r10z := r10
                replace s1 := Sl.rowHere s1 r10z (no_flt _ _) (flt 0 0)
                replace r10 := Row.row r10z (flt 0 0)
                clear r10z
                replace kk := blw_row kk l10 (flt 0 0)
                refine hK.out _ _ (HK.out _ kk) (fun hHeld => ?_)
                clear hK K
                try simp only [List.getElem_toArray, List.getElem_cons_succ, List.getElem_cons_zero, Act.put]
                refine wpAnyH_done (by kernel_rfl) ?_ _
                go_wp2_with fail
                go_meet
                exact ⟨g8, g9, g10, A1, c1, rfl, rfl, rfl, r8, r9, r10, s1, kk⟩
            · try simp only [List.getElem_toArray, List.getElem_cons_succ, List.getElem_cons_zero]
              go_simp
              refine hK.out _ _ (HK.out _ (up_alloc kk _)) (fun _ => ?_)
              clear hK K
              try simp only [List.getElem_toArray, List.getElem_cons_succ, List.getElem_cons_zero, Act.put, List.setIfInBounds_toArray, List.set_cons_zero, List.set_cons_succ]
              refine wpAnyH_world (F := fun W => Row W w2.heap.size 28 (flt 0 0) ∧ wr.heap.size ≤ w2.heap.size ∧ Row W g9 26 (bcs none 0 0 0) ∧ g9 ≠ w2.heap.size ∧ Sl W W.heap.size A1 (pack o2).length (bl (pack o2)) ∧ Below wr.heap.size wr W) ⟨Row.newEq _ _ _ _ _ rfl rfl, kk.size, r9.alloc _, Nat.ne_of_lt r9.lt, s1.up ((Below.refl _ _).alloc (Nat.le_refl _) _), up_alloc kk _⟩ ?_
              generalize w2.heap.size = g10
              clear hHeld kk r9 s1
              rintro w3 ⟨r10, l10, r9, n9_10, s1, kk⟩
              have hHeld := HK.out _ kk
              refine wpAnyH_ready (rs := [16]) (by kernel_rfl) (by simp) ?_
              refine AllReadyH.cons rfl (fun K hK => ?_) AllReadyH.nil
              · try simp only [List.getElem_toArray, List.getElem_cons_succ, List.getElem_cons_zero]
                go_simp
                refine hK.out _ _ (HK.out _ (up_alloc kk _)) (fun _ => ?_)
                clear hK K
                try simp only [List.getElem_toArray, List.getElem_cons_succ, List.getElem_cons_zero, Act.put, List.setIfInBounds_toArray, List.set_cons_zero, List.set_cons_succ]
                refine wpAnyH_world (F := fun W => Row W w3.heap.size 23 (cds 0 0 0) ∧ wr.heap.size ≤ w3.heap.size ∧ Row W g9 26 (bcs none 0 0 0) ∧ g9 ≠ w3.heap.size ∧ Row W g10 28 (flt 0 0) ∧ g10 ≠ w3.heap.size ∧ Sl W W.heap.size A1 (pack o2).length (bl (pack o2)) ∧ Below wr.heap.size wr W) ⟨Row.newEq _ _ _ _ _ rfl rfl, kk.size, r9.alloc _, Nat.ne_of_lt r9.lt, r10.alloc _, Nat.ne_of_lt r10.lt, s1.up ((Below.refl _ _).alloc (Nat.le_refl _) _), up_alloc kk _⟩ ?_
                generalize w3.heap.size = g8
                clear hHeld kk r9 r10 s1
                rintro w4 ⟨r8, l8, r9, n9_8, r10, n10_8, s1, kk⟩
                have hHeld := HK.out _ kk
                refine wpAnyH_ready (rs := [19]) (by kernel_rfl) (by simp) ?_
                refine AllReadyH.cons rfl (fun K hK => ?_) AllReadyH.nil
                (refine wp_st (by rfl) _ _ 23 (by rfl) g8 (by rfl) (cds fL fH q2) (by rfl) 23 (cds 0 0 0) r8 (by rw [cds_size]; exact cellsCd) rfl (all_one (cds_one _ _ _)) ?_)
                replace r9 := r9.rowFar (show g9 ≠ g8 by omega) (cds fL fH q2)
                replace r10 := r10.rowFar (show g10 ≠ g8 by omega) (cds fL fH q2)
                have r8z := r8
                replace s1 := Sl.rowHere s1 r8z (no_cds _ _ _) (cds fL fH q2)
                replace r8 := Row.row r8z (cds fL fH q2)
                clear r8z
                replace kk := blw_row kk l8 (cds fL fH q2)
                refine hK.out _ _ (HK.out _ kk) (fun hHeld => ?_)
                clear hK K
                try simp only [List.getElem_toArray, List.getElem_cons_succ, List.getElem_cons_zero, Act.put]
                refine wpAnyH_ready (rs := [20]) (by kernel_rfl) (by simp) ?_
                refine AllReadyH.cons rfl (fun K hK => ?_) AllReadyH.nil
                (refine wp_st (by rfl) _ _ 26 (by rfl) g9 (by rfl) (bcs A1 (pack o2).length c1 o2.length) (by rfl) 26 (bcs none 0 0 0) r9 (by rw [bcs_size]; exact cellsB) rfl (all_one (bcs_one _ _ _ _)) ?_)
                replace r8 := r8.rowFar (show g8 ≠ g9 by omega) (bcs A1 (pack o2).length c1 o2.length)
                replace r10 := r10.rowFar (show g10 ≠ g9 by omega) (bcs A1 (pack o2).length c1 o2.length)
                have r9z := r9
                replace s1 := Sl.rowHere s1 r9z (no_bcs _ _ _ _) (bcs A1 (pack o2).length c1 o2.length)
                replace r9 := Row.row r9z (bcs A1 (pack o2).length c1 o2.length)
                clear r9z
                replace kk := blw_row kk l9 (bcs A1 (pack o2).length c1 o2.length)
                refine hK.out _ _ (HK.out _ kk) (fun hHeld => ?_)
                clear hK K
                try simp only [List.getElem_toArray, List.getElem_cons_succ, List.getElem_cons_zero, Act.put]
                refine wpAnyH_ready (rs := [21]) (by kernel_rfl) (by simp) ?_
                refine AllReadyH.cons rfl (fun K hK => ?_) AllReadyH.nil
                (refine wp_st (by rfl) _ _ 28 (by rfl) g10 (by rfl) (flt 0 0) (by rfl) 28 (flt 0 0) r10 (by rw [flt_size]; exact cellsF) rfl (all_one (flt_one _ _)) ?_)
                replace r8 := r8.rowFar (show g8 ≠ g10 by omega) (flt 0 0)
                replace r9 := r9.rowFar (show g9 ≠ g10 by omega) (flt 0 0)
                have r10z := r10
                replace s1 := Sl.rowHere s1 r10z (no_flt _ _) (flt 0 0)
                replace r10 := Row.row r10z (flt 0 0)
                clear r10z
                replace kk := blw_row kk l10 (flt 0 0)
                refine hK.out _ _ (HK.out _ kk) (fun hHeld => ?_)
                clear hK K
                try simp only [List.getElem_toArray, List.getElem_cons_succ, List.getElem_cons_zero, Act.put]
                refine wpAnyH_done (by kernel_rfl) ?_ _
                go_wp2_with fail
                go_meet
                exact ⟨g8, g9, g10, A1, c1, rfl, rfl, rfl, r8, r9, r10, s1, kk⟩
          · try simp only [List.getElem_toArray, List.getElem_cons_succ, List.getElem_cons_zero]
            go_simp
            refine hK.out _ _ (HK.out _ (up_alloc kk _)) (fun _ => ?_)
            clear hK K
            try simp only [List.getElem_toArray, List.getElem_cons_succ, List.getElem_cons_zero, Act.put, List.setIfInBounds_toArray, List.set_cons_zero, List.set_cons_succ]
            refine wpAnyH_world (F := fun W => Row W w1.heap.size 28 (flt 0 0) ∧ wr.heap.size ≤ w1.heap.size ∧ Sl W W.heap.size A1 (pack o2).length (bl (pack o2)) ∧ Below wr.heap.size wr W) ⟨Row.newEq _ _ _ _ _ rfl rfl, kk.size, s1.up ((Below.refl _ _).alloc (Nat.le_refl _) _), up_alloc kk _⟩ ?_
            generalize w1.heap.size = g10
            clear hHeld kk  s1
            rintro w2 ⟨r10, l10, s1, kk⟩
            have hHeld := HK.out _ kk
            refine wpAnyH_ready (rs := [16, 17]) (by kernel_rfl) (by simp) ?_
            refine AllReadyH.cons rfl (fun K hK => ?_) (AllReadyH.cons rfl (fun K hK => ?_) AllReadyH.nil)
            · try simp only [List.getElem_toArray, List.getElem_cons_succ, List.getElem_cons_zero]
              go_simp
              refine hK.out _ _ (HK.out _ (up_alloc kk _)) (fun _ => ?_)
              clear hK K
              try simp only [List.getElem_toArray, List.getElem_cons_succ, List.getElem_cons_zero, Act.put, List.setIfInBounds_toArray, List.set_cons_zero, List.set_cons_succ]
              refine wpAnyH_world (F := fun W => Row W w2.heap.size 23 (cds 0 0 0) ∧ wr.heap.size ≤ w2.heap.size ∧ Row W g10 28 (flt 0 0) ∧ g10 ≠ w2.heap.size ∧ Sl W W.heap.size A1 (pack o2).length (bl (pack o2)) ∧ Below wr.heap.size wr W) ⟨Row.newEq _ _ _ _ _ rfl rfl, kk.size, r10.alloc _, Nat.ne_of_lt r10.lt, s1.up ((Below.refl _ _).alloc (Nat.le_refl _) _), up_alloc kk _⟩ ?_
              generalize w2.heap.size = g8
              clear hHeld kk r10 s1
              rintro w3 ⟨r8, l8, r10, n10_8, s1, kk⟩
              have hHeld := HK.out _ kk
              refine wpAnyH_ready (rs := [17]) (by kernel_rfl) (by simp) ?_
              refine AllReadyH.cons rfl (fun K hK => ?_) AllReadyH.nil
              · try simp only [List.getElem_toArray, List.getElem_cons_succ, List.getElem_cons_zero]
                go_simp
                refine hK.out _ _ (HK.out _ (up_alloc kk _)) (fun _ => ?_)
                clear hK K
                try simp only [List.getElem_toArray, List.getElem_cons_succ, List.getElem_cons_zero, Act.put, List.setIfInBounds_toArray, List.set_cons_zero, List.set_cons_succ]
                refine wpAnyH_world (F := fun W => Row W w3.heap.size 26 (bcs none 0 0 0) ∧ wr.heap.size ≤ w3.heap.size ∧ Row W g8 23 (cds 0 0 0) ∧ g8 ≠ w3.heap.size ∧ Row W g10 28 (flt 0 0) ∧ g10 ≠ w3.heap.size ∧ Sl W W.heap.size A1 (pack o2).length (bl (pack o2)) ∧ Below wr.heap.size wr W) ⟨Row.newEq _ _ _ _ _ rfl rfl, kk.size, r8.alloc _, Nat.ne_of_lt r8.lt, r10.alloc _, Nat.ne_of_lt r10.lt, s1.up ((Below.refl _ _).alloc (Nat.le_refl _) _), up_alloc kk _⟩ ?_
                generalize w3.heap.size = g9
                clear hHeld kk r8 r10 s1
                rintro w4 ⟨r9, l9, r8, n8_9, r10, n10_9, s1, kk⟩
                have hHeld := HK.out _ kk
                refine wpAnyH_ready (rs := [19]) (by kernel_rfl) (by simp) ?_
                refine AllReadyH.cons rfl (fun K hK => ?_) AllReadyH.nil
                (refine wp_st (by rfl) _ _ 23 (by rfl) g8 (by rfl) (cds fL fH q2) (by rfl) 23 (cds 0 0 0) r8 (by rw [cds_size]; exact cellsCd) rfl (all_one (cds_one _ _ _)) ?_)
                replace r9 := r9.rowFar (show g9 ≠ g8 by omega) (cds fL fH q2)
                replace r10 := r10.rowFar (show g10 ≠ g8 by omega) (cds fL fH q2)
                have r8z := r8
                replace s1 := Sl.rowHere s1 r8z (no_cds _ _ _) (cds fL fH q2)
                replace r8 := Row.row r8z (cds fL fH q2)
                clear r8z
                replace kk := blw_row kk l8 (cds fL fH q2)
                refine hK.out _ _ (HK.out _ kk) (fun hHeld => ?_)
                clear hK K
                try simp only [List.getElem_toArray, List.getElem_cons_succ, List.getElem_cons_zero, Act.put]
                refine wpAnyH_ready (rs := [20]) (by kernel_rfl) (by simp) ?_
                refine AllReadyH.cons rfl (fun K hK => ?_) AllReadyH.nil
                (refine wp_st (by rfl) _ _ 26 (by rfl) g9 (by rfl) (bcs A1 (pack o2).length c1 o2.length) (by rfl) 26 (bcs none 0 0 0) r9 (by rw [bcs_size]; exact cellsB) rfl (all_one (bcs_one _ _ _ _)) ?_)
                replace r8 := r8.rowFar (show g8 ≠ g9 by omega) (bcs A1 (pack o2).length c1 o2.length)
                replace r10 := r10.rowFar (show g10 ≠ g9 by omega) (bcs A1 (pack o2).length c1 o2.length)
                have r9z := r9
                replace s1 := Sl.rowHere s1 r9z (no_bcs _ _ _ _) (bcs A1 (pack o2).length c1 o2.length)
                replace r9 := Row.row r9z (bcs A1 (pack o2).length c1 o2.length)
                clear r9z
                replace kk := blw_row kk l9 (bcs A1 (pack o2).length c1 o2.length)
                refine hK.out _ _ (HK.out _ kk) (fun hHeld => ?_)
                clear hK K
                try simp only [List.getElem_toArray, List.getElem_cons_succ, List.getElem_cons_zero, Act.put]
                refine wpAnyH_ready (rs := [21]) (by kernel_rfl) (by simp) ?_
                refine AllReadyH.cons rfl (fun K hK => ?_) AllReadyH.nil
                (refine wp_st (by rfl) _ _ 28 (by rfl) g10 (by rfl) (flt 0 0) (by rfl) 28 (flt 0 0) r10 (by rw [flt_size]; exact cellsF) rfl (all_one (flt_one _ _)) ?_)
                replace r8 := r8.rowFar (show g8 ≠ g10 by omega) (flt 0 0)
                replace r9 := r9.rowFar (show g9 ≠ g10 by omega) (flt 0 0)
                have r10z := r10
                replace s1 := Sl.rowHere s1 r10z (no_flt _ _) (flt 0 0)
                replace r10 := Row.row r10z (flt 0 0)
                clear r10z
                replace kk := blw_row kk l10 (flt 0 0)
                refine hK.out _ _ (HK.out _ kk) (fun hHeld => ?_)
                clear hK K
                try simp only [List.getElem_toArray, List.getElem_cons_succ, List.getElem_cons_zero, Act.put]
                refine wpAnyH_done (by kernel_rfl) ?_ _
                go_wp2_with fail
                go_meet
                exact ⟨g8, g9, g10, A1, c1, rfl, rfl, rfl, r8, r9, r10, s1, kk⟩
            · try simp only [List.getElem_toArray, List.getElem_cons_succ, List.getElem_cons_zero]
              go_simp
              refine hK.out _ _ (HK.out _ (up_alloc kk _)) (fun _ => ?_)
              clear hK K
              try simp only [List.getElem_toArray, List.getElem_cons_succ, List.getElem_cons_zero, Act.put, List.setIfInBounds_toArray, List.set_cons_zero, List.set_cons_succ]
              refine wpAnyH_world (F := fun W => Row W w2.heap.size 26 (bcs none 0 0 0) ∧ wr.heap.size ≤ w2.heap.size ∧ Row W g10 28 (flt 0 0) ∧ g10 ≠ w2.heap.size ∧ Sl W W.heap.size A1 (pack o2).length (bl (pack o2)) ∧ Below wr.heap.size wr W) ⟨Row.newEq _ _ _ _ _ rfl rfl, kk.size, r10.alloc _, Nat.ne_of_lt r10.lt, s1.up ((Below.refl _ _).alloc (Nat.le_refl _) _), up_alloc kk _⟩ ?_
              generalize w2.heap.size = g9
              clear hHeld kk r10 s1
              rintro w3 ⟨r9, l9, r10, n10_9, s1, kk⟩
              have hHeld := HK.out _ kk
              refine wpAnyH_ready (rs := [16]) (by kernel_rfl) (by simp) ?_
              refine AllReadyH.cons rfl (fun K hK => ?_) AllReadyH.nil
              · try simp only [List.getElem_toArray, List.getElem_cons_succ, List.getElem_cons_zero]
                go_simp
                refine hK.out _ _ (HK.out _ (up_alloc kk _)) (fun _ => ?_)
                clear hK K
                try simp only [List.getElem_toArray, List.getElem_cons_succ, List.getElem_cons_zero, Act.put, List.setIfInBounds_toArray, List.set_cons_zero, List.set_cons_succ]
                refine wpAnyH_world (F := fun W => Row W w3.heap.size 23 (cds 0 0 0) ∧ wr.heap.size ≤ w3.heap.size ∧ Row W g9 26 (bcs none 0 0 0) ∧ g9 ≠ w3.heap.size ∧ Row W g10 28 (flt 0 0) ∧ g10 ≠ w3.heap.size ∧ Sl W W.heap.size A1 (pack o2).length (bl (pack o2)) ∧ Below wr.heap.size wr W) ⟨Row.newEq _ _ _ _ _ rfl rfl, kk.size, r9.alloc _, Nat.ne_of_lt r9.lt, r10.alloc _, Nat.ne_of_lt r10.lt, s1.up ((Below.refl _ _).alloc (Nat.le_refl _) _), up_alloc kk _⟩ ?_
                generalize w3.heap.size = g8
                clear hHeld kk r9 r10 s1
                rintro w4 ⟨r8, l8, r9, n9_8, r10, n10_8, s1, kk⟩
                have hHeld := HK.out _ kk
                refine wpAnyH_ready (rs := [19]) (by kernel_rfl) (by simp) ?_
                refine AllReadyH.cons rfl (fun K hK => ?_) AllReadyH.nil
                (refine wp_st (by rfl) _ _ 23 (by rfl) g8 (by rfl) (cds fL fH q2) (by rfl) 23 (cds 0 0 0) r8 (by rw [cds_size]; exact cellsCd) rfl (all_one (cds_one _ _ _)) ?_)
                replace r9 := r9.rowFar (show g9 ≠ g8 by omega) (cds fL fH q2)
                replace r10 := r10.rowFar (show g10 ≠ g8 by omega) (cds fL fH q2)
                have r8z := r8
                replace s1 := Sl.rowHere s1 r8z (no_cds _ _ _) (cds fL fH q2)
                replace r8 := Row.row r8z (cds fL fH q2)
                clear r8z
                replace kk := blw_row kk l8 (cds fL fH q2)
                refine hK.out _ _ (HK.out _ kk) (fun hHeld => ?_)
                clear hK K
                try simp only [List.getElem_toArray, List.getElem_cons_succ, List.getElem_cons_zero, Act.put]
                refine wpAnyH_ready (rs := [20]) (by kernel_rfl) (by simp) ?_
                refine AllReadyH.cons rfl (fun K hK => ?_) AllReadyH.nil
                (refine wp_st (by rfl) _ _ 26 (by rfl) g9 (by rfl) (bcs A1 (pack o2).length c1 o2.length) (by rfl) 26 (bcs none 0 0 0) r9 (by rw [bcs_size]; exact cellsB) rfl (all_one (bcs_one _ _ _ _)) ?_)
                replace r8 := r8.rowFar (show g8 ≠ g9 by omega) (bcs A1 (pack o2).length c1 o2.length)
                replace r10 := r10.rowFar (show g10 ≠ g9 by omega) (bcs A1 (pack o2).length c1 o2.length)
                have r9z := r9
                replace s1 := Sl.rowHere s1 r9z (no_bcs _ _ _ _) (bcs A1 (pack o2).length c1 o2.length)
                replace r9 := Row.row r9z (bcs A1 (pack o2).length c1 o2.length)
                clear r9z
                replace kk := blw_row kk l9 (bcs A1 (pack o2).length c1 o2.length)
                refine hK.out _ _ (HK.out _ kk) (fun hHeld => ?_)
                clear hK K
                try simp only [List.getElem_toArray, List.getElem_cons_succ, List.getElem_cons_zero, Act.put]
                refine wpAnyH_ready (rs := [21]) (by kernel_rfl) (by simp) ?_
                refine AllReadyH.cons rfl (fun K hK => ?_) AllReadyH.nil
                (refine wp_st (by rfl) _ _ 28 (by rfl) g10 (by rfl) (flt 0 0) (by rfl) 28 (flt 0 0) r10 (by rw [flt_size]; exact cellsF) rfl (all_one (flt_one _ _)) ?_)
                replace r8 := r8.rowFar (show g8 ≠ g10 by omega) (flt 0 0)
                replace r9 := r9.rowFar (show g9 ≠ g10 by omega) (flt 0 0)
                have r10z := r10
                replace s1 := Sl.rowHere s1 r10z (no_flt _ _) (flt 0 0)
                replace r10 := Row.row r10z (flt 0 0)
                clear r10z
                replace kk := blw_row kk l10 (flt 0 0)
                refine hK.out _ _ (HK.out _ kk) (fun hHeld => ?_)
                clear hK K
                try simp only [List.getElem_toArray, List.getElem_cons_succ, List.getElem_cons_zero, Act.put]
                refine wpAnyH_done (by kernel_rfl) ?_ _
                go_wp2_with fail
                go_meet
                exact ⟨g8, g9, g10, A1, c1, rfl, rfl, rfl, r8, r9, r10, s1, kk⟩
        · try simp only [List.getElem_toArray, List.getElem_cons_succ, List.getElem_cons_zero]
          go_simp
          refine hK.out _ _ (HK.out _ (up_alloc kk _)) (fun _ => ?_)
          clear hK K
          try simp only [List.getElem_toArray, List.getElem_cons_succ, List.getElem_cons_zero, Act.put, List.setIfInBounds_toArray, List.set_cons_zero, List.set_cons_succ]
          refine wpAnyH_world (F := fun W => Row W w0.heap.size 23 (cds 0 0 0) ∧ wr.heap.size ≤ w0.heap.size ∧ Below wr.heap.size wr W) ⟨Row.newEq _ _ _ _ _ rfl rfl, kk.size, up_alloc kk _⟩ ?_
          generalize w0.heap.size = g8
          clear hHeld kk 
          rintro w1 ⟨r8, l8, kk⟩
          have hHeld := HK.out _ kk
          refine wpAnyH_ready (rs := [11, 17, 18]) (by kernel_rfl) (by simp) ?_
          refine AllReadyH.cons rfl (fun K hK => ?_) (AllReadyH.cons rfl (fun K hK => ?_) (AllReadyH.cons rfl (fun K hK => ?_) AllReadyH.nil))
          · try simp only [List.getElem_toArray, List.getElem_cons_succ, List.getElem_cons_zero]
            go_simp
            (go_at_call 11; refine (HPUT.out _).mono ?_; rintro e w2 ⟨A1, c1, rfl, s1, hbc⟩)
            try go_wp2_with fail
            replace r8 := r8.below hbc r8.lt
            replace kk := up_call kk hbc
            clear hbc
            refine hK.out _ _ (HK.out _ kk) (fun hHeld => ?_)
            clear hK K
            try simp only [List.getElem_toArray, List.getElem_cons_succ, List.getElem_cons_zero, Act.put, List.setIfInBounds_toArray, List.set_cons_zero, List.set_cons_succ]
            refine wpAnyH_take (i := 12) (v := ?_) rfl (by kernel_rfl) (by kernel_rfl) (by kernel_rfl) (fun _ _ _ h => h) (Or.inl ⟨by rfl, ?_⟩) (by assumption) ?_
            rotate_left
            · (rintro wx ⟨sw0, sw1, sw2, sw3⟩; try simp only [List.getElem_toArray, List.getElem_cons_succ, List.getElem_cons_zero]; go_simp; try with_reducible rfl)
            try simp only [List.getElem_toArray, List.getElem_cons_succ, List.getElem_cons_zero, Act.put, List.setIfInBounds_toArray, List.set_cons_zero, List.set_cons_succ]
            refine wpAnyH_take (i := 13) (v := ?_) rfl (by kernel_rfl) (by kernel_rfl) (by kernel_rfl) (fun _ _ _ h => h) (Or.inl ⟨by rfl, ?_⟩) (by assumption) ?_
            rotate_left
            · (rintro wx ⟨sw0, sw1, sw2, sw3⟩; try simp only [List.getElem_toArray, List.getElem_cons_succ, List.getElem_cons_zero]; go_simp; try with_reducible rfl)
            try simp only [List.getElem_toArray, List.getElem_cons_succ, List.getElem_cons_zero, Act.put, List.setIfInBounds_toArray, List.set_cons_zero, List.set_cons_succ]
            refine wpAnyH_take (i := 14) (v := ?_) rfl (by kernel_rfl) (by kernel_rfl) (by kernel_rfl) (fun _ _ _ h => h) (Or.inl ⟨by rfl, ?_⟩) (by assumption) ?_
            rotate_left
            · (rintro wx ⟨sw0, sw1, sw2, sw3⟩; try simp only [List.getElem_toArray, List.getElem_cons_succ, List.getElem_cons_zero]; go_simp; try with_reducible rfl)
            try simp only [List.getElem_toArray, List.getElem_cons_succ, List.getElem_cons_zero, Act.put, List.setIfInBounds_toArray, List.set_cons_zero, List.set_cons_succ]
            refine wpAnyH_take (i := 15) (v := ?_) rfl (by kernel_rfl) (by kernel_rfl) (by kernel_rfl) (fun _ _ _ h => h) (Or.inl ⟨by rfl, ?_⟩) (by assumption) ?_
            rotate_left
            · (rintro wx ⟨sw0, sw1, sw2, sw3⟩; try simp only [List.getElem_toArray, List.getElem_cons_succ, List.getElem_cons_zero]; go_simp; try with_reducible rfl)
            try simp only [List.getElem_toArray, List.getElem_cons_succ, List.getElem_cons_zero, Act.put, List.setIfInBounds_toArray, List.set_cons_zero, List.set_cons_succ]
            refine wpAnyH_ready (rs := [17, 18]) (by kernel_rfl) (by simp) ?_
            refine AllReadyH.cons rfl (fun K hK => ?_) (AllReadyH.cons rfl (fun K hK => ?_) AllReadyH.nil)
            · try simp only [List.getElem_toArray, List.getElem_cons_succ, List.getElem_cons_zero]
              go_simp
              refine hK.out _ _ (HK.out _ (up_alloc kk _)) (fun _ => ?_)
              clear hK K
              try simp only [List.getElem_toArray, List.getElem_cons_succ, List.getElem_cons_zero, Act.put, List.setIfInBounds_toArray, List.set_cons_zero, List.set_cons_succ]
              refine wpAnyH_world (F := fun W => Row W w2.heap.size 26 (bcs none 0 0 0) ∧ wr.heap.size ≤ w2.heap.size ∧ Row W g8 23 (cds 0 0 0) ∧ g8 ≠ w2.heap.size ∧ Sl W W.heap.size A1 (pack o2).length (bl (pack o2)) ∧ Below wr.heap.size wr W) ⟨Row.newEq _ _ _ _ _ rfl rfl, kk.size, r8.alloc _, Nat.ne_of_lt r8.lt, s1.up ((Below.refl _ _).alloc (Nat.le_refl _) _), up_alloc kk _⟩ ?_
              generalize w2.heap.size = g9
              clear hHeld kk r8 s1
              rintro w3 ⟨r9, l9, r8, n8_9, s1, kk⟩
              have hHeld := HK.out _ kk
              refine wpAnyH_ready (rs := [18]) (by kernel_rfl) (by simp) ?_
              refine AllReadyH.cons rfl (fun K hK => ?_) AllReadyH.nil
              · try simp only [List.getElem_toArray, List.getElem_cons_succ, List.getElem_cons_zero]
                go_simp
                refine hK.out _ _ (HK.out _ (up_alloc kk _)) (fun _ => ?_)
                clear hK K
                try simp only [List.getElem_toArray, List.getElem_cons_succ, List.getElem_cons_zero, Act.put, List.setIfInBounds_toArray, List.set_cons_zero, List.set_cons_succ]
                refine wpAnyH_world (F := fun W => Row W w3.heap.size 28 (flt 0 0) ∧ wr.heap.size ≤ w3.heap.size ∧ Row W g8 23 (cds 0 0 0) ∧ g8 ≠ w3.heap.size ∧ Row W g9 26 (bcs none 0 0 0) ∧ g9 ≠ w3.heap.size ∧ Sl W W.heap.size A1 (pack o2).length (bl (pack o2)) ∧ Below wr.heap.size wr W) ⟨Row.newEq _ _ _ _ _ rfl rfl, kk.size, r8.alloc _, Nat.ne_of_lt r8.lt, r9.alloc _, Nat.ne_of_lt r9.lt, s1.up ((Below.refl _ _).alloc (Nat.le_refl _) _), up_alloc kk _⟩ ?_
                generalize w3.heap.size = g10
                clear hHeld kk r8 r9 s1
                rintro w4 ⟨r10, l10, r8, n8_10, r9, n9_10, s1, kk⟩
                have hHeld := HK.out _ kk
                refine wpAnyH_ready (rs := [19]) (by kernel_rfl) (by simp) ?_
                refine AllReadyH.cons rfl (fun K hK => ?_) AllReadyH.nil
                (refine wp_st (by rfl) _ _ 23 (by rfl) g8 (by rfl) (cds fL fH q2) (by rfl) 23 (cds 0 0 0) r8 (by rw [cds_size]; exact cellsCd) rfl (all_one (cds_one _ _ _)) ?_)
                replace r9 := r9.rowFar (show g9 ≠ g8 by omega) (cds fL fH q2)
                replace r10 := r10.rowFar (show g10 ≠ g8 by omega) (cds fL fH q2)
                have r8z := r8
                replace s1 := Sl.rowHere s1 r8z (no_cds _ _ _) (cds fL fH q2)
                replace r8 := Row.row r8z (cds fL fH q2)
                clear r8z
                replace kk := blw_row kk l8 (cds fL fH q2)
                refine hK.out _ _ (HK.out _ kk) (fun hHeld => ?_)
                clear hK K
                try simp only [List.getElem_toArray, List.getElem_cons_succ, List.getElem_cons_zero, Act.put]
                refine wpAnyH_ready (rs := [20]) (by kernel_rfl) (by simp) ?_
                refine AllReadyH.cons rfl (fun K hK => ?_) AllReadyH.nil
                (refine wp_st (by rfl) _ _ 26 (by rfl) g9 (by rfl) (bcs A1 (pack o2).length c1 o2.length) (by rfl) 26 (bcs none 0 0 0) r9 (by rw [bcs_size]; exact cellsB) rfl (all_one (bcs_one _ _ _ _)) ?_)
                replace r8 := r8.rowFar (show g8 ≠ g9 by omega) (bcs A1 (pack o2).length c1 o2.length)
                replace r10 := r10.rowFar (show g10 ≠ g9 by omega) (bcs A1 (pack o2).length c1 o2.length)
                have r9z := r9
                replace s1 := Sl.rowHere s1 r9z (no_bcs _ _ _ _) (bcs A1 (pack o2).length c1 o2.length)
                replace r9 := Row.row r9z (bcs A1 (pack o2).length c1 o2.length)
                clear r9z
                replace kk := blw_row kk l9 (bcs A1 (pack o2).length c1 o2.length)
                refine hK.out _ _ (HK.out _ kk) (fun hHeld => ?_)
                clear hK K
                try simp only [List.getElem_toArray, List.getElem_cons_succ, List.getElem_cons_zero, Act.put]
                refine wpAnyH_ready (rs := [21]) (by kernel_rfl) (by simp) ?_
                refine AllReadyH.cons rfl (fun K hK => ?_) AllReadyH.nil
                (refine wp_st (by rfl) _ _ 28 (by rfl) g10 (by rfl) (flt 0 0) (by rfl) 28 (flt 0 0) r10 (by rw [flt_size]; exact cellsF) rfl (all_one (flt_one _ _)) ?_)
                replace r8 := r8.rowFar (show g8 ≠ g10 by omega) (flt 0 0)
                replace r9 := r9.rowFar (show g9 ≠ g10 by omega) (flt 0 0)
                have r10z := r10
                replace s1 := Sl.rowHere s1 r10z (no_flt _ _) (flt 0 0)
                replace r10 := Row.row r10z (flt 0 0)
                clear r10z
                replace kk := blw_row kk l10 (flt 0 0)
                refine hK.out _ _ (HK.out _ kk) (fun hHeld => ?_)
                clear hK K
                try simp only [List.getElem_toArray, List.getElem_cons_succ, List.getElem_cons_zero, Act.put]
                refine wpAnyH_done (by kernel_rfl) ?_ _
                go_wp2_with fail
                go_meet
                exact ⟨g8, g9, g10, A1, c1, rfl, rfl, rfl, r8, r9, r10, s1, kk⟩
            · try simp only [List.getElem_toArray, List.getElem_cons_succ, List.getElem_cons_zero]
              go_simp
              refine hK.out _ _ (HK.out _ (up_alloc kk _)) (fun _ => ?_)
              clear hK K
              try simp only [List.getElem_toArray, List.getElem_cons_succ, List.getElem_cons_zero, Act.put, List.setIfInBounds_toArray, List.set_cons_zero, List.set_cons_succ]
              refine wpAnyH_world (F := fun W => Row W w2.heap.size 28 (flt 0 0) ∧ wr.heap.size ≤ w2.heap.size ∧ Row W g8 23 (cds 0 0 0) ∧ g8 ≠ w2.heap.size ∧ Sl W W.heap.size A1 (pack o2).length (bl (pack o2)) ∧ Below wr.heap.size wr W) ⟨Row.newEq _ _ _ _ _ rfl rfl, kk.size, r8.alloc _, Nat.ne_of_lt r8.lt, s1.up ((Below.refl _ _).alloc (Nat.le_refl _) _), up_alloc kk _⟩ ?_
              generalize w2.heap.size = g10
              clear hHeld kk r8 s1
              rintro w3 ⟨r10, l10, r8, n8_10, s1, kk⟩
              have hHeld := HK.out _ kk
              refine wpAnyH_ready (rs := [17]) (by kernel_rfl) (by simp) ?_
              refine AllReadyH.cons rfl (fun K hK => ?_) AllReadyH.nil
              · try simp only [List.getElem_toArray, List.getElem_cons_succ, List.getElem_cons_zero]
                go_simp
                refine hK.out _ _ (HK.out _ (up_alloc kk _)) (fun _ => ?_)
                clear hK K
                try simp only [List.getElem_toArray, List.getElem_cons_succ, List.getElem_cons_zero, Act.put, List.setIfInBounds_toArray, List.set_cons_zero, List.set_cons_succ]
                refine wpAnyH_world (F := fun W => Row W w3.heap.size 26 (bcs none 0 0 0) ∧ wr.heap.size ≤ w3.heap.size ∧ Row W g8 23 (cds 0 0 0) ∧ g8 ≠ w3.heap.size ∧ Row W g10 28 (flt 0 0) ∧ g10 ≠ w3.heap.size ∧ Sl W W.heap.size A1 (pack o2).length (bl (pack o2)) ∧ Below wr.heap.size wr W) ⟨Row.newEq _ _ _ _ _ rfl rfl, kk.size, r8.alloc _, Nat.ne_of_lt r8.lt, r10.alloc _, Nat.ne_of_lt r10.lt, s1.up ((Below.refl _ _).alloc (Nat.le_refl _) _), up_alloc kk _⟩ ?_
                generalize w3.heap.size = g9
                clear hHeld kk r8 r10 s1
                rintro w4 ⟨r9, l9, r8, n8_9, r10, n10_9, s1, kk⟩
                have hHeld := HK.out _ kk
                refine wpAnyH_ready (rs := [19]) (by kernel_rfl) (by simp) ?_
                refine AllReadyH.cons rfl (fun K hK => ?_) AllReadyH.nil
                (refine wp_st (by rfl) _ _ 23 (by rfl) g8 (by rfl) (cds fL fH q2) (by rfl) 23 (cds 0 0 0) r8 (by rw [cds_size]; exact cellsCd) rfl (all_one (cds_one _ _ _)) ?_)
                replace r9 := r9.rowFar (show g9 ≠ g8 by omega) (cds fL fH q2)
                replace r10 := r10.rowFar (show g10 ≠ g8 by omega) (cds fL fH q2)
                have r8z := r8
                replace s1 := Sl.rowHere s1 r8z (no_cds _ _ _) (cds fL fH q2)
                replace r8 := Row.row r8z (cds fL fH q2)
                clear r8z
                replace kk := blw_row kk l8 (cds fL fH q2)
                refine hK.out _ _ (HK.out _ kk) (fun hHeld => ?_)
                clear hK K
                try simp only [List.getElem_toArray, List.getElem_cons_succ, List.getElem_cons_zero, Act.put]
                refine wpAnyH_ready (rs := [20]) (by kernel_rfl) (by simp) ?_
                refine AllReadyH.cons rfl (fun K hK => ?_) AllReadyH.nil
                (refine wp_st (by rfl) _ _ 26 (by rfl) g9 (by rfl) (bcs A1 (pack o2).length c1 o2.length) (by rfl) 26 (bcs none 0 0 0) r9 (by rw [bcs_size]; exact cellsB) rfl (all_one (bcs_one _ _ _ _)) ?_)
                replace r8 := r8.rowFar (show g8 ≠ g9 by omega) (bcs A1 (pack o2).length c1 o2.length)
                replace r10 := r10.rowFar (show g10 ≠ g9 by omega) (bcs A1 (pack o2).length c1 o2.length)
                have r9z := r9
                replace s1 := Sl.rowHere s1 r9z (no_bcs _ _ _ _) (bcs A1 (pack o2).length c1 o2.length)
                replace r9 := Row.row r9z (bcs A1 (pack o2).length c1 o2.length)
                clear r9z
                replace kk := blw_row kk l9 (bcs A1 (pack o2).length c1 o2.length)
                refine hK.out _ _ (HK.out _ kk) (fun hHeld => ?_)
                clear hK K
                try simp only [List.getElem_toArray, List.getElem_cons_succ, List.getElem_cons_zero, Act.put]
                refine wpAnyH_ready (rs := [21]) (by kernel_rfl) (by simp) ?_
                refine AllReadyH.cons rfl (fun K hK => ?_) AllReadyH.nil
                (refine wp_st (by rfl) _ _ 28 (by rfl) g10 (by rfl) (flt 0 0) (by rfl) 28 (flt 0 0) r10 (by rw [flt_size]; exact cellsF) rfl (all_one (flt_one _ _)) ?_)
                replace r8 := r8.rowFar (show g8 ≠ g10 by omega) (flt 0 0)
                replace r9 := r9.rowFar (show g9 ≠ g10 by omega) (flt 0 0)
                have r10z := r10
                replace s1 := Sl.rowHere s1 r10z (no_flt _ _) (flt 0 0)
                replace r10 := Row.row r10z (flt 0 0)
                clear r10z
                replace kk := blw_row kk l10 (flt 0 0)
                refine hK.out _ _ (HK.out _ kk) (fun hHeld => ?_)
                clear hK K
                try simp only [List.getElem_toArray, List.getElem_cons_succ, List.getElem_cons_zero, Act.put]
                refine wpAnyH_done (by kernel_rfl) ?_ _
                go_wp2_with fail
                go_meet
                exact ⟨g8, g9, g10, A1, c1, rfl, rfl, rfl, r8, r9, r10, s1, kk⟩
          · try simp only [List.getElem_toArray, List.getElem_cons_succ, List.getElem_cons_zero]
            go_simp
            refine hK.out _ _ (HK.out _ (up_alloc kk _)) (fun _ => ?_)
            clear hK K
            try simp only [List.getElem_toArray, List.getElem_cons_succ, List.getElem_cons_zero, Act.put, List.setIfInBounds_toArray, List.set_cons_zero, List.set_cons_succ]
            refine wpAnyH_world (F := fun W => Row W w1.heap.size 26 (bcs none 0 0 0) ∧ wr.heap.size ≤ w1.heap.size ∧ Row W g8 23 (cds 0 0 0) ∧ g8 ≠ w1.heap.size ∧ Below wr.heap.size wr W) ⟨Row.newEq _ _ _ _ _ rfl rfl, kk.size, r8.alloc _, Nat.ne_of_lt r8.lt, up_alloc kk _⟩ ?_
            generalize w1.heap.size = g9
            clear hHeld kk r8
            rintro w2 ⟨r9, l9, r8, n8_9, kk⟩
            have hHeld := HK.out _ kk
            refine wpAnyH_ready (rs := [11, 18]) (by kernel_rfl) (by simp) ?_
            refine AllReadyH.cons rfl (fun K hK => ?_) (AllReadyH.cons rfl (fun K hK => ?_) AllReadyH.nil)
            · try simp only [List.getElem_toArray, List.getElem_cons_succ, List.getElem_cons_zero]
              go_simp
              (go_at_call 11; refine (HPUT.out _).mono ?_; rintro e w3 ⟨A1, c1, rfl, s1, hbc⟩)
              try go_wp2_with fail
              replace r8 := r8.below hbc r8.lt
              replace r9 := r9.below hbc r9.lt
              replace kk := up_call kk hbc
              clear hbc
              refine hK.out _ _ (HK.out _ kk) (fun hHeld => ?_)
              clear hK K
              try simp only [List.getElem_toArray, List.getElem_cons_succ, List.getElem_cons_zero, Act.put, List.setIfInBounds_toArray, List.set_cons_zero, List.set_cons_succ]
              refine wpAnyH_take (i := 12) (v := ?_) rfl (by kernel_rfl) (by kernel_rfl) (by kernel_rfl) (fun _ _ _ h => h) (Or.inl ⟨by rfl, ?_⟩) (by assumption) ?_
              rotate_left
              · (rintro wx ⟨sw0, sw1, sw2, sw3⟩; try simp only [List.getElem_toArray, List.getElem_cons_succ, List.getElem_cons_zero]; go_simp; try with_reducible rfl)
              try simp only [List.getElem_toArray, List.getElem_cons_succ, List.getElem_cons_zero, Act.put, List.setIfInBounds_toArray, List.set_cons_zero, List.set_cons_succ]
              refine wpAnyH_take (i := 13) (v := ?_) rfl (by kernel_rfl) (by kernel_rfl) (by kernel_rfl) (fun _ _ _ h => h) (Or.inl ⟨by rfl, ?_⟩) (by assumption) ?_
              rotate_left
              · (rintro wx ⟨sw0, sw1, sw2, sw3⟩; try simp only [List.getElem_toArray, List.getElem_cons_succ, List.getElem_cons_zero]; go_simp; try with_reducible rfl)
              try simp only [List.getElem_toArray, List.getElem_cons_succ, List.getElem_cons_zero, Act.put, List.setIfInBounds_toArray, List.set_cons_zero, List.set_cons_succ]
              refine wpAnyH_take (i := 14) (v := ?_) rfl (by kernel_rfl) (by kernel_rfl) (by kernel_rfl) (fun _ _ _ h => h) (Or.inl ⟨by rfl, ?_⟩) (by assumption) ?_
              rotate_left
              · (rintro wx ⟨sw0, sw1, sw2, sw3⟩; try simp only [List.getElem_toArray, List.getElem_cons_succ, List.getElem_cons_zero]; go_simp; try with_reducible rfl)
              try simp only [List.getElem_toArray, List.getElem_cons_succ, List.getElem_cons_zero, Act.put, List.setIfInBounds_toArray, List.set_cons_zero, List.set_cons_succ]
              refine wpAnyH_take (i := 15) (v := ?_) rfl (by kernel_rfl) (by kernel_rfl) (by kernel_rfl) (fun _ _ _ h => h) (Or.inl ⟨by rfl, ?_⟩) (by assumption) ?_
              rotate_left
              · (rintro wx ⟨sw0, sw1, sw2, sw3⟩; try simp only [List.getElem_toArray, List.getElem_cons_succ, List.getElem_cons_zero]; go_simp; try with_reducible rfl)
              try simp only [List.getElem_toArray, List.getElem_cons_succ, List.getElem_cons_zero, Act.put, List.setIfInBounds_toArray, List.set_cons_zero, List.set_cons_succ]
              refine wpAnyH_ready (rs := [18]) (by kernel_rfl) (by simp) ?_
              refine AllReadyH.cons rfl (fun K hK => ?_) AllReadyH.nil
              · try simp only [List.getElem_toArray, List.getElem_cons_succ, List.getElem_cons_zero]
                go_simp
                refine hK.out _ _ (HK.out _ (up_alloc kk _)) (fun _ => ?_)
                clear hK K
                try simp only [List.getElem_toArray, List.getElem_cons_succ, List.getElem_cons_zero, Act.put, List.setIfInBounds_toArray, List.set_cons_zero, List.set_cons_succ]
                refine wpAnyH_world (F := fun W => Row W w3.heap.size 28 (flt 0 0) ∧ wr.heap.size ≤ w3.heap.size ∧ Row W g8 23 (cds 0 0 0) ∧ g8 ≠ w3.heap.size ∧ Row W g9 26 (bcs none 0 0 0) ∧ g9 ≠ w3.heap.size ∧ Sl W W.heap.size A1 (pack o2).length (bl (pack o2)) ∧ Below wr.heap.size wr W) ⟨Row.newEq _ _ _ _ _ rfl rfl, kk.size, r8.alloc _, Nat.ne_of_lt r8.lt, r9.alloc _, Nat.ne_of_lt r9.lt, s1.up ((Below.refl _ _).alloc (Nat.le_refl _) _), up_alloc kk _⟩ ?_
                generalize w3.heap.size = g10
                clear hHeld kk r8 r9 s1
                rintro w4 ⟨r10, l10, r8, n8_10, r9, n9_10, s1, kk⟩
                have hHeld := HK.out _ kk
                refine wpAnyH_ready (rs := [19]) (by kernel_rfl) (by simp) ?_
                refine AllReadyH.cons rfl (fun K hK => ?_) AllReadyH.nil
                (refine wp_st (by rfl) _ _ 23 (by rfl) g8 (by rfl) (cds fL fH q2) (by rfl) 23 (cds 0 0 0) r8 (by rw [cds_size]; exact cellsCd) rfl (all_one (cds_one _ _ _)) ?_)
                replace r9 := r9.rowFar (show g9 ≠ g8 by omega) (cds fL fH q2)
                replace r10 := r10.rowFar (show g10 ≠ g8 by omega) (cds fL fH q2)
                have r8z := r8
                replace s1 := Sl.rowHere s1 r8z (no_cds _ _ _) (cds fL fH q2)
                replace r8 := Row.row r8z (cds fL fH q2)
                clear r8z
                replace kk := blw_row kk l8 (cds fL fH q2)
                refine hK.out _ _ (HK.out _ kk) (fun hHeld => ?_)
                clear hK K
                try simp only [List.getElem_toArray, List.getElem_cons_succ, List.getElem_cons_zero, Act.put]
                refine wpAnyH_ready (rs := [20]) (by kernel_rfl) (by simp) ?_
                refine AllReadyH.cons rfl (fun K hK => ?_) AllReadyH.nil
                (refine wp_st (by rfl) _ _ 26 (by rfl) g9 (by rfl) (bcs A1 (pack o2).length c1 o2.length) (by rfl) 26 (bcs none 0 0 0) r9 (by rw [bcs_size]; exact cellsB) rfl (all_one (bcs_one _ _ _ _)) ?_)
                replace r8 := r8.rowFar (show g8 ≠ g9 by omega) (bcs A1 (pack o2).length c1 o2.length)
                replace r10 := r10.rowFar (show g10 ≠ g9 by omega) (bcs A1 (pack o2).length c1 o2.length)
                have r9z := r9
                replace s1 := Sl.rowHere s1 r9z (no_bcs _ _ _ _) (bcs A1 (pack o2).length c1 o2.length)
                replace r9 := Row.row r9z (bcs A1 (pack o2).length c1 o2.length)
                clear r9z
                replace kk := blw_row kk l9 (bcs A1 (pack o2).length c1 o2.length)
                refine hK.out _ _ (HK.out _ kk) (fun hHeld => ?_)
                clear hK K
                try simp only [List.getElem_toArray, List.getElem_cons_succ, List.getElem_cons_zero, Act.put]
                refine wpAnyH_ready (rs := [21]) (by kernel_rfl) (by simp) ?_
                refine AllReadyH.cons rfl (fun K hK => ?_) AllReadyH.nil
                (refine wp_st (by rfl) _ _ 28 (by rfl) g10 (by rfl) (flt 0 0) (by rfl) 28 (flt 0 0) r10 (by rw [flt_size]; exact cellsF) rfl (all_one (flt_one _ _)) ?_)
                replace r8 := r8.rowFar (show g8 ≠ g10 by omega) (flt 0 0)
                replace r9 := r9.rowFar (show g9 ≠ g10 by omega) (flt 0 0)
                have r10z := r10
                replace s1 := Sl.rowHere s1 r10z (no_flt _ _) (flt 0 0)
                replace r10 := Row.row r10z (flt 0 0)
                clear r10z
                replace kk := blw_row kk l10 (flt 0 0)
                refine hK.out _ _ (HK.out _ kk) (fun hHeld => ?_)
                clear hK K
                try simp only [List.getElem_toArray, List.getElem_cons_succ, List.getElem_cons_zero, Act.put]
                refine wpAnyH_done (by kernel_rfl) ?_ _
                go_wp2_with fail
                go_meet
                exact ⟨g8, g9, g10, A1, c1, rfl, rfl, rfl, r8, r9, r10, s1, kk⟩
            · try simp only [List.getElem_toArray, List.getElem_cons_succ, List.getElem_cons_zero]
              go_simp
              refine hK.out _ _ (HK.out _ (up_alloc kk _)) (fun _ => ?_)
              clear hK K
              try simp only [List.getElem_toArray, List.getElem_cons_succ, List.getElem_cons_zero, Act.put, List.setIfInBounds_toArray, List.set_cons_zero, List.set_cons_succ]
              refine wpAnyH_world (F := fun W => Row W w2.heap.size 28 (flt 0 0) ∧ wr.heap.size ≤ w2.heap.size ∧ Row W g8 23 (cds 0 0 0) ∧ g8 ≠ w2.heap.size ∧ Row W g9 26 (bcs none 0 0 0) ∧ g9 ≠ w2.heap.size ∧ Below wr.heap.size wr W) ⟨Row.newEq _ _ _ _ _ rfl rfl, kk.size, r8.alloc _, Nat.ne_of_lt r8.lt, r9.alloc _, Nat.ne_of_lt r9.lt, up_alloc kk _⟩ ?_
              generalize w2.heap.size = g10
              clear hHeld kk r8 r9
              rintro w3 ⟨r10, l10, r8, n8_10, r9, n9_10, kk⟩
              have hHeld := HK.out _ kk
              refine wpAnyH_ready (rs := [11]) (by kernel_rfl) (by simp) ?_
              refine AllReadyH.cons rfl (fun K hK => ?_) AllReadyH.nil
              · try simp only [List.getElem_toArray, List.getElem_cons_succ, List.getElem_cons_zero]
                go_simp
                (go_at_call 11; refine (HPUT.out _).mono ?_; rintro e w4 ⟨A1, c1, rfl, s1, hbc⟩)
                try go_wp2_with fail
                replace r8 := r8.below hbc r8.lt
                replace r9 := r9.below hbc r9.lt
                replace r10 := r10.below hbc r10.lt
                replace kk := up_call kk hbc
                clear hbc
                refine hK.out _ _ (HK.out _ kk) (fun hHeld => ?_)
                clear hK K
                try simp only [List.getElem_toArray, List.getElem_cons_succ, List.getElem_cons_zero, Act.put, List.setIfInBounds_toArray, List.set_cons_zero, List.set_cons_succ]
                refine wpAnyH_take (i := 12) (v := ?_) rfl (by kernel_rfl) (by kernel_rfl) (by kernel_rfl) (fun _ _ _ h => h) (Or.inl ⟨by rfl, ?_⟩) (by assumption) ?_
                rotate_left
                · (rintro wx ⟨sw0, sw1, sw2, sw3⟩; try simp only [List.getElem_toArray, List.getElem_cons_succ, List.getElem_cons_zero]; go_simp; try with_reducible rfl)
                try simp only [List.getElem_toArray, List.getElem_cons_succ, List.getElem_cons_zero, Act.put, List.setIfInBounds_toArray, List.set_cons_zero, List.set_cons_succ]
                refine wpAnyH_take (i := 13) (v := ?_) rfl (by kernel_rfl) (by kernel_rfl) (by kernel_rfl) (fun _ _ _ h => h) (Or.inl ⟨by rfl, ?_⟩) (by assumption) ?_
                rotate_left
                · (rintro wx ⟨sw0, sw1, sw2, sw3⟩; try simp only [List.getElem_toArray, List.getElem_cons_succ, List.getElem_cons_zero]; go_simp; try with_reducible rfl)
                try simp only [List.getElem_toArray, List.getElem_cons_succ, List.getElem_cons_zero, Act.put, List.setIfInBounds_toArray, List.set_cons_zero, List.set_cons_succ]
                refine wpAnyH_take (i := 14) (v := ?_) rfl (by kernel_rfl) (by kernel_rfl) (by kernel_rfl) (fun _ _ _ h => h) (Or.inl ⟨by rfl, ?_⟩) (by assumption) ?_
                rotate_left
                · (rintro wx ⟨sw0, sw1, sw2, sw3⟩; try simp only [List.getElem_toArray, List.getElem_cons_succ, List.getElem_cons_zero]; go_simp; try with_reducible rfl)
                try simp only [List.getElem_toArray, List.getElem_cons_succ, List.getElem_cons_zero, Act.put, List.setIfInBounds_toArray, List.set_cons_zero, List.set_cons_succ]
                refine wpAnyH_take (i := 15) (v := ?_) rfl (by kernel_rfl) (by kernel_rfl) (by kernel_rfl) (fun _ _ _ h => h) (Or.inl ⟨by rfl, ?_⟩) (by assumption) ?_
                rotate_left
                · (rintro wx ⟨sw0, sw1, sw2, sw3⟩; try simp only [List.getElem_toArray, List.getElem_cons_succ, List.getElem_cons_zero]; go_simp; try with_reducible rfl)
                try simp only [List.getElem_toArray, List.getElem_cons_succ, List.getElem_cons_zero, Act.put, List.setIfInBounds_toArray, List.set_cons_zero, List.set_cons_succ]
                refine wpAnyH_ready (rs := [19]) (by kernel_rfl) (by simp) ?_
                refine AllReadyH.cons rfl (fun K hK => ?_) AllReadyH.nil
                (refine wp_st (by rfl) _ _ 23 (by rfl) g8 (by rfl) (cds fL fH q2) (by rfl) 23 (cds 0 0 0) r8 (by rw [cds_size]; exact cellsCd) rfl (all_one (cds_one _ _ _)) ?_)
                replace r9 := r9.rowFar (show g9 ≠ g8 by omega) (cds fL fH q2)
                replace r10 := r10.rowFar (show g10 ≠ g8 by omega) (cds fL fH q2)
                have r8z := r8
                replace s1 := Sl.rowHere s1 r8z (no_cds _ _ _) (cds fL fH q2)
                replace r8 := Row.row r8z (cds fL fH q2)
                clear r8z
                replace kk := blw_row kk l8 (cds fL fH q2)
                refine hK.out _ _ (HK.out _ kk) (fun hHeld => ?_)
                clear hK K
                try simp only [List.getElem_toArray, List.getElem_cons_succ, List.getElem_cons_zero, Act.put]
                refine wpAnyH_ready (rs := [20]) (by kernel_rfl) (by simp) ?_
                refine AllReadyH.cons rfl (fun K hK => ?_) AllReadyH.nil
                (refine wp_st (by rfl) _ _ 26 (by rfl) g9 (by rfl) (bcs A1 (pack o2).length c1 o2.length) (by rfl) 26 (bcs none 0 0 0) r9 (by rw [bcs_size]; exact cellsB) rfl (all_one (bcs_one _ _ _ _)) ?_)
                replace r8 := r8.rowFar (show g8 ≠ g9 by omega) (bcs A1 (pack o2).length c1 o2.length)
                replace r10 := r10.rowFar (show g10 ≠ g9 by omega) (bcs A1 (pack o2).length c1 o2.length)
                have r9z := r9
                replace s1 := Sl.rowHere s1 r9z (no_bcs _ _ _ _) (bcs A1 (pack o2).length c1 o2.length)
                replace r9 := Row.row r9z (bcs A1 (pack o2).length c1 o2.length)
                clear r9z
                replace kk := blw_row kk l9 (bcs A1 (pack o2).length c1 o2.length)
                refine hK.out _ _ (HK.out _ kk) (fun hHeld => ?_)
                clear hK K
                try simp only [List.getElem_toArray, List.getElem_cons_succ, List.getElem_cons_zero, Act.put]
                refine wpAnyH_ready (rs := [21]) (by kernel_rfl) (by simp) ?_
                refine AllReadyH.cons rfl (fun K hK => ?_) AllReadyH.nil
                (refine wp_st (by rfl) _ _ 28 (by rfl) g10 (by rfl) (flt 0 0) (by rfl) 28 (flt 0 0) r10 (by rw [flt_size]; exact cellsF) rfl (all_one (flt_one _ _)) ?_)
                replace r8 := r8.rowFar (show g8 ≠ g10 by omega) (flt 0 0)
                replace r9 := r9.rowFar (show g9 ≠ g10 by omega) (flt 0 0)
                have r10z := r10
                replace s1 := Sl.rowHere s1 r10z (no_flt _ _) (flt 0 0)
                replace r10 := Row.row r10z (flt 0 0)
                clear r10z
                replace kk := blw_row kk l10 (flt 0 0)
                refine hK.out _ _ (HK.out _ kk) (fun hHeld => ?_)
                clear hK K
                try simp only [List.getElem_toArray, List.getElem_cons_succ, List.getElem_cons_zero, Act.put]
                refine wpAnyH_done (by kernel_rfl) ?_ _
                go_wp2_with fail
                go_meet
                exact ⟨g8, g9, g10, A1, c1, rfl, rfl, rfl, r8, r9, r10, s1, kk⟩
          · try simp only [List.getElem_toArray, List.getElem_cons_succ, List.getElem_cons_zero]
            go_simp
            refine hK.out _ _ (HK.out _ (up_alloc kk _)) (fun _ => ?_)
            clear hK K
            try simp only [List.getElem_toArray, List.getElem_cons_succ, List.getElem_cons_zero, Act.put, List.setIfInBounds_toArray, List.set_cons_zero, List.set_cons_succ]
            refine wpAnyH_world (F := fun W => Row W w1.heap.size 28 (flt 0 0) ∧ wr.heap.size ≤ w1.heap.size ∧ Row W g8 23 (cds 0 0 0) ∧ g8 ≠ w1.heap.size ∧ Below wr.heap.size wr W) ⟨Row.newEq _ _ _ _ _ rfl rfl, kk.size, r8.alloc _, Nat.ne_of_lt r8.lt, up_alloc kk _⟩ ?_
            generalize w1.heap.size = g10
            clear hHeld kk r8
            rintro w2 ⟨r10, l10, r8, n8_10, kk⟩
            have hHeld := HK.out _ kk
            refine wpAnyH_ready (rs := [11, 17]) (by kernel_rfl) (by simp) ?_
            refine AllReadyH.cons rfl (fun K hK => ?_) (AllReadyH.cons rfl (fun K hK => ?_) AllReadyH.nil)
            · try simp only [List.getElem_toArray, List.getElem_cons_succ, List.getElem_cons_zero]
              go_simp
              (go_at_call 11; refine (HPUT.out _).mono ?_; rintro e w3 ⟨A1, c1, rfl, s1, hbc⟩)
              try go_wp2_with fail
              replace r8 := r8.below hbc r8.lt
              replace r10 := r10.below hbc r10.lt
              replace kk := up_call kk hbc
              clear hbc
              refine hK.out _ _ (HK.out _ kk) (fun hHeld => ?_)
              clear hK K
              try simp only [List.getElem_toArray, List.getElem_cons_succ, List.getElem_cons_zero, Act.put, List.setIfInBounds_toArray, List.set_cons_zero, List.set_cons_succ]
              refine wpAnyH_take (i := 12) (v := ?_) rfl (by kernel_rfl) (by kernel_rfl) (by kernel_rfl) (fun _ _ _ h => h) (Or.inl ⟨by rfl, ?_⟩) (by assumption) ?_
              rotate_left
              · (rintro wx ⟨sw0, sw1, sw2, sw3⟩; try simp only [List.getElem_toArray, List.getElem_cons_succ, List.getElem_cons_zero]; go_simp; try with_reducible rfl)
              try simp only [List.getElem_toArray, List.getElem_cons_succ, List.getElem_cons_zero, Act.put, List.setIfInBounds_toArray, List.set_cons_zero, List.set_cons_succ]
              refine wpAnyH_take (i := 13) (v := ?_) rfl (by kernel_rfl) (by kernel_rfl) (by kernel_rfl) (fun _ _ _ h => h) (Or.inl ⟨by rfl, ?_⟩) (by assumption) ?_
              rotate_left
              · (rintro wx ⟨sw0, sw1, sw2, sw3⟩; try simp only [List.getElem_toArray, List.getElem_cons_succ, List.getElem_cons_zero]; go_simp; try with_reducible rfl)
              try simp only [List.getElem_toArray, List.getElem_cons_succ, List.getElem_cons_zero, Act.put, List.setIfInBounds_toArray, List.set_cons_zero, List.set_cons_succ]
              refine wpAnyH_take (i := 14) (v := ?_) rfl (by kernel_rfl) (by kernel_rfl) (by kernel_rfl) (fun _ _ _ h => h) (Or.inl ⟨by rfl, ?_⟩) (by assumption) ?_
              rotate_left
              · (rintro wx ⟨sw0, sw1, sw2, sw3⟩; try simp only [List.getElem_toArray, List.getElem_cons_succ, List.getElem_cons_zero]; go_simp; try with_reducible rfl)
              try simp only [List.getElem_toArray, List.getElem_cons_succ, List.getElem_cons_zero, Act.put, List.setIfInBounds_toArray, List.set_cons_zero, List.set_cons_succ]
              refine wpAnyH_take (i := 15) (v := ?_) rfl (by kernel_rfl) (by kernel_rfl) (by kernel_rfl) (fun _ _ _ h => h) (Or.inl ⟨by rfl, ?_⟩) (by assumption) ?_
              rotate_left
              · (rintro wx ⟨sw0, sw1, sw2, sw3⟩; try simp only [List.getElem_toArray, List.getElem_cons_succ, List.getElem_cons_zero]; go_simp; try with_reducible rfl)
              try simp only [List.getElem_toArray, List.getElem_cons_succ, List.getElem_cons_zero, Act.put, List.setIfInBounds_toArray, List.set_cons_zero, List.set_cons_succ]
              refine wpAnyH_ready (rs := [17]) (by kernel_rfl) (by simp) ?_
              refine AllReadyH.cons rfl (fun K hK => ?_) AllReadyH.nil
              · try simp only [List.getElem_toArray, List.getElem_cons_succ, List.getElem_cons_zero]
                go_simp
                refine hK.out _ _ (HK.out _ (up_alloc kk _)) (fun _ => ?_)
                clear hK K
                try simp only [List.getElem_toArray, List.getElem_cons_succ, List.getElem_cons_zero, Act.put, List.setIfInBounds_toArray, List.set_cons_zero, List.set_cons_succ]
                refine wpAnyH_world (F := fun W => Row W w3.heap.size 26 (bcs none 0 0 0) ∧ wr.heap.size ≤ w3.heap.size ∧ Row W g8 23 (cds 0 0 0) ∧ g8 ≠ w3.heap.size ∧ Row W g10 28 (flt 0 0) ∧ g10 ≠ w3.heap.size ∧ Sl W W.heap.size A1 (pack o2).length (bl (pack o2)) ∧ Below wr.heap.size wr W) ⟨Row.newEq _ _ _ _ _ rfl rfl, kk.size, r8.alloc _, Nat.ne_of_lt r8.lt, r10.alloc _, Nat.ne_of_lt r10.lt, s1.up ((Below.refl _ _).alloc (Nat.le_refl _) _), up_alloc kk _⟩ ?_
                generalize w3.heap.size = g9
                clear hHeld kk r8 r10 s1
                rintro w4 ⟨r9, l9, r8, n8_9, r10, n10_9, s1, kk⟩
                have hHeld := HK.out _ kk
                refine wpAnyH_ready (rs := [19]) (by kernel_rfl) (by simp) ?_
                refine AllReadyH.cons rfl (fun K hK => ?_) AllReadyH.nil
                (refine wp_st (by rfl) _ _ 23 (by rfl) g8 (by rfl) (cds fL fH q2) (by rfl) 23 (cds 0 0 0) r8 (by rw [cds_size]; exact cellsCd) rfl (all_one (cds_one _ _ _)) ?_)
                replace r9 := r9.rowFar (show g9 ≠ g8 by omega) (cds fL fH q2)
                replace r10 := r10.rowFar (show g10 ≠ g8 by omega) (cds fL fH q2)
                have r8z := r8
                replace s1 := Sl.rowHere s1 r8z (no_cds _ _ _) (cds fL fH q2)
                replace r8 := Row.row r8z (cds fL fH q2)
                clear r8z
                replace kk := blw_row kk l8 (cds fL fH q2)
                refine hK.out _ _ (HK.out _ kk) (fun hHeld => ?_)
                clear hK K
                try simp only [List.getElem_toArray, List.getElem_cons_succ, List.getElem_cons_zero, Act.put]
                refine wpAnyH_ready (rs := [20]) (by kernel_rfl) (by simp) ?_
                refine AllReadyH.cons rfl (fun K hK => ?_) AllReadyH.nil
                (refine wp_st (by rfl) _ _ 26 (by rfl) g9 (by rfl) (bcs A1 (pack o2).length c1 o2.length) (by rfl) 26 (bcs none 0 0 0) r9 (by rw [bcs_size]; exact cellsB) rfl (all_one (bcs_one _ _ _ _)) ?_)
                replace r8 := r8.rowFar (show g8 ≠ g9 by omega) (bcs A1 (pack o2).length c1 o2.length)
                replace r10 := r10.rowFar (show g10 ≠ g9 by omega) (bcs A1 (pack o2).length c1 o2.length)
                have r9z := r9
                replace s1 := Sl.rowHere s1 r9z (no_bcs _ _ _ _) (bcs A1 (pack o2).length c1 o2.length)
                replace r9 := Row.row r9z (bcs A1 (pack o2).length c1 o2.length)
                clear r9z
                replace kk := blw_row kk l9 (bcs A1 (pack o2).length c1 o2.length)
                refine hK.out _ _ (HK.out _ kk) (fun hHeld => ?_)
                clear hK K
                try simp only [List.getElem_toArray, List.getElem_cons_succ, List.getElem_cons_zero, Act.put]
                refine wpAnyH_ready (rs := [21]) (by kernel_rfl) (by simp) ?_
                refine AllReadyH.cons rfl (fun K hK => ?_) AllReadyH.nil
                (refine wp_st (by rfl) _ _ 28 (by rfl) g10 (by rfl) (flt 0 0) (by rfl) 28 (flt 0 0) r10 (by rw [flt_size]; exact cellsF) rfl (all_one (flt_one _ _)) ?_)
                replace r8 := r8.rowFar (show g8 ≠ g10 by omega) (flt 0 0)
                replace r9 := r9.rowFar (show g9 ≠ g10 by omega) (flt 0 0)
                have r10z := r10
                replace s1 := Sl.rowHere s1 r10z (no_flt _ _) (flt 0 0)
                replace r10 := Row.row r10z (flt 0 0)
                clear r10z
                replace kk := blw_row kk l10 (flt 0 0)
                refine hK.out _ _ (HK.out _ kk) (fun hHeld => ?_)
                clear hK K
                try simp only [List.getElem_toArray, List.getElem_cons_succ, List.getElem_cons_zero, Act.put]
                refine wpAnyH_done (by kernel_rfl) ?_ _
                go_wp2_with fail
                go_meet
                exact ⟨g8, g9, g10, A1, c1, rfl, rfl, rfl, r8, r9, r10, s1, kk⟩
            · try simp only [List.getElem_toArray, List.getElem_cons_succ, List.getElem_cons_zero]
              go_simp
              refine hK.out _ _ (HK.out _ (up_alloc kk _)) (fun _ => ?_)
              clear hK K
              try simp only [List.getElem_toArray, List.getElem_cons_succ, List.getElem_cons_zero, Act.put, List.setIfInBounds_toArray, List.set_cons_zero, List.set_cons_succ]
              refine wpAnyH_world (F := fun W => Row W w2.heap.size 26 (bcs none 0 0 0) ∧ wr.heap.size ≤ w2.heap.size ∧ Row W g8 23 (cds 0 0 0) ∧ g8 ≠ w2.heap.size ∧ Row W g10 28 (flt 0 0) ∧ g10 ≠ w2.heap.size ∧ Below wr.heap.size wr W) ⟨Row.newEq _ _ _ _ _ rfl rfl, kk.size, r8.alloc _, Nat.ne_of_lt r8.lt, r10.alloc _, Nat.ne_of_lt r10.lt, up_alloc kk _⟩ ?_
              generalize w2.heap.size = g9
              clear hHeld kk r8 r10
              rintro w3 ⟨r9, l9, r8, n8_9, r10, n10_9, kk⟩
              have hHeld := HK.out _ kk
              refine wpAnyH_ready (rs := [11]) (by kernel_rfl) (by simp) ?_
              refine AllReadyH.cons rfl (fun K hK => ?_) AllReadyH.nil
              · try simp only [List.getElem_toArray, List.getElem_cons_succ, List.getElem_cons_zero]
                go_simp
                (go_at_call 11; refine (HPUT.out _).mono ?_; rintro e w4 ⟨A1, c1, rfl, s1, hbc⟩)
                try go_wp2_with fail
                replace r8 := r8.below hbc r8.lt
                replace r9 := r9.below hbc r9.lt
                replace r10 := r10.below hbc r10.lt
                replace kk := up_call kk hbc
                clear hbc
                refine hK.out _ _ (HK.out _ kk) (fun hHeld => ?_)
                clear hK K
                try simp only [List.getElem_toArray, List.getElem_cons_succ, List.getElem_cons_zero, Act.put, List.setIfInBounds_toArray, List.set_cons_zero, List.set_cons_succ]
                refine wpAnyH_take (i := 12) (v := ?_) rfl (by kernel_rfl) (by kernel_rfl) (by kernel_rfl) (fun _ _ _ h => h) (Or.inl ⟨by rfl, ?_⟩) (by assumption) ?_
                rotate_left
                · (rintro wx ⟨sw0, sw1, sw2, sw3⟩; try simp only [List.getElem_toArray, List.getElem_cons_succ, List.getElem_cons_zero]; go_simp; try with_reducible rfl)
                try simp only [List.getElem_toArray, List.getElem_cons_succ, List.getElem_cons_zero, Act.put, List.setIfInBounds_toArray, List.set_cons_zero, List.set_cons_succ]
                refine wpAnyH_take (i := 13) (v := ?_) rfl (by kernel_rfl) (by kernel_rfl) (by kernel_rfl) (fun _ _ _ h => h) (Or.inl ⟨by rfl, ?_⟩) (by assumption) ?_
                rotate_left
                · (rintro wx ⟨sw0, sw1, sw2, sw3⟩; try simp only [List.getElem_toArray, List.getElem_cons_succ, List.getElem_cons_zero]; go_simp; try with_reducible rfl)
                try simp only [List.getElem_toArray, List.getElem_cons_succ, List.getElem_cons_zero, Act.put, List.setIfInBounds_toArray, List.set_cons_zero, List.set_cons_succ]
                refine wpAnyH_take (i := 14) (v := ?_) rfl (by kernel_rfl) (by kernel_rfl) (by kernel_rfl) (fun _ _ _ h => h) (Or.inl ⟨by rfl, ?_⟩) (by assumption) ?_
                rotate_left
                · (rintro wx ⟨sw0, sw1, sw2, sw3⟩; try simp only [List.getElem_toArray, List.getElem_cons_succ, List.getElem_cons_zero]; go_simp; try with_reducible rfl)
                try simp only [List.getElem_toArray, List.getElem_cons_succ, List.getElem_cons_zero, Act.put, List.setIfInBounds_toArray, List.set_cons_zero, List.set_cons_succ]
                refine wpAnyH_take (i := 15) (v := ?_) rfl (by kernel_rfl) (by kernel_rfl) (by kernel_rfl) (fun _ _ _ h => h) (Or.inl ⟨by rfl, ?_⟩) (by assumption) ?_
                rotate_left
                · (rintro wx ⟨sw0, sw1, sw2, sw3⟩; try simp only [List.getElem_toArray, List.getElem_cons_succ, List.getElem_cons_zero]; go_simp; try with_reducible rfl)
                try simp only [List.getElem_toArray, List.getElem_cons_succ, List.getElem_cons_zero, Act.put, List.setIfInBounds_toArray, List.set_cons_zero, List.set_cons_succ]
                refine wpAnyH_ready (rs := [19]) (by kernel_rfl) (by simp) ?_
                refine AllReadyH.cons rfl (fun K hK => ?_) AllReadyH.nil
                (refine wp_st (by rfl) _ _ 23 (by rfl) g8 (by rfl) (cds fL fH q2) (by rfl) 23 (cds 0 0 0) r8 (by rw [cds_size]; exact cellsCd) rfl (all_one (cds_one _ _ _)) ?_)
                replace r9 := r9.rowFar (show g9 ≠ g8 by omega) (cds fL fH q2)
                replace r10 := r10.rowFar (show g10 ≠ g8 by omega) (cds fL fH q2)
                have r8z := r8
                replace s1 := Sl.rowHere s1 r8z (no_cds _ _ _) (cds fL fH q2)
                replace r8 := Row.row r8z (cds fL fH q2)
                clear r8z
                replace kk := blw_row kk l8 (cds fL fH q2)
                refine hK.out _ _ (HK.out _ kk) (fun hHeld => ?_)
                clear hK K
                try simp only [List.getElem_toArray, List.getElem_cons_succ, List.getElem_cons_zero, Act.put]
                refine wpAnyH_ready (rs := [20]) (by kernel_rfl) (by simp) ?_
                refine AllReadyH.cons rfl (fun K hK => ?_) AllReadyH.nil
                (refine wp_st (by rfl) _ _ 26 (by rfl) g9 (by rfl) (bcs A1 (pack o2).length c1 o2.length) (by rfl) 26 (bcs none 0 0 0) r9 (by rw [bcs_size]; exact cellsB) rfl (all_one (bcs_one _ _ _ _)) ?_)
                replace r8 := r8.rowFar (show g8 ≠ g9 by omega) (bcs A1 (pack o2).length c1 o2.length)
                replace r10 := r10.rowFar (show g10 ≠ g9 by omega) (bcs A1 (pack o2).length c1 o2.length)
                have r9z := r9
                replace s1 := Sl.rowHere s1 r9z (no_bcs _ _ _ _) (bcs A1 (pack o2).length c1 o2.length)
                replace r9 := Row.row r9z (bcs A1 (pack o2).length c1 o2.length)
                clear r9z
                replace kk := blw_row kk l9 (bcs A1 (pack o2).length c1 o2.length)
                refine hK.out _ _ (HK.out _ kk) (fun hHeld => ?_)
                clear hK K
                try simp only [List.getElem_toArray, List.getElem_cons_succ, List.getElem_cons_zero, Act.put]
                refine wpAnyH_ready (rs := [21]) (by kernel_rfl) (by simp) ?_
                refine AllReadyH.cons rfl (fun K hK => ?_) AllReadyH.nil
                (refine wp_st (by rfl) _ _ 28 (by rfl) g10 (by rfl) (flt 0 0) (by rfl) 28 (flt 0 0) r10 (by rw [flt_size]; exact cellsF) rfl (all_one (flt_one _ _)) ?_)
                replace r8 := r8.rowFar (show g8 ≠ g10 by omega) (flt 0 0)
                replace r9 := r9.rowFar (show g9 ≠ g10 by omega) (flt 0 0)
                have r10z := r10
                replace s1 := Sl.rowHere s1 r10z (no_flt _ _) (flt 0 0)
                replace r10 := Row.row r10z (flt 0 0)
                clear r10z
                replace kk := blw_row kk l10 (flt 0 0)
                refine hK.out _ _ (HK.out _ kk) (fun hHeld => ?_)
                clear hK K
                try simp only [List.getElem_toArray, List.getElem_cons_succ, List.getElem_cons_zero, Act.put]
                refine wpAnyH_done (by kernel_rfl) ?_ _
                go_wp2_with fail
                go_meet
                exact ⟨g8, g9, g10, A1, c1, rfl, rfl, rfl, r8, r9, r10, s1, kk⟩
        · try simp only [List.getElem_toArray, List.getElem_cons_succ, List.getElem_cons_zero]
          go_simp
          refine hK.out _ _ (HK.out _ (up_alloc kk _)) (fun _ => ?_)
          clear hK K
          try simp only [List.getElem_toArray, List.getElem_cons_succ, List.getElem_cons_zero, Act.put, List.setIfInBounds_toArray, List.set_cons_zero, List.set_cons_succ]
          refine wpAnyH_world (F := fun W => Row W w0.heap.size 26 (bcs none 0 0 0) ∧ wr.heap.size ≤ w0.heap.size ∧ Below wr.heap.size wr W) ⟨Row.newEq _ _ _ _ _ rfl rfl, kk.size, up_alloc kk _⟩ ?_
          generalize w0.heap.size = g9
          clear hHeld kk 
          rintro w1 ⟨r9, l9, kk⟩
          have hHeld := HK.out _ kk
          refine wpAnyH_ready (rs := [11, 16, 18]) (by kernel_rfl) (by simp) ?_
          refine AllReadyH.cons rfl (fun K hK => ?_) (AllReadyH.cons rfl (fun K hK => ?_) (AllReadyH.cons rfl (fun K hK => ?_) AllReadyH.nil))
          · try simp only [List.getElem_toArray, List.getElem_cons_succ, List.getElem_cons_zero]
            go_simp
            (go_at_call 11; refine (HPUT.out _).mono ?_; rintro e w2 ⟨A1, c1, rfl, s1, hbc⟩)
            try go_wp2_with fail
            replace r9 := r9.below hbc r9.lt
            replace kk := up_call kk hbc
            clear hbc
            refine hK.out _ _ (HK.out _ kk) (fun hHeld => ?_)
            clear hK K
            try simp only [List.getElem_toArray, List.getElem_cons_succ, List.getElem_cons_zero, Act.put, List.setIfInBounds_toArray, List.set_cons_zero, List.set_cons_succ]
            refine wpAnyH_take (i := 12) (v := ?_) rfl (by kernel_rfl) (by kernel_rfl) (by kernel_rfl) (fun _ _ _ h => h) (Or.inl ⟨by rfl, ?_⟩) (by assumption) ?_
            rotate_left
            · (rintro wx ⟨sw0, sw1, sw2, sw3⟩; try simp only [List.getElem_toArray, List.getElem_cons_succ, List.getElem_cons_zero]; go_simp; try with_reducible rfl)
            try simp only [List.getElem_toArray, List.getElem_cons_succ, List.getElem_cons_zero, Act.put, List.setIfInBounds_toArray, List.set_cons_zero, List.set_cons_succ]
            refine wpAnyH_take (i := 13) (v := ?_) rfl (by kernel_rfl) (by kernel_rfl) (by kernel_rfl) (fun _ _ _ h => h) (Or.inl ⟨by rfl, ?_⟩) (by assumption) ?_
            rotate_left
            · (rintro wx ⟨sw0, sw1, sw2, sw3⟩; try simp only [List.getElem_toArray, List.getElem_cons_succ, List.getElem_cons_zero]; go_simp; try with_reducible rfl)
            try simp only [List.getElem_toArray, List.getElem_cons_succ, List.getElem_cons_zero, Act.put, List.setIfInBounds_toArray, List.set_cons_zero, List.set_cons_succ]
            refine wpAnyH_take (i := 14) (v := ?_) rfl (by kernel_rfl) (by kernel_rfl) (by kernel_rfl) (fun _ _ _ h => h) (Or.inl ⟨by rfl, ?_⟩) (by assumption) ?_
            rotate_left
            · (rintro wx ⟨sw0, sw1, sw2, sw3⟩; try simp only [List.getElem_toArray, List.getElem_cons_succ, List.getElem_cons_zero]; go_simp; try with_reducible rfl)
            try simp only [List.getElem_toArray, List.getElem_cons_succ, List.getElem_cons_zero, Act.put, List.setIfInBounds_toArray, List.set_cons_zero, List.set_cons_succ]
            refine wpAnyH_take (i := 15) (v := ?_) rfl (by kernel_rfl) (by kernel_rfl) (by kernel_rfl) (fun _ _ _ h => h) (Or.inl ⟨by rfl, ?_⟩) (by assumption) ?_
            rotate_left
            · (rintro wx ⟨sw0, sw1, sw2, sw3⟩; try simp only [List.getElem_toArray, List.getElem_cons_succ, List.getElem_cons_zero]; go_simp; try with_reducible rfl)
            try simp only [List.getElem_toArray, List.getElem_cons_succ, List.getElem_cons_zero, Act.put, List.setIfInBounds_toArray, List.set_cons_zero, List.set_cons_succ]
            refine wpAnyH_ready (rs := [16, 18]) (by kernel_rfl) (by simp) ?_
            refine AllReadyH.cons rfl (fun K hK => ?_) (AllReadyH.cons rfl (fun K hK => ?_) AllReadyH.nil)
            · try simp only [List.getElem_toArray, List.getElem_cons_succ, List.getElem_cons_zero]
              go_simp
              refine hK.out _ _ (HK.out _ (up_alloc kk _)) (fun _ => ?_)
              clear hK K
              try simp only [List.getElem_toArray, List.getElem_cons_succ, List.getElem_cons_zero, Act.put, List.setIfInBounds_toArray, List.set_cons_zero, List.set_cons_succ]
              refine wpAnyH_world (F := fun W => Row W w2.heap.size 23 (cds 0 0 0) ∧ wr.heap.size ≤ w2.heap.size ∧ Row W g9 26 (bcs none 0 0 0) ∧ g9 ≠ w2.heap.size ∧ Sl W W.heap.size A1 (pack o2).length (bl (pack o2)) ∧ Below wr.heap.size wr W) ⟨Row.newEq _ _ _ _ _ rfl rfl, kk.size, r9.alloc _, Nat.ne_of_lt r9.lt, s1.up ((Below.refl _ _).alloc (Nat.le_refl _) _), up_alloc kk _⟩ ?_
              generalize w2.heap.size = g8
              clear hHeld kk r9 s1
              rintro w3 ⟨r8, l8, r9, n9_8, s1, kk⟩
              have hHeld := HK.out _ kk
              refine wpAnyH_ready (rs := [18]) (by kernel_rfl) (by simp) ?_
              refine AllReadyH.cons rfl (fun K hK => ?_) AllReadyH.nil
              · try simp only [List.getElem_toArray, List.getElem_cons_succ, List.getElem_cons_zero]
                go_simp
                refine hK.out _ _ (HK.out _ (up_alloc kk _)) (fun _ => ?_)
                clear hK K
                try simp only [List.getElem_toArray, List.getElem_cons_succ, List.getElem_cons_zero, Act.put, List.setIfInBounds_toArray, List.set_cons_zero, List.set_cons_succ]
                refine wpAnyH_world (F := fun W => Row W w3.heap.size 28 (flt 0 0) ∧ wr.heap.size ≤ w3.heap.size ∧ Row W g8 23 (cds 0 0 0) ∧ g8 ≠ w3.heap.size ∧ Row W g9 26 (bcs none 0 0 0) ∧ g9 ≠ w3.heap.size ∧ Sl W W.heap.size A1 (pack o2).length (bl (pack o2)) ∧ Below wr.heap.size wr W) ⟨Row.newEq _ _ _ _ _ rfl rfl, kk.size, r8.alloc _, Nat.ne_of_lt r8.lt, r9.alloc _, Nat.ne_of_lt r9.lt, s1.up ((Below.refl _ _).alloc (Nat.le_refl _) _), up_alloc kk _⟩ ?_
                generalize w3.heap.size = g10
                clear hHeld kk r8 r9 s1
                rintro w4 ⟨r10, l10, r8, n8_10, r9, n9_10, s1, kk⟩
                have hHeld := HK.out _ kk
                refine wpAnyH_ready (rs := [19]) (by kernel_rfl) (by simp) ?_
                refine AllReadyH.cons rfl (fun K hK => ?_) AllReadyH.nil
                (refine wp_st (by rfl) _ _ 23 (by rfl) g8 (by rfl) (cds fL fH q2) (by rfl) 23 (cds 0 0 0) r8 (by rw [cds_size]; exact cellsCd) rfl (all_one (cds_one _ _ _)) ?_)
                replace r9 := r9.rowFar (show g9 ≠ g8 by omega) (cds fL fH q2)
                replace r10 := r10.rowFar (show g10 ≠ g8 by omega) (cds fL fH q2)
                have r8z := r8
                replace s1 := Sl.rowHere s1 r8z (no_cds _ _ _) (cds fL fH q2)
                replace r8 := Row.row r8z (cds fL fH q2)
                clear r8z
                replace kk := blw_row kk l8 (cds fL fH q2)
                refine hK.out _ _ (HK.out _ kk) (fun hHeld => ?_)
                clear hK K
                try simp only [List.getElem_toArray, List.getElem_cons_succ, List.getElem_cons_zero, Act.put]
                refine wpAnyH_ready (rs := [20]) (by kernel_rfl) (by simp) ?_
                refine AllReadyH.cons rfl (fun K hK => ?_) AllReadyH.nil
                (refine wp_st (by rfl) _ _ 26 (by rfl) g9 (by rfl) (bcs A1 (pack o2).length c1 o2.length) (by rfl) 26 (bcs none 0 0 0) r9 (by rw [bcs_size]; exact cellsB) rfl (all_one (bcs_one _ _ _ _)) ?_)
                replace r8 := r8.rowFar (show g8 ≠ g9 by omega) (bcs A1 (pack o2).length c1 o2.length)
                replace r10 := r10.rowFar (show g10 ≠ g9 by omega) (bcs A1 (pack o2).length c1 o2.length)
                have r9z := r9
                replace s1 := Sl.rowHere s1 r9z (no_bcs _ _ _ _) (bcs A1 (pack o2).length c1 o2.length)
                replace r9 := Row.row r9z (bcs A1 (pack o2).length c1 o2.length)
                clear r9z
                replace kk := blw_row kk l9 (bcs A1 (pack o2).length c1 o2.length)
                refine hK.out _ _ (HK.out _ kk) (fun hHeld => ?_)
                clear hK K
                try simp only [List.getElem_toArray, List.getElem_cons_succ, List.getElem_cons_zero, Act.put]
                refine wpAnyH_ready (rs := [21]) (by kernel_rfl) (by simp) ?_
                refine AllReadyH.cons rfl (fun K hK => ?_) AllReadyH.nil
                (refine wp_st (by rfl) _ _ 28 (by rfl) g10 (by rfl) (flt 0 0) (by rfl) 28 (flt 0 0) r10 (by rw [flt_size]; exact cellsF) rfl (all_one (flt_one _ _)) ?_)
                replace r8 := r8.rowFar (show g8 ≠ g10 by omega) (flt 0 0)
                replace r9 := r9.rowFar (show g9 ≠ g10 by omega) (flt 0 0)
                have r10z := r10
                replace s1 := Sl.rowHere s1 r10z (no_flt _ _) (flt 0 0)
                replace r10 := Row.row r10z (flt 0 0)
                clear r10z
                replace kk := blw_row kk l10 (flt 0 0)
                refine hK.out _ _ (HK.out _ kk) (fun hHeld => ?_)
                clear hK K
                try simp only [List.getElem_toArray, List.getElem_cons_succ, List.getElem_cons_zero, Act.put]
                refine wpAnyH_done (by kernel_rfl) ?_ _
                go_wp2_with fail
                go_meet
                exact ⟨g8, g9, g10, A1, c1, rfl, rfl, rfl, r8, r9, r10, s1, kk⟩
            · try simp only [List.getElem_toArray, List.getElem_cons_succ, List.getElem_cons_zero]
              go_simp
              refine hK.out _ _ (HK.out _ (up_alloc kk _)) (fun _ => ?_)
              clear hK K
              try simp only [List.getElem_toArray, List.getElem_cons_succ, List.getElem_cons_zero, Act.put, List.setIfInBounds_toArray, List.set_cons_zero, List.set_cons_succ]
              refine wpAnyH_world (F := fun W => Row W w2.heap.size 28 (flt 0 0) ∧ wr.heap.size ≤ w2.heap.size ∧ Row W g9 26 (bcs none 0 0 0) ∧ g9 ≠ w2.heap.size ∧ Sl W W.heap.size A1 (pack o2).length (bl (pack o2)) ∧ Below wr.heap.size wr W) ⟨Row.newEq _ _ _ _ _ rfl rfl, kk.size, r9.alloc _, Nat.ne_of_lt r9.lt, s1.up ((Below.refl _ _).alloc (Nat.le_refl _) _), up_alloc kk _⟩ ?_
              generalize w2.heap.size = g10
              clear hHeld kk r9 s1
              rintro w3 ⟨r10, l10, r9, n9_10, s1, kk⟩
              have hHeld := HK.out _ kk
              refine wpAnyH_ready (rs := [16]) (by kernel_rfl) (by simp) ?_
              refine AllReadyH.cons rfl (fun K hK => ?_) AllReadyH.nil
              · try simp only [List.getElem_toArray, List.getElem_cons_succ, List.getElem_cons_zero]
                go_simp
                refine hK.out _ _ (HK.out _ (up_alloc kk _)) (fun _ => ?_)
                clear hK K
                try simp only [List.getElem_toArray, List.getElem_cons_succ, List.getElem_cons_zero, Act.put, List.setIfInBounds_toArray, List.set_cons_zero, List.set_cons_succ]
                refine wpAnyH_world (F := fun W => Row W w3.heap.size 23 (cds 0 0 0) ∧ wr.heap.size ≤ w3.heap.size ∧ Row W g9 26 (bcs none 0 0 0) ∧ g9 ≠ w3.heap.size ∧ Row W g10 28 (flt 0 0) ∧ g10 ≠ w3.heap.size ∧ Sl W W.heap.size A1 (pack o2).length (bl (pack o2)) ∧ Below wr.heap.size wr W) ⟨Row.newEq _ _ _ _ _ rfl rfl, kk.size, r9.alloc _, Nat.ne_of_lt r9.lt, r10.alloc _, Nat.ne_of_lt r10.lt, s1.up ((Below.refl _ _).alloc (Nat.le_refl _) _), up_alloc kk _⟩ ?_
                generalize w3.heap.size = g8
                clear hHeld kk r9 r10 s1
                rintro w4 ⟨r8, l8, r9, n9_8, r10, n10_8, s1, kk⟩
                have hHeld := HK.out _ kk
                refine wpAnyH_ready (rs := [19]) (by kernel_rfl) (by simp) ?_
                refine AllReadyH.cons rfl (fun K hK => ?_) AllReadyH.nil
                (refine wp_st (by rfl) _ _ 23 (by rfl) g8 (by rfl) (cds fL fH q2) (by rfl) 23 (cds 0 0 0) r8 (by rw [cds_size]; exact cellsCd) rfl (all_one (cds_one _ _ _)) ?_)
                replace r9 := r9.rowFar (show g9 ≠ g8 by omega) (cds fL fH q2)
                replace r10 := r10.rowFar (show g10 ≠ g8 by omega) (cds fL fH q2)
                have r8z := r8
                replace s1 := Sl.rowHere s1 r8z (no_cds _ _ _) (cds fL fH q2)
                replace r8 := Row.row r8z (cds fL fH q2)
                clear r8z
                replace kk := blw_row kk l8 (cds fL fH q2)
                refine hK.out _ _ (HK.out _ kk) (fun hHeld => ?_)
                clear hK K
                try simp only [List.getElem_toArray, List.getElem_cons_succ, List.getElem_cons_zero, Act.put]
                refine wpAnyH_ready (rs := [20]) (by kernel_rfl) (by simp) ?_
                refine AllReadyH.cons rfl (fun K hK => ?_) AllReadyH.nil
                (refine wp_st (by rfl) _ _ 26 (by rfl) g9 (by rfl) (bcs A1 (pack o2).length c1 o2.length) (by rfl) 26 (bcs none 0 0 0) r9 (by rw [bcs_size]; exact cellsB) rfl (all_one (bcs_one _ _ _ _)) ?_)
                replace r8 := r8.rowFar (show g8 ≠ g9 by omega) (bcs A1 (pack o2).length c1 o2.length)
                replace r10 := r10.rowFar (show g10 ≠ g9 by omega) (bcs A1 (pack o2).length c1 o2.length)
                have r9z := r9
                replace s1 := Sl.rowHere s1 r9z (no_bcs _ _ _ _) (bcs A1 (pack o2).length c1 o2.length)
                replace r9 := Row.row r9z (bcs A1 (pack o2).length c1 o2.length)
                clear r9z
                replace kk := blw_row kk l9 (bcs A1 (pack o2).length c1 o2.length)
                refine hK.out _ _ (HK.out _ kk) (fun hHeld => ?_)
                clear hK K
                try simp only [List.getElem_toArray, List.getElem_cons_succ, List.getElem_cons_zero, Act.put]
                refine wpAnyH_ready (rs := [21]) (by kernel_rfl) (by simp) ?_
                refine AllReadyH.cons rfl (fun K hK => ?_) AllReadyH.nil
                (refine wp_st (by rfl) _ _ 28 (by rfl) g10 (by rfl) (flt 0 0) (by rfl) 28 (flt 0 0) r10 (by rw [flt_size]; exact cellsF) rfl (all_one (flt_one _ _)) ?_)
                replace r8 := r8.rowFar (show g8 ≠ g10 by omega) (flt 0 0)
                replace r9 := r9.rowFar (show g9 ≠ g10 by omega) (flt 0 0)
                have r10z := r10
                replace s1 := Sl.rowHere s1 r10z (no_flt _ _) (flt 0 0)
                replace r10 := Row.row r10z (flt 0 0)
                clear r10z
                replace kk := blw_row kk l10 (flt 0 0)
                refine hK.out _ _ (HK.out _ kk) (fun hHeld => ?_)
                clear hK K
                try simp only [List.getElem_toArray, List.getElem_cons_succ, List.getElem_cons_zero, Act.put]
                refine wpAnyH_done (by kernel_rfl) ?_ _
                go_wp2_with fail
                go_meet
                exact ⟨g8, g9, g10, A1, c1, rfl, rfl, rfl, r8, r9, r10, s1, kk⟩
          · try simp only [List.getElem_toArray, List.getElem_cons_succ, List.getElem_cons_zero]
            go_simp
            refine hK.out _ _ (HK.out _ (up_alloc kk _)) (fun _ => ?_)
            clear hK K
            try simp only [List.getElem_toArray, List.getElem_cons_succ, List.getElem_cons_zero, Act.put, List.setIfInBounds_toArray, List.set_cons_zero, List.set_cons_succ]
            refine wpAnyH_world (F := fun W => Row W w1.heap.size 23 (cds 0 0 0) ∧ wr.heap.size ≤ w1.heap.size ∧ Row W g9 26 (bcs none 0 0 0) ∧ g9 ≠ w1.heap.size ∧ Below wr.heap.size wr W) ⟨Row.newEq _ _ _ _ _ rfl rfl, kk.size, r9.alloc _, Nat.ne_of_lt r9.lt, up_alloc kk _⟩ ?_
            generalize w1.heap.size = g8
            clear hHeld kk r9
            rintro w2 ⟨r8, l8, r9, n9_8, kk⟩
            have hHeld := HK.out _ kk
            refine wpAnyH_ready (rs := [11, 18]) (by kernel_rfl) (by simp) ?_
            refine AllReadyH.cons rfl (fun K hK => ?_) (AllReadyH.cons rfl (fun K hK => ?_) AllReadyH.nil)
            · try simp only [List.getElem_toArray, List.getElem_cons_succ, List.getElem_cons_zero]
              go_simp
              (go_at_call 11; refine (HPUT.out _).mono ?_; rintro e w3 ⟨A1, c1, rfl, s1, hbc⟩)
              try go_wp2_with fail
              replace r8 := r8.below hbc r8.lt
              replace r9 := r9.below hbc r9.lt
              replace kk := up_call kk hbc
              clear hbc
              refine hK.out _ _ (HK.out _ kk) (fun hHeld => ?_)
              clear hK K
              try simp only [List.getElem_toArray, List.getElem_cons_succ, List.getElem_cons_zero, Act.put, List.setIfInBounds_toArray, List.set_cons_zero, List.set_cons_succ]
              refine wpAnyH_take (i := 12) (v := ?_) rfl (by kernel_rfl) (by kernel_rfl) (by kernel_rfl) (fun _ _ _ h => h) (Or.inl ⟨by rfl, ?_⟩) (by assumption) ?_
              rotate_left
              · (rintro wx ⟨sw0, sw1, sw2, sw3⟩; try simp only [List.getElem_toArray, List.getElem_cons_succ, List.getElem_cons_zero]; go_simp; try with_reducible rfl)
              try simp only [List.getElem_toArray, List.getElem_cons_succ, List.getElem_cons_zero, Act.put, List.setIfInBounds_toArray, List.set_cons_zero, List.set_cons_succ]
              refine wpAnyH_take (i := 13) (v := ?_) rfl (by kernel_rfl) (by kernel_rfl) (by kernel_rfl) (fun _ _ _ h => h) (Or.inl ⟨by rfl, ?_⟩) (by assumption) ?_
              rotate_left
              · (rintro wx ⟨sw0, sw1, sw2, sw3⟩; try simp only [List.getElem_toArray, List.getElem_cons_succ, List.getElem_cons_zero]; go_simp; try with_reducible rfl)
              try simp only [List.getElem_toArray, List.getElem_cons_succ, List.getElem_cons_zero, Act.put, List.setIfInBounds_toArray, List.set_cons_zero, List.set_cons_succ]
              refine wpAnyH_take (i := 14) (v := ?_) rfl (by kernel_rfl) (by kernel_rfl) (by kernel_rfl) (fun _ _ _ h => h) (Or.inl ⟨by rfl, ?_⟩) (by assumption) ?_
              rotate_left
              · (rintro wx ⟨sw0, sw1, sw2, sw3⟩; try simp only [List.getElem_toArray, List.getElem_cons_succ, List.getElem_cons_zero]; go_simp; try with_reducible rfl)
              try simp only [List.getElem_toArray, List.getElem_cons_succ, List.getElem_cons_zero, Act.put, List.setIfInBounds_toArray, List.set_cons_zero, List.set_cons_succ]
              refine wpAnyH_take (i := 15) (v := ?_) rfl (by kernel_rfl) (by kernel_rfl) (by kernel_rfl) (fun _ _ _ h => h) (Or.inl ⟨by rfl, ?_⟩) (by assumption) ?_
              rotate_left
              · (rintro wx ⟨sw0, sw1, sw2, sw3⟩; try simp only [List.getElem_toArray, List.getElem_cons_succ, List.getElem_cons_zero]; go_simp; try with_reducible rfl)
              try simp only [List.getElem_toArray, List.getElem_cons_succ, List.getElem_cons_zero, Act.put, List.setIfInBounds_toArray, List.set_cons_zero, List.set_cons_succ]
              refine wpAnyH_ready (rs := [18]) (by kernel_rfl) (by simp) ?_
              refine AllReadyH.cons rfl (fun K hK => ?_) AllReadyH.nil
              · try simp only [List.getElem_toArray, List.getElem_cons_succ, List.getElem_cons_zero]
                go_simp
                refine hK.out _ _ (HK.out _ (up_alloc kk _)) (fun _ => ?_)
                clear hK K
                try simp only [List.getElem_toArray, List.getElem_cons_succ, List.getElem_cons_zero, Act.put, List.setIfInBounds_toArray, List.set_cons_zero, List.set_cons_succ]
                refine wpAnyH_world (F := fun W => Row W w3.heap.size 28 (flt 0 0) ∧ wr.heap.size ≤ w3.heap.size ∧ Row W g8 23 (cds 0 0 0) ∧ g8 ≠ w3.heap.size ∧ Row W g9 26 (bcs none 0 0 0) ∧ g9 ≠ w3.heap.size ∧ Sl W W.heap.size A1 (pack o2).length (bl (pack o2)) ∧ Below wr.heap.size wr W) ⟨Row.newEq _ _ _ _ _ rfl rfl, kk.size, r8.alloc _, Nat.ne_of_lt r8.lt, r9.alloc _, Nat.ne_of_lt r9.lt, s1.up ((Below.refl _ _).alloc (Nat.le_refl _) _), up_alloc kk _⟩ ?_
                generalize w3.heap.size = g10
                clear hHeld kk r8 r9 s1
                rintro w4 ⟨r10, l10, r8, n8_10, r9, n9_10, s1, kk⟩
                have hHeld := HK.out _ kk
                refine wpAnyH_ready (rs := [19]) (by kernel_rfl) (by simp) ?_
                refine AllReadyH.cons rfl (fun K hK => ?_) AllReadyH.nil
                (refine wp_st (by rfl) _ _ 23 (by rfl) g8 (by rfl) (cds fL fH q2) (by rfl) 23 (cds 0 0 0) r8 (by rw [cds_size]; exact cellsCd) rfl (all_one (cds_one _ _ _)) ?_)
                replace r9 := r9.rowFar (show g9 ≠ g8 by omega) (cds fL fH q2)
                replace r10 := r10.rowFar (show g10 ≠ g8 by omega) (cds fL fH q2)
                have r8z := r8
                replace s1 := Sl.rowHere s1 r8z (no_cds _ _ _) (cds fL fH q2)
                replace r8 := Row.row r8z (cds fL fH q2)
                clear r8z
                replace kk := blw_row kk l8 (cds fL fH q2)
                refine hK.out _ _ (HK.out _ kk) (fun hHeld => ?_)
                clear hK K
                try simp only [List.getElem_toArray, List.getElem_cons_succ, List.getElem_cons_zero, Act.put]
                refine wpAnyH_ready (rs := [20]) (by kernel_rfl) (by simp) ?_
                refine AllReadyH.cons rfl (fun K hK => ?_) AllReadyH.nil
                (refine wp_st (by rfl) _ _ 26 (by rfl) g9 (by rfl) (bcs A1 (pack o2).length c1 o2.length) (by rfl) 26 (bcs none 0 0 0) r9 (by rw [bcs_size]; exact cellsB) rfl (all_one (bcs_one _ _ _ _)) ?_)
                replace r8 := r8.rowFar (show g8 ≠ g9 by omega) (bcs A1 (pack o2).length c1 o2.length)
                replace r10 := r10.rowFar (show g10 ≠ g9 by omega) (bcs A1 (pack o2).length c1 o2.length)
                have r9z := r9
                replace s1 := Sl.rowHere s1 r9z (no_bcs _ _ _ _) (bcs A1 (pack o2).length c1 o2.length)
                replace r9 := Row.row r9z (bcs A1 (pack o2).length c1 o2.length)
                clear r9z
                replace kk := blw_row kk l9 (bcs A1 (pack o2).length c1 o2.length)
                refine hK.out _ _ (HK.out _ kk) (fun hHeld => ?_)
                clear hK K
                try simp only [List.getElem_toArray, List.getElem_cons_succ, List.getElem_cons_zero, Act.put]
                refine wpAnyH_ready (rs := [21]) (by kernel_rfl) (by simp) ?_
                refine AllReadyH.cons rfl (fun K hK => ?_) AllReadyH.nil
                (refine wp_st (by rfl) _ _ 28 (by rfl) g10 (by rfl) (flt 0 0) (by rfl) 28 (flt 0 0) r10 (by rw [flt_size]; exact cellsF) rfl (all_one (flt_one _ _)) ?_)
                replace r8 := r8.rowFar (show g8 ≠ g10 by omega) (flt 0 0)
                replace r9 := r9.rowFar (show g9 ≠ g10 by omega) (flt 0 0)
                have r10z := r10
                replace s1 := Sl.rowHere s1 r10z (no_flt _ _) (flt 0 0)
                replace r10 := Row.row r10z (flt 0 0)
                clear r10z
                replace kk := blw_row kk l10 (flt 0 0)
                refine hK.out _ _ (HK.out _ kk) (fun hHeld => ?_)
                clear hK K
                try simp only [List.getElem_toArray, List.getElem_cons_succ, List.getElem_cons_zero, Act.put]
                refine wpAnyH_done (by kernel_rfl) ?_ _
                go_wp2_with fail
                go_meet
                exact ⟨g8, g9, g10, A1, c1, rfl, rfl, rfl, r8, r9, r10, s1, kk⟩
            · try simp only [List.getElem_toArray, List.getElem_cons_succ, List.getElem_cons_zero]
              go_simp
              refine hK.out _ _ (HK.out _ (up_alloc kk _)) (fun _ => ?_)
              clear hK K
              try simp only [List.getElem_toArray, List.getElem_cons_succ, List.getElem_cons_zero, Act.put, List.setIfInBounds_toArray, List.set_cons_zero, List.set_cons_succ]
              refine wpAnyH_world (F := fun W => Row W w2.heap.size 28 (flt 0 0) ∧ wr.heap.size ≤ w2.heap.size ∧ Row W g8 23 (cds 0 0 0) ∧ g8 ≠ w2.heap.size ∧ Row W g9 26 (bcs none 0 0 0) ∧ g9 ≠ w2.heap.size ∧ Below wr.heap.size wr W) ⟨Row.newEq _ _ _ _ _ rfl rfl, kk.size, r8.alloc _, Nat.ne_of_lt r8.lt, r9.alloc _, Nat.ne_of_lt r9.lt, up_alloc kk _⟩ ?_
              generalize w2.heap.size = g10
              clear hHeld kk r8 r9
              rintro w3 ⟨r10, l10, r8, n8_10, r9, n9_10, kk⟩
              have hHeld := HK.out _ kk
              refine wpAnyH_ready (rs := [11]) (by kernel_rfl) (by simp) ?_
              refine AllReadyH.cons rfl (fun K hK => ?_) AllReadyH.nil
              · try simp only [List.getElem_toArray, List.getElem_cons_succ, List.getElem_cons_zero]
                go_simp
                (go_at_call 11; refine (HPUT.out _).mono ?_; rintro e w4 ⟨A1, c1, rfl, s1, hbc⟩)
                try go_wp2_with fail
                replace r8 := r8.below hbc r8.lt
                replace r9 := r9.below hbc r9.lt
                replace r10 := r10.below hbc r10.lt
                replace kk := up_call kk hbc
                clear hbc
                refine hK.out _ _ (HK.out _ kk) (fun hHeld => ?_)
                clear hK K
                try simp only [List.getElem_toArray, List.getElem_cons_succ, List.getElem_cons_zero, Act.put, List.setIfInBounds_toArray, List.set_cons_zero, List.set_cons_succ]
                refine wpAnyH_take (i := 12) (v := ?_) rfl (by kernel_rfl) (by kernel_rfl) (by kernel_rfl) (fun _ _ _ h => h) (Or.inl ⟨by rfl, ?_⟩) (by assumption) ?_
                rotate_left
                · (rintro wx ⟨sw0, sw1, sw2, sw3⟩; try simp only [List.getElem_toArray, List.getElem_cons_succ, List.getElem_cons_zero]; go_simp; try with_reducible rfl)
                try simp only [List.getElem_toArray, List.getElem_cons_succ, List.getElem_cons_zero, Act.put, List.setIfInBounds_toArray, List.set_cons_zero, List.set_cons_succ]
                refine wpAnyH_take (i := 13) (v := ?_) rfl (by kernel_rfl) (by kernel_rfl) (by kernel_rfl) (fun _ _ _ h => h) (Or.inl ⟨by rfl, ?_⟩) (by assumption) ?_
                rotate_left
                · (rintro wx ⟨sw0, sw1, sw2, sw3⟩; try simp only [List.getElem_toArray, List.getElem_cons_succ, List.getElem_cons_zero]; go_simp; try with_reducible rfl)
                try simp only [List.getElem_toArray, List.getElem_cons_succ, List.getElem_cons_zero, Act.put, List.setIfInBounds_toArray, List.set_cons_zero, List.set_cons_succ]
                refine wpAnyH_take (i := 14) (v := ?_) rfl (by kernel_rfl) (by kernel_rfl) (by kernel_rfl) (fun _ _ _ h => h) (Or.inl ⟨by rfl, ?_⟩) (by assumption) ?_
                rotate_left
                · (rintro wx ⟨sw0, sw1, sw2, sw3⟩; try simp only [List.getElem_toArray, List.getElem_cons_succ, List.getElem_cons_zero]; go_simp; try with_reducible rfl)
                try simp only [List.getElem_toArray, List.getElem_cons_succ, List.getElem_cons_zero, Act.put, List.setIfInBounds_toArray, List.set_cons_zero, List.set_cons_succ]
                refine wpAnyH_take (i := 15) (v := ?_) rfl (by kernel_rfl) (by kernel_rfl) (by kernel_rfl) (fun _ _ _ h => h) (Or.inl ⟨by rfl, ?_⟩) (by assumption) ?_
                rotate_left
                · (rintro wx ⟨sw0, sw1, sw2, sw3⟩; try simp only [List.getElem_toArray, List.getElem_cons_succ, List.getElem_cons_zero]; go_simp; try with_reducible rfl)
                try simp only [List.getElem_toArray, List.getElem_cons_succ, List.getElem_cons_zero, Act.put, List.setIfInBounds_toArray, List.set_cons_zero, List.set_cons_succ]
                refine wpAnyH_ready (rs := [19]) (by kernel_rfl) (by simp) ?_
                refine AllReadyH.cons rfl (fun K hK => ?_) AllReadyH.nil
                (refine wp_st (by rfl) _ _ 23 (by rfl) g8 (by rfl) (cds fL fH q2) (by rfl) 23 (cds 0 0 0) r8 (by rw [cds_size]; exact cellsCd) rfl (all_one (cds_one _ _ _)) ?_)
                replace r9 := r9.rowFar (show g9 ≠ g8 by omega) (cds fL fH q2)
                replace r10 := r10.rowFar (show g10 ≠ g8 by omega) (cds fL fH q2)
                have r8z := r8
                replace s1 := Sl.rowHere s1 r8z (no_cds _ _ _) (cds fL fH q2)
                replace r8 := Row.row r8z (cds fL fH q2)
                clear r8z
                replace kk := blw_row kk l8 (cds fL fH q2)
                refine hK.out _ _ (HK.out _ kk) (fun hHeld => ?_)
                clear hK K
                try simp only [List.getElem_toArray, List.getElem_cons_succ, List.getElem_cons_zero, Act.put]
                refine wpAnyH_ready (rs := [20]) (by kernel_rfl) (by simp) ?_
                refine AllReadyH.cons rfl (fun K hK => ?_) AllReadyH.nil
                (refine wp_st (by rfl) _ _ 26 (by rfl) g9 (by rfl) (bcs A1 (pack o2).length c1 o2.length) (by rfl) 26 (bcs none 0 0 0) r9 (by rw [bcs_size]; exact cellsB) rfl (all_one (bcs_one _ _ _ _)) ?_)
                replace r8 := r8.rowFar (show g8 ≠ g9 by omega) (bcs A1 (pack o2).length c1 o2.length)
                replace r10 := r10.rowFar (show g10 ≠ g9 by omega) (bcs A1 (pack o2).length c1 o2.length)
                have r9z := r9
                replace s1 := Sl.rowHere s1 r9z (no_bcs _ _ _ _) (bcs A1 (pack o2).length c1 o2.length)
                replace r9 := Row.row r9z (bcs A1 (pack o2).length c1 o2.length)
                clear r9z
                replace kk := blw_row kk l9 (bcs A1 (pack o2).length c1 o2.length)
                refine hK.out _ _ (HK.out _ kk) (fun hHeld => ?_)
                clear hK K
                try simp only [List.getElem_toArray, List.getElem_cons_succ, List.getElem_cons_zero, Act.put]
                refine wpAnyH_ready (rs := [21]) (by kernel_rfl) (by simp) ?_
                refine AllReadyH.cons rfl (fun K hK => ?_) AllReadyH.nil
                (refine wp_st (by rfl) _ _ 28 (by rfl) g10 (by rfl) (flt 0 0) (by rfl) 28 (flt 0 0) r10 (by rw [flt_size]; exact cellsF) rfl (all_one (flt_one _ _)) ?_)
                replace r8 := r8.rowFar (show g8 ≠ g10 by omega) (flt 0 0)
                replace r9 := r9.rowFar (show g9 ≠ g10 by omega) (flt 0 0)
                have r10z := r10
                replace s1 := Sl.rowHere s1 r10z (no_flt _ _) (flt 0 0)
                replace r10 := Row.row r10z (flt 0 0)
                clear r10z
                replace kk := blw_row kk l10 (flt 0 0)
                refine hK.out _ _ (HK.out _ kk) (fun hHeld => ?_)
                clear hK K
                try simp only [List.getElem_toArray, List.getElem_cons_succ, List.getElem_cons_zero, Act.put]
                refine wpAnyH_done (by kernel_rfl) ?_ _
                go_wp2_with fail
                go_meet
                exact ⟨g8, g9, g10, A1, c1, rfl, rfl, rfl, r8, r9, r10, s1, kk⟩
          · try simp only [List.getElem_toArray, List.getElem_cons_succ, List.getElem_cons_zero]
            go_simp
            refine hK.out _ _ (HK.out _ (up_alloc kk _)) (fun _ => ?_)
            clear hK K
            try simp only [List.getElem_toArray, List.getElem_cons_succ, List.getElem_cons_zero, Act.put, List.setIfInBounds_toArray, List.set_cons_zero, List.set_cons_succ]
            refine wpAnyH_world (F := fun W => Row W w1.heap.size 28 (flt 0 0) ∧ wr.heap.size ≤ w1.heap.size ∧ Row W g9 26 (bcs none 0 0 0) ∧ g9 ≠ w1.heap.size ∧ Below wr.heap.size wr W) ⟨Row.newEq _ _ _ _ _ rfl rfl, kk.size, r9.alloc _, Nat.ne_of_lt r9.lt, up_alloc kk _⟩ ?_
            generalize w1.heap.size = g10
            clear hHeld kk r9
            rintro w2 ⟨r10, l10, r9, n9_10, kk⟩
            have hHeld := HK.out _ kk
            refine wpAnyH_ready (rs := [11, 16]) (by kernel_rfl) (by simp) ?_
            refine AllReadyH.cons rfl (fun K hK => ?_) (AllReadyH.cons rfl (fun K hK => ?_) AllReadyH.nil)
            · try simp only [List.getElem_toArray, List.getElem_cons_succ, List.getElem_cons_zero]
              go_simp
              (go_at_call 11; refine (HPUT.out _).mono ?_; rintro e w3 ⟨A1, c1, rfl, s1, hbc⟩)
              try go_wp2_with fail
              replace r9 := r9.below hbc r9.lt
              replace r10 := r10.below hbc r10.lt
              replace kk := up_call kk hbc
              clear hbc
              refine hK.out _ _ (HK.out _ kk) (fun hHeld => ?_)
              clear hK K
              try simp only [List.getElem_toArray, List.getElem_cons_succ, List.getElem_cons_zero, Act.put, List.setIfInBounds_toArray, List.set_cons_zero, List.set_cons_succ]
              refine wpAnyH_take (i := 12) (v := ?_) rfl (by kernel_rfl) (by kernel_rfl) (by kernel_rfl) (fun _ _ _ h => h) (Or.inl ⟨by rfl, ?_⟩) (by assumption) ?_
              rotate_left
              · (rintro wx ⟨sw0, sw1, sw2, sw3⟩; try simp only [List.getElem_toArray, List.getElem_cons_succ, List.getElem_cons_zero]; go_simp; try with_reducible rfl)
              try simp only [List.getElem_toArray, List.getElem_cons_succ, List.getElem_cons_zero, Act.put, List.setIfInBounds_toArray, List.set_cons_zero, List.set_cons_succ]
              refine wpAnyH_take (i := 13) (v := ?_) rfl (by kernel_rfl) (by kernel_rfl) (by kernel_rfl) (fun _ _ _ h => h) (Or.inl ⟨by rfl, ?_⟩) (by assumption) ?_
              rotate_left
              · (rintro wx ⟨sw0, sw1, sw2, sw3⟩; try simp only [List.getElem_toArray, List.getElem_cons_succ, List.getElem_cons_zero]; go_simp; try with_reducible rfl)
              try simp only [List.getElem_toArray, List.getElem_cons_succ, List.getElem_cons_zero, Act.put, List.setIfInBounds_toArray, List.set_cons_zero, List.set_cons_succ]
              refine wpAnyH_take (i := 14) (v := ?_) rfl (by kernel_rfl) (by kernel_rfl) (by kernel_rfl) (fun _ _ _ h => h) (Or.inl ⟨by rfl, ?_⟩) (by assumption) ?_
              rotate_left
              · (rintro wx ⟨sw0, sw1, sw2, sw3⟩; try simp only [List.getElem_toArray, List.getElem_cons_succ, List.getElem_cons_zero]; go_simp; try with_reducible rfl)
              try simp only [List.getElem_toArray, List.getElem_cons_succ, List.getElem_cons_zero, Act.put, List.setIfInBounds_toArray, List.set_cons_zero, List.set_cons_succ]
              refine wpAnyH_take (i := 15) (v := ?_) rfl (by kernel_rfl) (by kernel_rfl) (by kernel_rfl) (fun _ _ _ h => h) (Or.inl ⟨by rfl, ?_⟩) (by assumption) ?_
              rotate_left
              · (rintro wx ⟨sw0, sw1, sw2, sw3⟩; try simp only [List.getElem_toArray, List.getElem_cons_succ, List.getElem_cons_zero]; go_simp; try with_reducible rfl)
              try simp only [List.getElem_toArray, List.getElem_cons_succ, List.getElem_cons_zero, Act.put, List.setIfInBounds_toArray, List.set_cons_zero, List.set_cons_succ]
              refine wpAnyH_ready (rs := [16]) (by kernel_rfl) (by simp) ?_
              refine AllReadyH.cons rfl (fun K hK => ?_) AllReadyH.nil
              · try simp only [List.getElem_toArray, List.getElem_cons_succ, List.getElem_cons_zero]
                go_simp
                refine hK.out _ _ (HK.out _ (up_alloc kk _)) (fun _ => ?_)
                clear hK K
                try simp only [List.getElem_toArray, List.getElem_cons_succ, List.getElem_cons_zero, Act.put, List.setIfInBounds_toArray, List.set_cons_zero, List.set_cons_succ]
                refine wpAnyH_world (F := fun W => Row W w3.heap.size 23 (cds 0 0 0) ∧ wr.heap.size ≤ w3.heap.size ∧ Row W g9 26 (bcs none 0 0 0) ∧ g9 ≠ w3.heap.size ∧ Row W g10 28 (flt 0 0) ∧ g10 ≠ w3.heap.size ∧ Sl W W.heap.size A1 (pack o2).length (bl (pack o2)) ∧ Below wr.heap.size wr W) ⟨Row.newEq _ _ _ _ _ rfl rfl, kk.size, r9.alloc _, Nat.ne_of_lt r9.lt, r10.alloc _, Nat.ne_of_lt r10.lt, s1.up ((Below.refl _ _).alloc (Nat.le_refl _) _), up_alloc kk _⟩ ?_
                generalize w3.heap.size = g8
                clear hHeld kk r9 r10 s1
                rintro w4 ⟨r8, l8, r9, n9_8, r10, n10_8, s1, kk⟩
                have hHeld := HK.out _ kk
                refine wpAnyH_ready (rs := [19]) (by kernel_rfl) (by simp) ?_
                refine AllReadyH.cons rfl (fun K hK => ?_) AllReadyH.nil
                (refine wp_st (by rfl) _ _ 23 (by rfl) g8 (by rfl) (cds fL fH q2) (by rfl) 23 (cds 0 0 0) r8 (by rw [cds_size]; exact cellsCd) rfl (all_one (cds_one _ _ _)) ?_)
                replace r9 := r9.rowFar (show g9 ≠ g8 by omega) (cds fL fH q2)
                replace r10 := r10.rowFar (show g10 ≠ g8 by omega) (cds fL fH q2)
                have r8z := r8
                replace s1 := Sl.rowHere s1 r8z (no_cds _ _ _) (cds fL fH q2)
                replace r8 := Row.row r8z (cds fL fH q2)
                clear r8z
                replace kk := blw_row kk l8 (cds fL fH q2)
                refine hK.out _ _ (HK.out _ kk) (fun hHeld => ?_)
                clear hK K
                try simp only [List.getElem_toArray, List.getElem_cons_succ, List.getElem_cons_zero, Act.put]
                refine wpAnyH_ready (rs := [20]) (by kernel_rfl) (by simp) ?_
                refine AllReadyH.cons rfl (fun K hK => ?_) AllReadyH.nil
                (refine wp_st (by rfl) _ _ 26 (by rfl) g9 (by rfl) (bcs A1 (pack o2).length c1 o2.length) (by rfl) 26 (bcs none 0 0 0) r9 (by rw [bcs_size]; exact cellsB) rfl (all_one (bcs_one _ _ _ _)) ?_)
                replace r8 := r8.rowFar (show g8 ≠ g9 by omega) (bcs A1 (pack o2).length c1 o2.length)
                replace r10 := r10.rowFar (show g10 ≠ g9 by omega) (bcs A1 (pack o2).length c1 o2.length)
                have r9z := r9
                replace s1 := Sl.rowHere s1 r9z (no_bcs _ _ _ _) (bcs A1 (pack o2).length c1 o2.length)
                replace r9 := Row.row r9z (bcs A1 (pack o2).length c1 o2.length)
                clear r9z
                replace kk := blw_row kk l9 (bcs A1 (pack o2).length c1 o2.length)
                refine hK.out _ _ (HK.out _ kk) (fun hHeld => ?_)
                clear hK K
                try simp only [List.getElem_toArray, List.getElem_cons_succ, List.getElem_cons_zero, Act.put]
                refine wpAnyH_ready (rs := [21]) (by kernel_rfl) (by simp) ?_
                refine AllReadyH.cons rfl (fun K hK => ?_) AllReadyH.nil
                (refine wp_st (by rfl) _ _ 28 (by rfl) g10 (by rfl) (flt 0 0) (by rfl) 28 (flt 0 0) r10 (by rw [flt_size]; exact cellsF) rfl (all_one (flt_one _ _)) ?_)
                replace r8 := r8.rowFar (show g8 ≠ g10 by omega) (flt 0 0)
                replace r9 := r9.rowFar (show g9 ≠ g10 by omega) (flt 0 0)
                have r10z := r10
                replace s1 := Sl.rowHere s1 r10z (no_flt _ _) (flt 0 0)
                replace r10 := Row.row r10z (flt 0 0)
                clear r10z
                replace kk := blw_row kk l10 (flt 0 0)
                refine hK.out _ _ (HK.out _ kk) (fun hHeld => ?_)
                clear hK K
                try simp only [List.getElem_toArray, List.getElem_cons_succ, List.getElem_cons_zero, Act.put]
                refine wpAnyH_done (by kernel_rfl) ?_ _
                go_wp2_with fail
                go_meet
                exact ⟨g8, g9, g10, A1, c1, rfl, rfl, rfl, r8, r9, r10, s1, kk⟩
            · try simp only [List.getElem_toArray, List.getElem_cons_succ, List.getElem_cons_zero]
              go_simp
              refine hK.out _ _ (HK.out _ (up_alloc kk _)) (fun _ => ?_)
              clear hK K
              try simp only [List.getElem_toArray, List.getElem_cons_succ, List.getElem_cons_zero, Act.put, List.setIfInBounds_toArray, List.set_cons_zero, List.set_cons_succ]
              refine wpAnyH_world (F := fun W => Row W w2.heap.size 23 (cds 0 0 0) ∧ wr.heap.size ≤ w2.heap.size ∧ Row W g9 26 (bcs none 0 0 0) ∧ g9 ≠ w2.heap.size ∧ Row W g10 28 (flt 0 0) ∧ g10 ≠ w2.heap.size ∧ Below wr.heap.size wr W) ⟨Row.newEq _ _ _ _ _ rfl rfl, kk.size, r9.alloc _, Nat.ne_of_lt r9.lt, r10.alloc _, Nat.ne_of_lt r10.lt, up_alloc kk _⟩ ?_
              generalize w2.heap.size = g8
              clear hHeld kk r9 r10
              rintro w3 ⟨r8, l8, r9, n9_8, r10, n10_8, kk⟩
              have hHeld := HK.out _ kk
              refine wpAnyH_ready (rs := [11]) (by kernel_rfl) (by simp) ?_
              refine AllReadyH.cons rfl (fun K hK => ?_) AllReadyH.nil
              · try simp only [List.getElem_toArray, List.getElem_cons_succ, List.getElem_cons_zero]
                go_simp
                (go_at_call 11; refine (HPUT.out _).mono ?_; rintro e w4 ⟨A1, c1, rfl, s1, hbc⟩)
                try go_wp2_with fail
                replace r8 := r8.below hbc r8.lt
                replace r9 := r9.below hbc r9.lt
                replace r10 := r10.below hbc r10.lt
                replace kk := up_call kk hbc
                clear hbc
                refine hK.out _ _ (HK.out _ kk) (fun hHeld => ?_)
                clear hK K
                try simp only [List.getElem_toArray, List.getElem_cons_succ, List.getElem_cons_zero, Act.put, List.setIfInBounds_toArray, List.set_cons_zero, List.set_cons_succ]
                refine wpAnyH_take (i := 12) (v := ?_) rfl (by kernel_rfl) (by kernel_rfl) (by kernel_rfl) (fun _ _ _ h => h) (Or.inl ⟨by rfl, ?_⟩) (by assumption) ?_
                rotate_left
                · (rintro wx ⟨sw0, sw1, sw2, sw3⟩; try simp only [List.getElem_toArray, List.getElem_cons_succ, List.getElem_cons_zero]; go_simp; try with_reducible rfl)
                try simp only [List.getElem_toArray, List.getElem_cons_succ, List.getElem_cons_zero, Act.put, List.setIfInBounds_toArray, List.set_cons_zero, List.set_cons_succ]
                refine wpAnyH_take (i := 13) (v := ?_) rfl (by kernel_rfl) (by kernel_rfl) (by kernel_rfl) (fun _ _ _ h => h) (Or.inl ⟨by rfl, ?_⟩) (by assumption) ?_
                rotate_left
                · (rintro wx ⟨sw0, sw1, sw2, sw3⟩; try simp only [List.getElem_toArray, List.getElem_cons_succ, List.getElem_cons_zero]; go_simp; try with_reducible rfl)
                try simp only [List.getElem_toArray, List.getElem_cons_succ, List.getElem_cons_zero, Act.put, List.setIfInBounds_toArray, List.set_cons_zero, List.set_cons_succ]
                refine wpAnyH_take (i := 14) (v := ?_) rfl (by kernel_rfl) (by kernel_rfl) (by kernel_rfl) (fun _ _ _ h => h) (Or.inl ⟨by rfl, ?_⟩) (by assumption) ?_
                rotate_left
                · (rintro wx ⟨sw0, sw1, sw2, sw3⟩; try simp only [List.getElem_toArray, List.getElem_cons_succ, List.getElem_cons_zero]; go_simp; try with_reducible rfl)
                try simp only [List.getElem_toArray, List.getElem_cons_succ, List.getElem_cons_zero, Act.put, List.setIfInBounds_toArray, List.set_cons_zero, List.set_cons_succ]
                refine wpAnyH_take (i := 15) (v := ?_) rfl (by kernel_rfl) (by kernel_rfl) (by kernel_rfl) (fun _ _ _ h => h) (Or.inl ⟨by rfl, ?_⟩) (by assumption) ?_
                rotate_left
                · (rintro wx ⟨sw0, sw1, sw2, sw3⟩; try simp only [List.getElem_toArray, List.getElem_cons_succ, List.getElem_cons_zero]; go_simp; try with_reducible rfl)
                try simp only [List.getElem_toArray, List.getElem_cons_succ, List.getElem_cons_zero, Act.put, List.setIfInBounds_toArray, List.set_cons_zero, List.set_cons_succ]
                refine wpAnyH_ready (rs := [19]) (by kernel_rfl) (by simp) ?_
                refine AllReadyH.cons rfl (fun K hK => ?_) AllReadyH.nil
                (refine wp_st (by rfl) _ _ 23 (by rfl) g8 (by rfl) (cds fL fH q2) (by rfl) 23 (cds 0 0 0) r8 (by rw [cds_size]; exact cellsCd) rfl (all_one (cds_one _ _ _)) ?_)
                replace r9 := r9.rowFar (show g9 ≠ g8 by omega) (cds fL fH q2)
                replace r10 := r10.rowFar (show g10 ≠ g8 by omega) (cds fL fH q2)
                have r8z := r8
                replace s1 := Sl.rowHere s1 r8z (no_cds _ _ _) (cds fL fH q2)
                replace r8 := Row.row r8z (cds fL fH q2)
                clear r8z
                replace kk := blw_row kk l8 (cds fL fH q2)
                refine hK.out _ _ (HK.out _ kk) (fun hHeld => ?_)
                clear hK K
                try simp only [List.getElem_toArray, List.getElem_cons_succ, List.getElem_cons_zero, Act.put]
                refine wpAnyH_ready (rs := [20]) (by kernel_rfl) (by simp) ?_
                refine AllReadyH.cons rfl (fun K hK => ?_) AllReadyH.nil
                (refine wp_st (by rfl) _ _ 26 (by rfl) g9 (by rfl) (bcs A1 (pack o2).length c1 o2.length) (by rfl) 26 (bcs none 0 0 0) r9 (by rw [bcs_size]; exact cellsB) rfl (all_one (bcs_one _ _ _ _)) ?_)
                replace r8 := r8.rowFar (show g8 ≠ g9 by omega) (bcs A1 (pack o2).length c1 o2.length)
                replace r10 := r10.rowFar (show g10 ≠ g9 by omega) (bcs A1 (pack o2).length c1 o2.length)
                have r9z := r9
                replace s1 := Sl.rowHere s1 r9z (no_bcs _ _ _ _) (bcs A1 (pack o2).length c1 o2.length)
                replace r9 := Row.row r9z (bcs A1 (pack o2).length c1 o2.length)
                clear r9z
                replace kk := blw_row kk l9 (bcs A1 (pack o2).length c1 o2.length)
                refine hK.out _ _ (HK.out _ kk) (fun hHeld => ?_)
                clear hK K
                try simp only [List.getElem_toArray, List.getElem_cons_succ, List.getElem_cons_zero, Act.put]
                refine wpAnyH_ready (rs := [21]) (by kernel_rfl) (by simp) ?_
                refine AllReadyH.cons rfl (fun K hK => ?_) AllReadyH.nil
                (refine wp_st (by rfl) _ _ 28 (by rfl) g10 (by rfl) (flt 0 0) (by rfl) 28 (flt 0 0) r10 (by rw [flt_size]; exact cellsF) rfl (all_one (flt_one _ _)) ?_)
                replace r8 := r8.rowFar (show g8 ≠ g10 by omega) (flt 0 0)
                replace r9 := r9.rowFar (show g9 ≠ g10 by omega) (flt 0 0)
                have r10z := r10
                replace s1 := Sl.rowHere s1 r10z (no_flt _ _) (flt 0 0)
                replace r10 := Row.row r10z (flt 0 0)
                clear r10z
                replace kk := blw_row kk l10 (flt 0 0)
                refine hK.out _ _ (HK.out _ kk) (fun hHeld => ?_)
                clear hK K
                try simp only [List.getElem_toArray, List.getElem_cons_succ, List.getElem_cons_zero, Act.put]
                refine wpAnyH_done (by kernel_rfl) ?_ _
                go_wp2_with fail
                go_meet
                exact ⟨g8, g9, g10, A1, c1, rfl, rfl, rfl, r8, r9, r10, s1, kk⟩
        · try simp only [List.getElem_toArray, List.getElem_cons_succ, List.getElem_cons_zero]
          go_simp
          refine hK.out _ _ (HK.out _ (up_alloc kk _)) (fun _ => ?_)
          clear hK K
          try simp only [List.getElem_toArray, List.getElem_cons_succ, List.getElem_cons_zero, Act.put, List.setIfInBounds_toArray, List.set_cons_zero, List.set_cons_succ]
          refine wpAnyH_world (F := fun W => Row W w0.heap.size 28 (flt 0 0) ∧ wr.heap.size ≤ w0.heap.size ∧ Below wr.heap.size wr W) ⟨Row.newEq _ _ _ _ _ rfl rfl, kk.size, up_alloc kk _⟩ ?_
          generalize w0.heap.size = g10
          clear hHeld kk 
          rintro w1 ⟨r10, l10, kk⟩
          have hHeld := HK.out _ kk
          refine wpAnyH_ready (rs := [11, 16, 17]) (by kernel_rfl) (by simp) ?_
          refine AllReadyH.cons rfl (fun K hK => ?_) (AllReadyH.cons rfl (fun K hK => ?_) (AllReadyH.cons rfl (fun K hK => ?_) AllReadyH.nil))
          · try simp only [List.getElem_toArray, List.getElem_cons_succ, List.getElem_cons_zero]
            go_simp
            (go_at_call 11; refine (HPUT.out _).mono ?_; rintro e w2 ⟨A1, c1, rfl, s1, hbc⟩)
            try go_wp2_with fail
            replace r10 := r10.below hbc r10.lt
            replace kk := up_call kk hbc
            clear hbc
            refine hK.out _ _ (HK.out _ kk) (fun hHeld => ?_)
            clear hK K
            try simp only [List.getElem_toArray, List.getElem_cons_succ, List.getElem_cons_zero, Act.put, List.setIfInBounds_toArray, List.set_cons_zero, List.set_cons_succ]
            refine wpAnyH_take (i := 12) (v := ?_) rfl (by kernel_rfl) (by kernel_rfl) (by kernel_rfl) (fun _ _ _ h => h) (Or.inl ⟨by rfl, ?_⟩) (by assumption) ?_
            rotate_left
            · (rintro wx ⟨sw0, sw1, sw2, sw3⟩; try simp only [List.getElem_toArray, List.getElem_cons_succ, List.getElem_cons_zero]; go_simp; try with_reducible rfl)
            try simp only [List.getElem_toArray, List.getElem_cons_succ, List.getElem_cons_zero, Act.put, List.setIfInBounds_toArray, List.set_cons_zero, List.set_cons_succ]
            refine wpAnyH_take (i := 13) (v := ?_) rfl (by kernel_rfl) (by kernel_rfl) (by kernel_rfl) (fun _ _ _ h => h) (Or.inl ⟨by rfl, ?_⟩) (by assumption) ?_
            rotate_left
            · (rintro wx ⟨sw0, sw1, sw2, sw3⟩; try simp only [List.getElem_toArray, List.getElem_cons_succ, List.getElem_cons_zero]; go_simp; try with_reducible rfl)
            try simp only [List.getElem_toArray, List.getElem_cons_succ, List.getElem_cons_zero, Act.put, List.setIfInBounds_toArray, List.set_cons_zero, List.set_cons_succ]
            refine wpAnyH_take (i := 14) (v := ?_) rfl (by kernel_rfl) (by kernel_rfl) (by kernel_rfl) (fun _ _ _ h => h) (Or.inl ⟨by rfl, ?_⟩) (by assumption) ?_
            rotate_left
            · (rintro wx ⟨sw0, sw1, sw2, sw3⟩; try simp only [List.getElem_toArray, List.getElem_cons_succ, List.getElem_cons_zero]; go_simp; try with_reducible rfl)
            try simp only [List.getElem_toArray, List.getElem_cons_succ, List.getElem_cons_zero, Act.put, List.setIfInBounds_toArray, List.set_cons_zero, List.set_cons_succ]
            refine wpAnyH_take (i := 15) (v := ?_) rfl (by kernel_rfl) (by kernel_rfl) (by kernel_rfl) (fun _ _ _ h => h) (Or.inl ⟨by rfl, ?_⟩) (by assumption) ?_
            rotate_left
            · (rintro wx ⟨sw0, sw1, sw2, sw3⟩; try simp only [List.getElem_toArray, List.getElem_cons_succ, List.getElem_cons_zero]; go_simp; try with_reducible rfl)
            try simp only [List.getElem_toArray, List.getElem_cons_succ, List.getElem_cons_zero, Act.put, List.setIfInBounds_toArray, List.set_cons_zero, List.set_cons_succ]
            refine wpAnyH_ready (rs := [16, 17]) (by kernel_rfl) (by simp) ?_
            refine AllReadyH.cons rfl (fun K hK => ?_) (AllReadyH.cons rfl (fun K hK => ?_) AllReadyH.nil)
            · try simp only [List.getElem_toArray, List.getElem_cons_succ, List.getElem_cons_zero]
              go_simp
              refine hK.out _ _ (HK.out _ (up_alloc kk _)) (fun _ => ?_)
              clear hK K
              try simp only [List.getElem_toArray, List.getElem_cons_succ, List.getElem_cons_zero, Act.put, List.setIfInBounds_toArray, List.set_cons_zero, List.set_cons_succ]
              refine wpAnyH_world (F := fun W => Row W w2.heap.size 23 (cds 0 0 0) ∧ wr.heap.size ≤ w2.heap.size ∧ Row W g10 28 (flt 0 0) ∧ g10 ≠ w2.heap.size ∧ Sl W W.heap.size A1 (pack o2).length (bl (pack o2)) ∧ Below wr.heap.size wr W) ⟨Row.newEq _ _ _ _ _ rfl rfl, kk.size, r10.alloc _, Nat.ne_of_lt r10.lt, s1.up ((Below.refl _ _).alloc (Nat.le_refl _) _), up_alloc kk _⟩ ?_
              generalize w2.heap.size = g8
              clear hHeld kk r10 s1
              rintro w3 ⟨r8, l8, r10, n10_8, s1, kk⟩
              have hHeld := HK.out _ kk
              refine wpAnyH_ready (rs := [17]) (by kernel_rfl) (by simp) ?_
              refine AllReadyH.cons rfl (fun K hK => ?_) AllReadyH.nil
              · try simp only [List.getElem_toArray, List.getElem_cons_succ, List.getElem_cons_zero]
                go_simp
                refine hK.out _ _ (HK.out _ (up_alloc kk _)) (fun _ => ?_)
                clear hK K
                try simp only [List.getElem_toArray, List.getElem_cons_succ, List.getElem_cons_zero, Act.put, List.setIfInBounds_toArray, List.set_cons_zero, List.set_cons_succ]
                refine wpAnyH_world (F := fun W => Row W w3.heap.size 26 (bcs none 0 0 0) ∧ wr.heap.size ≤ w3.heap.size ∧ Row W g8 23 (cds 0 0 0) ∧ g8 ≠ w3.heap.size ∧ Row W g10 28 (flt 0 0) ∧ g10 ≠ w3.heap.size ∧ Sl W W.heap.size A1 (pack o2).length (bl (pack o2)) ∧ Below wr.heap.size wr W) ⟨Row.newEq _ _ _ _ _ rfl rfl, kk.size, r8.alloc _, Nat.ne_of_lt r8.lt, r10.alloc _, Nat.ne_of_lt r10.lt, s1.up ((Below.refl _ _).alloc (Nat.le_refl _) _), up_alloc kk _⟩ ?_
                generalize w3.heap.size = g9
                clear hHeld kk r8 r10 s1
                rintro w4 ⟨r9, l9, r8, n8_9, r10, n10_9, s1, kk⟩
                have hHeld := HK.out _ kk
                refine wpAnyH_ready (rs := [19]) (by kernel_rfl) (by simp) ?_
                refine AllReadyH.cons rfl (fun K hK => ?_) AllReadyH.nil
                (refine wp_st (by rfl) _ _ 23 (by rfl) g8 (by rfl) (cds fL fH q2) (by rfl) 23 (cds 0 0 0) r8 (by rw [cds_size]; exact cellsCd) rfl (all_one (cds_one _ _ _)) ?_)
                replace r9 := r9.rowFar (show g9 ≠ g8 by omega) (cds fL fH q2)
                replace r10 := r10.rowFar (show g10 ≠ g8 by omega) (cds fL fH q2)
                have r8z := r8
                replace s1 := Sl.rowHere s1 r8z (no_cds _ _ _) (cds fL fH q2)
                replace r8 := Row.row r8z (cds fL fH q2)
                clear r8z
                replace kk := blw_row kk l8 (cds fL fH q2)
                refine hK.out _ _ (HK.out _ kk) (fun hHeld => ?_)
                clear hK K
                try simp only [List.getElem_toArray, List.getElem_cons_succ, List.getElem_cons_zero, Act.put]
                refine wpAnyH_ready (rs := [20]) (by kernel_rfl) (by simp) ?_
                refine AllReadyH.cons rfl (fun K hK => ?_) AllReadyH.nil
                (refine wp_st (by rfl) _ _ 26 (by rfl) g9 (by rfl) (bcs A1 (pack o2).length c1 o2.length) (by rfl) 26 (bcs none 0 0 0) r9 (by rw [bcs_size]; exact cellsB) rfl (all_one (bcs_one _ _ _ _)) ?_)
                replace r8 := r8.rowFar (show g8 ≠ g9 by omega) (bcs A1 (pack o2).length c1 o2.length)
                replace r10 := r10.rowFar (show g10 ≠ g9 by omega) (bcs A1 (pack o2).length c1 o2.length)
                have r9z := r9
                replace s1 := Sl.rowHere s1 r9z (no_bcs _ _ _ _) (bcs A1 (pack o2).length c1 o2.length)
                replace r9 := Row.row r9z (bcs A1 (pack o2).length c1 o2.length)
                clear r9z
                replace kk := blw_row kk l9 (bcs A1 (pack o2).length c1 o2.length)
                refine hK.out _ _ (HK.out _ kk) (fun hHeld => ?_)
                clear hK K
                try simp only [List.getElem_toArray, List.getElem_cons_succ, List.getElem_cons_zero, Act.put]
                refine wpAnyH_ready (rs := [21]) (by kernel_rfl) (by simp) ?_
                refine AllReadyH.cons rfl (fun K hK => ?_) AllReadyH.nil
                (refine wp_st (by rfl) _ _ 28 (by rfl) g10 (by rfl) (flt 0 0) (by rfl) 28 (flt 0 0) r10 (by rw [flt_size]; exact cellsF) rfl (all_one (flt_one _ _)) ?_)
                replace r8 := r8.rowFar (show g8 ≠ g10 by omega) (flt 0 0)
                replace r9 := r9.rowFar (show g9 ≠ g10 by omega) (flt 0 0)
                have r10z := r10
                replace s1 := Sl.rowHere s1 r10z (no_flt _ _) (flt 0 0)
                replace r10 := Row.row r10z (flt 0 0)
                clear r10z
                replace kk := blw_row kk l10 (flt 0 0)
                refine hK.out _ _ (HK.out _ kk) (fun hHeld => ?_)
                clear hK K
                try simp only [List.getElem_toArray, List.getElem_cons_succ, List.getElem_cons_zero, Act.put]
                refine wpAnyH_done (by kernel_rfl) ?_ _
                go_wp2_with fail
                go_meet
                exact ⟨g8, g9, g10, A1, c1, rfl, rfl, rfl, r8, r9, r10, s1, kk⟩
            · try simp only [List.getElem_toArray, List.getElem_cons_succ, List.getElem_cons_zero]
              go_simp
              refine hK.out _ _ (HK.out _ (up_alloc kk _)) (fun _ => ?_)
              clear hK K
              try simp only [List.getElem_toArray, List.getElem_cons_succ, List.getElem_cons_zero, Act.put, List.setIfInBounds_toArray, List.set_cons_zero, List.set_cons_succ]
              refine wpAnyH_world (F := fun W => Row W w2.heap.size 26 (bcs none 0 0 0) ∧ wr.heap.size ≤ w2.heap.size ∧ Row W g10 28 (flt 0 0) ∧ g10 ≠ w2.heap.size ∧ Sl W W.heap.size A1 (pack o2).length (bl (pack o2)) ∧ Below wr.heap.size wr W) ⟨Row.newEq _ _ _ _ _ rfl rfl, kk.size, r10.alloc _, Nat.ne_of_lt r10.lt, s1.up ((Below.refl _ _).alloc (Nat.le_refl _) _), up_alloc kk _⟩ ?_
              generalize w2.heap.size = g9
              clear hHeld kk r10 s1
              rintro w3 ⟨r9, l9, r10, n10_9, s1, kk⟩
              have hHeld := HK.out _ kk
              refine wpAnyH_ready (rs := [16]) (by kernel_rfl) (by simp) ?_
              refine AllReadyH.cons rfl (fun K hK => ?_) AllReadyH.nil
              · try simp only [List.getElem_toArray, List.getElem_cons_succ, List.getElem_cons_zero]
                go_simp
                refine hK.out _ _ (HK.out _ (up_alloc kk _)) (fun _ => ?_)
                clear hK K
                try simp only [List.getElem_toArray, List.getElem_cons_succ, List.getElem_cons_zero, Act.put, List.setIfInBounds_toArray, List.set_cons_zero, List.set_cons_succ]
                refine wpAnyH_world (F := fun W => Row W w3.heap.size 23 (cds 0 0 0) ∧ wr.heap.size ≤ w3.heap.size ∧ Row W g9 26 (bcs none 0 0 0) ∧ g9 ≠ w3.heap.size ∧ Row W g10 28 (flt 0 0) ∧ g10 ≠ w3.heap.size ∧ Sl W W.heap.size A1 (pack o2).length (bl (pack o2)) ∧ Below wr.heap.size wr W) ⟨Row.newEq _ _ _ _ _ rfl rfl, kk.size, r9.alloc _, Nat.ne_of_lt r9.lt, r10.alloc _, Nat.ne_of_lt r10.lt, s1.up ((Below.refl _ _).alloc (Nat.le_refl _) _), up_alloc kk _⟩ ?_
                generalize w3.heap.size = g8
                clear hHeld kk r9 r10 s1
                rintro w4 ⟨r8, l8, r9, n9_8, r10, n10_8, s1, kk⟩
                have hHeld := HK.out _ kk
                refine wpAnyH_ready (rs := [19]) (by kernel_rfl) (by simp) ?_
                refine AllReadyH.cons rfl (fun K hK => ?_) AllReadyH.nil
                (refine wp_st (by rfl) _ _ 23 (by rfl) g8 (by rfl) (cds fL fH q2) (by rfl) 23 (cds 0 0 0) r8 (by rw [cds_size]; exact cellsCd) rfl (all_one (cds_one _ _ _)) ?_)
                replace r9 := r9.rowFar (show g9 ≠ g8 by omega) (cds fL fH q2)
                replace r10 := r10.rowFar (show g10 ≠ g8 by omega) (cds fL fH q2)
                have r8z := r8
                replace s1 := Sl.rowHere s1 r8z (no_cds _ _ _) (cds fL fH q2)
                replace r8 := Row.row r8z (cds fL fH q2)
                clear r8z
                replace kk := blw_row kk l8 (cds fL fH q2)
                refine hK.out _ _ (HK.out _ kk) (fun hHeld => ?_)
                clear hK K
                try simp only [List.getElem_toArray, List.getElem_cons_succ, List.getElem_cons_zero, Act.put]
                refine wpAnyH_ready (rs := [20]) (by kernel_rfl) (by simp) ?_
                refine AllReadyH.cons rfl (fun K hK => ?_) AllReadyH.nil
                (refine wp_st (by rfl) _ _ 26 (by rfl) g9 (by rfl) (bcs A1 (pack o2).length c1 o2.length) (by rfl) 26 (bcs none 0 0 0) r9 (by rw [bcs_size]; exact cellsB) rfl (all_one (bcs_one _ _ _ _)) ?_)
                replace r8 := r8.rowFar (show g8 ≠ g9 by omega) (bcs A1 (pack o2).length c1 o2.length)
                replace r10 := r10.rowFar (show g10 ≠ g9 by omega) (bcs A1 (pack o2).length c1 o2.length)
                have r9z := r9
                replace s1 := Sl.rowHere s1 r9z (no_bcs _ _ _ _) (bcs A1 (pack o2).length c1 o2.length)
                replace r9 := Row.row r9z (bcs A1 (pack o2).length c1 o2.length)
                clear r9z
                replace kk := blw_row kk l9 (bcs A1 (pack o2).length c1 o2.length)
                refine hK.out _ _ (HK.out _ kk) (fun hHeld => ?_)
                clear hK K
                try simp only [List.getElem_toArray, List.getElem_cons_succ, List.getElem_cons_zero, Act.put]
                refine wpAnyH_ready (rs := [21]) (by kernel_rfl) (by simp) ?_
                refine AllReadyH.cons rfl (fun K hK => ?_) AllReadyH.nil
                (refine wp_st (by rfl) _ _ 28 (by rfl) g10 (by rfl) (flt 0 0) (by rfl) 28 (flt 0 0) r10 (by rw [flt_size]; exact cellsF) rfl (all_one (flt_one _ _)) ?_)
                replace r8 := r8.rowFar (show g8 ≠ g10 by omega) (flt 0 0)
                replace r9 := r9.rowFar (show g9 ≠ g10 by omega) (flt 0 0)
                have r10z := r10
                replace s1 := Sl.rowHere s1 r10z (no_flt _ _) (flt 0 0)
                replace r10 := Row.row r10z (flt 0 0)
                clear r10z
                replace kk := blw_row kk l10 (flt 0 0)
                refine hK.out _ _ (HK.out _ kk) (fun hHeld => ?_)
                clear hK K
                try simp only [List.getElem_toArray, List.getElem_cons_succ, List.getElem_cons_zero, Act.put]
                refine wpAnyH_done (by kernel_rfl) ?_ _
                go_wp2_with fail
                go_meet
                exact ⟨g8, g9, g10, A1, c1, rfl, rfl, rfl, r8, r9, r10, s1, kk⟩
          · try simp only [List.getElem_toArray, List.getElem_cons_succ, List.getElem_cons_zero]
            go_simp
            refine hK.out _ _ (HK.out _ (up_alloc kk _)) (fun _ => ?_)
            clear hK K
            try simp only [List.getElem_toArray, List.getElem_cons_succ, List.getElem_cons_zero, Act.put, List.setIfInBounds_toArray, List.set_cons_zero, List.set_cons_succ]
            refine wpAnyH_world (F := fun W => Row W w1.heap.size 23 (cds 0 0 0) ∧ wr.heap.size ≤ w1.heap.size ∧ Row W g10 28 (flt 0 0) ∧ g10 ≠ w1.heap.size ∧ Below wr.heap.size wr W) ⟨Row.newEq _ _ _ _ _ rfl rfl, kk.size, r10.alloc _, Nat.ne_of_lt r10.lt, up_alloc kk _⟩ ?_
            generalize w1.heap.size = g8
            clear hHeld kk r10
            rintro w2 ⟨r8, l8, r10, n10_8, kk⟩
            have hHeld := HK.out _ kk
            refine wpAnyH_ready (rs := [11, 17]) (by kernel_rfl) (by simp) ?_
            refine AllReadyH.cons rfl (fun K hK => ?_) (AllReadyH.cons rfl (fun K hK => ?_) AllReadyH.nil)
            · try simp only [List.getElem_toArray, List.getElem_cons_succ, List.getElem_cons_zero]
              go_simp
              (go_at_call 11; refine (HPUT.out _).mono ?_; rintro e w3 ⟨A1, c1, rfl, s1, hbc⟩)
              try go_wp2_with fail
              replace r8 := r8.below hbc r8.lt
              replace r10 := r10.below hbc r10.lt
              replace kk := up_call kk hbc
              clear hbc
              refine hK.out _ _ (HK.out _ kk) (fun hHeld => ?_)
              clear hK K
              try simp only [List.getElem_toArray, List.getElem_cons_succ, List.getElem_cons_zero, Act.put, List.setIfInBounds_toArray, List.set_cons_zero, List.set_cons_succ]
              refine wpAnyH_take (i := 12) (v := ?_) rfl (by kernel_rfl) (by kernel_rfl) (by kernel_rfl) (fun _ _ _ h => h) (Or.inl ⟨by rfl, ?_⟩) (by assumption) ?_
              rotate_left
              · (rintro wx ⟨sw0, sw1, sw2, sw3⟩; try simp only [List.getElem_toArray, List.getElem_cons_succ, List.getElem_cons_zero]; go_simp; try with_reducible rfl)
              try simp only [List.getElem_toArray, List.getElem_cons_succ, List.getElem_cons_zero, Act.put, List.setIfInBounds_toArray, List.set_cons_zero, List.set_cons_succ]
              refine wpAnyH_take (i := 13) (v := ?_) rfl (by kernel_rfl) (by kernel_rfl) (by kernel_rfl) (fun _ _ _ h => h) (Or.inl ⟨by rfl, ?_⟩) (by assumption) ?_
              rotate_left
              · (rintro wx ⟨sw0, sw1, sw2, sw3⟩; try simp only [List.getElem_toArray, List.getElem_cons_succ, List.getElem_cons_zero]; go_simp; try with_reducible rfl)
              try simp only [List.getElem_toArray, List.getElem_cons_succ, List.getElem_cons_zero, Act.put, List.setIfInBounds_toArray, List.set_cons_zero, List.set_cons_succ]
              refine wpAnyH_take (i := 14) (v := ?_) rfl (by kernel_rfl) (by kernel_rfl) (by kernel_rfl) (fun _ _ _ h => h) (Or.inl ⟨by rfl, ?_⟩) (by assumption) ?_
              rotate_left
              · (rintro wx ⟨sw0, sw1, sw2, sw3⟩; try simp only [List.getElem_toArray, List.getElem_cons_succ, List.getElem_cons_zero]; go_simp; try with_reducible rfl)
              try simp only [List.getElem_toArray, List.getElem_cons_succ, List.getElem_cons_zero, Act.put, List.setIfInBounds_toArray, List.set_cons_zero, List.set_cons_succ]
              refine wpAnyH_take (i := 15) (v := ?_) rfl (by kernel_rfl) (by kernel_rfl) (by kernel_rfl) (fun _ _ _ h => h) (Or.inl ⟨by rfl, ?_⟩) (by assumption) ?_
              rotate_left
              · (rintro wx ⟨sw0, sw1, sw2, sw3⟩; try simp only [List.getElem_toArray, List.getElem_cons_succ, List.getElem_cons_zero]; go_simp; try with_reducible rfl)
              try simp only [List.getElem_toArray, List.getElem_cons_succ, List.getElem_cons_zero, Act.put, List.setIfInBounds_toArray, List.set_cons_zero, List.set_cons_succ]
              refine wpAnyH_ready (rs := [17]) (by kernel_rfl) (by simp) ?_
              refine AllReadyH.cons rfl (fun K hK => ?_) AllReadyH.nil
              · try simp only [List.getElem_toArray, List.getElem_cons_succ, List.getElem_cons_zero]
                go_simp
                refine hK.out _ _ (HK.out _ (up_alloc kk _)) (fun _ => ?_)
                clear hK K
                try simp only [List.getElem_toArray, List.getElem_cons_succ, List.getElem_cons_zero, Act.put, List.setIfInBounds_toArray, List.set_cons_zero, List.set_cons_succ]
                refine wpAnyH_world (F := fun W => Row W w3.heap.size 26 (bcs none 0 0 0) ∧ wr.heap.size ≤ w3.heap.size ∧ Row W g8 23 (cds 0 0 0) ∧ g8 ≠ w3.heap.size ∧ Row W g10 28 (flt 0 0) ∧ g10 ≠ w3.heap.size ∧ Sl W W.heap.size A1 (pack o2).length (bl (pack o2)) ∧ Below wr.heap.size wr W) ⟨Row.newEq _ _ _ _ _ rfl rfl, kk.size, r8.alloc _, Nat.ne_of_lt r8.lt, r10.alloc _, Nat.ne_of_lt r10.lt, s1.up ((Below.refl _ _).alloc (Nat.le_refl _) _), up_alloc kk _⟩ ?_
                generalize w3.heap.size = g9
                clear hHeld kk r8 r10 s1
                rintro w4 ⟨r9, l9, r8, n8_9, r10, n10_9, s1, kk⟩
                have hHeld := HK.out _ kk
                refine wpAnyH_ready (rs := [19]) (by kernel_rfl) (by simp) ?_
                refine AllReadyH.cons rfl (fun K hK => ?_) AllReadyH.nil
                (refine wp_st (by rfl) _ _ 23 (by rfl) g8 (by rfl) (cds fL fH q2) (by rfl) 23 (cds 0 0 0) r8 (by rw [cds_size]; exact cellsCd) rfl (all_one (cds_one _ _ _)) ?_)
                replace r9 := r9.rowFar (show g9 ≠ g8 by omega) (cds fL fH q2)
                replace r10 := r10.rowFar (show g10 ≠ g8 by omega) (cds fL fH q2)
                have r8z := r8
                replace s1 := Sl.rowHere s1 r8z (no_cds _ _ _) (cds fL fH q2)
                replace r8 := Row.row r8z (cds fL fH q2)
                clear r8z
                replace kk := blw_row kk l8 (cds fL fH q2)
                refine hK.out _ _ (HK.out _ kk) (fun hHeld => ?_)
                clear hK K
                try simp only [List.getElem_toArray, List.getElem_cons_succ, List.getElem_cons_zero, Act.put]
                refine wpAnyH_ready (rs := [20]) (by kernel_rfl) (by simp) ?_
                refine AllReadyH.cons rfl (fun K hK => ?_) AllReadyH.nil
                (refine wp_st (by rfl) _ _ 26 (by rfl) g9 (by rfl) (bcs A1 (pack o2).length c1 o2.length) (by rfl) 26 (bcs none 0 0 0) r9 (by rw [bcs_size]; exact cellsB) rfl (all_one (bcs_one _ _ _ _)) ?_)
                replace r8 := r8.rowFar (show g8 ≠ g9 by omega) (bcs A1 (pack o2).length c1 o2.length)
                replace r10 := r10.rowFar (show g10 ≠ g9 by omega) (bcs A1 (pack o2).length c1 o2.length)
                have r9z := r9
                replace s1 := Sl.rowHere s1 r9z (no_bcs _ _ _ _) (bcs A1 (pack o2).length c1 o2.length)
                replace r9 := Row.row r9z (bcs A1 (pack o2).length c1 o2.length)
                clear r9z
                replace kk := blw_row kk l9 (bcs A1 (pack o2).length c1 o2.length)
                refine hK.out _ _ (HK.out _ kk) (fun hHeld => ?_)
                clear hK K
                try simp only [List.getElem_toArray, List.getElem_cons_succ, List.getElem_cons_zero, Act.put]
                refine wpAnyH_ready (rs := [21]) (by kernel_rfl) (by simp) ?_
                refine AllReadyH.cons rfl (fun K hK => ?_) AllReadyH.nil
                (refine wp_st (by rfl) _ _ 28 (by rfl) g10 (by rfl) (flt 0 0) (by rfl) 28 (flt 0 0) r10 (by rw [flt_size]; exact cellsF) rfl (all_one (flt_one _ _)) ?_)
                replace r8 := r8.rowFar (show g8 ≠ g10 by omega) (flt 0 0)
                replace r9 := r9.rowFar (show g9 ≠ g10 by omega) (flt 0 0)
                have r10z := r10
                replace s1 := Sl.rowHere s1 r10z (no_flt _ _) (flt 0 0)
                replace r10 := Row.row r10z (flt 0 0)
                clear r10z
                replace kk := blw_row kk l10 (flt 0 0)
                refine hK.out _ _ (HK.out _ kk) (fun hHeld => ?_)
                clear hK K
                try simp only [List.getElem_toArray, List.getElem_cons_succ, List.getElem_cons_zero, Act.put]
                refine wpAnyH_done (by kernel_rfl) ?_ _
                go_wp2_with fail
                go_meet
                exact ⟨g8, g9, g10, A1, c1, rfl, rfl, rfl, r8, r9, r10, s1, kk⟩
            · try simp only [List.getElem_toArray, List.getElem_cons_succ, List.getElem_cons_zero]
              go_simp
              refine hK.out _ _ (HK.out _ (up_alloc kk _)) (fun _ => ?_)
              clear hK K
              try simp only [List.getElem_toArray, List.getElem_cons_succ, List.getElem_cons_zero, Act.put, List.setIfInBounds_toArray, List.set_cons_zero, List.set_cons_succ]
              refine wpAnyH_world (F := fun W => Row W w2.heap.size 26 (bcs none 0 0 0) ∧ wr.heap.size ≤ w2.heap.size ∧ Row W g8 23 (cds 0 0 0) ∧ g8 ≠ w2.heap.size ∧ Row W g10 28 (flt 0 0) ∧ g10 ≠ w2.heap.size ∧ Below wr.heap.size wr W) ⟨Row.newEq _ _ _ _ _ rfl rfl, kk.size, r8.alloc _, Nat.ne_of_lt r8.lt, r10.alloc _, Nat.ne_of_lt r10.lt, up_alloc kk _⟩ ?_
              generalize w2.heap.size = g9
              clear hHeld kk r8 r10
              rintro w3 ⟨r9, l9, r8, n8_9, r10, n10_9, kk⟩
              have hHeld := HK.out _ kk
              refine wpAnyH_ready (rs := [11]) (by kernel_rfl) (by simp) ?_
              refine AllReadyH.cons rfl (fun K hK => ?_) AllReadyH.nil
              · try simp only [List.getElem_toArray, List.getElem_cons_succ, List.getElem_cons_zero]
                go_simp
                (go_at_call 11; refine (HPUT.out _).mono ?_; rintro e w4 ⟨A1, c1, rfl, s1, hbc⟩)
                try go_wp2_with fail
                replace r8 := r8.below hbc r8.lt
                replace r9 := r9.below hbc r9.lt
                replace r10 := r10.below hbc r10.lt
                replace kk := up_call kk hbc
                clear hbc
                refine hK.out _ _ (HK.out _ kk) (fun hHeld => ?_)
                clear hK K
                try simp only [List.getElem_toArray, List.getElem_cons_succ, List.getElem_cons_zero, Act.put, List.setIfInBounds_toArray, List.set_cons_zero, List.set_cons_succ]
                refine wpAnyH_take (i := 12) (v := ?_) rfl (by kernel_rfl) (by kernel_rfl) (by kernel_rfl) (fun _ _ _ h => h) (Or.inl ⟨by rfl, ?_⟩) (by assumption) ?_
                rotate_left
                · (rintro wx ⟨sw0, sw1, sw2, sw3⟩; try simp only [List.getElem_toArray, List.getElem_cons_succ, List.getElem_cons_zero]; go_simp; try with_reducible rfl)
                try simp only [List.getElem_toArray, List.getElem_cons_succ, List.getElem_cons_zero, Act.put, List.setIfInBounds_toArray, List.set_cons_zero, List.set_cons_succ]
                refine wpAnyH_take (i := 13) (v := ?_) rfl (by kernel_rfl) (by kernel_rfl) (by kernel_rfl) (fun _ _ _ h => h) (Or.inl ⟨by rfl, ?_⟩) (by assumption) ?_
                rotate_left
                · (rintro wx ⟨sw0, sw1, sw2, sw3⟩; try simp only [List.getElem_toArray, List.getElem_cons_succ, List.getElem_cons_zero]; go_simp; try with_reducible rfl)
                try simp only [List.getElem_toArray, List.getElem_cons_succ, List.getElem_cons_zero, Act.put, List.setIfInBounds_toArray, List.set_cons_zero, List.set_cons_succ]
                refine wpAnyH_take (i := 14) (v := ?_) rfl (by kernel_rfl) (by kernel_rfl) (by kernel_rfl) (fun _ _ _ h => h) (Or.inl ⟨by rfl, ?_⟩) (by assumption) ?_
                rotate_left
                · (rintro wx ⟨sw0, sw1, sw2, sw3⟩; try simp only [List.getElem_toArray, List.getElem_cons_succ, List.getElem_cons_zero]; go_simp; try with_reducible rfl)
                try simp only [List.getElem_toArray, List.getElem_cons_succ, List.getElem_cons_zero, Act.put, List.setIfInBounds_toArray, List.set_cons_zero, List.set_cons_succ]
                refine wpAnyH_take (i := 15) (v := ?_) rfl (by kernel_rfl) (by kernel_rfl) (by kernel_rfl) (fun _ _ _ h => h) (Or.inl ⟨by rfl, ?_⟩) (by assumption) ?_
                rotate_left
                · (rintro wx ⟨sw0, sw1, sw2, sw3⟩; try simp only [List.getElem_toArray, List.getElem_cons_succ, List.getElem_cons_zero]; go_simp; try with_reducible rfl)
                try simp only [List.getElem_toArray, List.getElem_cons_succ, List.getElem_cons_zero, Act.put, List.setIfInBounds_toArray, List.set_cons_zero, List.set_cons_succ]
                refine wpAnyH_ready (rs := [19]) (by kernel_rfl) (by simp) ?_
                refine AllReadyH.cons rfl (fun K hK => ?_) AllReadyH.nil
                (refine wp_st (by rfl) _ _ 23 (by rfl) g8 (by rfl) (cds fL fH q2) (by rfl) 23 (cds 0 0 0) r8 (by rw [cds_size]; exact cellsCd) rfl (all_one (cds_one _ _ _)) ?_)
                replace r9 := r9.rowFar (show g9 ≠ g8 by omega) (cds fL fH q2)
                replace r10 := r10.rowFar (show g10 ≠ g8 by omega) (cds fL fH q2)
                have r8z := r8
                replace s1 := Sl.rowHere s1 r8z (no_cds _ _ _) (cds fL fH q2)
                replace r8 := Row.row r8z (cds fL fH q2)
                clear r8z
                replace kk := blw_row kk l8 (cds fL fH q2)
                refine hK.out _ _ (HK.out _ kk) (fun hHeld => ?_)
                clear hK K
                try simp only [List.getElem_toArray, List.getElem_cons_succ, List.getElem_cons_zero, Act.put]
                refine wpAnyH_ready (rs := [20]) (by kernel_rfl) (by simp) ?_
                refine AllReadyH.cons rfl (fun K hK => ?_) AllReadyH.nil
                (refine wp_st (by rfl) _ _ 26 (by rfl) g9 (by rfl) (bcs A1 (pack o2).length c1 o2.length) (by rfl) 26 (bcs none 0 0 0) r9 (by rw [bcs_size]; exact cellsB) rfl (all_one (bcs_one _ _ _ _)) ?_)
                replace r8 := r8.rowFar (show g8 ≠ g9 by omega) (bcs A1 (pack o2).length c1 o2.length)
                replace r10 := r10.rowFar (show g10 ≠ g9 by omega) (bcs A1 (pack o2).length c1 o2.length)
                have r9z := r9
                replace s1 := Sl.rowHere s1 r9z (no_bcs _ _ _ _) (bcs A1 (pack o2).length c1 o2.length)
                replace r9 := Row.row r9z (bcs A1 (pack o2).length c1 o2.length)
                clear r9z
                replace kk := blw_row kk l9 (bcs A1 (pack o2).length c1 o2.length)
                refine hK.out _ _ (HK.out _ kk) (fun hHeld => ?_)
                clear hK K
                try simp only [List.getElem_toArray, List.getElem_cons_succ, List.getElem_cons_zero, Act.put]
                refine wpAnyH_ready (rs := [21]) (by kernel_rfl) (by simp) ?_
                refine AllReadyH.cons rfl (fun K hK => ?_) AllReadyH.nil
                (refine wp_st (by rfl) _ _ 28 (by rfl) g10 (by rfl) (flt 0 0) (by rfl) 28 (flt 0 0) r10 (by rw [flt_size]; exact cellsF) rfl (all_one (flt_one _ _)) ?_)
                replace r8 := r8.rowFar (show g8 ≠ g10 by omega) (flt 0 0)
                replace r9 := r9.rowFar (show g9 ≠ g10 by omega) (flt 0 0)
                have r10z := r10
                replace s1 := Sl.rowHere s1 r10z (no_flt _ _) (flt 0 0)
                replace r10 := Row.row r10z (flt 0 0)
                clear r10z
                replace kk := blw_row kk l10 (flt 0 0)
                refine hK.out _ _ (HK.out _ kk) (fun hHeld => ?_)
                clear hK K
                try simp only [List.getElem_toArray, List.getElem_cons_succ, List.getElem_cons_zero, Act.put]
                refine wpAnyH_done (by kernel_rfl) ?_ _
                go_wp2_with fail
                go_meet
                exact ⟨g8, g9, g10, A1, c1, rfl, rfl, rfl, r8, r9, r10, s1, kk⟩
          · try simp only [List.getElem_toArray, List.getElem_cons_succ, List.getElem_cons_zero]
            go_simp
            refine hK.out _ _ (HK.out _ (up_alloc kk _)) (fun _ => ?_)
            clear hK K
            try simp only [List.getElem_toArray, List.getElem_cons_succ, List.getElem_cons_zero, Act.put, List.setIfInBounds_toArray, List.set_cons_zero, List.set_cons_succ]
            refine wpAnyH_world (F := fun W => Row W w1.heap.size 26 (bcs none 0 0 0) ∧ wr.heap.size ≤ w1.heap.size ∧ Row W g10 28 (flt 0 0) ∧ g10 ≠ w1.heap.size ∧ Below wr.heap.size wr W) ⟨Row.newEq _ _ _ _ _ rfl rfl, kk.size, r10.alloc _, Nat.ne_of_lt r10.lt, up_alloc kk _⟩ ?_
            generalize w1.heap.size = g9
            clear hHeld kk r10
            rintro w2 ⟨r9, l9, r10, n10_9, kk⟩
            have hHeld := HK.out _ kk
            refine wpAnyH_ready (rs := [11, 16]) (by kernel_rfl) (by simp) ?_
            refine AllReadyH.cons rfl (fun K hK => ?_) (AllReadyH.cons rfl (fun K hK => ?_) AllReadyH.nil)
            · try simp only [List.getElem_toArray, List.getElem_cons_succ, List.getElem_cons_zero]
              go_simp
              (go_at_call 11; refine (HPUT.out _).mono ?_; rintro e w3 ⟨A1, c1, rfl, s1, hbc⟩)
              try go_wp2_with fail
              replace r9 := r9.below hbc r9.lt
              replace r10 := r10.below hbc r10.lt
              replace kk := up_call kk hbc
              clear hbc
              refine hK.out _ _ (HK.out _ kk) (fun hHeld => ?_)
              clear hK K
              try simp only [List.getElem_toArray, List.getElem_cons_succ, List.getElem_cons_zero, Act.put, List.setIfInBounds_toArray, List.set_cons_zero, List.set_cons_succ]
              refine wpAnyH_take (i := 12) (v := ?_) rfl (by kernel_rfl) (by kernel_rfl) (by kernel_rfl) (fun _ _ _ h => h) (Or.inl ⟨by rfl, ?_⟩) (by assumption) ?_
              rotate_left
              · (rintro wx ⟨sw0, sw1, sw2, sw3⟩; try simp only [List.getElem_toArray, List.getElem_cons_succ, List.getElem_cons_zero]; go_simp; try with_reducible rfl)
              try simp only [List.getElem_toArray, List.getElem_cons_succ, List.getElem_cons_zero, Act.put, List.setIfInBounds_toArray, List.set_cons_zero, List.set_cons_succ]
              refine wpAnyH_take (i := 13) (v := ?_) rfl (by kernel_rfl) (by kernel_rfl) (by kernel_rfl) (fun _ _ _ h => h) (Or.inl ⟨by rfl, ?_⟩) (by assumption) ?_
              rotate_left
              · (rintro wx ⟨sw0, sw1, sw2, sw3⟩; try simp only [List.getElem_toArray, List.getElem_cons_succ, List.getElem_cons_zero]; go_simp; try with_reducible rfl)
              try simp only [List.getElem_toArray, List.getElem_cons_succ, List.getElem_cons_zero, Act.put, List.setIfInBounds_toArray, List.set_cons_zero, List.set_cons_succ]
              refine wpAnyH_take (i := 14) (v := ?_) rfl (by kernel_rfl) (by kernel_rfl) (by kernel_rfl) (fun _ _ _ h => h) (Or.inl ⟨by rfl, ?_⟩) (by assumption) ?_
              rotate_left
              · (rintro wx ⟨sw0, sw1, sw2, sw3⟩; try simp only [List.getElem_toArray, List.getElem_cons_succ, List.getElem_cons_zero]; go_simp; try with_reducible rfl)
              try simp only [List.getElem_toArray, List.getElem_cons_succ, List.getElem_cons_zero, Act.put, List.setIfInBounds_toArray, List.set_cons_zero, List.set_cons_succ]
              refine wpAnyH_take (i := 15) (v := ?_) rfl (by kernel_rfl) (by kernel_rfl) (by kernel_rfl) (fun _ _ _ h => h) (Or.inl ⟨by rfl, ?_⟩) (by assumption) ?_
              rotate_left
              · (rintro wx ⟨sw0, sw1, sw2, sw3⟩; try simp only [List.getElem_toArray, List.getElem_cons_succ, List.getElem_cons_zero]; go_simp; try with_reducible rfl)
              try simp only [List.getElem_toArray, List.getElem_cons_succ, List.getElem_cons_zero, Act.put, List.setIfInBounds_toArray, List.set_cons_zero, List.set_cons_succ]
              refine wpAnyH_ready (rs := [16]) (by kernel_rfl) (by simp) ?_
              refine AllReadyH.cons rfl (fun K hK => ?_) AllReadyH.nil
              · try simp only [List.getElem_toArray, List.getElem_cons_succ, List.getElem_cons_zero]
                go_simp
                refine hK.out _ _ (HK.out _ (up_alloc kk _)) (fun _ => ?_)
                clear hK K
                try simp only [List.getElem_toArray, List.getElem_cons_succ, List.getElem_cons_zero, Act.put, List.setIfInBounds_toArray, List.set_cons_zero, List.set_cons_succ]
                refine wpAnyH_world (F := fun W => Row W w3.heap.size 23 (cds 0 0 0) ∧ wr.heap.size ≤ w3.heap.size ∧ Row W g9 26 (bcs none 0 0 0) ∧ g9 ≠ w3.heap.size ∧ Row W g10 28 (flt 0 0) ∧ g10 ≠ w3.heap.size ∧ Sl W W.heap.size A1 (pack o2).length (bl (pack o2)) ∧ Below wr.heap.size wr W) ⟨Row.newEq _ _ _ _ _ rfl rfl, kk.size, r9.alloc _, Nat.ne_of_lt r9.lt, r10.alloc _, Nat.ne_of_lt r10.lt, s1.up ((Below.refl _ _).alloc (Nat.le_refl _) _), up_alloc kk _⟩ ?_
                generalize w3.heap.size = g8
                clear hHeld kk r9 r10 s1
                rintro w4 ⟨r8, l8, r9, n9_8, r10, n10_8, s1, kk⟩
                have hHeld := HK.out _ kk
                refine wpAnyH_ready (rs := [19]) (by kernel_rfl) (by simp) ?_
                refine AllReadyH.cons rfl (fun K hK => ?_) AllReadyH.nil
                (refine wp_st (by rfl) _ _ 23 (by rfl) g8 (by rfl) (cds fL fH q2) (by rfl) 23 (cds 0 0 0) r8 (by rw [cds_size]; exact cellsCd) rfl (all_one (cds_one _ _ _)) ?_)
                replace r9 := r9.rowFar (show g9 ≠ g8 by omega) (cds fL fH q2)
                replace r10 := r10.rowFar (show g10 ≠ g8 by omega) (cds fL fH q2)
                have r8z := r8
                replace s1 := Sl.rowHere s1 r8z (no_cds _ _ _) (cds fL fH q2)
                replace r8 := Row.row r8z (cds fL fH q2)
                clear r8z
                replace kk := blw_row kk l8 (cds fL fH q2)
                refine hK.out _ _ (HK.out _ kk) (fun hHeld => ?_)
                clear hK K
                try simp only [List.getElem_toArray, List.getElem_cons_succ, List.getElem_cons_zero, Act.put]
                refine wpAnyH_ready (rs := [20]) (by kernel_rfl) (by simp) ?_
                refine AllReadyH.cons rfl (fun K hK => ?_) AllReadyH.nil
                (refine wp_st (by rfl) _ _ 26 (by rfl) g9 (by rfl) (bcs A1 (pack o2).length c1 o2.length) (by rfl) 26 (bcs none 0 0 0) r9 (by rw [bcs_size]; exact cellsB) rfl (all_one (bcs_one _ _ _ _)) ?_)
                replace r8 := r8.rowFar (show g8 ≠ g9 by omega) (bcs A1 (pack o2).length c1 o2.length)
                replace r10 := r10.rowFar (show g10 ≠ g9 by omega) (bcs A1 (pack o2).length c1 o2.length)
                have r9z := r9
                replace s1 := Sl.rowHere s1 r9z (no_bcs _ _ _ _) (bcs A1 (pack o2).length c1 o2.length)
                replace r9 := Row.row r9z (bcs A1 (pack o2).length c1 o2.length)
                clear r9z
                replace kk := blw_row kk l9 (bcs A1 (pack o2).length c1 o2.length)
                refine hK.out _ _ (HK.out _ kk) (fun hHeld => ?_)
                clear hK K
                try simp only [List.getElem_toArray, List.getElem_cons_succ, List.getElem_cons_zero, Act.put]
                refine wpAnyH_ready (rs := [21]) (by kernel_rfl) (by simp) ?_
                refine AllReadyH.cons rfl (fun K hK => ?_) AllReadyH.nil
                (refine wp_st (by rfl) _ _ 28 (by rfl) g10 (by rfl) (flt 0 0) (by rfl) 28 (flt 0 0) r10 (by rw [flt_size]; exact cellsF) rfl (all_one (flt_one _ _)) ?_)
                replace r8 := r8.rowFar (show g8 ≠ g10 by omega) (flt 0 0)
                replace r9 := r9.rowFar (show g9 ≠ g10 by omega) (flt 0 0)
                have r10z := r10
                replace s1 := Sl.rowHere s1 r10z (no_flt _ _) (flt 0 0)
                replace r10 := Row.row r10z (flt 0 0)
                clear r10z
                replace kk := blw_row kk l10 (flt 0 0)
                refine hK.out _ _ (HK.out _ kk) (fun hHeld => ?_)
                clear hK K
                try simp only [List.getElem_toArray, List.getElem_cons_succ, List.getElem_cons_zero, Act.put]
                refine wpAnyH_done (by kernel_rfl) ?_ _
                go_wp2_with fail
                go_meet
                exact ⟨g8, g9, g10, A1, c1, rfl, rfl, rfl, r8, r9, r10, s1, kk⟩
            · try simp only [List.getElem_toArray, List.getElem_cons_succ, List.getElem_cons_zero]
              go_simp
              refine hK.out _ _ (HK.out _ (up_alloc kk _)) (fun _ => ?_)
              clear hK K
              try simp only [List.getElem_toArray, List.getElem_cons_succ, List.getElem_cons_zero, Act.put, List.setIfInBounds_toArray, List.set_cons_zero, List.set_cons_succ]
              refine wpAnyH_world (F := fun W => Row W w2.heap.size 23 (cds 0 0 0) ∧ wr.heap.size ≤ w2.heap.size ∧ Row W g9 26 (bcs none 0 0 0) ∧ g9 ≠ w2.heap.size ∧ Row W g10 28 (flt 0 0) ∧ g10 ≠ w2.heap.size ∧ Below wr.heap.size wr W) ⟨Row.newEq _ _ _ _ _ rfl rfl, kk.size, r9.alloc _, Nat.ne_of_lt r9.lt, r10.alloc _, Nat.ne_of_lt r10.lt, up_alloc kk _⟩ ?_
              generalize w2.heap.size = g8
              clear hHeld kk r9 r10
              rintro w3 ⟨r8, l8, r9, n9_8, r10, n10_8, kk⟩
              have hHeld := HK.out _ kk
              refine wpAnyH_ready (rs := [11]) (by kernel_rfl) (by simp) ?_
              refine AllReadyH.cons rfl (fun K hK => ?_) AllReadyH.nil
              · try simp only [List.getElem_toArray, List.getElem_cons_succ, List.getElem_cons_zero]
                go_simp
                (go_at_call 11; refine (HPUT.out _).mono ?_; rintro e w4 ⟨A1, c1, rfl, s1, hbc⟩)
                try go_wp2_with fail
                replace r8 := r8.below hbc r8.lt
                replace r9 := r9.below hbc r9.lt
                replace r10 := r10.below hbc r10.lt
                replace kk := up_call kk hbc
                clear hbc
                refine hK.out _ _ (HK.out _ kk) (fun hHeld => ?_)
                clear hK K
                try simp only [List.getElem_toArray, List.getElem_cons_succ, List.getElem_cons_zero, Act.put, List.setIfInBounds_toArray, List.set_cons_zero, List.set_cons_succ]
                refine wpAnyH_take (i := 12) (v := ?_) rfl (by kernel_rfl) (by kernel_rfl) (by kernel_rfl) (fun _ _ _ h => h) (Or.inl ⟨by rfl, ?_⟩) (by assumption) ?_
                rotate_left
                · (rintro wx ⟨sw0, sw1, sw2, sw3⟩; try simp only [List.getElem_toArray, List.getElem_cons_succ, List.getElem_cons_zero]; go_simp; try with_reducible rfl)
                try simp only [List.getElem_toArray, List.getElem_cons_succ, List.getElem_cons_zero, Act.put, List.setIfInBounds_toArray, List.set_cons_zero, List.set_cons_succ]
                refine wpAnyH_take (i := 13) (v := ?_) rfl (by kernel_rfl) (by kernel_rfl) (by kernel_rfl) (fun _ _ _ h => h) (Or.inl ⟨by rfl, ?_⟩) (by assumption) ?_
                rotate_left
                · (rintro wx ⟨sw0, sw1, sw2, sw3⟩; try simp only [List.getElem_toArray, List.getElem_cons_succ, List.getElem_cons_zero]; go_simp; try with_reducible rfl)
                try simp only [List.getElem_toArray, List.getElem_cons_succ, List.getElem_cons_zero, Act.put, List.setIfInBounds_toArray, List.set_cons_zero, List.set_cons_succ]
                refine wpAnyH_take (i := 14) (v := ?_) rfl (by kernel_rfl) (by kernel_rfl) (by kernel_rfl) (fun _ _ _ h => h) (Or.inl ⟨by rfl, ?_⟩) (by assumption) ?_
                rotate_left
                · (rintro wx ⟨sw0, sw1, sw2, sw3⟩; try simp only [List.getElem_toArray, List.getElem_cons_succ, List.getElem_cons_zero]; go_simp; try with_reducible rfl)
                try simp only [List.getElem_toArray, List.getElem_cons_succ, List.getElem_cons_zero, Act.put, List.setIfInBounds_toArray, List.set_cons_zero, List.set_cons_succ]
                refine wpAnyH_take (i := 15) (v := ?_) rfl (by kernel_rfl) (by kernel_rfl) (by kernel_rfl) (fun _ _ _ h => h) (Or.inl ⟨by rfl, ?_⟩) (by assumption) ?_
                rotate_left
                · (rintro wx ⟨sw0, sw1, sw2, sw3⟩; try simp only [List.getElem_toArray, List.getElem_cons_succ, List.getElem_cons_zero]; go_simp; try with_reducible rfl)
                try simp only [List.getElem_toArray, List.getElem_cons_succ, List.getElem_cons_zero, Act.put, List.setIfInBounds_toArray, List.set_cons_zero, List.set_cons_succ]
                refine wpAnyH_ready (rs := [19]) (by kernel_rfl) (by simp) ?_
                refine AllReadyH.cons rfl (fun K hK => ?_) AllReadyH.nil
                (refine wp_st (by rfl) _ _ 23 (by rfl) g8 (by rfl) (cds fL fH q2) (by rfl) 23 (cds 0 0 0) r8 (by rw [cds_size]; exact cellsCd) rfl (all_one (cds_one _ _ _)) ?_)
                replace r9 := r9.rowFar (show g9 ≠ g8 by omega) (cds fL fH q2)
                replace r10 := r10.rowFar (show g10 ≠ g8 by omega) (cds fL fH q2)
                have r8z := r8
                replace s1 := Sl.rowHere s1 r8z (no_cds _ _ _) (cds fL fH q2)
                replace r8 := Row.row r8z (cds fL fH q2)
                clear r8z
                replace kk := blw_row kk l8 (cds fL fH q2)
                refine hK.out _ _ (HK.out _ kk) (fun hHeld => ?_)
                clear hK K
                try simp only [List.getElem_toArray, List.getElem_cons_succ, List.getElem_cons_zero, Act.put]
                refine wpAnyH_ready (rs := [20]) (by kernel_rfl) (by simp) ?_
                refine AllReadyH.cons rfl (fun K hK => ?_) AllReadyH.nil
                (refine wp_st (by rfl) _ _ 26 (by rfl) g9 (by rfl) (bcs A1 (pack o2).length c1 o2.length) (by rfl) 26 (bcs none 0 0 0) r9 (by rw [bcs_size]; exact cellsB) rfl (all_one (bcs_one _ _ _ _)) ?_)
                replace r8 := r8.rowFar (show g8 ≠ g9 by omega) (bcs A1 (pack o2).length c1 o2.length)
                replace r10 := r10.rowFar (show g10 ≠ g9 by omega) (bcs A1 (pack o2).length c1 o2.length)
                have r9z := r9
                replace s1 := Sl.rowHere s1 r9z (no_bcs _ _ _ _) (bcs A1 (pack o2).length c1 o2.length)
                replace r9 := Row.row r9z (bcs A1 (pack o2).length c1 o2.length)
                clear r9z
                replace kk := blw_row kk l9 (bcs A1 (pack o2).length c1 o2.length)
                refine hK.out _ _ (HK.out _ kk) (fun hHeld => ?_)
                clear hK K
                try simp only [List.getElem_toArray, List.getElem_cons_succ, List.getElem_cons_zero, Act.put]
                refine wpAnyH_ready (rs := [21]) (by kernel_rfl) (by simp) ?_
                refine AllReadyH.cons rfl (fun K hK => ?_) AllReadyH.nil
                (refine wp_st (by rfl) _ _ 28 (by rfl) g10 (by rfl) (flt 0 0) (by rfl) 28 (flt 0 0) r10 (by rw [flt_size]; exact cellsF) rfl (all_one (flt_one _ _)) ?_)
                replace r8 := r8.rowFar (show g8 ≠ g10 by omega) (flt 0 0)
                replace r9 := r9.rowFar (show g9 ≠ g10 by omega) (flt 0 0)
                have r10z := r10
                replace s1 := Sl.rowHere s1 r10z (no_flt _ _) (flt 0 0)
                replace r10 := Row.row r10z (flt 0 0)
                clear r10z
                replace kk := blw_row kk l10 (flt 0 0)
                refine hK.out _ _ (HK.out _ kk) (fun hHeld => ?_)
                clear hK K
                try simp only [List.getElem_toArray, List.getElem_cons_succ, List.getElem_cons_zero, Act.put]
                refine wpAnyH_done (by kernel_rfl) ?_ _
                go_wp2_with fail
                go_meet
                exact ⟨g8, g9, g10, A1, c1, rfl, rfl, rfl, r8, r9, r10, s1, kk⟩
      case rest =>
        obtain ⟨g8, g9, g10, A8, c8, rfl, rfl, rfl, r8, r9, r10, s8, hbw⟩ := hcut
        have rc2 := rc.below hbw rc.lt
        have HP2 := Lib.hid (HP.out.up hbw)
        have hbc : Below g5 W5 wc := blw_call hbr (Nat.le_of_lt rc.lt) hbw
        have k0 : wc.cell? ⟨g10, 0, none⟩ = some (.int .i64 0) := (r10.cell 0).trans rfl
        have n9 : g9 ≠ g5 := fun e => by subst e; exact absurd (row_ty r9 rc2) (by decide)
        clear k1 k2 rc HP hbr hbw HPUT r10 hadb
        go_upto_region 13 with (first
          | (refine wpList_load_row rfl 23 _ rfl g8 rfl 23 (cds fL fH q2) (0, 0) _ r8 Try.underlying23 rfl (by rw [cds_size]; exact cellsCd) ?_)
          | (refine wpList_store_row rfl 23 _ _ rfl g5 (cds fL fH q2) rfl rfl 23 (cds x y q) (rc2) (by rw [cds_size]; exact cellsCd) rfl (all_one (cds_one _ _ _)) ?_))
        refine wp_world (F := fun W => Row W g5 23 (cds fL fH q2) ∧ Row W g9 26 (bcs A8 (pack o2).length c8 o2.length) ∧ Sl W W.heap.size A8 (pack o2).length (bl (pack o2)) ∧ Hid (PtS W g5 (.slice A6 j c6) j qs) ∧ Below g5 W5 W)
          ⟨Row.row rc2 _, r9.rowFar n9 _, Sl.rowHere s8 rc2 (no_cds _ _ _) _, Lib.hid (HP2.out.far rc2 (by decide) (no_cds _ _ _) _), blw_row hbc (Nat.le_refl _) _⟩ ?_
        clear r8 r9 s8 HP2 hbc k0 n9 rc2 wc
        rintro W13 ⟨rc, r9, s8, HP, hbr⟩
        have hka : ∀ o, Below W13.heap.size W13 (W13.alloc o) := fun o => (Below.refl _ _).alloc (Nat.le_refl _) o
        have hg5 := rc.lt
        go_wp2_with (first
          | (refine wpList_load_row rfl 26 _ rfl g9 rfl 26 (bcs A8 (pack o2).length c8 o2.length) (0, 0) _ r9 Try.underlying26 rfl (by rw [bcs_size]; exact cellsB) ?_)
          | (refine wpList_bs rfl _ rfl A8 _ c8 _ rfl ?_)
          | (at_builtin; refine wpList_app_pts rfl _ _ rfl g5 _ j qs rfl (HP.out.up (hka _)) (o2, A8, c8) ho2l (s8.up (hka _)) W13.heap.size 1 rfl (Row.new _ _ _) hj250 (by simp; omega) ?_; intro v7 w7 hp7 hb7 hk7))
        have rc7 := hk7 _ _ _ (by decide) (rc.alloc _)
        have hbr7 := (hbr.alloc (Nat.le_of_lt hg5) _).trans hb7
        have HP7 := Lib.hid hp7
        clear hp7 hb7 hk7 hka HP
        go_roundw
        case rel => exact ⟨j + 1, fL, fH, q2, ks ++ s, qs ++ [(o2, A8, c8)], by omega, by go_num, hq2, Lib.hid (HR2.out A8 c8), rc7, HP7, hbr7⟩
        case measure => simp [intOf]; omega
    · obtain rfl : n = j := by omega
      have htk : l.take n = l := List.take_of_length_le (by rw [← HL.out.2.1]; exact Nat.le_refl _)
      obtain ⟨hr, hs⟩ := HR.out
      rw [htk] at hr
      have hw := (run_ok l 0 65535 (by decide) HL.out.2.2).1
      have hrl := (run_ok l 0 65535 (by decide) HL.out.2.2).2.1
      rw [hr] at hw hrl
      simp only at hw hrl
      have hcode : cd = (qs.map (·.1)).flatten ++ lastN q x := by rw [HL.out.1]; unfold codeN; rw [hr]; simp only; rw [hs]
      have hlen : cd.length ≤ 131072 := by
        have h2 := HL.out.2.1
        rw [HL.out.1, code_length, hr]
        simp only
        omega
      obtain ⟨ed, hed⟩ : ∃ ed, ed = lastN q x := ⟨_, rfl⟩
      have hel : ed.length ≤ 131072 := by rw [hed, last_length]; omega
      have hfin := Finish_ok x y q (coder_of hw (by omega))
      rw [← hed] at hfin hcode
      have hjn := fun (A1 : Option Addr) (c1 : Nat) => join_ok ((qs ++ [(ed, A1, c1)]).map (·.1)) (n + 1) (by omega)
      have hfl : ∀ (A1 : Option Addr) (c1 : Nat), ((qs ++ [(ed, A1, c1)]).map (·.1)).flatten = cd := fun A1 c1 => by rw [hcode]; simp
      have HJ := Lib.hid (fun (A1 : Option Addr) (c1 : Nat) (B : Option Addr) (d : Nat) (w : World) (hS : BsV w w.heap.size B (n + 1) ((qs ++ [(ed, A1, c1)]).map (·.1))) => show Calls Try.prog 35 #[.slice B (n + 1) d] w (BitsOut w cd) from (hfl A1 c1) ▸ (hjn A1 c1 (by rw [hfl]; exact hlen) B d w hS))
      have HF := Lib.hid hfin
      clear hfin hjn hfl hcode hed hr hs hw hrl hlen htk HR hlt hj hq HL
      have r3b := r3.below hbr hg3
      have s1b := s1.below hbr
      have hbb := hb.trans (hbr.mono hwg)
      go_upto_region 15 with (first
        | (refine wpList_load_row rfl 23 _ rfl g5 rfl 23 (cds x y q) (0, 0) _ rc Try.underlying23 rfl (by rw [cds_size]; exact cellsCd) ?_)
        | (go_at_call 12; refine (HF.out _).mono ?_; rintro e w11 ⟨A11, c11, rfl, s11, hb11⟩)
        | (refine wpList_store_row rfl 26 _ _ rfl w11.heap.size (bcs A11 (pack ed).length c11 ed.length) rfl rfl 26 (bcs none 0 0 0) ((Row.newEq _ _ _ _ _ rfl rfl).alloc _) (by rw [bcs_size]; exact cellsB) rfl (all_one (bcs_one _ _ _ _)) ?_)
        | (refine wpList_store_row rfl 28 _ _ rfl (w11.heap.size + 1) (flt 0 0) rfl rfl 28 (flt 0 0) (row_far_new2 _ _ _ _ _ _) (by rw [flt_size]; exact cellsF) rfl (all_one (flt_one _ _)) ?_))
      have hk0 := blw_new2 w11 (.cells #[.slice none 0 0, .int .i64 0] 26) (.cells #[.int .i64 0, .int .i64 0] 28) (bcs A11 (pack ed).length c11 ed.length) (flt 0 0)
      have hk := up_call hb11 hk0
      refine wp_world (F := fun W => Row W w11.heap.size 26 (bcs A11 (pack ed).length c11 ed.length) ∧ Row W (w11.heap.size + 1) 28 (flt 0 0) ∧ Sl W W.heap.size A11 (pack ed).length (bl (pack ed)) ∧ Row W g3 26 (bcs A1 (pack cd).length c1 cd.length) ∧ Sl W g5 A1 (pack cd).length (bl (pack cd)) ∧ Hid (PtS W g5 (.slice A6 n c6) n qs) ∧ g5 ≤ W.heap.size ∧ Below w.heap.size w W)
        ⟨row_new2a _ _ _ _ _ _ _, row_new2b _ _ _ _ _ _ _, s11.up hk0, r3b.below hk r3b.lt, s1b.below (hk.mono (Nat.le_of_lt rc.lt)), Lib.hid (HP.out.up hk), Nat.le_trans (Nat.le_of_lt rc.lt) hk.size, up_call hbb hk⟩ ?_
      generalize w11.heap.size = g11
      clear hk hk0 hb11 s11 r3b s1b HP hbb w11 rc hbr HC s1 r3 hb HF
      rintro W11 ⟨r11, r12, s11, r3, s1, HP, hg5, hb⟩
      have hka : ∀ o, Below W11.heap.size W11 (W11.alloc o) := fun o => (Below.refl _ _).alloc (Nat.le_refl _) o
      go_upto_region 16 with (first
        | (refine wpList_load_row rfl 26 _ rfl g11 rfl 26 (bcs A11 (pack ed).length c11 ed.length) (0, 0) _ r11 Try.underlying26 rfl (by rw [bcs_size]; exact cellsB) ?_)
        | (refine wpList_bs rfl _ rfl A11 _ c11 _ rfl ?_)
        | (at_builtin; refine wpList_app_pts rfl _ _ rfl g5 _ n qs rfl (HP.out.up (hka _)) (ed, A11, c11) hel (s11.up (hka _)) W11.heap.size 1 rfl (Row.new _ _ _) (by omega) (by simp; omega) ?_; intro v12 w12 hp12 hb12 hk12; obtain ⟨A12, c12, hv12⟩ := hp12.form; subst hv12)
        | (go_at_call 35; refine (HJ.out A11 c11 A12 c12 _ hp12.bsv).mono ?_; rintro e w13 ⟨A13, c13, rfl, s13, hb13⟩)
        | (refine wpList_store_row rfl 26 _ _ rfl w13.heap.size (bcs A13 (pack cd).length c13 cd.length) rfl rfl 26 (bcs none 0 0 0) ((Row.newEq _ _ _ _ _ rfl rfl).alloc _) (by rw [bcs_size]; exact cellsB) rfl (all_one (bcs_one _ _ _ _)) ?_)
        | (refine wpList_store_row rfl 28 _ _ rfl (w13.heap.size + 1) (flt 0 0) rfl rfl 28 (flt 0 0) (row_far_new2 _ _ _ _ _ _) (by rw [flt_size]; exact cellsF) rfl (all_one (flt_one _ _)) ?_))
      have q12 := hk12 _ _ _ (by decide) (r12.alloc (.cells (bcs A11 (pack ed).length c11 ed.length) 26))
      have q3 := (r3.alloc (.cells (bcs A11 (pack ed).length c11 ed.length) 26)).below hb12 hg3
      have q1 : Sl w12 w12.heap.size A1 (pack cd).length (bl (pack cd)) := ((s1.below ((Below.refl _ _).alloc hg5 (.cells (bcs A11 (pack ed).length c11 ed.length) 26))).below hb12).wider (Nat.le_trans hg5 (Nat.le_trans (hka (.cells (bcs A11 (pack ed).length c11 ed.length) 26)).size hb12.size))
      have hb12w : Below w.heap.size w w12 := (up_alloc hb (.cells (bcs A11 (pack ed).length c11 ed.length) 26)).trans (hb12.mono hwg)
      have hk0 := blw_new2 w13 (.cells #[.slice none 0 0, .int .i64 0] 26) (.cells #[.int .i64 0, .int .i64 0] 28) (bcs A13 (pack cd).length c13 cd.length) (flt 0 0)
      have hk := up_call hb13 hk0
      refine wp_world (F := fun W => Row W w13.heap.size 26 (bcs A13 (pack cd).length c13 cd.length) ∧ Row W (w13.heap.size + 1) 28 (flt 0 0) ∧ Sl W W.heap.size A13 (pack cd).length (bl (pack cd)) ∧ Row W g3 26 (bcs A1 (pack cd).length c1 cd.length) ∧ Sl W W.heap.size A1 (pack cd).length (bl (pack cd)) ∧ Row W (g11 + 1) 28 (flt 0 0) ∧ Below w.heap.size w W)
        ⟨row_new2a _ _ _ _ _ _ _, row_new2b _ _ _ _ _ _ _, s13.up hk0, q3.below hk q3.lt, q1.up hk, q12.below hk q12.lt, up_call hb12w hk⟩ ?_
      generalize w13.heap.size = g13
      clear hk hk0 hb13 s13 q12 q3 q1 hb12w hp12 hb12 hk12 r11 r12 s11 r3 s1 HP hb hka
      rintro W16 ⟨r13, r14, s13, r3, s1, r12, hb⟩
      have k12 : W16.cell? ⟨g11 + 1, 0, none⟩ = some (.int .i64 0) := (r12.cell 0).trans rfl
      have k14 : W16.cell? ⟨g13 + 1, 0, none⟩ = some (.int .i64 0) := (r14.cell 0).trans rfl
      go_wp2_with (first
        | (refine wpList_load_rowG (by simp [Region.wanted, yielded, Act.put]) 26 _ rfl g13 rfl 26 (bcs A13 (pack cd).length c13 cd.length) (0, 0) _ r13 Try.underlying26 rfl (by rw [bcs_size]; exact cellsB) ?_)
        | (refine wpList_load_rowG (by simp [Region.wanted, yielded, Act.put]) 26 _ rfl g3 rfl 26 (bcs A1 (pack cd).length c1 cd.length) (0, 0) _ r3 Try.underlying26 rfl (by rw [bcs_size]; exact cellsB) ?_)
        | (go_at_call 17; refine (same_pack cd cd.length A13 A1 c13 c1 _ s13 s1).mono ?_; rintro e w17 ⟨rfl, hb17⟩))
      go_ret
      exact ⟨rfl, up_call hb hb17⟩
end Go.Proofs.Ytcnokjiohbifeaa.lawSteps
