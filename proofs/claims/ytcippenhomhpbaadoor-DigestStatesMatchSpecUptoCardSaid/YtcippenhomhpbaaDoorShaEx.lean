/-
  The contract of the statements' own closed examples of package digest ('digests'): they hold.
-/
import Derived.Test.YtcippenhomhpbaaDoorShaSum
import Derived.Test.YtcippenhomhpbaaDoorArrEq
import Derived.Lib.SlBytesConst
import Derived.Deep.Cut
namespace Go.Proofs.YtcippenhomhpbaaDoor
open Go.RowKit

/-- the digest of the three bytes of abc -/
def dABC : List UInt8 := [186, 120, 22, 191, 143, 1, 207, 234, 65, 65, 64, 222, 93, 174, 34, 35, 176, 3, 97, 163, 150, 23, 122, 156, 180, 16, 255, 97, 242, 0, 21, 173]
theorem sum_abc : sumOf [97, 98, 99] = dABC := by decide +kernel
theorem dABC_length : dABC.length = 32 := rfl
theorem short_abc : shortOf dABC 2 = 186 :: 120 :: List.replicate 30 0 := by decide +kernel
theorem hashed_abc : hashed (chew (chew first [97, 98] 0) ([97, 98] ++ [99]) 0) [97, 98, 99] 3 = dABC := by decide +kernel
def sABC : List UInt8 := shortOf dABC 2
theorem sABC_length : sABC.length = 32 := shortOf_length _ _
attribute [irreducible] dABC sABC

theorem sl_bytes (w : World) (t : TypeId) (cs : Array Value) (fr : Nat × Nat) (L : List UInt8) (h : cs = (bl L).toArray) : Sl (w.alloc (.cells cs t fr)) (w.alloc (.cells cs t fr)).heap.size (some ⟨w.heap.size, 0, none⟩) L.length (bl L) := by
  subst h
  refine ⟨bl_length L, fun _ => ⟨_, rfl, by simp, fun j u hu => ?_⟩⟩
  rw [add_at, Nat.zero_add, World.cell?_alloc_mark]
  simpa using hu

/-- a whole row is loaded by an operation with a guard that says yes -/
theorem wpList_load_rowG {P : Program} {ops : Array Oper} {rest : List Oper} {o : Oper} {a : Act} {w : World} {Q : Exit → Act → World → Prop} (hw : Region.wanted o (yielded ops a.tmps) = true) (ty : TypeId) (x : Operand) (ho : o.op = .load ty x)
    (g : Nat) (hx : a.eval x = .pointer (some ⟨g, 0, none⟩)) (t : TypeId) (cs : Array Value) (fr : Nat × Nat) (d : TypeDesc) (hg : w.heap[g]? = some (.cells cs t fr))
    (hu : P.underlying ty = some d) (hd : (match d with | .struct _ | .array _ _ => true | _ => false) = true) (hi : (P.info? ty).map (·.size) = some cs.size)
    (h : wpList P ops Q rest (a.put o.dst (.agg cs)) w) : wpList P ops Q (o :: rest) a w :=
  BigFrame.wpList_want hw fun _ hK => wp_load_row ty x ho g hx t cs fr d hg hu hd hi (hK _ _ h)
/-- the walk goes on in whatever world the facts hold in -/
theorem wp_world {P : Program} {C : Code} {Q : Exit → Act → World → Prop} {a : Act} {w : World} {F : World → Prop} (hF : F w) (h : ∀ w', F w' → C.wp P Q a w') : C.wp P Q a w := h w hF

theorem chew_one (s : St) (all : List UInt8) (k : Nat) (h : k = 0) : chew s all k = s := by
  subst h
  exact chew_zero _ _
theorem okH_lit (tl n : Nat) (h : decide (n ≤ 1099511627776 ∧ tl = n % 64) = true) : okH tl (n : Int) = true := by
  have := of_decide_eq_true h
  exact okH_true (by omega) (by omega) (by omega)

/-- digest.Write of the two bytes of ab to the first state. -/
theorem write_ab (A : Option Addr) (c : Nat) (w : World) (hk : KIs w) (hL : Sl w w.heap.size A 2 (bl [97, 98])) (hc : 2 ≤ c) (hcm : c ≤ maxLen) :
    Calls Tryd.prog 13 #[.agg (hsc first (.slice none 0 0) 0), .slice A 2 c] w fun e w' =>
      ∃ B k, e = .returned (.tuple #[.agg (hsc first (.slice B 2 k) 2), .agg (flt 0 0)]) ∧ Sl w' w'.heap.size B 2 (bl [97, 98]) ∧ Below w.heap.size w w' := by
  refine (write_ok first 0 none [] 0 A [97, 98] c w hk (by rw [bl_nil]; exact Sl.nil _ _ _) hL hc hcm (okH_lit 0 0 (by decide)) (by decide)).mono ?_
  rintro e w' ⟨v, rfl, ho, hb⟩
  obtain ⟨B, k, rfl, _, _⟩ := own_form ho
  exact ⟨B, k, by rw [chew_one first _ _ (by decide)]; rfl, Sl.of_own ho, hb⟩
/-- digest.Write of the byte of c to the state behind ab. -/
theorem write_c (T : Option Addr) (k : Nat) (A : Option Addr) (c : Nat) (w : World) (hk : KIs w) (hS : Sl w w.heap.size T 2 (bl [97, 98])) (hL : Sl w w.heap.size A 1 (bl [99])) (hc : 1 ≤ c) (hcm : c ≤ maxLen) :
    Calls Tryd.prog 13 #[.agg (hsc first (.slice T 2 k) 2), .slice A 1 c] w fun e w' =>
      ∃ B m, e = .returned (.tuple #[.agg (hsc first (.slice B 3 m) 3), .agg (flt 0 0)]) ∧ w'.ownsRow w.heap.size 5 1 (.slice B 3 m) 3 (bl [97, 98, 99]) ∧ Below w.heap.size w w' := by
  refine (write_ok first 2 T [97, 98] k A [99] c w hk hS hL hc hcm (okH_lit 2 2 (by decide)) (by decide)).mono ?_
  rintro e w' ⟨v, rfl, ho, hb⟩
  obtain ⟨B, m, rfl, _, _⟩ := own_form ho
  exact ⟨B, m, by rw [chew_one first _ _ (by decide)]; rfl, ho, hb⟩
/-- an owned row, where another block is written whole -/
theorem own_far {w : World} {base : Nat} {e : TypeId} {u : Value} {k : Nat} {xs : List Value} (h : w.ownsRow base e 1 u k xs) {g : Nat} (hg : ∀ b, u.ownBlock = some b → b ≠ g) (cs : Array Value) : (w.setRow g cs).ownsRow base e 1 u k xs := by
  refine ⟨h.1, ?_⟩
  rcases h.2 with h0 | ⟨b, cap, cur, rfl, h2, h3, h4⟩
  · exact .inl h0
  · exact .inr ⟨b, cap, cur, rfl, h2, (setRow_other w g b cs (hg b rfl)).trans h3, h4⟩
theorem hashed_abc' : hashed first [97, 98, 99] 3 = dABC := by decide +kernel
/-- digest.Finish of the state behind abc. -/
theorem finish_abc (T : Option Addr) (k : Nat) (w : World) (hk : KIs w) (hS : Sl w w.heap.size T 3 (bl [97, 98, 99])) :
    Calls Tryd.prog 14 #[.agg (hsc first (.slice T 3 k) 3)] w fun e w' => e = .returned (.tuple #[.agg (bs dABC), .agg (flt 0 0)]) ∧ Below w.heap.size w w' := by
  have h := finish_ok first 3 T [97, 98, 99] k w hk hS (okH_lit 3 3 (by decide))
  rw [hashed_abc'] at h
  exact h
theorem sum_abc' (A : Option Addr) (c : Nat) (w : World) (hk : KIs w) (hL : Sl w w.heap.size A 3 (bl [97, 98, 99])) (hc : 3 ≤ c) (hcm : c ≤ maxLen) :
    Calls Tryd.prog 11 #[.slice A 3 c] w fun e w' => e = .returned (.agg (bs dABC)) ∧ Below w.heap.size w w' := by
  have h := sum_any A [97, 98, 99] c w hk hL hc hcm (by decide)
  rw [sum_abc] at h
  exact h
theorem short_abc' (w : World) :
    Calls Tryd.prog 23 #[.agg (bs dABC), .int .i64 2] w fun e w' => e = .returned (.tuple #[.agg (bs sABC), .agg (flt 0 0)]) ∧ Below w.heap.size w w' := by
  have h := short_ok dABC dABC_length 2 (by decide) (by decide) w
  rw [show shortOf dABC 2 = sABC from by unfold sABC; rfl] at h
  exact h

theorem neq_abc (w : World) : (binOp .neq 24 (.agg (bs dABC)) (.agg (bs dABC))).run Tryd.prog w = .ok (.bool false) w := by
  rw [run_neq_bs (P := Tryd.prog) w 24 5 32 Tryd.underlying24 Tryd.underlying5 (by kernel_rfl) dABC dABC dABC_length dABC_length]
  simp
theorem sabc_lit : (#[.int .u8 186, .int .u8 120, .int .u8 0, .int .u8 0, .int .u8 0, .int .u8 0, .int .u8 0, .int .u8 0, .int .u8 0, .int .u8 0, .int .u8 0, .int .u8 0, .int .u8 0, .int .u8 0, .int .u8 0, .int .u8 0, .int .u8 0, .int .u8 0, .int .u8 0, .int .u8 0, .int .u8 0, .int .u8 0, .int .u8 0, .int .u8 0, .int .u8 0, .int .u8 0, .int .u8 0, .int .u8 0, .int .u8 0, .int .u8 0, .int .u8 0, .int .u8 0] : Array Value) = bs sABC := by kernel_rfl
theorem eql_sabc (w : World) : (binOp .eql 24 (.agg (bs sABC)) (.agg #[.int .u8 186, .int .u8 120, .int .u8 0, .int .u8 0, .int .u8 0, .int .u8 0, .int .u8 0, .int .u8 0, .int .u8 0, .int .u8 0, .int .u8 0, .int .u8 0, .int .u8 0, .int .u8 0, .int .u8 0, .int .u8 0, .int .u8 0, .int .u8 0, .int .u8 0, .int .u8 0, .int .u8 0, .int .u8 0, .int .u8 0, .int .u8 0, .int .u8 0, .int .u8 0, .int .u8 0, .int .u8 0, .int .u8 0, .int .u8 0, .int .u8 0, .int .u8 0])).run Tryd.prog w = .ok (.bool true) w := by
  rw [sabc_lit, run_eql_bs (P := Tryd.prog) w 24 5 32 Tryd.underlying24 Tryd.underlying5 (by kernel_rfl) sABC sABC sABC_length sABC_length]
  simp

/-- what holds of memory between the steps: the blocks at g are the variables' -/
def Mem1 (w0 w : World) (g1 : Nat) : Prop := Row w g1 24 (bs dABC) ∧ Below w0.heap.size w0 w ∧ w0.heap.size ≤ g1
def Mem2 (w0 w : World) (g1 g2 : Nat) : Prop := Mem1 w0 w g1 ∧ Row w g2 24 (bs sABC) ∧ Row w (g2 + 1) 32 (flt 0 0) ∧ g1 < g2
def Mem3 (w0 w : World) (g1 g2 g3 : Nat) (B : Option Addr) (k : Nat) : Prop := Mem2 w0 w g1 g2 ∧ Row w g3 30 (hsc first (.slice B 2 k) 2) ∧ Row w (g3 + 1) 32 (flt 0 0) ∧ Sl w w.heap.size B 2 (bl [97, 98]) ∧ g2 + 1 < g3
def Mem4 (w0 w : World) (g1 g2 g3 g4 : Nat) (B : Option Addr) (k : Nat) : Prop := Mem2 w0 w g1 g2 ∧ Row w g3 30 (hsc first (.slice B 3 k) 3) ∧ Row w (g3 + 1) 32 (flt 0 0) ∧ Row w g4 32 (flt 0 0) ∧ Sl w w.heap.size B 3 (bl [97, 98, 99]) ∧ g2 + 1 < g3 ∧ g3 + 1 < g4
def Mem5 (w0 w : World) (g1 g2 g3 g4 g5 : Nat) : Prop := Mem2 w0 w g1 g2 ∧ Row w (g3 + 1) 32 (flt 0 0) ∧ Row w g4 32 (flt 0 0) ∧ Row w g5 24 (bs dABC) ∧ Row w (g5 + 1) 32 (flt 0 0)

set_option maxRecDepth 100000 in
set_option maxHeartbeats 4000000 in
theorem digests_any (w : World) (hk : KIs w) :
    Calls Tryd.prog 10 #[] w fun e w' => e = .returned (.bool true) ∧ Below w.heap.size w w' := by
  have HK := Lib.hid hk
  have hg := hk.lt
  clear hk
  have kc := fun (w : World) (C : Array Value) (n c : Nat) => Lib.run_convert_bytes_const (P := Tryd.prog) w 22 5 C n c Tryd.underlying22 Tryd.underlying5
  go_enter Tryd.func10, Tryd.ntmps10
  go_wp2_with fail
  have hs0 := sl_bytes w 5 #[.int .u8 97, .int .u8 98, .int .u8 99] (3, 4) [97, 98, 99] (by kernel_rfl)
  have hb0 : Below w.heap.size w (w.alloc (.cells #[.int .u8 97, .int .u8 98, .int .u8 99] 5 (3, 4))) := (Below.refl _ _).alloc (Nat.le_refl _) _
  refine (sum_abc' (some ⟨w.heap.size, 0, none⟩) 3 _ (KIs.keep HK.out hb0 hg) hs0 (Nat.le_refl _) (by unfold maxLen; decide)).mono ?_
  rintro e w1 ⟨rfl, hb1'⟩
  have hb1 : Below w.heap.size w w1 := blw_call hb0 hb0.size hb1'
  clear hb1' hb0 hs0
  go_upto_region 2 with (first
    | (refine wpList_store_row rfl 24 _ _ rfl w1.heap.size (bs dABC) rfl rfl 24 zD (Row.newEq _ _ _ _ _ rfl zD_lit) (by rw [bs_size, dABC_length]; exact cellsD) (by rw [zD_size, bs_size, dABC_length]) (all_one (bs_one _)) ?_))
  refine wp_world (F := fun W => Mem1 w W w1.heap.size) ⟨Row.row (Row.newEq _ _ _ _ _ rfl zD_lit) _, blw_row (hb1.alloc hb1.size _) hb1.size _, hb1.size⟩ ?_
  generalize w1.heap.size = g1
  clear hb1 w1
  rintro w1 ⟨d1, hb1, hg1⟩
  go_upto_region 3 with (first
    | (refine wpList_load_row rfl 24 _ rfl g1 rfl 24 (bs dABC) (0, 0) _ d1 Tryd.underlying24 rfl (by rw [bs_size, dABC_length]; exact cellsD) ?_)
    | (go_at_call 23; refine (short_abc' _).mono ?_; rintro e w2 ⟨rfl, hb2'⟩; have d2 := d1.below hb2' d1.lt; have hb2 := blw_call hb1 hb1.size hb2'; have hlt2 := d2.lt)
    | (refine wpList_store_row rfl 24 _ _ rfl w2.heap.size (bs sABC) rfl rfl 24 zD ((Row.newEq _ _ _ _ _ rfl zD_lit).alloc _) (by rw [bs_size, sABC_length]; exact cellsD) (by rw [zD_size, bs_size, sABC_length]) (all_one (bs_one _)) ?_)
    | (refine wpList_store_row rfl 32 _ _ rfl (w2.heap.size + 1) (flt 0 0) rfl rfl 32 (flt 0 0) (Row.rowFar (Row.newEq _ _ _ _ _ (by simp) rfl) (by omega) _) (by rw [flt_size]; exact cellsF) rfl (all_one (flt_one _ _)) ?_))
  refine wp_world (F := fun W => Mem2 w W g1 w2.heap.size) ⟨⟨((d2.alloc _).alloc _).rowFar (by omega) _ |>.rowFar (by omega) _, blw_row (blw_row ((hb2.alloc hb2.size _).alloc (by have := hb2.size; simp; omega) _) hb2.size _) (by have := hb2.size; omega) _, hg1⟩, Row.rowFar (Row.row ((Row.newEq _ _ _ _ _ rfl zD_lit).alloc _) _) (by omega) _, Row.row (Row.rowFar (Row.newEq _ _ _ _ _ (by simp) rfl) (by omega) _) _, hlt2⟩ ?_
  generalize w2.heap.size = g2
  clear hb2 hb2' hlt2 d2 w2 d1 hb1 w1
  rintro w2 ⟨⟨d2, hb2, _⟩, s2, f2, h12⟩
  go_upto_region 4 with (first
    | (go_at_call 16; refine (start_any _).mono ?_; rintro e w3 ⟨rfl, hb3'⟩; have d3 := d2.below hb3' d2.lt; have s3 := s2.below hb3' s2.lt; have f3 := f2.below hb3' f2.lt; have hb3 := blw_call hb2 hb2.size hb3')
    | (go_at_call 13; refine (write_ab (some ⟨w3.heap.size, 0, none⟩) 2 _ (KIs.keep HK.out (hb3.alloc hb3.size _) hg) (sl_bytes w3 5 #[.int .u8 97, .int .u8 98] (2, 3) [97, 98] (by kernel_rfl)) (Nat.le_refl _) (by unfold maxLen; decide)).mono ?_; rintro e w4 ⟨B, k, rfl, hS4, hb4'⟩; have d4 := (d3.alloc _).below hb4' (d3.alloc _).lt; have s4 := (s3.alloc _).below hb4' (s3.alloc _).lt; have f4 := (f3.alloc _).below hb4' (f3.alloc _).lt; have hb4 := blw_call (hb3.alloc hb3.size _) (hb3.alloc hb3.size _).size hb4')
    | (refine wpList_store_row rfl 30 _ _ rfl w4.heap.size (hsc first (.slice B 2 k) 2) rfl rfl 30 zH ((Row.newEq _ _ _ _ _ rfl zH_lit).alloc _) (by rw [hsc_size]; exact cellsH) (by rw [zH_size, hsc_size]) (all_one (hsc_one _ _ _ rfl)) ?_)
    | (refine wpList_store_row rfl 32 _ _ rfl (w4.heap.size + 1) (flt 0 0) rfl rfl 32 (flt 0 0) (Row.rowFar (Row.newEq _ _ _ _ _ (by simp) rfl) (by omega) _) (by rw [flt_size]; exact cellsF) rfl (all_one (flt_one _ _)) ?_))
  refine wp_world (F := fun W => Mem3 w W g1 g2 w4.heap.size B k) ⟨⟨⟨((d4.alloc _).alloc _).rowFar (Nat.ne_of_lt d4.lt) _ |>.rowFar (Nat.ne_of_lt (Nat.lt_succ_of_lt d4.lt)) _, blw_row (blw_row ((hb4.alloc hb4.size _).alloc (by have := hb4.size; simp; omega) _) hb4.size _) (by have := hb4.size; omega) _, hg1⟩, ((s4.alloc _).alloc _).rowFar (Nat.ne_of_lt s4.lt) _ |>.rowFar (Nat.ne_of_lt (Nat.lt_succ_of_lt s4.lt)) _, ((f4.alloc _).alloc _).rowFar (Nat.ne_of_lt f4.lt) _ |>.rowFar (Nat.ne_of_lt (Nat.lt_succ_of_lt f4.lt)) _, h12⟩,
    Row.rowFar (Row.row ((Row.newEq _ _ _ _ _ rfl zH_lit).alloc _) _) (by omega) _, Row.row (Row.rowFar (Row.newEq _ _ _ _ _ (by simp) rfl) (by omega) _) _,
    (hS4.below (blw_row (blw_row (((Below.refl _ w4).alloc (Nat.le_refl _) _).alloc (by simp) _) (Nat.le_refl _) _) (Nat.le_succ _) _)).wider (by simp; omega), f4.lt⟩ ?_
  generalize w4.heap.size = g3
  clear hb4 hb4' hS4 d4 s4 f4 w4 d3 s3 f3 hb3 hb3' d2 s2 f2 hb2
  rintro w4 ⟨⟨⟨d4, hb4, _⟩, s4, f4, _⟩, h4, e4, hS4, h23⟩
  go_upto_region 5 with (first
    | (refine wpList_load_row rfl 30 _ rfl g3 rfl 30 (hsc first (.slice B 2 k) 2) (0, 0) _ h4 Tryd.underlying30 rfl (by rw [hsc_size]; exact cellsH) ?_)
    | (go_at_call 13; refine (write_c B k (some ⟨w4.heap.size, 0, none⟩) 1 _ (KIs.keep HK.out (hb4.alloc hb4.size _) hg) ((hS4.below ((Below.refl _ w4).alloc (Nat.le_refl _) _)).wider (by simp)) (sl_bytes w4 5 #[.int .u8 99] (1, 2) [99] (by kernel_rfl)) (Nat.le_refl _) (by unfold maxLen; decide)).mono ?_; rintro e w5 ⟨B5, k5, rfl, ho5, hb5'⟩; have d5 := (d4.alloc _).below hb5' (d4.alloc _).lt; have s5 := (s4.alloc _).below hb5' (s4.alloc _).lt; have f5 := (f4.alloc _).below hb5' (f4.alloc _).lt; have h5 := (h4.alloc _).below hb5' (h4.alloc _).lt; have e5 := (e4.alloc _).below hb5' (e4.alloc _).lt; have hb5 := blw_call (hb4.alloc hb4.size _) (hb4.alloc hb4.size _).size hb5')
    | (refine wpList_store_row rfl 30 _ _ rfl g3 (hsc first (.slice B5 3 k5) 3) rfl rfl 30 (hsc first (.slice B 2 k) 2) (h5.alloc _) (by rw [hsc_size]; exact cellsH) (by rw [hsc_size, hsc_size]) (all_one (hsc_one _ _ _ rfl)) ?_)
    | (refine wpList_store_row rfl 32 _ _ rfl w5.heap.size (flt 0 0) rfl rfl 32 (flt 0 0) (Row.rowFar (Row.newEq _ _ _ _ _ rfl rfl) (Nat.ne_of_gt h5.lt) _) (by rw [flt_size]; exact cellsF) rfl (all_one (flt_one _ _)) ?_))
  have hg3 : w.heap.size ≤ g3 := by omega
  refine wp_world (F := fun W => Mem4 w W g1 g2 g3 w5.heap.size B5 k5) ⟨⟨⟨((d5.alloc _).rowFar (by omega) _).rowFar (Nat.ne_of_lt d5.lt) _, blw_row (blw_row (hb5.alloc hb5.size _) hg3 _) hb5.size _, hg1⟩, ((s5.alloc _).rowFar (by omega) _).rowFar (Nat.ne_of_lt s5.lt) _, ((f5.alloc _).rowFar (by omega) _).rowFar (Nat.ne_of_lt f5.lt) _, h12⟩,
    (Row.row (h5.alloc _) _).rowFar (Nat.ne_of_lt h5.lt) _, ((e5.alloc _).rowFar (by omega) _).rowFar (Nat.ne_of_lt e5.lt) _, Row.row (Row.rowFar (Row.newEq _ _ _ _ _ rfl rfl) (Nat.ne_of_gt h5.lt) _) _, Sl.of_own (own_far (own_far (ho5.alloc _) (fun b hb => Nat.ne_of_gt (Nat.lt_of_lt_of_le (h4.alloc _).lt (ho5.lt b hb).1)) _) (fun b hb => Nat.ne_of_lt (ho5.lt b hb).2) _), h23, e5.lt⟩ ?_
  generalize w5.heap.size = g4
  clear hb5 hb5' ho5 d5 s5 f5 h5 e5 w5 d4 s4 f4 h4 e4 hS4 hb4
  rintro w5 ⟨⟨⟨d5, hb5, _⟩, s5, f5, _⟩, h5, e5, q5, hS5, _, h34⟩
  go_upto_region 6 with (first
    | (refine wpList_load_row rfl 30 _ rfl g3 rfl 30 (hsc first (.slice B5 3 k5) 3) (0, 0) _ h5 Tryd.underlying30 rfl (by rw [hsc_size]; exact cellsH) ?_)
    | (go_at_call 14; refine (finish_abc B5 k5 _ (KIs.keep HK.out hb5 hg) hS5).mono ?_; rintro e w6 ⟨rfl, hb6'⟩; have d6 := d5.below hb6' d5.lt; have s6 := s5.below hb6' s5.lt; have f6 := f5.below hb6' f5.lt; have e6 := e5.below hb6' e5.lt; have q6 := q5.below hb6' q5.lt; have hb6 := blw_call hb5 hb5.size hb6')
    | (refine wpList_store_row rfl 24 _ _ rfl w6.heap.size (bs dABC) rfl rfl 24 zD ((Row.newEq _ _ _ _ _ rfl zD_lit).alloc _) (by rw [bs_size, dABC_length]; exact cellsD) (by rw [zD_size, bs_size, dABC_length]) (all_one (bs_one _)) ?_)
    | (refine wpList_store_row rfl 32 _ _ rfl (w6.heap.size + 1) (flt 0 0) rfl rfl 32 (flt 0 0) (Row.rowFar (Row.newEq _ _ _ _ _ (by simp) rfl) (by omega) _) (by rw [flt_size]; exact cellsF) rfl (all_one (flt_one _ _)) ?_))
  refine wp_world (F := fun W => Mem5 w W g1 g2 g3 g4 w6.heap.size) ⟨⟨⟨((d6.alloc _).alloc _).rowFar (Nat.ne_of_lt d6.lt) _ |>.rowFar (Nat.ne_of_lt (Nat.lt_succ_of_lt d6.lt)) _, blw_row (blw_row ((hb6.alloc hb6.size _).alloc (by have := hb6.size; simp; omega) _) hb6.size _) (by have := hb6.size; omega) _, hg1⟩, ((s6.alloc _).alloc _).rowFar (Nat.ne_of_lt s6.lt) _ |>.rowFar (Nat.ne_of_lt (Nat.lt_succ_of_lt s6.lt)) _, ((f6.alloc _).alloc _).rowFar (Nat.ne_of_lt f6.lt) _ |>.rowFar (Nat.ne_of_lt (Nat.lt_succ_of_lt f6.lt)) _, h12⟩,
    ((e6.alloc _).alloc _).rowFar (Nat.ne_of_lt e6.lt) _ |>.rowFar (Nat.ne_of_lt (Nat.lt_succ_of_lt e6.lt)) _, ((q6.alloc _).alloc _).rowFar (Nat.ne_of_lt q6.lt) _ |>.rowFar (Nat.ne_of_lt (Nat.lt_succ_of_lt q6.lt)) _,
    Row.rowFar (Row.row ((Row.newEq _ _ _ _ _ rfl zD_lit).alloc _) _) (by omega) _, Row.row (Row.rowFar (Row.newEq _ _ _ _ _ (by simp) rfl) (by omega) _) _⟩ ?_
  generalize w6.heap.size = g5
  clear hb6 hb6' d6 s6 f6 e6 q6 w6 d5 s5 f5 h5 e5 q5 hS5 hb5
  rintro w6 ⟨⟨⟨d6, hb6, _⟩, s6, f6, _⟩, e6, q6, x6, k6⟩
  have a1 : w6.cell? ⟨g2 + 1, 0, none⟩ = some (.int .i64 0) := (f6.cell 0).trans rfl
  have a2 : w6.cell? ⟨g3 + 1, 0, none⟩ = some (.int .i64 0) := (e6.cell 0).trans rfl
  have a3 : w6.cell? ⟨g4, 0, none⟩ = some (.int .i64 0) := (q6.cell 0).trans rfl
  have a4 : w6.cell? ⟨g5 + 1, 0, none⟩ = some (.int .i64 0) := (k6.cell 0).trans rfl
  have b0 : w6.cell? ⟨g1, 0, none⟩ = some (.int .u8 186) := (d6.cell 0).trans (by kernel_rfl)
  have b1 : w6.cell? ⟨g1, 1, none⟩ = some (.int .u8 120) := (d6.cell 1).trans (by kernel_rfl)
  have b2 : w6.cell? ⟨g1, 2, none⟩ = some (.int .u8 22) := (d6.cell 2).trans (by kernel_rfl)
  have b3 : w6.cell? ⟨g1, 3, none⟩ = some (.int .u8 191) := (d6.cell 3).trans (by kernel_rfl)
  have b30 : w6.cell? ⟨g1, 30, none⟩ = some (.int .u8 21) := (d6.cell 30).trans (by kernel_rfl)
  have b31 : w6.cell? ⟨g1, 31, none⟩ = some (.int .u8 173) := (d6.cell 31).trans (by kernel_rfl)
  have hne := neq_abc
  have heq := eql_sabc
  go_wp2_with (first
    | (refine wpList_load_rowG rfl 24 _ rfl g5 rfl 24 (bs dABC) (0, 0) _ x6 Tryd.underlying24 rfl (by rw [bs_size, dABC_length]; exact cellsD) ?_)
    | (refine wpList_load_rowG rfl 24 _ rfl g1 rfl 24 (bs dABC) (0, 0) _ d6 Tryd.underlying24 rfl (by rw [bs_size, dABC_length]; exact cellsD) ?_)
    | (refine wpList_load_rowG rfl 24 _ rfl g2 rfl 24 (bs sABC) (0, 0) _ s6 Tryd.underlying24 rfl (by rw [bs_size, sABC_length]; exact cellsD) ?_))
  go_ret
  exact ⟨rfl, hb6⟩
end Go.Proofs.YtcippenhomhpbaaDoor
