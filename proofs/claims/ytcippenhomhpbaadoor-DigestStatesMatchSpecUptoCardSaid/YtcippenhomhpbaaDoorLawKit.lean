/-
  What the laws over package digest share: the contracts of the reference's 'In' and 'At', '==' between faults, a whole row loaded inside a region, and what the row's list gives of the table of constants.
-/
import Derived.Test.YtcippenhomhpbaaDoorShaEx
import Derived.Test.YtcippenhomhpbaaDoorCards
import Derived.Test.YtcippenhomhpbaaDoorTie
import Derived.ProofKit
import Derived.OpenShut
import Derived.Deep.DeepHandedRow
import Derived.Lib.LaidTab
namespace Go.Proofs.YtcippenhomhpbaaDoor
open Go.ChangeShapes Go.WideShapes Go.ChangeAt Go.RowKit

/-- a type is a struct or an array -/
def AggT (P : Program) (t : TypeId) : Prop := (∃ fs, P.underlying t = some (.struct fs)) ∨ ∃ n e, P.underlying t = some (.array n e)
theorem wp_load_flat {P : Program} {d : Option Tmp} {ty ty' : TypeId} {x : Tmp} {pos : String} {af : Array Edge} {gd : Option (Nat × Bool)} {ts : Array Value} {ds : List Deferred} {w : World} {K : Act → World → Prop} {Q : Exit → Act → World → Prop}
    (hp : ts.getD x undef = .pointer (some ⟨blkOf (ts.getD x undef), 0, none⟩)) (hi : Sized P ty) (ha : AggT P ty) (hr : IsRow w (blkOf (ts.getD x undef)) (sizeT P ty)) :
    Oper.wp P { dst := d, op := .load ty (.tmp x), type := ty', pos := pos, after := af, guard := gd } { tmps := ts, defers := ds } w K Q = K (({ tmps := ts, defers := ds } : Act).put d (.agg (rowAt w (blkOf (ts.getD x undef))))) w := by
  obtain ⟨t, cs, hr, ho⟩ := hr
  have hx : Act.eval ({ tmps := ts, defers := ds } : Act) (.tmp x) = .pointer (some ⟨blkOf (ts.getD x undef), 0, none⟩) := hp
  have hi' : (P.info? ty).map (·.size) = some cs.size := by rw [show (P.info? ty).map (·.size) = some (sizeT P ty) from hi, ho]
  have hl : (loadVar ty ⟨blkOf (ts.getD x undef), 0, none⟩).run P w = .ok (.agg cs) w := by
    rcases ha with ⟨fs, hu⟩ | ⟨n, e, hu⟩
    · exact run_loadVar_row w (blkOf (ts.getD x undef)) t ty cs (0, 0) _ hr hu rfl hi'
    · exact run_loadVar_row w (blkOf (ts.getD x undef)) t ty cs (0, 0) _ hr hu rfl hi'
  rw [hr.at]
  unfold Oper.wp execOp
  simp only [hx, Instr.loadAt, Instr.sureAddr, Sem.run_bind, Sem.run_pure, Result.andThen_ok, hl]
  rfl

/-- the same at the level of the operation's run -/
theorem run_load_flat {P : Program} {d : Option Tmp} {ty ty' : TypeId} {x : Operand} {pos : String} {af : Array Edge} {gd : Option (Nat × Bool)} {ρ : Operand → Value} {w : World}
    (hp : ρ x = .pointer (some ⟨blkOf (ρ x), 0, none⟩)) (hi : Sized P ty) (ha : AggT P ty) (hr : IsRow w (blkOf (ρ x)) (sizeT P ty)) :
    Sem.run P (execOp ρ { dst := d, op := .load ty x, type := ty', pos := pos, after := af, guard := gd }) w = .ok (.value (.agg (rowAt w (blkOf (ρ x))))) w := by
  generalize blkOf (ρ x) = g at *
  obtain ⟨t, cs, hr, ho⟩ := hr
  have hi' : (P.info? ty).map (·.size) = some cs.size := by rw [show (P.info? ty).map (·.size) = some (sizeT P ty) from hi, ho]
  have hl : (loadVar ty ⟨g, 0, none⟩).run P w = .ok (.agg cs) w := by
    rcases ha with ⟨fs, hu⟩ | ⟨n, e, hu⟩
    · exact run_loadVar_row w g t ty cs (0, 0) _ hr hu rfl hi'
    · exact run_loadVar_row w g t ty cs (0, 0) _ hr hu rfl hi'
  rw [hr.at]
  unfold execOp
  simp only [hp, Instr.loadAt, Instr.sureAddr, Sem.run_bind, Sem.run_pure, Result.andThen_ok, hl]

theorem aggD : AggT Tryd.prog 24 := .inr ⟨_, _, Tryd.underlying24⟩
theorem aggF : AggT Tryd.prog 32 := .inl ⟨_, Tryd.underlying32⟩
theorem sizedF : Sized Tryd.prog 32 := show (Tryd.prog.info? 32).map (·.size) = some (sizeT Tryd.prog 32) by kernel_rfl
theorem sizeTF : sizeT Tryd.prog 32 = 2 := by kernel_rfl

theorem eql_flt (a b c d : Int) (w : World) : (binOp .eql 32 (.agg (flt a b)) (.agg (flt c d))).run Tryd.prog w = .ok (.bool (a == c && b == d)) w := by
  unfold flt
  simp [go_sem, Tryd.underlying32]
  by_cases h1 : a = c <;> by_cases h2 : b = d <;> simp [h1, h2]
theorem neq_flt (a b c d : Int) (w : World) : (binOp .neq 32 (.agg (flt a b)) (.agg (flt c d))).run Tryd.prog w = .ok (.bool (!(a == c && b == d))) w := by
  unfold flt
  simp [go_sem, Tryd.underlying32]
  by_cases h1 : a = c <;> by_cases h2 : b = d <;> simp [h1, h2]

/-- the reference's In -/
theorem in_yes (n a b : Int) (h1 : a ≤ n) (h2 : n ≤ b) (w : World) :
    Calls Tryd.prog 22 #[.int .i64 n, .int .i64 a, .int .i64 b] w fun e w' => e = .returned (.bool true) ∧ w' = w := by
  go_enter Tryd.func22, Tryd.ntmps22
  go_wp2
  go_ret
  exact ⟨rfl, rfl⟩
theorem in_no (n a b : Int) (h : n < a ∨ b < n) (w : World) :
    Calls Tryd.prog 22 #[.int .i64 n, .int .i64 a, .int .i64 b] w fun e w' => e = .returned (.bool false) ∧ w' = w := by
  by_cases h1 : n < a
  · clear h
    go_enter Tryd.func22, Tryd.ntmps22
    go_wp2
    go_ret
    exact ⟨rfl, rfl⟩
  · have h2 : decide (n ≤ b) = false := decide_eq_false (by omega)
    clear h
    go_enter Tryd.func22, Tryd.ntmps22
    go_wp2
    go_ret
    exact ⟨rfl, rfl⟩
/-- the reference's At -/
theorem at_any (c i : Int) (w : World) :
    Calls Tryd.prog 19 #[.int .i64 c, .int .i64 i] w fun e w' => e = .returned (.agg (flt c i)) ∧ Below w.heap.size w w' := by
  go_enter Tryd.func19, Tryd.ntmps19
  go_wp2
  refine bodyPost_ret (results_row Tryd.results19 _ _ w.heap.size 32 (flt c i) _ rfl (Row.newEq _ _ _ _ _ rfl rfl) Tryd.underlying32 rfl (by rw [flt_size]; exact cellsF)) rfl ⟨rfl, ?_⟩
  exact (Below.refl _ _).alloc (Nat.le_refl _) _

set_option maxRecDepth 100000 in
set_option maxHeartbeats 4000000 in
/-- the reference's Shortened -/
theorem shortened_any (D : List UInt8) (hD : D.length = 32) (k : Nat) (hk : k ≤ 32) (w : World) :
    Calls Tryd.prog 24 #[.agg (bs D), .int .i64 k] w fun e w' => e = .returned (.agg (bs (shortOf D k))) ∧ Below w.heap.size w w' := by
  have HC := Lib.hid (cutPart_first D hD k)
  have HE := Lib.hid (cutPart_last D k)
  have HS := Lib.hid (shortOf_length D k)
  clear hD
  go_enter Tryd.func24, Tryd.ntmps24
  go_wp2
  refine wp_world (F := fun W => Row W w.heap.size 24 (bs D) ∧ Row W (w.heap.size + 1) 24 zD ∧ Below w.heap.size w W) ⟨(Row.new _ _ _).alloc _, Row.newEq _ _ _ _ _ (by simp) zD_lit, ((Below.refl _ _).alloc (Nat.le_refl _) _).alloc (by simp) _⟩ ?_
  rintro W0 ⟨r0, r1, rb⟩
  go_loopw [5] (fun i wr => ∃ j : Nat, k ≤ j ∧ j ≤ 32 ∧ i = .int .i64 j ∧ Row wr w.heap.size 24 (bs (cutPart D k j)) ∧ Row wr (w.heap.size + 1) 24 zD ∧ Below w.heap.size w wr) (fun i _ => 32 - (intOf i).toNat)
  case atStart => exact ⟨k, Nat.le_refl _, hk, rfl, by rw [HC.out]; exact r0, r1, rb⟩
  case round =>
    clear r0 r1 rb
    obtain ⟨j, hkj, hj, rfl, r0, r1, rb⟩ := hrel
    by_cases hlt : j < 32
    · have c0 := (r0.cell j).trans (bs_get _ _ (by rw [cutPart_length]; exact hlt))
      have f0 := r0.free j
      have HN := Lib.hid (cutPart_next D k j hkj)
      go_wp2
      go_roundw
      case rel =>
        refine ⟨j + 1, by omega, by omega, by go_num, ?_, r1.far (by simp) _, rb.setCell (Nat.le_refl _) _⟩
        rw [← HN.out, ← bs_set]
        exact r0.put _ _
      case measure => simp [intOf]; omega
    · obtain rfl : j = 32 := by omega
      rw [HE.out] at r0
      go_wp2_with (first
        | (refine wpList_load_row rfl 24 _ rfl w.heap.size rfl 24 (bs (shortOf D k)) (0, 0) _ r0 Tryd.underlying24 rfl (by rw [bs_size, HS.out]; exact cellsD) ?_)
        | (refine wpList_store_row rfl 24 _ _ rfl (w.heap.size + 1) (bs (shortOf D k)) rfl rfl 24 zD r1 (by rw [bs_size, HS.out]; exact cellsD) (by rw [zD_size, bs_size, HS.out]) (all_one (bs_one _)) ?_))
      refine bodyPost_ret (results_row Tryd.results24 _ _ (w.heap.size + 1) 24 (bs (shortOf D k)) _ rfl (Row.row r1 _) Tryd.underlying24 rfl (by rw [bs_size, HS.out]; exact cellsD)) rfl ⟨rfl, ?_⟩
      exact blw_row rb (by omega) _

theorem eql_bs (D E : List UInt8) (hD : D.length = 32) (hE : E.length = 32) (w : World) : (binOp .eql 24 (.agg (bs D)) (.agg (bs E))).run Tryd.prog w = .ok (.bool (decide (D = E))) w :=
  run_eql_bs w 24 5 32 Tryd.underlying24 Tryd.underlying5 (by kernel_rfl) D E hD hE
theorem neq_bs (D E : List UInt8) (hD : D.length = 32) (hE : E.length = 32) (w : World) : (binOp .neq 24 (.agg (bs D)) (.agg (bs E))).run Tryd.prog w = .ok (.bool (!decide (D = E))) w :=
  run_neq_bs w 24 5 32 Tryd.underlying24 Tryd.underlying5 (by kernel_rfl) D E hD hE
theorem eql_zD (w : World) : (binOp .eql 24 (.agg zD) (.agg #[.int .u8 0, .int .u8 0, .int .u8 0, .int .u8 0, .int .u8 0, .int .u8 0, .int .u8 0, .int .u8 0, .int .u8 0, .int .u8 0, .int .u8 0, .int .u8 0, .int .u8 0, .int .u8 0, .int .u8 0, .int .u8 0, .int .u8 0, .int .u8 0, .int .u8 0, .int .u8 0, .int .u8 0, .int .u8 0, .int .u8 0, .int .u8 0, .int .u8 0, .int .u8 0, .int .u8 0, .int .u8 0, .int .u8 0, .int .u8 0, .int .u8 0, .int .u8 0])).run Tryd.prog w = .ok (.bool true) w := by
  rw [zD_lit, ← zD_eq, eql_bs _ _ (by rfl) (by rfl)]
  simp
end Go.Proofs.YtcippenhomhpbaaDoor
