/-
  What the walk of the reference's Cheapest needs: rows of tokens, made and written.
-/
import Derived.Test.YtcmbpniikcghfaaTabK
import Derived.Test.YtcmbpniikcghfaaTkOwn
import Derived.Test.YtcmbpniikcghfaaTPlain
import Derived.Test.YtcmbpniikcghfaaIL
import Derived.Test.YtcmbpniikcghfaaRIn
namespace Go.Proofs.Ytcmbpniikcghfaa
open Go.RowKit

theorem tkc_set : ∀ (T : List TokZ) (i : Nat) (t : TokZ), i < T.length → tkc (T.set i t) = (tkc T).take (i * 3) ++ tkc [t] ++ (tkc T).drop (i * 3 + 3)
  | [], i, t, h => absurd h (Nat.not_lt_zero _)
  | p :: T, 0, t, _ => by simp [tkc]
  | p :: T, i + 1, t, h => by
    have ih := tkc_set T i t (by simpa using h)
    have e1 : tkc (p :: T) = .int .i64 p.1 :: .int .i64 p.2.1 :: .int .u8 (p.2.2.toNat : Int) :: tkc T := rfl
    have e2 : tkc (p :: T.set i t) = .int .i64 p.1 :: .int .i64 p.2.1 :: .int .u8 (p.2.2.toNat : Int) :: tkc (T.set i t) := rfl
    rw [List.set_cons_succ, e2, ih, e1, show (i + 1) * 3 = i * 3 + 1 + 1 + 1 by omega, show i * 3 + 1 + 1 + 1 + 3 = i * 3 + 3 + 1 + 1 + 1 by omega]
    simp
theorem wpList_store_tk {ops : Array Oper} {rest : List Oper} {o : Oper} {a : Act} {w : World} {Q : Exit → Act → World → Prop} (hgd : o.guard = none) (x y : Operand) (ho : o.op = .store 55 x y)
    (g i : Nat) (hx : a.eval x = .pointer (some ⟨g, i * 3, none⟩)) (d m z : Int) (hy : a.eval y = .agg #[.int .i64 d, .int .i64 m, .int .u8 z]) (T : List TokZ) (hr : Row w g 55 (tkc T).toArray) (hi : i < T.length) (t : TokZ) (ht : t = (d, m, t.2.2)) (hz : z = (t.2.2.toNat : Int))
    (h : wpList Try.prog ops Q rest (a.put o.dst undef) (w.setRow g (tkc (T.set i t)).toArray)) : wpList Try.prog ops Q (o :: rest) a w := by
  refine wpList_plain hgd fun K hK => ?_
  have he : tkc [t] = [.int .i64 d, .int .i64 m, .int .u8 z] := by rw [ht, hz]; rfl
  have hl := tkc_length T
  have hs := run_storeCells_at Try.prog g (i * 3) 55 (tkc [t]) 0 _ w hr (by rw [List.size_toArray, hl, tkc_length]; simp; omega) (fun u hu => by
    rw [he] at hu
    simp only [List.mem_cons, List.not_mem_nil, or_false] at hu
    rcases hu with rfl | rfl | rfl <;> rfl)
  have hs2 : (storeVar 55 ⟨g, i * 3, none⟩ (.agg #[.int .i64 d, .int .i64 m, .int .u8 z])).run Try.prog w = .ok () (w.setRow g (tkc (T.set i t)).toArray) := by
    rw [tkc_set T i t hi]
    cases hq : Try.prog.info? 55 with
    | none => have := infoT; rw [hq] at this; cases this
    | some j =>
      have hj := infoT
      rw [hq] at hj
      simp only [Option.map_some, Option.some.injEq, Prod.mk.injEq] at hj
      have e3 : (tkc [t]).length = 3 := by rw [he]; rfl
      rw [e3, Nat.add_zero, he] at hs
      simp [storeVar, sizeOf, typeInfo, hq, Value.cells, hj.2.1, hs, he]
  unfold Oper.wp execOp
  simp only [ho, hx, hy, Instr.storeAt, Instr.sureAddr, Sem.run_bind, Sem.run_pure, Result.andThen_ok, hs2]
  exact hK _ _ h
theorem zeros_tk (n : Nat) : (madeCells #[Value.int .i64 0, Value.int .i64 0, Value.int .u8 0] (n * 3)) = (tkc (List.replicate n (0, 0, 0))).toArray := by
  apply Array.ext'
  induction n with
  | zero => simp [madeCells, tkc]
  | succ n ih =>
    have ih' : (madeCells #[Value.int .i64 0, Value.int .i64 0, Value.int .u8 0] (n * 3)).toList = tkc (List.replicate n (0, 0, 0)) := ih
    show (madeCells #[Value.int .i64 0, Value.int .i64 0, Value.int .u8 0] ((n + 1) * 3)).toList = .int .i64 0 :: .int .i64 0 :: .int .u8 0 :: tkc (List.replicate n (0, 0, 0))
    rw [← ih']
    simp only [madeCells]
    rw [show (n + 1) * 3 = n * 3 + 1 + 1 + 1 by omega]
    simp [Array.toList_range, List.range_succ_eq_map, List.map_map, Function.comp_def]
    intro a _
    rw [show (a + 1 + 1 + 1) % 3 = a % 3 by omega]
theorem make_tks (n : Nat) (hn : n ≤ 100000) (w : World) :
    (Instr.makeSlice 42 (.int .i64 (n : Int)) (.int .i64 (n : Int))).run Try.prog w = .ok (.slice (some ⟨w.heap.size, 0, none⟩) n n) (w.alloc (.cells (tkc (List.replicate n (0, 0, 0))).toArray 55)) := by
  obtain ⟨i, hi, hi1, hi2, hi3⟩ : ∃ i, Try.prog.info? 55 = some i ∧ i.zero = some (.agg #[.int .i64 0, .int .i64 0, .int .u8 0]) ∧ i.size = 3 ∧ i.bytes = 24 := by
    cases hi : Try.prog.info? 55 with
    | none => have := infoT; rw [hi] at this; cases this
    | some i =>
      have := infoT
      rw [hi] at this
      simp only [Option.map_some, Option.some.injEq, Prod.mk.injEq] at this
      exact ⟨i, rfl, this.1, this.2.1, this.2.2⟩
  have hr := run_make (P := Try.prog) (w := w) 42 55 i _ Try.underlying42 hi hi1 .i64 .i64 n n (by omega) (Int.le_refl _) (by rw [hi3]; omega) (by omega)
  simp only [Int.toNat_natCast, hi2, Value.cells] at hr
  rw [zeros_tk] at hr
  exact hr
theorem made_nats (n : Nat) : (madeCells #[Value.int .i64 0] n) = (nl (List.replicate n 0)).toArray := by
  apply Array.ext
  · rw [size_madeCells]
    simp [nl_length]
  · intro i h1 h2
    unfold nl
    simp [madeCells, Nat.mod_one]
theorem nl_put (C : List Nat) (i v : Nat) : (nl C).toArray.setIfInBounds i (.int .i64 (v : Int)) = (nl (C.set i v)).toArray := by
  rw [nl_set]
  simp
theorem rep_fits {X : List UInt8} {h d m : Nat} (hr : RepIs X h d m) (hd : 1 ≤ d ∧ d ≤ h) (n : Nat) : fits X h (.mat d n) ↔ 3 ≤ n ∧ n ≤ m := by
  obtain ⟨r1, r2, r3⟩ := hr
  constructor
  · rintro ⟨_, h3, h4, h5⟩
    refine ⟨h3, ?_⟩
    by_cases hm : n ≤ m
    · exact hm
    · rcases r3 with r3 | r3
      · omega
      · exact absurd (h5 m (by omega)) r3
  · rintro ⟨h3, h4⟩
    exact ⟨hd, h3, by omega, fun k hk => r2 k (by omega)⟩
theorem ok_fits {X : List UInt8} {h : Nat} {t : Tk} (hf : fits X h t) (hX : X.length ≤ 1536) (hh : X.length ≤ h + 1024) : t.ok := by
  cases t with
  | lit x => trivial
  | mat d n =>
    obtain ⟨⟨h1, h2⟩, h3, h4, _⟩ := hf
    exact ⟨h1, by omega, h3, by omega⟩
end Go.Proofs.Ytcmbpniikcghfaa
