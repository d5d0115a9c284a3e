/-
  '==' between two arrays of integers, as a law of no program. Helper text: it proves nothing of the program by itself.
-/
import Derived.Test.YtgpacgmgdnongaaWord
import Derived.Laws.StructEq
namespace Go.Proofs.Ytgpacgmgdnongaa

section
variable {P : Program} (w : World)

theorem part_int (elem : TypeId) (k : IntKind) (he : P.underlying elem = some (.int k)) (cs : Array Value) (off : Nat) (v : Value) (hv : cs[off]? = some v) : (part elem cs off).run P w = .ok v w := by
  simp [part, isAgg, run_underlying he, hv]

theorem eq_loop (d : Nat) (elem : TypeId) (k : IntKind) (he : P.underlying elem = some (.int k)) (X Y : List Int) :
    ∀ (n s : Nat), s + n ≤ X.length → s + n ≤ Y.length →
    (forIn (m := Sem) (List.range' s n) ((none, ()) : Option Bool × Unit) (fun i _ => do
        let a ← part elem (X.map (Value.int k)).toArray (i * 1)
        let b ← part elem (Y.map (Value.int k)).toArray (i * 1)
        let r ← Op.equalIn (d + 1) elem a b
        if (!r) = true then pure (ForInStep.done (some false, ())) else pure (ForInStep.yield (none, ())))).run P w =
      .ok (if (X.drop s).take n = (Y.drop s).take n then (none, ()) else (some false, ())) w := by
  intro n
  induction n with
  | zero => intro s _ _; simp
  | succ n ih =>
    intro s hx hy
    have h1 : ((X.map (Value.int k)).toArray)[s * 1]? = some (.int k (X.getD s 0)) := by
      have h : s < X.length := by omega
      simp [h]
    have h2 : ((Y.map (Value.int k)).toArray)[s * 1]? = some (.int k (Y.getD s 0)) := by
      have h : s < Y.length := by omega
      simp [h]
    have dx : X.drop s = X.getD s 0 :: X.drop (s + 1) := by
      rw [List.drop_eq_getElem_cons (by omega)]
      simp [show s < X.length by omega]
    have dy : Y.drop s = Y.getD s 0 :: Y.drop (s + 1) := by
      rw [List.drop_eq_getElem_cons (by omega)]
      simp [show s < Y.length by omega]
    rw [List.range'_succ, List.forIn_cons]
    simp only [Sem.run_bind, part_int w elem k he _ _ _ h1, part_int w elem k he _ _ _ h2, Result.andThen_ok, run_equalIn_int w d elem k k _ _ he]
    by_cases hq : X.getD s 0 = Y.getD s 0
    · have : (X.getD s 0 == Y.getD s 0) = true := by simpa using hq
      simp only [this, Bool.not_true, Bool.false_eq_true, if_false, Sem.run_pure, Result.andThen_ok]
      rw [ih (s + 1) (by omega) (by omega), dx, dy, List.take_succ_cons, List.take_succ_cons, hq]
      simp
    · have : (X.getD s 0 == Y.getD s 0) = false := by simpa using hq
      simp only [this, Bool.not_false, if_true, Sem.run_pure, Result.andThen_ok]
      rw [dx, dy, List.take_succ_cons, List.take_succ_cons, if_neg (fun h => hq (List.cons.inj h).1)]

/-- two arrays of integers are equal just if they hold the same numbers -/
theorem run_equalIn_ints (d : Nat) (t elem : TypeId) (k : IntKind) (n : Nat) (ht : P.underlying t = some (.array n elem)) (he : P.underlying elem = some (.int k)) (hs : (P.info? elem).map (·.size) = some 1)
    (X Y : List Int) (hx : X.length = n) (hy : Y.length = n) :
    (Op.equalIn (d + 2) t (.agg (X.map (Value.int k)).toArray) (.agg (Y.map (Value.int k)).toArray)).run P w = .ok (decide (X = Y)) w := by
  have hl := eq_loop (P := P) w d elem k he X Y n 0 (by omega) (by omega)
  rw [Op.equalIn]
  simp only [Sem.run_bind, run_underlying ht, Result.andThen_ok]
  cases hq : P.info? elem with
  | none => simp [hq] at hs
  | some i =>
    have hi : i.size = 1 := by simpa [hq] using hs
    have hsz : (sizeOf elem).run P w = .ok 1 w := by simp [sizeOf, typeInfo, hq, hi]
    simp only [hsz, Result.andThen_ok]
    rw [Std.Legacy.Range.forIn_eq_forIn_range']
    have hr : List.range' (Std.Legacy.Range.mk 0 n 1 (by decide)).start (Std.Legacy.Range.mk 0 n 1 (by decide)).size (Std.Legacy.Range.mk 0 n 1 (by decide)).step = List.range' 0 n := by simp [Std.Legacy.Range.size]
    rw [hr, hl]
    have ex : (X.drop 0).take n = X := by rw [List.drop_zero, List.take_of_length_le (by omega)]
    have ey : (Y.drop 0).take n = Y := by rw [List.drop_zero, List.take_of_length_le (by omega)]
    rw [ex, ey]
    by_cases h : X = Y
    · simp [h]
    · simp [h]

theorem bs_ints (D : List UInt8) : bs D = ((D.map fun b => (b.toNat : Int)).map (Value.int .u8)).toArray := by
  unfold bs
  rw [List.map_map]
  rfl
theorem ints_inj (D E : List UInt8) : decide ((D.map fun b => (b.toNat : Int)) = (E.map fun b => (b.toNat : Int))) = decide (D = E) := by
  have h : ((D.map fun b => (b.toNat : Int)) = (E.map fun b => (b.toNat : Int))) ↔ D = E := by
    constructor
    · intro h
      induction D generalizing E with
      | nil => cases E with
        | nil => rfl
        | cons b E => simp at h
      | cons a D ih => cases E with
        | nil => simp at h
        | cons b E =>
          rw [List.map_cons, List.map_cons] at h
          obtain ⟨h1, h2⟩ := List.cons.inj h
          rw [ih E h2, UInt8.toNat_inj.1 (Int.ofNat_inj.1 h1)]
    · rintro rfl
      rfl
  by_cases hq : D = E
  · rw [decide_eq_true hq, decide_eq_true (h.2 hq)]
  · rw [decide_eq_false hq, decide_eq_false (fun hh => hq (h.1 hh))]
theorem run_eql_bs (t elem : TypeId) (n : Nat) (ht : P.underlying t = some (.array n elem)) (he : P.underlying elem = some (.int .u8)) (hs : (P.info? elem).map (·.size) = some 1)
    (D E : List UInt8) (hx : D.length = n) (hy : E.length = n) : (binOp .eql t (.agg (bs D)) (.agg (bs E))).run P w = .ok (.bool (decide (D = E))) w := by
  have h := run_equalIn_ints (P := P) w 9998 t elem .u8 n ht he hs (D.map fun b => (b.toNat : Int)) (E.map fun b => (b.toNat : Int)) (by rw [List.length_map, hx]) (by rw [List.length_map, hy])
  rw [← bs_ints, ← bs_ints, ints_inj] at h
  simp only [binOp]
  simp [Op.equal, Op.maxDepth, h]
theorem run_neq_bs (t elem : TypeId) (n : Nat) (ht : P.underlying t = some (.array n elem)) (he : P.underlying elem = some (.int .u8)) (hs : (P.info? elem).map (·.size) = some 1)
    (D E : List UInt8) (hx : D.length = n) (hy : E.length = n) : (binOp .neq t (.agg (bs D)) (.agg (bs E))).run P w = .ok (.bool (!decide (D = E))) w := by
  have h := run_equalIn_ints (P := P) w 9998 t elem .u8 n ht he hs (D.map fun b => (b.toNat : Int)) (E.map fun b => (b.toNat : Int)) (by rw [List.length_map, hx]) (by rw [List.length_map, hy])
  rw [← bs_ints, ← bs_ints, ints_inj] at h
  simp only [binOp]
  simp [Op.equal, Op.maxDepth, h]
end
end Go.Proofs.Ytgpacgmgdnongaa
