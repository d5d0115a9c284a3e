/-
  ModelTrustsRepetition in plain numbers: the predictions ahead of the bytes of a repeated byte. Helper text: it proves nothing of the program by itself.
-/
import Derived.Test.YtgpacgmgdnongaaMPlain
import Derived.Test.YtgpacgmgdnongaaRAll
namespace Go.Proofs.Ytgpacgmgdnongaa.lawRep

/-- so many times the bits of a byte -/
def rep (x : UInt8) : Nat → List Bool
  | 0 => []
  | t + 1 => rep x t ++ allB [x]
theorem rep_length (x : UInt8) : ∀ t, (rep x t).length = 8 * t
  | 0 => rfl
  | t + 1 => by rw [rep, List.length_append, rep_length x t, allB_length]; simp; omega
theorem rep_take (x : UInt8) (t : Nat) : ∀ n, t ≤ n → (rep x n).take (8 * t) = rep x t
  | 0, h => by
    obtain rfl : t = 0 := by omega
    rfl
  | n + 1, h => by
    by_cases ht : t = n + 1
    · subst ht
      exact List.take_of_length_le (by rw [rep_length]; exact Nat.le_refl _)
    · rw [rep, List.take_append_of_le_length (by rw [rep_length]; omega)]
      exact rep_take x t n (by omega)

/-- the context ahead of a byte, for order 0 -/
def K1 : Ctx := ⟨0, 0, 0, 1⟩
theorem ctx_byte (l : List Bool) (h : l.length % 8 = 0) : ctxOf l 0 = K1 := by
  have hb : begAt l = 1 := by
    unfold begAt
    rw [h]
    rfl
  unfold ctxOf K1
  rw [hb]
  rfl
theorem ctx_inside (l : List Bool) (h : l.length % 8 ≠ 0) : ctxOf l 0 ≠ K1 := by
  intro e
  have h1 : begAt l = 1 := congrArg Ctx.g e
  unfold begAt at h1
  rw [begF_num] at h1
  have h2 : 2 ^ 1 ≤ 2 ^ (l.length % 8) := Nat.pow_le_pow_right (by omega) (by omega)
  generalize 2 ^ (l.length % 8) = z at *
  omega
theorem cnt_first (l : List Bool) (b : Bool) (h : l.length % 8 = 0) : cnt (l ++ [b]) K1 = incB b (cnt l K1) := by
  rw [cnt_snoc, show K1.o = 0 from rfl, ctx_byte l h, if_pos rfl]
theorem cnt_other (l : List Bool) (b : Bool) (h : l.length % 8 ≠ 0) : cnt (l ++ [b]) K1 = cnt l K1 := by
  rw [cnt_snoc, show K1.o = 0 from rfl, if_neg (ctx_inside l h)]
theorem cnt_byte (l : List Bool) (h : l.length % 8 = 0) (x0 x1 x2 x3 x4 x5 x6 x7 : Bool) : cnt (l ++ [x0, x1, x2, x3, x4, x5, x6, x7]) K1 = incB x0 (cnt l K1) := by
  have e : l ++ [x0, x1, x2, x3, x4, x5, x6, x7] = l ++ [x0] ++ [x1] ++ [x2] ++ [x3] ++ [x4] ++ [x5] ++ [x6] ++ [x7] := by simp
  rw [e, cnt_other _ _ (by simp; omega), cnt_other _ _ (by simp; omega), cnt_other _ _ (by simp; omega), cnt_other _ _ (by simp; omega), cnt_other _ _ (by simp; omega), cnt_other _ _ (by simp; omega), cnt_other _ _ (by simp; omega), cnt_first _ _ h]
theorem allB_one (x : UInt8) : allB [x] = [bt [x] 0, bt [x] 1, bt [x] 2, bt [x] 3, bt [x] 4, bt [x] 5, bt [x] 6, bt [x] 7] := rfl

/-- the counts ahead of a byte -/
def cT (b : Bool) (t : Nat) : Nat × Nat := if b then (0, t) else (t, 0)
theorem cnt_rep (x : UInt8) : ∀ t, t ≤ 200 → cnt (rep x t) K1 = cT (bt [x] 0) t
  | 0, _ => by rw [rep, cnt_nil]; unfold cT; split <;> rfl
  | t + 1, h => by
    rw [rep, allB_one, cnt_byte _ (by rw [rep_length]; omega), cnt_rep x t (by omega)]
    unfold cT incB halve
    cases bt [x] 0
    · simp
      omega
    · simp
      omega
/-- the prediction ahead of a byte -/
def pT (b : Bool) (t : Nat) : Nat := (2048 + weightC (cT b t) 0 * shareC (cT b t)) / (1 + weightC (cT b t) 0)
theorem pred_rep (x : UInt8) (t : Nat) (h : t ≤ 200) : predB 0 (rep x t) = pT (bt [x] 0) t := by
  unfold predB pT sumS sumW
  rw [ctx_byte _ (by rw [rep_length]; omega), cnt_rep x t h]
  rfl
theorem up_all : ∀ t, t < 100 → pT true t ≤ pT true (t + 1) := by decide +kernel
theorem down_all : ∀ t, t < 100 → pT false (t + 1) ≤ pT false t := by decide +kernel
theorem bt_first (x : UInt8) : bt [x] 0 = decide (128 ≤ x.toNat) := by
  have h := x.toNat_lt
  show x.toNat.testBit 7 = _
  rw [Nat.testBit_eq_decide_div_mod_eq]
  exact decide_eq_decide.2 (by omega)
end Go.Proofs.Ytgpacgmgdnongaa.lawRep
