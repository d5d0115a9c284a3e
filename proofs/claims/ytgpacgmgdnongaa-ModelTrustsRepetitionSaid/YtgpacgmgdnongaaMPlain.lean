/-
  The model in plain numbers: contexts, counts, shares, weights, predictions. Helper text: it proves nothing of the program by itself.
-/
import Derived.Test.YtgpacgmgdnongaaBPlain
namespace Go.Proofs.Ytgpacgmgdnongaa

/-- a context: its order, two classes, the number of a one followed by the beginning -/
structure Ctx where
  o : Nat
  a : Nat
  b : Nat
  g : Nat
deriving DecidableEq

/-- a one followed by bits -/
def begF (f : Nat → Bool) : Nat → Nat
  | 0 => 1
  | n + 1 => 2 * begF f n + (f n).toNat
theorem begF_congr {f g : Nat → Bool} : ∀ {n : Nat}, (∀ i, i < n → f i = g i) → begF f n = begF g n
  | 0, _ => rfl
  | n + 1, h => by simp only [begF]; rw [begF_congr (fun i hi => h i (by omega)), h n (by omega)]
theorem begF_num (f : Nat → Bool) : ∀ n, begF f n = 2 ^ n + numF f n
  | 0 => rfl
  | n + 1 => by rw [begF, begF_num f n, numF_succ, Nat.pow_succ]; omega
theorem begF_lt (f : Nat → Bool) (n : Nat) (h : n ≤ 7) : begF f n < 256 := by
  rw [begF_num]
  have h1 := numF_lt f n
  have h2 : 2 ^ n ≤ 2 ^ 7 := Nat.pow_le_pow_right (by omega) h
  generalize 2 ^ n = z at *
  omega

/-- the value of the byte that begins at place s -/
def byteAt (l : List Bool) (s : Nat) : Nat := numF (fun i => l.getD (s + i) false) 8
/-- the class of the j-th byte before the byte of the next bit (j = 1: the preceding one) -/
def clsAt (l : List Bool) (j : Nat) : Nat := if 8 * j ≤ l.length then byteAt l (l.length - l.length % 8 - 8 * j) % 32 else 0
def begAt (l : List Bool) : Nat := begF (fun i => l.getD (l.length - l.length % 8 + i) false) (l.length % 8)
theorem clsAt_lt (l : List Bool) (j : Nat) : clsAt l j < 32 := by
  unfold clsAt
  split
  · exact Nat.mod_lt _ (by omega)
  · omega
theorem begAt_lt (l : List Bool) : begAt l < 256 := begF_lt _ _ (by omega)
theorem begAt_pos (l : List Bool) : 1 ≤ begAt l := by
  unfold begAt
  rw [begF_num]
  have := Nat.two_pow_pos (l.length % 8)
  generalize 2 ^ (l.length % 8) = z at *
  omega
/-- the context of order o of the next bit -/
def ctxOf (l : List Bool) (o : Nat) : Ctx := ⟨o, if 1 ≤ o then clsAt l 1 else 0, if 2 ≤ o then clsAt l 2 else 0, begAt l⟩
/-- a context that can occur -/
def COk (k : Ctx) : Prop := k.o ≤ 2 ∧ k.a < 32 ∧ k.b < 32 ∧ k.g < 256
theorem ctxOf_ok (l : List Bool) (o : Nat) (ho : o ≤ 2) : COk (ctxOf l o) := by
  have h1 := clsAt_lt l 1
  have h2 := clsAt_lt l 2
  refine ⟨ho, ?_, ?_, begAt_lt l⟩
  · show (if 1 ≤ o then clsAt l 1 else 0) < 32
    split <;> omega
  · show (if 2 ≤ o then clsAt l 2 else 0) < 32
    split <;> omega
theorem ctxOf_o (l : List Bool) (o : Nat) : (ctxOf l o).o = o := rfl

theorem clsAt_nil (j : Nat) (hj : 1 ≤ j) : clsAt [] j = 0 := by
  unfold clsAt
  rw [if_neg]
  simp
  omega
theorem begAt_nil : begAt [] = 1 := rfl

theorem getD_snoc (l : List Bool) (b : Bool) (i : Nat) (h : i < l.length) : (l ++ [b]).getD i false = l.getD i false := by
  simp [List.getD_eq_getElem?_getD, List.getElem?_append_left h]
theorem getD_last (l : List Bool) (b : Bool) : (l ++ [b]).getD l.length false = b := by
  simp [List.getD_eq_getElem?_getD]

/-- a bit that does not end its byte -/
theorem begAt_snoc (l : List Bool) (b : Bool) (h : l.length % 8 < 7) : begAt (l ++ [b]) = 2 * begAt l + b.toNat := by
  unfold begAt
  rw [List.length_append, List.length_singleton]
  have h1 : (l.length + 1) % 8 = l.length % 8 + 1 := by omega
  have h2 : l.length + 1 - (l.length % 8 + 1) = l.length - l.length % 8 := by omega
  rw [h1, h2, begF]
  have h3 : l.length - l.length % 8 + l.length % 8 = l.length := by omega
  rw [h3, getD_last]
  congr 2
  exact begF_congr fun i hi => getD_snoc l b _ (by omega)
theorem clsAt_snoc (l : List Bool) (b : Bool) (h : l.length % 8 < 7) (j : Nat) (hj : 1 ≤ j) : clsAt (l ++ [b]) j = clsAt l j := by
  unfold clsAt byteAt
  rw [List.length_append, List.length_singleton]
  have h1 : (l.length + 1) % 8 = l.length % 8 + 1 := by omega
  have h2 : l.length + 1 - (l.length % 8 + 1) = l.length - l.length % 8 := by omega
  rw [h1, h2]
  by_cases h3 : 8 * j ≤ l.length
  · rw [if_pos h3, if_pos (by omega)]
    congr 1
    exact numF_congr fun i hi => getD_snoc l b _ (by omega)
  · rw [if_neg h3, if_neg (by omega)]
theorem begAt_low (l : List Bool) (h : l.length % 8 < 7) : begAt l < 128 := by
  unfold begAt
  rw [begF_num]
  have h1 := numF_lt (fun i => l.getD (l.length - l.length % 8 + i) false) (l.length % 8)
  have h2 : 2 ^ (l.length % 8) ≤ 2 ^ 6 := Nat.pow_le_pow_right (by omega) (by omega)
  generalize 2 ^ (l.length % 8) = z at *
  omega
/-- a bit that ends its byte -/
theorem begAt_end (l : List Bool) (b : Bool) (h : l.length % 8 = 7) : begAt (l ++ [b]) = 1 := by
  unfold begAt
  rw [List.length_append, List.length_singleton]
  have h1 : (l.length + 1) % 8 = 0 := by omega
  rw [h1]
  rfl
theorem byte_end (l : List Bool) (b : Bool) (h : l.length % 8 = 7) : 2 * begAt l + b.toNat = 256 + byteAt (l ++ [b]) (l.length + 1 - 8) := by
  unfold begAt byteAt
  rw [h, begF_num, numF_succ (fun i => (l ++ [b]).getD (l.length + 1 - 8 + i) false) 7]
  have h1 : l.length + 1 - 8 + 7 = l.length := by omega
  rw [h1, getD_last]
  have h2 : numF (fun i => (l ++ [b]).getD (l.length + 1 - 8 + i) false) 7 = numF (fun i => l.getD (l.length - 7 + i) false) 7 :=
    numF_congr fun i hi => by rw [getD_snoc l b _ (by omega)]; congr 1
  rw [h2]
  omega
theorem byteAt_lt (l : List Bool) (s : Nat) : byteAt l s < 256 := numF_lt _ 8
theorem cls1_end (l : List Bool) (b : Bool) (h : l.length % 8 = 7) : clsAt (l ++ [b]) 1 = (2 * begAt l + b.toNat - 256) % 32 := by
  rw [byte_end l b h]
  unfold clsAt
  rw [List.length_append, List.length_singleton, if_pos (by omega)]
  have h1 : (l.length + 1) % 8 = 0 := by omega
  rw [h1, Nat.add_sub_cancel_left, Nat.sub_zero, Nat.mul_one]
theorem cls2_end (l : List Bool) (b : Bool) (h : l.length % 8 = 7) : clsAt (l ++ [b]) 2 = clsAt l 1 := by
  unfold clsAt byteAt
  rw [List.length_append, List.length_singleton]
  have h1 : (l.length + 1) % 8 = 0 := by omega
  rw [h1, h]
  by_cases h3 : 8 ≤ l.length
  · rw [if_pos (by omega), if_pos (by omega)]
    congr 1
    refine numF_congr fun i hi => ?_
    have h4 : l.length + 1 - 0 - 8 * 2 = l.length - 7 - 8 * 1 := by omega
    rw [h4]
    exact getD_snoc l b _ (by omega)
  · rw [if_neg (by omega), if_neg (by omega)]

/-! ### counts -/
def halve (c : Nat × Nat) : Nat × Nat := if c.1 + c.2 = 255 then ((c.1 + 1) / 2, (c.2 + 1) / 2) else c
def incB (b : Bool) (c : Nat × Nat) : Nat × Nat := halve (if b then (c.1, c.2 + 1) else (c.1 + 1, c.2))
theorem incB_le (b : Bool) (c : Nat × Nat) (h : c.1 + c.2 ≤ 254) : (incB b c).1 + (incB b c).2 ≤ 254 := by
  unfold incB halve
  cases b <;> simp <;> split <;> simp <;> omega

/-- the counts of a context after the first i bits -/
def cntTo (l : List Bool) (k : Ctx) : Nat → Nat × Nat
  | 0 => (0, 0)
  | i + 1 => if ctxOf (l.take i) k.o = k then incB (l.getD i false) (cntTo l k i) else cntTo l k i
def cnt (l : List Bool) (k : Ctx) : Nat × Nat := cntTo l k l.length
theorem cntTo_le (l : List Bool) (k : Ctx) : ∀ i, (cntTo l k i).1 + (cntTo l k i).2 ≤ 254
  | 0 => by simp [cntTo]
  | i + 1 => by
    have := cntTo_le l k i
    rw [cntTo]
    split
    · exact incB_le _ _ this
    · exact this
theorem cnt_le (l : List Bool) (k : Ctx) : (cnt l k).1 + (cnt l k).2 ≤ 254 := cntTo_le _ _ _
theorem cntTo_take (l m : List Bool) (k : Ctx) : ∀ i, i ≤ l.length → i ≤ m.length → l.take i = m.take i → cntTo l k i = cntTo m k i
  | 0, _, _, _ => rfl
  | i + 1, h1, h2, h => by
    have h3 : l.take i = m.take i := by
      have := congrArg (List.take i) h
      simpa [List.take_take, Nat.min_eq_left (Nat.le_succ i)] using this
    have h4 : l.getD i false = m.getD i false := by
      have := congrArg (fun x : List Bool => x[i]?) h
      simp only [List.getElem?_take, Nat.lt_succ_self, if_true] at this
      simp [List.getD_eq_getElem?_getD, this]
    rw [cntTo, cntTo, h3, h4, cntTo_take l m k i (by omega) (by omega) h3]
theorem cntTo_cnt (l : List Bool) (k : Ctx) (i : Nat) (hi : i ≤ l.length) : cntTo l k i = cnt (l.take i) k := by
  unfold cnt
  rw [List.length_take, Nat.min_eq_left hi]
  exact cntTo_take _ _ k i hi (by rw [List.length_take]; omega) (by rw [List.take_take, Nat.min_self])
theorem cnt_snoc (l : List Bool) (b : Bool) (k : Ctx) : cnt (l ++ [b]) k = if ctxOf l k.o = k then incB b (cnt l k) else cnt l k := by
  unfold cnt
  rw [List.length_append, List.length_singleton, cntTo, getD_last, List.take_left,
    cntTo_take (l ++ [b]) l k l.length (by simp) (Nat.le_refl _) (by rw [List.take_left, List.take_length])]
theorem cnt_nil (k : Ctx) : cnt [] k = (0, 0) := rfl

/-! ### predictions -/
def shareC (c : Nat × Nat) : Nat := (2 * c.2 + 1) * 2048 / (c.1 + c.2 + 1)
def weightC (c : Nat × Nat) (o : Nat) : Nat := min (c.1 + c.2) 15 * 4 ^ o
/-- the sums over the contexts of the orders below n -/
def sumS (l : List Bool) : Nat → Nat
  | 0 => 2048
  | n + 1 => sumS l n + weightC (cnt l (ctxOf l n)) n * shareC (cnt l (ctxOf l n))
def sumW (l : List Bool) : Nat → Nat
  | 0 => 1
  | n + 1 => sumW l n + weightC (cnt l (ctxOf l n)) n
/-- the prediction of a model of order d behind bits -/
def predB (d : Nat) (l : List Bool) : Nat := sumS l (d + 1) / sumW l (d + 1)

theorem share_low (c : Nat × Nat) (h : c.1 + c.2 ≤ 254) : 8 ≤ shareC c := by
  unfold shareC
  rw [Nat.le_div_iff_mul_le (by omega)]
  omega
theorem share_high (c : Nat × Nat) (h : c.1 + c.2 ≤ 254) : shareC c ≤ 4087 := by
  unfold shareC
  have h1 : (2 * c.2 + 1) * 2048 / (c.1 + c.2 + 1) < 4088 := by
    rw [Nat.div_lt_iff_lt_mul (by omega)]
    omega
  omega
theorem weight_le (c : Nat × Nat) (o : Nat) (h : o ≤ 2) : weightC c o ≤ 240 := by
  unfold weightC
  have h1 : min (c.1 + c.2) 15 ≤ 15 := Nat.min_le_right _ _
  have h2 : 4 ^ o ≤ 4 ^ 2 := Nat.pow_le_pow_right (by omega) h
  calc min (c.1 + c.2) 15 * 4 ^ o ≤ 15 * 4 ^ 2 := Nat.mul_le_mul h1 h2
    _ = 240 := by decide
theorem sum_bounds (l : List Bool) : ∀ n, 8 * sumW l n ≤ sumS l n ∧ sumS l n ≤ 4087 * sumW l n ∧ 1 ≤ sumW l n
  | 0 => by simp [sumS, sumW]
  | n + 1 => by
    obtain ⟨h1, h2, h3⟩ := sum_bounds l n
    have h4 := share_low _ (cnt_le l (ctxOf l n))
    have h5 := share_high _ (cnt_le l (ctxOf l n))
    rw [sumS, sumW]
    generalize shareC (cnt l (ctxOf l n)) = s at *
    generalize weightC (cnt l (ctxOf l n)) n = x at *
    have h6 : x * 8 ≤ x * s := Nat.mul_le_mul_left _ h4
    have h7 : x * s ≤ x * 4087 := Nat.mul_le_mul_left _ h5
    omega
theorem sumW_le (l : List Bool) (n : Nat) (h : n ≤ 3) : sumW l n ≤ 721 := by
  have hw := fun o ho => weight_le (cnt l (ctxOf l o)) o ho
  rcases n with _ | _ | _ | _ | n
  · simp [sumW]
  · have := hw 0 (by omega); simp only [sumW]; omega
  · have := hw 0 (by omega); have := hw 1 (by omega); simp only [sumW]; omega
  · have := hw 0 (by omega); have := hw 1 (by omega); have := hw 2 (by omega); simp only [sumW]; omega
  · omega
theorem pred_low (d : Nat) (l : List Bool) : 8 ≤ predB d l := by
  obtain ⟨h1, _, h3⟩ := sum_bounds l (d + 1)
  unfold predB
  rw [Nat.le_div_iff_mul_le (by omega)]
  omega
theorem pred_high (d : Nat) (l : List Bool) : predB d l ≤ 4087 := by
  obtain ⟨_, h2, h3⟩ := sum_bounds l (d + 1)
  unfold predB
  exact Nat.div_le_of_le_mul (by rw [Nat.mul_comm]; exact h2)
theorem predB_nil (d : Nat) (hd : d ≤ 2) : predB d [] = 2048 := by
  obtain rfl | rfl | rfl : d = 0 ∨ d = 1 ∨ d = 2 := by omega
  all_goals decide

/-- the predictions ahead of the first n bits -/
def preds (d : Nat) (l : List Bool) (n : Nat) : List Nat := (List.range n).map fun i => predB d (l.take i)
theorem preds_length (d : Nat) (l : List Bool) (n : Nat) : (preds d l n).length = n := by simp [preds]
theorem preds_succ (d : Nat) (l : List Bool) (n : Nat) : preds d l (n + 1) = preds d l n ++ [predB d (l.take n)] := by simp [preds, List.range_succ]
theorem preds_getD (d : Nat) (l : List Bool) (n i : Nat) (h : i < n) : (preds d l n).getD i 0 = predB d (l.take i) := by
  simp [preds, List.getD_eq_getElem?_getD, h]
theorem preds_congr (d : Nat) (l m : List Bool) (n : Nat) (_hl : n ≤ l.length + 1) (_hm : n ≤ m.length + 1) (h : l.take (n - 1) = m.take (n - 1)) : preds d l n = preds d m n := by
  unfold preds
  refine List.map_congr_left fun i hi => ?_
  have hi' : i < n := List.mem_range.1 hi
  congr 1
  have := congrArg (List.take i) h
  simpa [List.take_take, Nat.min_eq_left (show i ≤ n - 1 by omega)] using this
end Go.Proofs.Ytgpacgmgdnongaa
