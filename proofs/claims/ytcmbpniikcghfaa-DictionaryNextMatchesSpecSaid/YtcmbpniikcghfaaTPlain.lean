/-
  Tokens: plain functions of no program: what is valid, what a token stands for, its code and its cost. What tokens stand for: plain functions of no program. The tokens of bits: plain functions of no program. The cheapest tokens: plain facts of no program. X: the window (dictionary and data), D: bytes of the dictionary, N: bytes of the data. The tokens of the code of tokens: plain facts. Plain facts for the statements about tokens: what the cheapest tokens stand for, that none cost less, that more dictionary costs no more. The closed examples of the statements about tokens: plain facts.
-/
import Derived.Test.YtcmbpniikcghfaaBPlain
namespace Go.Proofs.Ytcmbpniikcghfaa

/-- a token as three numbers: distance, length, byte -/
abbrev TokZ := Int × Int × UInt8
inductive Tk where
  | lit (x : UInt8)
  | mat (d n : Nat)
def Tk.z : Tk → TokZ
  | .lit x => (0, 0, x)
  | .mat d n => ((d : Int), (n : Int), 0)
def Tk.ok : Tk → Prop
  | .lit _ => True
  | .mat d n => 1 ≤ d ∧ d ≤ 1536 ∧ 3 ≤ n ∧ n ≤ 1024
def GoodT (l : List Tk) : Prop := ∀ t ∈ l, t.ok
def tz (l : List Tk) : List TokZ := l.map Tk.z
theorem tz_length (l : List Tk) : (tz l).length = l.length := by simp [tz]
theorem tz_append (l m : List Tk) : tz (l ++ m) = tz l ++ tz m := by simp [tz]
theorem tz_getD (l : List Tk) (i : Nat) (h : i < l.length) : (tz l).getD i (0, 0, 0) = l[i].z := by
  unfold tz
  simp [List.getD_eq_getElem?_getD, h]
/-- a valid token -/
def okT (t : TokZ) : Prop := (t.1 = 0 ∧ t.2.1 = 0) ∨ ((1 ≤ t.1 ∧ t.1 ≤ 1536) ∧ (3 ≤ t.2.1 ∧ t.2.1 ≤ 1024) ∧ t.2.2 = 0)
instance (t : TokZ) : Decidable (okT t) := inferInstanceAs (Decidable (_ ∨ _))
theorem okT_z (t : Tk) (h : t.ok) : okT t.z := by
  cases t with
  | lit x => exact .inl ⟨rfl, rfl⟩
  | mat d n =>
    obtain ⟨h1, h2, h3, h4⟩ := h
    exact .inr ⟨⟨by show (1 : Int) ≤ (d : Int); omega, by show (d : Int) ≤ 1536; omega⟩, ⟨by show (3 : Int) ≤ (n : Int); omega, by show (n : Int) ≤ 1024; omega⟩, rfl⟩
theorem of_okT (t : TokZ) (h : okT t) : ∃ k : Tk, t = k.z ∧ k.ok := by
  obtain ⟨d, n, x⟩ := t
  rcases h with ⟨h1, h2⟩ | ⟨⟨h1, h2⟩, ⟨h3, h4⟩, h5⟩
  · simp only at h1 h2
    subst h1 h2
    exact ⟨.lit x, rfl, trivial⟩
  · simp only at h1 h2 h3 h4 h5
    subst h5
    refine ⟨.mat d.toNat n.toNat, ?_, by show 1 ≤ d.toNat; omega, by omega, by omega, by omega⟩
    show (d, n, (0 : UInt8)) = ((d.toNat : Int), (n.toNat : Int), 0)
    rw [show (d.toNat : Int) = d by omega, show (n.toNat : Int) = n by omega]
/-- the fault of a list of tokens -/
inductive TkF (ts : List TokZ) : Int → Int → Prop
  | many (h : 1024 < ts.length) : TkF ts 2 (-1)
  | form (hl : ts.length ≤ 1024) (k : Nat) (hk : k < ts.length) (h1 : ∀ j, j < k → okT (ts.getD j (0, 0, 0))) (h2 : ¬ okT (ts.getD k (0, 0, 0))) : TkF ts 6 (k : Int)
theorem TkF.ne {ts : List TokZ} {c i : Int} (h : TkF ts c i) : c ≠ 0 := by cases h <;> decide
theorem first_badT : ∀ (ts : List TokZ), (∃ l, ts = tz l ∧ GoodT l) ∨ ∃ k, k < ts.length ∧ (∀ j, j < k → okT (ts.getD j (0, 0, 0))) ∧ ¬ okT (ts.getD k (0, 0, 0))
  | [] => .inl ⟨[], rfl, fun c hc => by cases hc⟩
  | t :: ts => by
    by_cases hz : okT t
    · rcases first_badT ts with ⟨l, rfl, hg⟩ | ⟨k, h1, h2, h3⟩
      · obtain ⟨q, rfl, hq⟩ := of_okT t hz
        refine .inl ⟨q :: l, rfl, fun c hc => ?_⟩
        rcases List.mem_cons.1 hc with rfl | hc
        · exact hq
        · exact hg c hc
      · refine .inr ⟨k + 1, by simpa using h1, fun j hj => ?_, by simpa using h3⟩
        cases j with
        | zero => simpa using hz
        | succ j => simpa using h2 j (by omega)
    · exact .inr ⟨0, by simp, fun j hj => by omega, by simpa using hz⟩
theorem tkf_or (ts : List TokZ) : (∃ c i, TkF ts c i) ∨ ∃ l, ts = tz l ∧ GoodT l ∧ l.length ≤ 1024 := by
  by_cases h : 1024 < ts.length
  · exact .inl ⟨2, -1, .many h⟩
  · rcases first_badT ts with ⟨l, rfl, hg⟩ | ⟨k, h1, h2, h3⟩
    · exact .inr ⟨l, rfl, hg, by rw [tz_length] at h; omega⟩
    · exact .inl ⟨6, k, .form (by omega) k h1 h2 h3⟩
theorem okT_tz (l : List Tk) (h : GoodT l) (i : Nat) (hi : i < l.length) : okT ((tz l).getD i (0, 0, 0)) := by
  rw [tz_getD l i hi]
  exact okT_z _ (h _ (List.getElem_mem hi))
/-- how many bytes a token stands for -/
def Tk.len : Tk → Nat
  | .lit _ => 1
  | .mat _ n => n
/-- how many bytes tokens stand for -/
def lenT (l : List Tk) : Nat := (l.map Tk.len).sum
/-- the gamma code of a number -/
def gamL (v : Nat) : List Bool := digB v (Nat.log2 v + (Nat.log2 v + 1))
theorem gamL_length (v : Nat) : (gamL v).length = 2 * Nat.log2 v + 1 := by rw [gamL, digB_length]; omega
/-- the code of a token -/
def Tk.code : Tk → List Bool
  | .lit x => digB x.toNat 9
  | .mat d n => true :: (gamL d ++ gamL (n - 2))
def codeT (l : List Tk) : List Bool := (l.map Tk.code).flatten
/-- the cost of a token, in bits -/
def Tk.cost : Tk → Nat
  | .lit _ => 9
  | .mat d n => 1 + (2 * Nat.log2 d + 1) + (2 * Nat.log2 (n - 2) + 1)
def costT (l : List Tk) : Nat := (l.map Tk.cost).sum
theorem code_cost (t : Tk) : t.code.length = t.cost := by
  cases t with
  | lit x => rw [Tk.code, digB_length]; rfl
  | mat d n => rw [Tk.code, List.length_cons, List.length_append, gamL_length, gamL_length, Tk.cost]; omega
theorem codeT_length (l : List Tk) : (codeT l).length = costT l := by
  unfold codeT costT
  induction l with
  | nil => rfl
  | cons t l ih => rw [List.map_cons, List.flatten_cons, List.length_append, ih, List.map_cons, List.sum_cons, code_cost]
theorem codeT_append (l m : List Tk) : codeT (l ++ m) = codeT l ++ codeT m := by simp [codeT]
theorem codeT_one (t : Tk) : codeT [t] = t.code := by simp [codeT]
theorem costT_append (l m : List Tk) : costT (l ++ m) = costT l + costT m := by simp [costT]
theorem log2_small (v k : Nat) (h1 : 1 ≤ v) (h : v < 2 ^ k) : Nat.log2 v < k := (Nat.log2_lt (by omega)).2 h
theorem cost_le (t : Tk) (h : t.ok) : t.cost ≤ 41 := by
  cases t with
  | lit x => show 9 ≤ 41; omega
  | mat d n =>
    obtain ⟨h1, h2, h3, h4⟩ := h
    have a := log2_small d 11 h1 (by omega)
    have b := log2_small (n - 2) 10 (by omega) (by omega)
    show 1 + (2 * Nat.log2 d + 1) + (2 * Nat.log2 (n - 2) + 1) ≤ 41
    omega
theorem costT_le (l : List Tk) (h : GoodT l) : costT l ≤ 41 * l.length := by
  induction l with
  | nil => exact Nat.le_refl _
  | cons t l ih =>
    have a := cost_le t (h t List.mem_cons_self)
    have b := ih (fun q hq => h q (List.mem_cons_of_mem _ hq))
    unfold costT at b ⊢
    rw [List.map_cons, List.sum_cons, List.length_cons]
    omega
end Go.Proofs.Ytcmbpniikcghfaa

namespace Go.Proofs.Ytcmbpniikcghfaa

/-- n bytes, each equal to the one that stands d bytes before it -/
def copyN (d : Nat) : Nat → List UInt8 → List UInt8
  | 0, W => W
  | n + 1, W => copyN d n (W ++ [W.getD (W.length - d) 0])
theorem copyN_snoc (d : Nat) : ∀ (n : Nat) (W : List UInt8), copyN d (n + 1) W = copyN d n W ++ [(copyN d n W).getD ((copyN d n W).length - d) 0]
  | 0, W => rfl
  | n + 1, W => by
    rw [copyN, copyN_snoc d n, ← copyN]
theorem copyN_length (d : Nat) : ∀ (n : Nat) (W : List UInt8), (copyN d n W).length = W.length + n
  | 0, W => rfl
  | n + 1, W => by rw [copyN, copyN_length d n, List.length_append, List.length_singleton]; omega
def Tk.dist : Tk → Nat
  | .lit _ => 0
  | .mat d _ => d
/-- how many bytes are copied -/
def Tk.num : Tk → Nat
  | .lit _ => 0
  | .mat _ n => n
/-- the window behind a token -/
def Tk.put (t : Tk) (W : List UInt8) : List UInt8 :=
  match t with
  | .lit x => W ++ [x]
  | .mat d n => copyN d n W
theorem put_length (t : Tk) (W : List UInt8) : (t.put W).length = W.length + t.len := by
  cases t with
  | lit x => simp [Tk.put, Tk.len]
  | mat d n => rw [Tk.put, copyN_length, Tk.len]
/-- the window behind tokens, or the fault of the first that cannot stand for bytes; D: bytes of the dictionary, i: the index of the first token -/
def runT (D : Nat) : List Tk → List UInt8 → Nat → List UInt8 ⊕ (Int × Int)
  | [], W, _ => .inl W
  | t :: l, W, i =>
    if W.length < t.dist then .inr (4, (i : Int))
    else if 1024 < W.length - D + t.len then .inr (14, (i : Int))
    else runT D l (t.put W) (i + 1)
theorem runT_range (D : Nat) (t : Tk) (l : List Tk) (W : List UInt8) (i : Nat) (h : W.length < t.dist) : runT D (t :: l) W i = .inr (4, (i : Int)) := by rw [runT, if_pos h]
theorem runT_large (D : Nat) (t : Tk) (l : List Tk) (W : List UInt8) (i : Nat) (h : ¬ W.length < t.dist) (h2 : 1024 < W.length - D + t.len) : runT D (t :: l) W i = .inr (14, (i : Int)) := by rw [runT, if_neg h, if_pos h2]
theorem runT_next (D : Nat) (t : Tk) (l : List Tk) (W : List UInt8) (i : Nat) (h : ¬ W.length < t.dist) (h2 : ¬ 1024 < W.length - D + t.len) : runT D (t :: l) W i = runT D l (t.put W) (i + 1) := by rw [runT, if_neg h, if_neg h2]
theorem drop_at {α : Type} (l : List α) (j : Nat) (h : j < l.length) : l.drop j = l[j] :: l.drop (j + 1) := List.drop_eq_getElem_cons h
theorem drop_end {α : Type} (l : List α) : l.drop l.length = [] := List.drop_of_length_le (Nat.le_refl _)
end Go.Proofs.Ytcmbpniikcghfaa

namespace Go.Proofs.Ytcmbpniikcghfaa

/-- how many zeros stand at f, at most lim -/
def zrF (l : List Bool) : Nat → Nat → Nat
  | _, 0 => 0
  | f, lim + 1 => if f < l.length ∧ l.getD f false = false then zrF l (f + 1) lim + 1 else 0
theorem zrF_is (l : List Bool) : ∀ (lim f : Nat), f ≤ l.length → Zr l f lim (zrF l f lim)
  | 0, f, hf => ⟨Nat.le_refl _, hf, fun i hi => absurd hi (Nat.not_lt_zero _), .inl rfl⟩
  | lim + 1, f, hf => by
    rw [zrF]
    by_cases h : f < l.length ∧ l.getD f false = false
    · rw [if_pos h]
      obtain ⟨h1, h2, h3, h4⟩ := zrF_is l lim (f + 1) (by omega)
      refine ⟨by omega, by omega, fun i hi => ?_, ?_⟩
      · cases i with
        | zero => exact h.2
        | succ i => rw [show f + (i + 1) = f + 1 + i by omega]; exact h3 i (by omega)
      · rcases h4 with h4 | h4 | h4
        · exact .inl (by omega)
        · exact .inr (.inl (by omega))
        · exact .inr (.inr (by rw [show f + (zrF l (f + 1) lim + 1) = f + 1 + zrF l (f + 1) lim by omega]; exact h4))
    · rw [if_neg h]
      refine ⟨Nat.zero_le _, hf, fun i hi => absurd hi (Nat.not_lt_zero _), ?_⟩
      by_cases h1 : f = l.length
      · exact .inr (.inl h1)
      · refine .inr (.inr ?_)
        cases hb : l.getD f false with
        | true => rfl
        | false => exact absurd ⟨by omega, hb⟩ h
/-- the number in gamma code at f, the place behind it, and no error; or 0, 0, and the error -/
def gamF (l : List Bool) (f : Nat) : Nat × Nat × Nat :=
  if zrF l f 31 = 31 then (0, 0, 16)
  else if l.length < f + 2 * zrF l f 31 + 1 then (0, 0, 15)
  else (numF (fun i => l.getD (f + zrF l f 31 + i) false) (zrF l f 31 + 1), f + 2 * zrF l f 31 + 1, 0)
theorem gamF_end (l : List Bool) (f : Nat) (h : (gamF l f).2.2 = 0) : f < (gamF l f).2.1 ∧ (gamF l f).2.1 ≤ l.length ∧ (gamF l f).1 < 2147483648 := by
  unfold gamF at h ⊢
  split at h
  · simp at h
  · split at h
    · simp at h
    · rename_i h1 h2
      rw [if_neg h1, if_neg h2]
      have hz : zrF l f 31 < 31 := by
        have : ∀ lim f, zrF l f lim ≤ lim := by
          intro lim
          induction lim with
          | zero => intro f; exact Nat.le_refl _
          | succ lim ih =>
            intro f
            rw [zrF]
            split
            · have := ih (f + 1); omega
            · omega
        have := this 31 f
        omega
      have hn := numF_lt (fun i => l.getD (f + zrF l f 31 + i) false) (zrF l f 31 + 1)
      have hp : 2 ^ (zrF l f 31 + 1) ≤ 2 ^ 31 := Nat.pow_le_pow_right (by omega) (by omega)
      refine ⟨by show f < f + 2 * zrF l f 31 + 1; omega, by show f + 2 * zrF l f 31 + 1 ≤ l.length; omega, Nat.lt_of_lt_of_le hn hp⟩
theorem gamF_err (l : List Bool) (f : Nat) (h : (gamF l f).2.2 ≠ 0) : (gamF l f).1 = 0 ∧ (gamF l f).2.1 = 0 ∧ ((gamF l f).2.2 = 15 ∨ (gamF l f).2.2 = 16) := by
  unfold gamF at h ⊢
  split
  · exact ⟨rfl, rfl, .inr rfl⟩
  · split
    · exact ⟨rfl, rfl, .inl rfl⟩
    · rename_i h1 h2
      rw [if_neg h1, if_neg h2] at h
      exact absurd rfl h
/-- the token at a, where c bytes are missing, and the place behind it; or the error -/
def tokF (l : List Bool) (a c : Nat) : (Tk × Nat) ⊕ Nat :=
  if l.length ≤ a then .inr 15
  else if l.getD a false = false then
    if l.length < a + 9 then .inr 15 else .inl (.lit (UInt8.ofNat (valB ((l.drop (a + 1)).take 8))), a + 9)
  else if (gamF l (a + 1)).2.2 ≠ 0 then .inr (gamF l (a + 1)).2.2
  else if 1536 < (gamF l (a + 1)).1 then .inr 16
  else if (gamF l (gamF l (a + 1)).2.1).2.2 ≠ 0 then .inr (gamF l (gamF l (a + 1)).2.1).2.2
  else if c < (gamF l (gamF l (a + 1)).2.1).1 + 2 then .inr 16
  else .inl (.mat (gamF l (a + 1)).1 ((gamF l (gamF l (a + 1)).2.1).1 + 2), (gamF l (gamF l (a + 1)).2.1).2.1)
/-- the tokens from a on that stand for c bytes, behind those that came ahead, and the place behind them; or the error and where -/
def decF (l : List Bool) : Nat → Nat → Nat → List Tk → (List Tk × Nat) ⊕ (Nat × Nat)
  | 0, a, _, o => .inl (o, a)
  | fuel + 1, a, c, o =>
    if c = 0 then .inl (o, a)
    else match tokF l a c with
      | .inr z => .inr (z, a)
      | .inl (t, b) => decF l fuel b (c - t.len) (o ++ [t])
theorem decF_done (l : List Bool) (fuel a : Nat) (o : List Tk) : decF l fuel a 0 o = .inl (o, a) := by
  cases fuel <;> simp [decF]
theorem decF_err (l : List Bool) (fuel a c z : Nat) (o : List Tk) (hc : 1 ≤ c) (h : tokF l a c = .inr z) : decF l (fuel + 1) a c o = .inr (z, a) := by
  rw [decF, if_neg (by omega), h]
theorem decF_next (l : List Bool) (fuel a c b : Nat) (t : Tk) (o : List Tk) (hc : 1 ≤ c) (h : tokF l a c = .inl (t, b)) : decF l (fuel + 1) a c o = decF l fuel b (c - t.len) (o ++ [t]) := by
  rw [decF, if_neg (by omega), h]
/-- more fuel changes nothing -/
theorem tokF_len (l : List Bool) (a c b : Nat) (t : Tk) (h : tokF l a c = .inl (t, b)) : 1 ≤ t.len ∧ (1 ≤ c → t.len ≤ c) := by
  unfold tokF at h
  split at h
  · cases h
  · split at h
    · split at h
      · cases h
      · injection h with h
        injection h with h1 h2
        subst h1
        exact ⟨Nat.le_refl _, fun h => h⟩
    · split at h
      · cases h
      · split at h
        · cases h
        · split at h
          · cases h
          · split at h
            · cases h
            · rename_i hc
              injection h with h
              injection h with h1 h2
              subst h1
              refine ⟨?_, fun _ => ?_⟩
              · show 1 ≤ _ + 2; omega
              · show _ + 2 ≤ c; omega
end Go.Proofs.Ytcmbpniikcghfaa

namespace Go.Proofs.Ytcmbpniikcghfaa

/-- t can stand for the bytes from h on -/
def fits (X : List UInt8) (h : Nat) : Tk → Prop
  | .lit x => h < X.length ∧ x = X.getD h 0
  | .mat d n => (1 ≤ d ∧ d ≤ h) ∧ 3 ≤ n ∧ h + n ≤ X.length ∧ ∀ k, k < n → X.getD (h + k) 0 = X.getD (h + k - d) 0
/-- the cost of t at i, where K is the cost of the rest -/
def totalT (K : Nat → Nat) (i : Nat) (t : Tk) : Nat := t.cost + K (i + t.len)
/-- a goes ahead of b, or is b's like -/
def ahead (K : Nat → Nat) (i : Nat) (a b : Tk) : Prop := totalT K i a < totalT K i b ∨ (totalT K i a = totalT K i b ∧ (b.len < a.len ∨ (a.len = b.len ∧ a.dist ≤ b.dist)))
/-- the table of the cheapest tokens, from i on -/
def Tab (X : List UInt8) (D N : Nat) (K : Nat → Nat) (t : Nat → Tk) (i : Nat) : Prop :=
  K N = 0 ∧ ∀ p, i ≤ p → p < N → fits X (D + p) (t p) ∧ (∀ b, fits X (D + p) b → ahead K p (t p) b) ∧ K p = totalT K p (t p)
theorem fits_len {X : List UInt8} {h : Nat} {t : Tk} (hf : fits X h t) : 1 ≤ t.len ∧ h + t.len ≤ X.length := by
  cases t with
  | lit x => exact ⟨Nat.le_refl _, hf.1⟩
  | mat d n => exact ⟨by have := hf.2.1; show 1 ≤ n; omega, hf.2.2.1⟩
theorem fits_one {X : List UInt8} {h : Nat} {a b : Tk} (ha : fits X h a) (hb : fits X h b) (hl : a.len = b.len) (hd : a.dist = b.dist) : a = b := by
  cases a with
  | lit x =>
    cases b with
    | lit y => rw [ha.2, hb.2]
    | mat d n => have := hb.2.1; have : 1 = n := hl; omega
  | mat d n =>
    cases b with
    | lit y => have := ha.2.1; have : n = 1 := hl; omega
    | mat e m =>
      have h1 : n = m := hl
      have h2 : d = e := hd
      rw [h1, h2]
/-- two tables are one -/
theorem tab_one {X : List UInt8} {D N : Nat} (hX : X.length = D + N) {K K' : Nat → Nat} {t t' : Nat → Tk} (h : Tab X D N K t 0) (h' : Tab X D N K' t' 0) : ∀ m i, m + i = N → K i = K' i ∧ (i < N → t i = t' i) := by
  intro m
  induction m using Nat.strongRecOn with
  | ind m ih =>
    intro i hi
    by_cases h0 : i = N
    · subst h0
      exact ⟨h.1.trans h'.1.symm, fun hh => absurd hh (Nat.lt_irrefl _)⟩
    · have hlt : i < N := by omega
      obtain ⟨f1, a1, k1⟩ := h.2 i (Nat.zero_le _) hlt
      obtain ⟨f2, a2, k2⟩ := h'.2 i (Nat.zero_le _) hlt
      have same : ∀ b, fits X (D + i) b → totalT K i b = totalT K' i b := by
        intro b hb
        obtain ⟨l1, l2⟩ := fits_len hb
        unfold totalT
        rw [(ih (N - (i + b.len)) (by omega) (i + b.len) (by omega)).1]
      have g1 := a1 _ f2
      have g2 := a2 _ f1
      unfold ahead at g1 g2
      rw [same _ f1, same _ f2] at g1
      have hl : (t i).len = (t' i).len ∧ (t i).dist = (t' i).dist := by
        rcases g1 with g1 | ⟨e1, g1 | ⟨g1, g1'⟩⟩ <;> rcases g2 with g2 | ⟨e2, g2 | ⟨g2, g2'⟩⟩ <;> constructor <;> omega
      have ht := fits_one f1 f2 hl.1 hl.2
      exact ⟨by rw [k1, k2, same _ f1, ht], fun _ => ht⟩
/-- the tokens from i on -/
def pathT (t : Nat → Tk) (N : Nat) : Nat → Nat → List Tk
  | 0, _ => []
  | f + 1, i => if i < N then t i :: pathT t N f (i + (t i).len) else []
theorem path_one {N : Nat} {t t' : Nat → Tk} (h : ∀ i, i < N → t i = t' i) : ∀ f i, pathT t N f i = pathT t' N f i
  | 0, _ => rfl
  | f + 1, i => by
    rw [pathT, pathT]
    by_cases hi : i < N
    · rw [if_pos hi, if_pos hi, ← h i hi, path_one h f]
    · rw [if_neg hi, if_neg hi]
/-- more fuel changes nothing -/
theorem path_more {N : Nat} {t : Nat → Tk} (h : ∀ i, i < N → 1 ≤ (t i).len) : ∀ f g i, N ≤ i + f → N ≤ i + g → pathT t N f i = pathT t N g i
  | 0, 0, _, _, _ => rfl
  | 0, g + 1, i, h1, _ => by rw [pathT, pathT, if_neg (by omega)]
  | f + 1, 0, i, _, h2 => by rw [pathT, pathT, if_neg (by omega)]
  | f + 1, g + 1, i, h1, h2 => by
    rw [pathT, pathT]
    by_cases hi : i < N
    · have := h i hi
      rw [if_pos hi, if_pos hi, path_more h f g _ (by omega) (by omega)]
    · rw [if_neg hi, if_neg hi]
/-- b was looked at ahead of the match of n bytes at the distance d: distances fall, lengths rise -/
def seen (d n : Nat) : Tk → Prop
  | .lit _ => True
  | .mat e m => d < e ∨ (e = d ∧ m < n)
/-- a is the first of all that fit and were looked at -/
def Lead (X : List UInt8) (D : Nat) (K : Nat → Nat) (i d n : Nat) (a : Tk) : Prop := fits X (D + i) a ∧ ∀ b, fits X (D + i) b → seen d n b → ahead K i a b
theorem ahead_refl (K : Nat → Nat) (i : Nat) (a : Tk) : ahead K i a a := .inr ⟨rfl, .inr ⟨rfl, Nat.le_refl _⟩⟩
theorem lead_start (X : List UInt8) (D : Nat) (K : Nat → Nat) (i : Nat) (h : D + i < X.length) : Lead X D K i (D + i) 0 (.lit (X.getD (D + i) 0)) := by
  refine ⟨⟨h, rfl⟩, fun b hb hs => ?_⟩
  cases b with
  | lit x => rw [hb.2]; exact ahead_refl _ _ _
  | mat e m =>
    have := hb.1.2
    rcases hs with hs | ⟨_, hs⟩
    · omega
    · exact absurd hs (Nat.not_lt_zero _)
theorem seen_next {d n : Nat} {b : Tk} (h : seen d (n + 1) b) : seen d n b ∨ b = .mat d n := by
  cases b with
  | lit x => exact .inl trivial
  | mat e m =>
    rcases h with h | ⟨h1, h2⟩
    · exact .inl (.inl h)
    · by_cases h3 : m < n
      · exact .inl (.inr ⟨h1, h3⟩)
      · exact .inr (by rw [h1, show m = n by omega])
/-- the new match is taken -/
theorem lead_take {X : List UInt8} {D : Nat} {K : Nat → Nat} {i d n : Nat} {a : Tk} (h : Lead X D K i d n a) (hf : fits X (D + i) (.mat d n)) (hb : totalT K i (.mat d n) < totalT K i a ∨ (totalT K i (.mat d n) = totalT K i a ∧ a.len ≤ n)) : Lead X D K i d (n + 1) (.mat d n) := by
  refine ⟨hf, fun b hb2 hs => ?_⟩
  rcases seen_next hs with hs | rfl
  · have g := h.2 b hb2 hs
    unfold ahead at g ⊢
    show _ ∨ (_ ∧ (b.len < n ∨ (n = b.len ∧ d ≤ b.dist)))
    have h3 := hf.2.1
    cases b with
    | lit x =>
      have e1 : (Tk.lit x).len = 1 := rfl
      rw [e1] at g ⊢
      omega
    | mat e m =>
      have e1 : (Tk.mat e m).len = m := rfl
      have e2 : (Tk.mat e m).dist = e := rfl
      rw [e1, e2] at g ⊢
      have hs' : d < e ∨ (e = d ∧ m < n) := hs
      omega
  · exact ahead_refl _ _ _
/-- the new match is not taken -/
theorem lead_keep {X : List UInt8} {D : Nat} {K : Nat → Nat} {i d n : Nat} {a : Tk} (h : Lead X D K i d n a) (hb : ¬ (totalT K i (.mat d n) < totalT K i a ∨ (totalT K i (.mat d n) = totalT K i a ∧ a.len ≤ n))) : Lead X D K i d (n + 1) a := by
  refine ⟨h.1, fun b hb2 hs => ?_⟩
  rcases seen_next hs with hs | rfl
  · exact h.2 b hb2 hs
  · unfold ahead
    show _ ∨ (_ ∧ (n < a.len ∨ (a.len = n ∧ a.dist ≤ d)))
    omega
/-- all lengths of a distance were looked at -/
theorem lead_down {X : List UInt8} {D : Nat} {K : Nat → Nat} {i d m n : Nat} {a : Tk} (h : Lead X D K i d n a) (hd : 1 ≤ d) (hm : ∀ q, fits X (D + i) (.mat d q) → q ≤ m) (hn : m < n) : Lead X D K i (d - 1) 0 a := by
  refine ⟨h.1, fun b hb hs => h.2 b hb ?_⟩
  cases b with
  | lit x => trivial
  | mat e q =>
    rcases hs with hs | ⟨_, hs⟩
    · by_cases he : d < e
      · exact .inl he
      · have hed : e = d := by omega
        subst hed
        have := hm q hb
        exact .inr ⟨rfl, by omega⟩
    · exact absurd hs (Nat.not_lt_zero _)
theorem lead_low {X : List UInt8} {D : Nat} {K : Nat → Nat} {i d n : Nat} {a : Tk} (h : Lead X D K i d 0 a) (hn : n ≤ 3) : Lead X D K i d n a := by
  refine ⟨h.1, fun b hb hs => h.2 b hb ?_⟩
  cases b with
  | lit x => trivial
  | mat e q =>
    have := hb.2.1
    rcases hs with hs | ⟨_, hs⟩
    · exact .inl hs
    · omega
theorem lead_end {X : List UInt8} {D : Nat} {K : Nat → Nat} {i n : Nat} {a : Tk} (h : Lead X D K i 0 n a) : ∀ b, fits X (D + i) b → ahead K i a b := by
  intro b hb
  refine h.2 b hb ?_
  cases b with
  | lit x => trivial
  | mat e q => exact .inl hb.1.1
/-- totals hang on the rest alone -/
theorem total_same {K K' : Nat → Nat} {i : Nat} (h : ∀ p, i < p → K p = K' p) {a : Tk} (ha : 1 ≤ a.len) : totalT K i a = totalT K' i a := by
  unfold totalT
  rw [h _ (by omega)]
theorem tab_more {X : List UInt8} {D N : Nat} {K K' : Nat → Nat} {t t' : Nat → Tk} {i : Nat} (h : Tab X D N K t (i + 1)) (hi : i < N) (hK : ∀ p, i < p → K' p = K p) (ht : ∀ p, i < p → t' p = t p)
    (hf : fits X (D + i) (t' i)) (ha : ∀ b, fits X (D + i) b → ahead K i (t' i) b) (hk : K' i = totalT K i (t' i)) : Tab X D N K' t' i := by
  refine ⟨by rw [hK N hi]; exact h.1, fun p hp hpN => ?_⟩
  have same : ∀ b, fits X (D + p) b → totalT K' p b = totalT K p b := fun b hb => total_same (fun q hq => hK q (by omega)) (fits_len hb).1
  by_cases hpi : p = i
  · subst hpi
    refine ⟨hf, fun b hb => ?_, ?_⟩
    · have := ha b hb
      unfold ahead at this ⊢
      rw [same _ hf, same _ hb]
      exact this
    · rw [hk, same _ hf]
  · obtain ⟨f1, a1, k1⟩ := h.2 p (by omega) hpN
    rw [ht p (by omega)]
    refine ⟨f1, fun b hb => ?_, ?_⟩
    · have := a1 b hb
      unfold ahead at this ⊢
      rw [same _ f1, same _ hb]
      exact this
    · rw [hK p (by omega), k1, same _ f1]
/-- the cheapest way costs nine bits a byte at most -/
theorem tab_le {X : List UInt8} {D N : Nat} (hX : X.length = D + N) {K : Nat → Nat} {t : Nat → Tk} {i : Nat} (h : Tab X D N K t i) : ∀ m p, m + p = N → i ≤ p → K p ≤ 9 * m := by
  intro m
  induction m with
  | zero =>
    intro p hp _
    rw [show p = N by omega, h.1]
    exact Nat.le_refl _
  | succ m ih =>
    intro p hp hip
    obtain ⟨f1, a1, k1⟩ := h.2 p hip (by omega)
    have g := a1 (.lit (X.getD (D + p) 0)) ⟨by omega, rfl⟩
    have e : totalT K p (.lit (X.getD (D + p) 0)) = 9 + K (p + 1) := rfl
    have := ih (p + 1) (by omega) (by omega)
    unfold ahead at g
    rw [e, ← k1] at g
    omega
end Go.Proofs.Ytcmbpniikcghfaa

namespace Go.Proofs.Ytcmbpniikcghfaa

theorem zr_only {l : List Bool} {f lim k j : Nat} (hk : Zr l f lim k) (hj : Zr l f lim j) : k = j := by
  have half : ∀ {a b : Nat}, Zr l f lim a → Zr l f lim b → ¬ a < b := by
    intro a b ha hb h
    obtain ⟨_, _, _, e⟩ := ha
    obtain ⟨h1, h2, h3, _⟩ := hb
    have := h3 a h
    rcases e with e | e | e
    · omega
    · omega
    · rw [this] at e
      cases e
  have := half hk hj
  have := half hj hk
  omega
theorem mid_getD (P C Q : List Bool) (i : Nat) (h : i < C.length) : (P ++ C ++ Q).getD (P.length + i) false = C.getD i false := by
  rw [List.getD_eq_getElem?_getD, List.getD_eq_getElem?_getD, List.getElem?_append_left (by rw [List.length_append]; omega), List.getElem?_append_right (by omega), Nat.add_sub_cancel_left]
theorem gamL_getD (v i : Nat) : (gamL v).getD i false = (decide (i < 2 * Nat.log2 v + 1) && v.testBit (2 * Nat.log2 v - i)) := by
  rw [gamL, digB_getD, show Nat.log2 v + (Nat.log2 v + 1) = 2 * Nat.log2 v + 1 by omega, show 2 * Nat.log2 v + 1 - 1 - i = 2 * Nat.log2 v - i by omega]
theorem top_bit (v : Nat) (h : 1 ≤ v) : v.testBit (Nat.log2 v) = true := by
  have h1 : 2 ^ Nat.log2 v ≤ v := Nat.log2_self_le (by omega)
  have h2 : v < 2 ^ (Nat.log2 v + 1) := Nat.lt_log2_self
  have h3 : v / 2 ^ Nat.log2 v = 1 := by
    rw [Nat.pow_succ] at h2
    exact Nat.div_eq_of_lt_le (by omega) (by omega)
  rw [Nat.testBit_eq_decide_div_mod_eq, h3]
  rfl
theorem high_bit (v i : Nat) (h : Nat.log2 v < i) : v.testBit i = false :=
  Nat.testBit_lt_two_pow (Nat.lt_of_lt_of_le Nat.lt_log2_self (Nat.pow_le_pow_right (by omega) (by omega)))
theorem gamF_gamL (P Q : List Bool) (v : Nat) (h1 : 1 ≤ v) (h2 : v < 2147483648) : gamF (P ++ gamL v ++ Q) P.length = (v, P.length + (gamL v).length, 0) := by
  obtain ⟨l, hl⟩ : ∃ l, l = P ++ gamL v ++ Q := ⟨_, rfl⟩
  have hg : ∀ i, i < 2 * Nat.log2 v + 1 → l.getD (P.length + i) false = v.testBit (2 * Nat.log2 v - i) := by
    intro i hi
    rw [hl, mid_getD _ _ _ _ (by rw [gamL_length]; exact hi), gamL_getD, decide_eq_true hi, Bool.true_and]
  have hlen : l.length = P.length + (2 * Nat.log2 v + 1) + Q.length := by rw [hl, List.length_append, List.length_append, gamL_length]
  have hz : Nat.log2 v < 31 := (Nat.log2_lt (by omega)).2 (by omega)
  have hzr : Zr l P.length 31 (Nat.log2 v) := ⟨by omega, by omega, fun i hi => by rw [hg i (by omega)]; exact high_bit v _ (by omega), .inr (.inr (by rw [hg _ (by omega), show 2 * Nat.log2 v - Nat.log2 v = Nat.log2 v by omega]; exact top_bit v h1))⟩
  have he : zrF l P.length 31 = Nat.log2 v := zr_only (zrF_is l 31 P.length (by omega)) hzr
  rw [← hl]
  unfold gamF
  rw [he, if_neg (by omega), if_neg (by omega), gamL_length]
  have hn : numF (fun i => l.getD (P.length + Nat.log2 v + i) false) (Nat.log2 v + 1) = v := by
    refine (numF_congr (g := fun i => v.testBit (Nat.log2 v + 1 - 1 - i)) fun i hi => ?_).trans (numF_digits v (Nat.log2 v + 1) Nat.lt_log2_self)
    rw [Nat.add_assoc, hg _ (by omega)]
    congr 1
    omega
  rw [hn]
  rfl
theorem tokF_code (P Q : List Bool) (t : Tk) (c : Nat) (hok : t.ok) (hc : t.len ≤ c) : tokF (P ++ t.code ++ Q) P.length c = .inl (t, P.length + t.code.length) := by
  obtain ⟨l, hl⟩ : ∃ l, l = P ++ t.code ++ Q := ⟨_, rfl⟩
  have hlen : l.length = P.length + t.code.length + Q.length := by rw [hl, List.length_append, List.length_append]
  have hg : ∀ i, i < t.code.length → l.getD (P.length + i) false = t.code.getD i false := fun i hi => by rw [hl]; exact mid_getD _ _ _ _ hi
  rw [← hl]
  cases t with
  | lit x =>
    have hcl : (Tk.lit x).code.length = 9 := by rw [Tk.code, digB_length]
    rw [hcl] at hlen hg ⊢
    have hx : x.toNat < 256 := UInt8.toNat_lt x
    have h0 : l.getD P.length false = false := by
      have := hg 0 (by omega)
      rw [Nat.add_zero] at this
      rw [this, Tk.code, digB_getD]
      simp only [Nat.zero_lt_succ, decide_true, Bool.true_and]
      exact Nat.testBit_lt_two_pow (by omega)
    have hp : (l.drop (P.length + 1)).take 8 = digB x.toNat 8 := by
      apply List.ext_getElem
      · rw [List.length_take, List.length_drop, digB_length]
        omega
      · intro i a1 a2
        rw [digB_length] at a2
        have e1 := hg (i + 1) (by omega)
        rw [Tk.code, digB_getD, decide_eq_true (by omega), Bool.true_and] at e1
        have e2 : ((l.drop (P.length + 1)).take 8)[i] = l.getD (P.length + (i + 1)) false := by
          rw [List.getElem_take, List.getElem_drop, List.getD_eq_getElem?_getD, List.getElem?_eq_getElem (by omega)]
          simp only [Option.getD_some]
          congr 1
          omega
        rw [e2, e1]
        simp only [digB, List.getElem_map, List.getElem_range]
        congr 1
        omega
    unfold tokF
    rw [if_neg (by omega), if_pos h0, if_neg (by omega), hp, valB_digB _ _ (by omega)]
    have hu : UInt8.ofNat x.toNat = x := UInt8.ofNat_toNat
    rw [hu]
  | mat d n =>
    obtain ⟨o1, o2, o3, o4⟩ := hok
    have hcode : (Tk.mat d n).code = true :: (gamL d ++ gamL (n - 2)) := rfl
    have hcl : (Tk.mat d n).code.length = 1 + (gamL d).length + (gamL (n - 2)).length := by rw [hcode, List.length_cons, List.length_append]; omega
    have hc2 : n ≤ c := hc
    have hgp := gamL_length d
    have h0 : l.getD P.length false = true := by
      have := hg 0 (by omega)
      rw [Nat.add_zero] at this
      rw [this, hcode]
      rfl
    have hl1 : l = (P ++ [true]) ++ gamL d ++ (gamL (n - 2) ++ Q) := by rw [hl, hcode]; simp
    have hl2 : l = (P ++ [true] ++ gamL d) ++ gamL (n - 2) ++ Q := by rw [hl, hcode]; simp
    have g1 := gamF_gamL (P ++ [true]) (gamL (n - 2) ++ Q) d o1 (by omega)
    rw [← hl1, show (P ++ [true]).length = P.length + 1 by rw [List.length_append]; rfl] at g1
    have g2 := gamF_gamL (P ++ [true] ++ gamL d) Q (n - 2) (by omega) (by omega)
    rw [← hl2, show (P ++ [true] ++ gamL d).length = P.length + 1 + (gamL d).length by rw [List.length_append, List.length_append]; rfl] at g2
    unfold tokF
    rw [g1]
    simp only
    rw [g2]
    simp only
    rw [if_neg (by omega), if_neg (by rw [h0]; simp), if_neg (by simp), if_neg (by omega), if_neg (by simp), if_neg (by omega), hcl, show n - 2 + 2 = n by omega]
    congr 2
    omega
theorem decF_code : ∀ (l : List Tk) (P Q : List Bool) (o : List Tk) (f : Nat), GoodT l → l.length ≤ f → decF (P ++ codeT l ++ Q) f P.length (lenT l) o = .inl (o ++ l, P.length + (codeT l).length)
  | [], P, Q, o, f, _, _ => by
    rw [show lenT [] = 0 from rfl, decF_done, List.append_nil]
    rfl
  | t :: l, P, Q, o, f, hg, hf => by
    obtain ⟨f, rfl⟩ : ∃ g, f = g + 1 := ⟨f - 1, by rw [List.length_cons] at hf; omega⟩
    have hok := hg t List.mem_cons_self
    have hlen : lenT (t :: l) = t.len + lenT l := by unfold lenT; rw [List.map_cons, List.sum_cons]
    have ht1 : 1 ≤ t.len := by
      cases t with
      | lit x => exact Nat.le_refl _
      | mat d n => have := hok.2.2.1; show 1 ≤ n; omega
    have hcode : codeT (t :: l) = t.code ++ codeT l := by unfold codeT; rw [List.map_cons, List.flatten_cons]
    have hl : P ++ codeT (t :: l) ++ Q = P ++ t.code ++ (codeT l ++ Q) := by rw [hcode]; simp
    have h1 := tokF_code P (codeT l ++ Q) t (lenT (t :: l)) hok (by omega)
    rw [hl, decF_next _ _ _ _ _ _ _ (by omega) h1, hlen, Nat.add_sub_cancel_left]
    have ih := decF_code l (P ++ t.code) Q (o ++ [t]) f (fun c hc => hg c (List.mem_cons_of_mem _ hc)) (by rw [List.length_cons] at hf; omega)
    rw [List.length_append] at ih
    rw [show P ++ t.code ++ (codeT l ++ Q) = P ++ t.code ++ codeT l ++ Q by simp, ih, hcode, List.length_append]
    simp [Nat.add_assoc]
end Go.Proofs.Ytcmbpniikcghfaa

namespace Go.Proofs.Ytcmbpniikcghfaa

theorem getD_take0 (X : List UInt8) (h k : Nat) (hk : k < h) : (X.take h).getD k 0 = X.getD k 0 := by
  rw [List.getD_eq_getElem?_getD, List.getD_eq_getElem?_getD, List.getElem?_take, if_pos hk]
theorem take_snoc (X : List UInt8) (h : Nat) (hl : h < X.length) : X.take h ++ [X.getD h 0] = X.take (h + 1) := by
  rw [List.take_succ_eq_append_getElem hl, List.getD_eq_getElem?_getD, List.getElem?_eq_getElem hl]
  rfl
theorem copy_take (X : List UInt8) (h d n : Nat) (hd : 1 ≤ d) (hdh : d ≤ h) (hn : h + n ≤ X.length) (he : ∀ k, k < n → X.getD (h + k) 0 = X.getD (h + k - d) 0) : ∀ k, k ≤ n → copyN d k (X.take h) = X.take (h + k)
  | 0, _ => rfl
  | k + 1, hk => by
    rw [copyN_snoc, copy_take X h d n hd hdh hn he k (by omega), List.length_take, Nat.min_eq_left (by omega), getD_take0 X (h + k) _ (by omega), ← he k (by omega)]
    exact take_snoc X (h + k) (by omega)
theorem fits_put {X : List UInt8} {h : Nat} {t : Tk} (hf : fits X h t) : t.put (X.take h) = X.take (h + t.len) := by
  cases t with
  | lit x =>
    obtain ⟨h1, h2⟩ := hf
    rw [h2]
    exact take_snoc X h h1
  | mat d n =>
    obtain ⟨⟨h1, h2⟩, h3, h4, h5⟩ := hf
    exact copy_take X h d n h1 h2 h4 h5 n (Nat.le_refl _)
theorem fits_dist {X : List UInt8} {h : Nat} {t : Tk} (hf : fits X h t) : t.dist ≤ h := by
  cases t with
  | lit x => exact Nat.zero_le _
  | mat d n => exact hf.1.2
theorem run_path {X : List UInt8} {D N : Nat} (hX : X.length = D + N) (hN : N ≤ 1024) {K : Nat → Nat} {t : Nat → Tk} (h : Tab X D N K t 0) : ∀ f i idx, N ≤ i + f → i ≤ N → runT D (pathT t N f i) (X.take (D + i)) idx = .inl X
  | 0, i, idx, h1, h2 => by
    rw [pathT, runT, List.take_of_length_le (by omega)]
  | f + 1, i, idx, h1, h2 => by
    rw [pathT]
    by_cases hi : i < N
    · rw [if_pos hi]
      obtain ⟨hf, _, _⟩ := h.2 i (Nat.zero_le _) hi
      obtain ⟨l1, l2⟩ := fits_len hf
      have hd := fits_dist hf
      have hl : (X.take (D + i)).length = D + i := by rw [List.length_take]; omega
      rw [runT_next _ _ _ _ _ (by rw [hl]; omega) (by rw [hl]; omega), fits_put hf, Nat.add_assoc]
      exact run_path hX hN h f (i + (t i).len) (idx + 1) (by omega) (by omega)
    · rw [if_neg hi, runT, List.take_of_length_le (by omega)]
theorem cost_path {X : List UInt8} {D N : Nat} (hX : X.length = D + N) {K : Nat → Nat} {t : Nat → Tk} (h : Tab X D N K t 0) : ∀ f i, N ≤ i + f → i ≤ N → costT (pathT t N f i) = K i
  | 0, i, h1, h2 => by
    rw [pathT, show i = N by omega, h.1]
    rfl
  | f + 1, i, h1, h2 => by
    rw [pathT]
    by_cases hi : i < N
    · rw [if_pos hi]
      obtain ⟨hf, _, hk⟩ := h.2 i (Nat.zero_le _) hi
      obtain ⟨l1, l2⟩ := fits_len hf
      have ih := cost_path hX h f (i + (t i).len) (by omega) (by omega)
      rw [hk, totalT, ← ih]
      unfold costT
      rw [List.map_cons, List.sum_cons]
    · rw [if_neg hi, show i = N by omega, h.1]
      rfl
theorem good_path {X : List UInt8} {D N : Nat} (hX : X.length = D + N) (hN : N ≤ 1024) (hD : D ≤ 512) {K : Nat → Nat} {t : Nat → Tk} (h : Tab X D N K t 0) : ∀ f i, GoodT (pathT t N f i)
  | 0, i => fun c hc => by cases hc
  | f + 1, i => by
    rw [pathT]
    by_cases hi : i < N
    · rw [if_pos hi]
      obtain ⟨hf, _, _⟩ := h.2 i (Nat.zero_le _) hi
      intro c hc
      rcases List.mem_cons.1 hc with rfl | hc
      · cases hq : t i with
        | lit x => trivial
        | mat d n =>
          rw [hq] at hf
          obtain ⟨⟨h1, h2⟩, h3, h4, _⟩ := hf
          exact ⟨h1, by omega, h3, by omega⟩
      · exact good_path hX hN hD h f _ c hc
    · rw [if_neg hi]
      exact fun c hc => by cases hc
theorem path_len {X : List UInt8} {D N : Nat} {K : Nat → Nat} {t : Nat → Tk} (h : Tab X D N K t 0) : ∀ f i, (pathT t N f i).length ≤ N - i
  | 0, i => Nat.zero_le _
  | f + 1, i => by
    rw [pathT]
    by_cases hi : i < N
    · rw [if_pos hi, List.length_cons]
      have := (fits_len (h.2 i (Nat.zero_le _) hi).1).1
      have := path_len h f (i + (t i).len)
      omega
    · rw [if_neg hi]
      exact Nat.zero_le _
/-- what is there stays in front -/
theorem copyN_pre (d : Nat) : ∀ (n : Nat) (W : List UInt8), W <+: copyN d n W
  | 0, W => List.prefix_refl _
  | n + 1, W => by rw [copyN]; exact (List.prefix_append _ _).trans (copyN_pre d n _)
theorem put_pre (t : Tk) (W : List UInt8) : W <+: t.put W := by
  cases t with
  | lit x => exact List.prefix_append _ _
  | mat d n => exact copyN_pre d n W
theorem runT_pre (D : Nat) : ∀ (l : List Tk) (W Y : List UInt8) (i : Nat), runT D l W i = .inl Y → W <+: Y
  | [], W, Y, i, h => by
    rw [runT] at h
    injection h with h
    rw [h]
    exact List.prefix_refl _
  | t :: l, W, Y, i, h => by
    rw [runT] at h
    split at h
    · cases h
    · split at h
      · cases h
      · exact (put_pre t W).trans (runT_pre D l _ Y _ h)
theorem pre_getD {W Y : List UInt8} (h : W <+: Y) (k : Nat) (hk : k < W.length) : Y.getD k 0 = W.getD k 0 := by
  obtain ⟨Z, rfl⟩ := h
  rw [List.getD_eq_getElem?_getD, List.getD_eq_getElem?_getD, List.getElem?_append_left hk]
/-- each byte that is copied is that d bytes before it -/
theorem copyN_at (d : Nat) (hd : 1 ≤ d) : ∀ (n : Nat) (W : List UInt8), d ≤ W.length → ∀ k, k < n → (copyN d n W).getD (W.length + k) 0 = (copyN d n W).getD (W.length + k - d) 0
  | 0, W, _, k, hk => absurd hk (Nat.not_lt_zero _)
  | n + 1, W, hW, k, hk => by
    rw [copyN]
    have hl : (W ++ [W.getD (W.length - d) 0]).length = W.length + 1 := by rw [List.length_append]; rfl
    cases k with
    | zero =>
      have hp := copyN_pre d n (W ++ [W.getD (W.length - d) 0])
      rw [Nat.add_zero, pre_getD hp W.length (by omega), pre_getD hp (W.length - d) (by omega)]
      have e1 : (W ++ [W.getD (W.length - d) 0]).getD W.length 0 = W.getD (W.length - d) 0 := by
        rw [List.getD_eq_getElem?_getD, List.getElem?_append_right (Nat.le_refl _), Nat.sub_self]
        rfl
      have e2 : (W ++ [W.getD (W.length - d) 0]).getD (W.length - d) 0 = W.getD (W.length - d) 0 := by
        rw [List.getD_eq_getElem?_getD, List.getElem?_append_left (by omega), List.getD_eq_getElem?_getD]
      rw [e1, e2]
    | succ k =>
      have ih := copyN_at d hd n (W ++ [W.getD (W.length - d) 0]) (by omega) k (by omega)
      rw [hl, show W.length + 1 + k = W.length + (k + 1) by omega] at ih
      exact ih
/-- a token whose bytes stand there fits -/
theorem fits_of_put {X : List UInt8} {h : Nat} (hh : h ≤ X.length) {t : Tk} (hok : t.ok) (hd : ¬ (X.take h).length < t.dist) (hp : t.put (X.take h) <+: X) : fits X h t ∧ t.put (X.take h) = X.take (h + t.len) := by
  have hl : (X.take h).length = h := by rw [List.length_take]; omega
  have hpl := put_length t (X.take h)
  have hple := hp.length_le
  rw [hl] at hd hpl
  rw [hpl] at hple
  have heq : t.put (X.take h) = X.take (h + t.len) := by
    rw [← hpl]
    exact (List.prefix_iff_eq_take.1 hp)
  refine ⟨?_, heq⟩
  cases t with
  | lit x =>
    have hl1 : (Tk.lit x).len = 1 := rfl
    rw [hl1] at hple heq
    refine ⟨by omega, ?_⟩
    have e : X.take h ++ [x] = X.take (h + 1) := heq
    rw [← take_snoc X h (by omega)] at e
    have := List.append_cancel_left e
    injection this
  | mat d n =>
    have hl1 : (Tk.mat d n).len = n := rfl
    have hl2 : (Tk.mat d n).dist = d := rfl
    rw [hl1] at hple
    rw [hl2] at hd
    obtain ⟨o1, o2, o3, o4⟩ := hok
    refine ⟨⟨o1, by omega⟩, o3, hple, fun k hk => ?_⟩
    have hc := copyN_at d o1 n (X.take h) (by rw [hl]; omega) k hk
    rw [hl] at hc
    have hcl : (copyN d n (X.take h)).length = h + n := by rw [copyN_length, hl]
    have hp2 : copyN d n (X.take h) <+: X := hp
    rw [pre_getD hp2 (h + k) (by omega), pre_getD hp2 (h + k - d) (by omega)]
    exact hc
/-- no tokens that stand for the same bytes cost less -/
theorem cost_least {X : List UInt8} {D N : Nat} (hX : X.length = D + N) {K : Nat → Nat} {t : Nat → Tk} (h : Tab X D N K t 0) : ∀ (l : List Tk) (i idx : Nat), GoodT l → i ≤ N → runT D l (X.take (D + i)) idx = .inl X → K i ≤ costT l
  | [], i, idx, _, hi, hr => by
    rw [runT] at hr
    injection hr with hr
    have := congrArg List.length hr
    rw [List.length_take] at this
    rw [show i = N by omega, h.1]
    exact Nat.zero_le _
  | q :: l, i, idx, hg, hi, hr => by
    have hq := hg q List.mem_cons_self
    rw [runT] at hr
    split at hr
    · cases hr
    · rename_i hd
      split at hr
      · cases hr
      · obtain ⟨hf, hp⟩ := fits_of_put (by omega) hq hd (runT_pre D l _ X _ hr)
        obtain ⟨l1, l2⟩ := fits_len hf
        rw [hp, Nat.add_assoc] at hr
        have ih := cost_least hX h l (i + q.len) (idx + 1) (fun c hc => hg c (List.mem_cons_of_mem _ hc)) (by omega) hr
        obtain ⟨_, ha, hk⟩ := h.2 i (Nat.zero_le _) (by omega)
        have g := ha q hf
        unfold ahead at g
        rw [← hk] at g
        have e : totalT K i q = q.cost + K (i + q.len) := rfl
        unfold costT at ih ⊢
        rw [List.map_cons, List.sum_cons]
        omega
theorem fits_more (M X : List UInt8) {h : Nat} {t : Tk} (hf : fits X h t) : fits (M ++ X) (M.length + h) t := by
  have hg : ∀ k, (M ++ X).getD (M.length + k) 0 = X.getD k 0 := fun k => by
    rw [List.getD_eq_getElem?_getD, List.getD_eq_getElem?_getD, List.getElem?_append_right (by omega), Nat.add_sub_cancel_left]
  cases t with
  | lit x => exact ⟨by have := hf.1; rw [List.length_append]; omega, by rw [hg]; exact hf.2⟩
  | mat d n =>
    obtain ⟨⟨h1, h2⟩, h3, h4, h5⟩ := hf
    refine ⟨⟨h1, by omega⟩, h3, by rw [List.length_append]; omega, fun k hk => ?_⟩
    rw [Nat.add_assoc, hg, show M.length + (h + k) - d = M.length + (h + k - d) by omega, hg]
    exact h5 k hk
/-- with more bytes ahead of the dictionary the cheapest way costs no more -/
theorem cost_more {M X : List UInt8} {D N : Nat} (hX : X.length = D + N) {K K' : Nat → Nat} {t t' : Nat → Tk} (h : Tab X D N K t 0) (h' : Tab (M ++ X) (M.length + D) N K' t' 0) : ∀ m i, m + i = N → K' i ≤ K i := by
  intro m
  induction m using Nat.strongRecOn with
  | ind m ih =>
    intro i hi
    by_cases h0 : i = N
    · subst h0
      rw [h.1, h'.1]
      exact Nat.le_refl _
    · obtain ⟨f1, _, k1⟩ := h.2 i (Nat.zero_le _) (by omega)
      obtain ⟨_, a2, k2⟩ := h'.2 i (Nat.zero_le _) (by omega)
      obtain ⟨l1, l2⟩ := fits_len f1
      have f2 := fits_more M X f1
      rw [← Nat.add_assoc] at f2
      have g := a2 _ f2
      unfold ahead at g
      rw [← k2] at g
      have e : totalT K' i (t i) = (t i).cost + K' (i + (t i).len) := rfl
      have e2 : totalT K i (t i) = (t i).cost + K (i + (t i).len) := rfl
      have := ih (N - (i + (t i).len)) (by omega) (i + (t i).len) (by omega)
      omega
theorem len_path {X : List UInt8} {D N : Nat} (hX : X.length = D + N) {K : Nat → Nat} {t : Nat → Tk} (h : Tab X D N K t 0) : ∀ f i, N ≤ i + f → i ≤ N → lenT (pathT t N f i) = N - i
  | 0, i, h1, h2 => by
    rw [pathT, show N - i = 0 by omega]
    rfl
  | f + 1, i, h1, h2 => by
    rw [pathT]
    by_cases hi : i < N
    · rw [if_pos hi]
      obtain ⟨l1, l2⟩ := fits_len (h.2 i (Nat.zero_le _) hi).1
      have ih := len_path hX h f (i + (t i).len) (by omega) (by omega)
      unfold lenT at ih ⊢
      rw [List.map_cons, List.sum_cons, ih]
      omega
    · rw [if_neg hi, show N - i = 0 by omega]
      rfl
end Go.Proofs.Ytcmbpniikcghfaa

namespace Go.Proofs.Ytcmbpniikcghfaa

/-- the letter a, and a match of three bytes at the distance 1 -/
def exl : List Tk := [.lit 97, .mat 1 3]
def aaaa : List UInt8 := [97, 97, 97, 97]
def exK (i : Nat) : Nat := [12, 3, 18, 9, 0].getD i 0
def exT (i : Nat) : Tk := if i = 1 then .mat 1 3 else .lit 97
theorem aaaa_at (k : Nat) (h : k < 4) : aaaa.getD k 0 = 97 := by
  rcases k with _ | _ | _ | _ | k
  · rfl
  · rfl
  · rfl
  · rfl
  · omega
theorem ex_tab : Tab aaaa 0 4 exK exT 0 := by
  have l1 : Nat.log2 1 = 0 := by decide
  have c1 : (Tk.mat 1 3).cost = 3 := by show 1 + (2 * Nat.log2 1 + 1) + (2 * Nat.log2 1 + 1) = 3; rw [l1]
  refine ⟨rfl, fun p _ hp => ?_⟩
  have hmat : ∀ d n, fits aaaa (0 + p) (.mat d n) → p = 1 ∧ d = 1 ∧ n = 3 := by
    rintro d n ⟨⟨h1, h2⟩, h3, h4, _⟩
    have h4' : 0 + p + n ≤ 4 := h4
    omega
  have hlit : fits aaaa (0 + p) (.lit 97) := ⟨by show 0 + p < 4; omega, by rw [Nat.zero_add, aaaa_at p hp]⟩
  have hb : ∀ b, fits aaaa (0 + p) b → b = .lit 97 ∨ (p = 1 ∧ b = .mat 1 3) := by
    intro b hb
    cases b with
    | lit x => exact .inl (by rw [hb.2, Nat.zero_add, aaaa_at p hp])
    | mat d n =>
      obtain ⟨h1, h2, h3⟩ := hmat d n hb
      exact .inr ⟨h1, by rw [h2, h3]⟩
  by_cases h1 : p = 1
  · subst h1
    have hm : fits aaaa (0 + 1) (.mat 1 3) := ⟨⟨by omega, by omega⟩, by omega, by show 0 + 1 + 3 ≤ 4; omega, fun k hk => by rw [aaaa_at _ (by omega), aaaa_at _ (by omega)]⟩
    refine ⟨hm, fun b hbb => ?_, ?_⟩
    · rcases hb b hbb with rfl | ⟨_, rfl⟩
      · refine .inl ?_
        show (Tk.mat 1 3).cost + exK (1 + 3) < 9 + exK (1 + 1)
        rw [c1]
        decide
      · exact ahead_refl _ _ _
    · show exK 1 = (Tk.mat 1 3).cost + exK (1 + 3)
      rw [c1]
      rfl
  · have ht : exT p = .lit 97 := if_neg h1
    rw [ht]
    refine ⟨hlit, fun b hbb => ?_, ?_⟩
    · rcases hb b hbb with rfl | ⟨h, _⟩
      · exact ahead_refl _ _ _
      · exact absurd h h1
    · show exK p = 9 + exK (p + 1)
      rcases p with _ | _ | _ | _ | p
      · rfl
      · exact absurd rfl h1
      · rfl
      · rfl
      · omega
theorem ex_path {K : Nat → Nat} {t : Nat → Tk} (h : Tab aaaa 0 4 K t 0) : pathT t 4 4 0 = exl := by
  rw [path_one (t' := exT) (fun i hi => (tab_one (X := aaaa) (D := 0) (N := 4) rfl h ex_tab (4 - i) i (by omega)).2 hi) 4 0]
  rfl
theorem ex_good : GoodT exl := fun t ht => by
  rcases List.mem_cons.1 ht with rfl | ht
  · trivial
  · obtain rfl := List.mem_singleton.1 ht
    exact ⟨by omega, by omega, by omega, by omega⟩
theorem ex_code : (codeT exl).length = 12 := by
  rw [codeT_length]
  show 9 + ((1 + (2 * Nat.log2 1 + 1) + (2 * Nat.log2 1 + 1)) + 0) = 12
  rw [show Nat.log2 1 = 0 by decide]
theorem ex_dec : decF (codeT exl) 4 0 4 [] = .inl (exl, 12) := by
  have h := decF_code exl [] [] [] 4 ex_good (by decide)
  rw [List.nil_append, List.append_nil, List.nil_append, ex_code] at h
  exact h
theorem ex_run : runT 3 [.mat 3 4] [97, 98, 99] 0 = .inl [97, 98, 99, 97, 98, 99, 97] := by decide
theorem ex_cost : costT [.mat 2 5] = 7 := by
  show (1 + (2 * Nat.log2 2 + 1) + (2 * Nat.log2 3 + 1)) + 0 = 7
  rw [show Nat.log2 2 = 1 by decide, show Nat.log2 3 = 1 by decide]
end Go.Proofs.Ytcmbpniikcghfaa
