/-
  Dictionaries: plain functions of no program: where parts occur, the order of segments, joining, training; what a dictionary saves.
-/
import Derived.Test.YtcmbpniikcghfaaTPlain
namespace Go.Proofs.Ytcmbpniikcghfaa

/-- P occurs in X -/
def occB (X P : List UInt8) : Bool := (List.range (X.length + 1 - P.length)).any fun i => decide ((X.drop i).take P.length = P)
theorem occB_iff (X P : List UInt8) : occB X P = true ↔ ∃ i, i + P.length ≤ X.length ∧ (X.drop i).take P.length = P := by
  unfold occB
  rw [List.any_eq_true]
  constructor
  · rintro ⟨i, hi, h⟩
    rw [List.mem_range] at hi
    exact ⟨i, by omega, of_decide_eq_true h⟩
  · rintro ⟨i, hi, h⟩
    exact ⟨i, List.mem_range.2 (by omega), decide_eq_true h⟩
theorem occ_infix (a P b : List UInt8) : occB (a ++ P ++ b) P = true :=
  (occB_iff _ _).2 ⟨a.length, by simp only [List.length_append]; omega, by rw [List.append_assoc, List.drop_left, List.take_left]⟩
theorem infix_occ {X P : List UInt8} (h : occB X P = true) : ∃ a b, X = a ++ P ++ b := by
  obtain ⟨i, hi, h⟩ := (occB_iff _ _).1 h
  refine ⟨X.take i, X.drop (i + P.length), ?_⟩
  conv => lhs; rw [← List.take_append_drop i X, ← List.take_append_drop P.length (X.drop i), h, List.drop_drop]
  rw [List.append_assoc]
/-- the number of samples in which P occurs -/
def freqB (Ss : List (List UInt8)) (P : List UInt8) : Nat := Ss.countP fun X => occB X P
theorem freq_le (Ss : List (List UInt8)) (P : List UInt8) : freqB Ss P ≤ Ss.length := List.countP_le_length
theorem freq_take (Ss : List (List UInt8)) (P X : List UInt8) (i : Nat) (h : Ss[i]? = some X) : freqB (Ss.take (i + 1)) P = freqB (Ss.take i) P + (if occB X P = true then 1 else 0) := by
  obtain ⟨hi, h⟩ := List.getElem?_eq_some_iff.1 h
  unfold freqB
  rw [List.take_succ_eq_append_getElem hi, List.countP_append, h, List.countP_singleton]

/-! ### the order of byte strings -/
abbrev ltS (a b : List UInt8) : Bool := Op.bytesLess a b
theorem lt_cons (a b : UInt8) (x y : List UInt8) : ltS (a :: x) (b :: y) = (decide (a < b) || (a == b && ltS x y)) := by
  show Op.bytesLess (a :: x) (b :: y) = _
  rw [Op.bytesLess]
theorem ltS_irrefl (a : List UInt8) : ltS a a = false := by
  induction a with
  | nil => rfl
  | cons x a ih =>
    have h : ¬ x < x := UInt8.lt_irrefl x
    rw [lt_cons, ih, decide_eq_false h]
    simp
theorem ltS_trans {a b c : List UInt8} (h1 : ltS a b = true) (h2 : ltS b c = true) : ltS a c = true := by
  induction a generalizing b c with
  | nil =>
    cases c with
    | nil => cases b <;> simp [ltS, Op.bytesLess] at h2
    | cons z c => rfl
  | cons x a ih =>
    cases b with
    | nil => simp [ltS, Op.bytesLess] at h1
    | cons y b =>
      cases c with
      | nil => simp [ltS, Op.bytesLess] at h2
      | cons z c =>
        rw [lt_cons, Bool.or_eq_true, Bool.and_eq_true, decide_eq_true_eq, beq_iff_eq] at h1 h2 ⊢
        rcases h1 with h1 | ⟨rfl, h1⟩
        · rcases h2 with h2 | ⟨rfl, h2⟩
          · exact .inl (UInt8.lt_trans h1 h2)
          · exact .inl h1
        · rcases h2 with h2 | ⟨rfl, h2⟩
          · exact .inl h2
          · exact .inr ⟨rfl, ih h1 h2⟩
theorem ltS_total (a b : List UInt8) : ltS a b = true ∨ a = b ∨ ltS b a = true := by
  induction a generalizing b with
  | nil =>
    cases b with
    | nil => exact .inr (.inl rfl)
    | cons y b => exact .inl rfl
  | cons x a ih =>
    cases b with
    | nil => exact .inr (.inr rfl)
    | cons y b =>
      rw [lt_cons, lt_cons, Bool.or_eq_true, Bool.or_eq_true, Bool.and_eq_true, Bool.and_eq_true, decide_eq_true_eq, decide_eq_true_eq, beq_iff_eq, beq_iff_eq]
      by_cases h1 : x < y
      · exact .inl (.inl h1)
      · by_cases h2 : y < x
        · exact .inr (.inr (.inl h2))
        · have h3 : x = y := UInt8.le_antisymm (UInt8.not_lt.1 h2) (UInt8.not_lt.1 h1)
          subst h3
          rcases ih b with h | rfl | h
          · exact .inl (.inr ⟨rfl, h⟩)
          · exact .inr (.inl rfl)
          · exact .inr (.inr (.inr ⟨rfl, h⟩))
/-- what Go's > says of strings -/
theorem gtS (a b : List UInt8) : (!(ltS a b || a == b)) = ltS b a := by
  rcases ltS_total a b with h | rfl | h
  · have h2 : ltS b a = false := by
      cases h3 : ltS b a with
      | false => rfl
      | true =>
        have := ltS_trans h h3
        rw [ltS_irrefl] at this
        cases this
    rw [h, h2]
    rfl
  · rw [ltS_irrefl]
    simp
  · have h2 : ltS a b = false := by
      cases h3 : ltS a b with
      | false => rfl
      | true =>
        have := ltS_trans h h3
        rw [ltS_irrefl] at this
        cases this
    have h3 : (a == b) = false := by
      rw [beq_eq_false_iff_ne]
      rintro rfl
      rw [ltS_irrefl] at h
      cases h
    rw [h, h2, h3]
    rfl

/-! ### the order of segments -/
/-- Q, with frequency n, comes behind P, with frequency m -/
def aftF (n : Nat) (Q : List UInt8) (m : Nat) (P : List UInt8) : Prop := n < m ∨ (n = m ∧ ltS P Q = true)
instance (n : Nat) (Q : List UInt8) (m : Nat) (P : List UInt8) : Decidable (aftF n Q m P) := by unfold aftF; infer_instance
theorem aft_irrefl (n : Nat) (P : List UInt8) : ¬ aftF n P n P := by
  rintro (h | ⟨_, h⟩)
  · exact Nat.lt_irrefl _ h
  · rw [ltS_irrefl] at h
    cases h
theorem aft_trans {n m k : Nat} {P Q R : List UInt8} (h1 : aftF n P m Q) (h2 : aftF m Q k R) : aftF n P k R := by
  rcases h1 with h1 | ⟨rfl, h1⟩
  · rcases h2 with h2 | ⟨rfl, h2⟩
    · exact .inl (Nat.lt_trans h1 h2)
    · exact .inl h1
  · rcases h2 with h2 | ⟨rfl, h2⟩
    · exact .inl h2
    · exact .inr ⟨rfl, ltS_trans h2 h1⟩
theorem aft_total (n : Nat) (P : List UInt8) (m : Nat) (Q : List UInt8) : aftF n P m Q ∨ (n = m ∧ P = Q) ∨ aftF m Q n P := by
  rcases Nat.lt_trichotomy n m with h | rfl | h
  · exact .inl (.inl h)
  · rcases ltS_total P Q with h | rfl | h
    · exact .inr (.inr (.inr ⟨rfl, h⟩))
    · exact .inr (.inl ⟨rfl, rfl⟩)
    · exact .inl (.inr ⟨rfl, h⟩)
  · exact .inr (.inr (.inl h))
/-- P is considered ahead of Q -/
def befS (Ss : List (List UInt8)) (P Q : List UInt8) : Prop := aftF (freqB Ss Q) Q (freqB Ss P) P
/-- P is a segment that is considered -/
def isSeg (Ss : List (List UInt8)) (P : List UInt8) : Prop := P.length = 8 ∧ 2 ≤ freqB Ss P
/-- all segments that are considered, in their order -/
def IsOrd (Ss l : List (List UInt8)) : Prop := l.Pairwise (befS Ss) ∧ ∀ P, P ∈ l ↔ isSeg Ss P
theorem sorted_one {R : List UInt8 → List UInt8 → Prop} (hi : ∀ a, ¬ R a a) (ht : ∀ a b c, R a b → R b c → R a c) : ∀ (l m : List (List UInt8)), l.Pairwise R → m.Pairwise R → (∀ a, a ∈ l ↔ a ∈ m) → l = m
  | [], [], _, _, _ => rfl
  | [], b :: m, _, _, h => by
    have := (h b).2 (List.mem_cons_self ..)
    cases this
  | a :: l, [], _, _, h => by
    have := (h a).1 (List.mem_cons_self ..)
    cases this
  | a :: l, b :: m, hl, hm, h => by
    rw [List.pairwise_cons] at hl hm
    have hab : a = b := by
      rcases List.mem_cons.1 ((h a).1 (List.mem_cons_self ..)) with e | ha
      · exact e
      · rcases List.mem_cons.1 ((h b).2 (List.mem_cons_self ..)) with e | hb
        · exact e.symm
        · exact absurd (ht _ _ _ (hl.1 b hb) (hm.1 a ha)) (hi a)
    subst hab
    rw [sorted_one hi ht l m hl.2 hm.2 fun x => ?_]
    constructor
    · intro hx
      rcases List.mem_cons.1 ((h x).1 (List.mem_cons_of_mem _ hx)) with rfl | hx2
      · exact absurd (hl.1 x hx) (hi x)
      · exact hx2
    · intro hx
      rcases List.mem_cons.1 ((h x).2 (List.mem_cons_of_mem _ hx)) with rfl | hx2
      · exact absurd (hm.1 x hx) (hi x)
      · exact hx2
theorem ord_one {Ss l m : List (List UInt8)} (h : IsOrd Ss l) (h' : IsOrd Ss m) : l = m :=
  sorted_one (R := befS Ss) (fun _ => aft_irrefl _ _) (fun a b c (h1 : befS Ss a b) (h2 : befS Ss b c) => aft_trans (n := freqB Ss c) (P := c) h2 h1) l m h.1 h'.1 fun a => (h.2 a).trans (h'.2 a).symm
theorem freq_perm {Ss Ts : List (List UInt8)} (h : Ss.Perm Ts) (P : List UInt8) : freqB Ss P = freqB Ts P := h.countP_eq _
theorem ord_perm {Ss Ts l : List (List UInt8)} (h : Ss.Perm Ts) (hl : IsOrd Ss l) : IsOrd Ts l := by
  have e : freqB Ss = freqB Ts := funext fun P => freq_perm h P
  unfold IsOrd befS isSeg at hl ⊢
  rw [← e]
  exact hl

/-! ### joining -/
/-- the greatest number of bytes up to n that are an end of a and a beginning of b -/
def endsF (a b : List UInt8) : Nat → Nat
  | 0 => 0
  | n + 1 => if a.drop (a.length - (n + 1)) = b.take (n + 1) then n + 1 else endsF a b n
def endsL (a b : List UInt8) : Nat := endsF a b (min a.length b.length)
theorem endsF_le (a b : List UInt8) : ∀ n, endsF a b n ≤ n
  | 0 => Nat.le_refl _
  | n + 1 => by
    rw [endsF]
    split
    · exact Nat.le_refl _
    · exact Nat.le_succ_of_le (endsF_le a b n)
theorem endsF_is (a b : List UInt8) : ∀ n, a.drop (a.length - endsF a b n) = b.take (endsF a b n)
  | 0 => by
    show a.drop (a.length - 0) = b.take 0
    rw [Nat.sub_zero, List.drop_length, List.take_zero]
  | n + 1 => by
    rw [endsF]
    split
    · assumption
    · exact endsF_is a b n
theorem ends_le (a b : List UInt8) : endsL a b ≤ a.length ∧ endsL a b ≤ b.length := by
  have h := endsF_le a b (min a.length b.length)
  unfold endsL
  omega
theorem ends_is (a b : List UInt8) : a.drop (a.length - endsL a b) = b.take (endsL a b) := endsF_is a b _
/-- the segment s joined to the dictionary D -/
def joinL (D s : List UInt8) : List UInt8 := if endsL s D < endsL D s then D ++ s.drop (endsL D s) else s.take (s.length - endsL s D) ++ D
theorem join_len (D s : List UInt8) : (joinL D s).length ≤ D.length + s.length := by
  unfold joinL
  split
  · rw [List.length_append, List.length_drop]
    omega
  · rw [List.length_append, List.length_take]
    omega
theorem join_has (D s : List UInt8) : occB (joinL D s) s = true := by
  unfold joinL
  split
  · have h := ends_is D s
    have h2 : D ++ s.drop (endsL D s) = D.take (D.length - endsL D s) ++ s ++ [] := by
      conv => lhs; lhs; rw [← List.take_append_drop (D.length - endsL D s) D, h]
      rw [List.append_assoc, List.take_append_drop, List.append_nil]
    rw [h2]
    exact occ_infix _ _ _
  · have h := ends_is s D
    have h2 : s.take (s.length - endsL s D) ++ D = [] ++ s ++ D.drop (endsL s D) := by
      conv => lhs; rhs; rw [← List.take_append_drop (endsL s D) D, ← h]
      rw [← List.append_assoc, List.take_append_drop, List.nil_append]
    rw [h2]
    exact occ_infix _ _ _
theorem join_keeps {D s P : List UInt8} (h : occB D P = true) : occB (joinL D s) P = true := by
  obtain ⟨a, b, rfl⟩ := infix_occ h
  unfold joinL
  split
  · rw [List.append_assoc]
    exact occ_infix _ _ _
  · rw [List.append_assoc a P b, ← List.append_assoc, ← List.append_assoc]
    exact occ_infix _ _ _
/-- one segment is considered -/
def stepL (size : Nat) (D s : List UInt8) : List UInt8 := if occB D s = false ∧ (joinL D s).length ≤ size then joinL D s else D
theorem step_len {size : Nat} {D s : List UInt8} (h : D.length ≤ size) : (stepL size D s).length ≤ size := by
  unfold stepL
  split
  · rename_i h2
    exact h2.2
  · exact h
theorem step_keeps {size : Nat} {D s P : List UInt8} (h : occB D P = true) : occB (stepL size D s) P = true := by
  unfold stepL
  split
  · exact join_keeps h
  · exact h
theorem step_small {size : Nat} {D s : List UInt8} : (stepL size D s).length ≤ D.length + s.length := by
  unfold stepL
  split
  · exact join_len D s
  · omega
theorem step_has {size : Nat} {D s : List UInt8} (h : D.length + s.length ≤ size) : occB (stepL size D s) s = true := by
  unfold stepL
  split
  · exact join_has D s
  · rename_i h2
    cases h3 : occB D s with
    | true => rfl
    | false => exact absurd ⟨h3, Nat.le_trans (join_len D s) h⟩ h2
theorem fold_len (size : Nat) : ∀ (l : List (List UInt8)) (D : List UInt8), D.length ≤ size → (l.foldl (stepL size) D).length ≤ size
  | [], _, h => h
  | s :: l, D, h => fold_len size l (stepL size D s) (step_len h)
theorem fold_keeps (size : Nat) {P : List UInt8} : ∀ (l : List (List UInt8)) (D : List UInt8), occB D P = true → occB (l.foldl (stepL size) D) P = true
  | [], _, h => h
  | _ :: l, _, h => fold_keeps size l _ (step_keeps h)
theorem fold_has (size : Nat) : ∀ (l : List (List UInt8)) (D : List UInt8), (∀ s ∈ l, s.length = 8) → D.length + 8 * l.length ≤ size → ∀ s ∈ l, occB (l.foldl (stepL size) D) s = true
  | [], _, _, _, s, h => by cases h
  | t :: l, D, h8, hs, s, h => by
    have ht := h8 t (List.mem_cons_self ..)
    rw [List.length_cons] at hs
    rcases List.mem_cons.1 h with rfl | h
    · exact fold_keeps size l _ (step_has (by omega))
    · have := @step_small size D t
      exact fold_has size l _ (fun x hx => h8 x (List.mem_cons_of_mem _ hx)) (by omega) s h

/-- R is the dictionary that Train makes of these samples -/
def TrainIs (Ss : List (List UInt8)) (size : Nat) (R : List UInt8) : Prop := ∃ l, IsOrd Ss l ∧ R = l.foldl (stepL size) []
theorem train_one {Ss : List (List UInt8)} {size : Nat} {R R' : List UInt8} (h : TrainIs Ss size R) (h' : TrainIs Ss size R') : R = R' := by
  obtain ⟨l, h1, rfl⟩ := h
  obtain ⟨m, h2, rfl⟩ := h'
  rw [ord_one h1 h2]
theorem train_len {Ss : List (List UInt8)} {size : Nat} {R : List UInt8} (h : TrainIs Ss size R) : R.length ≤ size := by
  obtain ⟨l, _, rfl⟩ := h
  exact fold_len size l [] (Nat.zero_le _)
theorem train_perm {Ss Ts : List (List UInt8)} {size : Nat} {R : List UInt8} (hp : Ss.Perm Ts) (h : TrainIs Ss size R) : TrainIs Ts size R := by
  obtain ⟨l, h1, h2⟩ := h
  exact ⟨l, ord_perm hp h1, h2⟩

/-! ### how many segments there are -/
/-- the parts of 8 bytes of a sample -/
def win8 (X : List UInt8) : List (List UInt8) := (List.range (X.length - 7)).map fun k => (X.drop k).take 8
theorem win8_length (X : List UInt8) : (win8 X).length = X.length - 7 := by simp [win8]
theorem win8_mem {X P : List UInt8} (h8 : P.length = 8) : P ∈ win8 X ↔ occB X P = true := by
  rw [occB_iff]
  unfold win8
  rw [List.mem_map]
  constructor
  · rintro ⟨k, hk, rfl⟩
    rw [List.mem_range] at hk
    exact ⟨k, by rw [h8]; omega, by rw [h8]⟩
  · rintro ⟨i, hi, h⟩
    rw [h8] at hi h
    exact ⟨i, List.mem_range.2 (by omega), h⟩
theorem sub_len : ∀ (l m : List (List UInt8)), l.Nodup → (∀ a ∈ l, a ∈ m) → l.length ≤ m.length
  | [], _, _, _ => Nat.zero_le _
  | a :: l, m, hn, h => by
    rw [List.nodup_cons] at hn
    have ha := h a (List.mem_cons_self ..)
    have h2 := sub_len l (m.erase a) hn.2 fun b hb => by
      have hne : b ≠ a := fun e => hn.1 (e ▸ hb)
      exact (List.mem_erase_of_ne hne).2 (h b (List.mem_cons_of_mem _ hb))
    rw [List.length_erase_of_mem ha] at h2
    have := List.length_pos_of_mem ha
    rw [List.length_cons]
    omega
/-- the number of parts of all samples -/
def manyS (Ss : List (List UInt8)) : Nat := (Ss.map fun X => X.length - 7).sum
theorem sum_ge2 : ∀ (l : List (List UInt8)) (f : List UInt8 → Nat), (∀ P ∈ l, 2 ≤ f P) → 2 * l.length ≤ (l.map f).sum
  | [], _, _ => Nat.zero_le _
  | P :: l, f, h => by
    have h1 := h P (List.mem_cons_self ..)
    have h2 := sum_ge2 l f fun Q hQ => h Q (List.mem_cons_of_mem _ hQ)
    rw [List.length_cons, List.map_cons, List.sum_cons]
    omega
theorem sum_freq (X : List UInt8) (Ss : List (List UInt8)) : ∀ l : List (List UInt8), (l.map (freqB (X :: Ss))).sum = (l.filter (occB X)).length + (l.map (freqB Ss)).sum
  | [] => rfl
  | P :: l => by
    rw [List.map_cons, List.sum_cons, List.map_cons, List.sum_cons, sum_freq X Ss l, List.filter_cons]
    have h : freqB (X :: Ss) P = freqB Ss P + (if occB X P = true then 1 else 0) := List.countP_cons
    rw [h]
    split
    · rw [List.length_cons]
      omega
    · omega
theorem sum_many (l : List (List UInt8)) (hn : l.Nodup) (h8 : ∀ P ∈ l, P.length = 8) : ∀ Ss : List (List UInt8), (l.map (freqB Ss)).sum ≤ manyS Ss
  | [] => by
    have h : l.map (freqB []) = l.map fun _ => 0 := List.map_congr_left fun P _ => rfl
    rw [h]
    have : ∀ m : List (List UInt8), (m.map fun _ => 0).sum = 0 := fun m => by induction m with | nil => rfl | cons a m ih => rw [List.map_cons, List.sum_cons, ih]
    rw [this]
    exact Nat.zero_le _
  | X :: Ss => by
    rw [sum_freq]
    have h1 := sum_many l hn h8 Ss
    have h2 := sub_len (l.filter (occB X)) (win8 X) (hn.filter _) fun P hP => by
      rw [List.mem_filter] at hP
      exact (win8_mem (h8 P hP.1)).2 hP.2
    rw [win8_length] at h2
    have h3 : manyS (X :: Ss) = X.length - 7 + manyS Ss := rfl
    omega
theorem ord_many {Ss l : List (List UInt8)} (h : IsOrd Ss l) : 2 * l.length ≤ manyS Ss := by
  have hn : l.Nodup := h.1.imp fun hab e => by
    subst e
    exact aft_irrefl _ _ hab
  exact Nat.le_trans (sum_ge2 l _ fun P hP => ((h.2 P).1 hP).2) (sum_many l hn (fun P hP => ((h.2 P).1 hP).1) Ss)
/-- a dictionary that is large enough has all segments -/
theorem train_has {Ss : List (List UInt8)} {size : Nat} {R P : List UInt8} (h : TrainIs Ss size R) (hs : 4 * manyS Ss ≤ size) (hP : isSeg Ss P) : occB R P = true := by
  obtain ⟨l, hl, rfl⟩ := h
  have hm := ord_many hl
  exact fold_has size l [] (fun s hs => ((hl.2 s).1 hs).1) (by show 0 + 8 * l.length ≤ size; omega) P ((hl.2 P).2 hP)

/-! ### the segments one after another -/
/-- P is the first segment behind (m, Q) -/
def FirstS (Ss : List (List UInt8)) (m : Nat) (Q P : List UInt8) : Prop := isSeg Ss P ∧ aftF (freqB Ss P) P m Q ∧ ∀ R, isSeg Ss R → aftF (freqB Ss R) R m Q → R = P ∨ befS Ss P R
/-- there is no segment behind (m, Q) -/
def NoneS (Ss : List (List UInt8)) (m : Nat) (Q : List UInt8) : Prop := ∀ R, isSeg Ss R → ¬ aftF (freqB Ss R) R m Q
/-- l are the segments up to (m, Q) -/
structure UptoS (Ss : List (List UInt8)) (m : Nat) (Q : List UInt8) (l : List (List UInt8)) : Prop where
  sorted : l.Pairwise (befS Ss)
  segs : ∀ P ∈ l, isSeg Ss P
  all : ∀ R, isSeg Ss R → R ∈ l ∨ aftF (freqB Ss R) R m Q
  behind : ∀ P ∈ l, ∀ R, isSeg Ss R → aftF (freqB Ss R) R m Q → befS Ss P R
theorem upto_start (Ss : List (List UInt8)) (Q : List UInt8) : UptoS Ss (Ss.length + 1) Q [] :=
  ⟨.nil, (fun _ h => by cases h), fun R _ => .inr (.inl (Nat.lt_succ_of_le (freq_le Ss R))), (fun _ h => by cases h)⟩
theorem upto_next {Ss : List (List UInt8)} {m : Nat} {Q P : List UInt8} {l : List (List UInt8)} (h : UptoS Ss m Q l) (hf : FirstS Ss m Q P) : UptoS Ss (freqB Ss P) P (l ++ [P]) := by
  obtain ⟨f1, f2, f3⟩ := hf
  refine ⟨?_, ?_, ?_, ?_⟩
  · rw [List.pairwise_append]
    refine ⟨h.sorted, List.pairwise_singleton _ _, fun A hA B hB => ?_⟩
    obtain rfl := List.mem_singleton.1 hB
    exact h.behind A hA _ f1 f2
  · intro A hA
    rcases List.mem_append.1 hA with hA | hA
    · exact h.segs A hA
    · obtain rfl := List.mem_singleton.1 hA
      exact f1
  · intro R hR
    rcases h.all R hR with hl | ha
    · exact .inl (List.mem_append.2 (.inl hl))
    · rcases f3 R hR ha with rfl | hb
      · exact .inl (List.mem_append.2 (.inr (List.mem_singleton.2 rfl)))
      · exact .inr hb
  · intro A hA R hR ha
    rcases List.mem_append.1 hA with hA | hA
    · exact aft_trans ha (h.behind A hA _ f1 f2)
    · obtain rfl := List.mem_singleton.1 hA
      exact ha
theorem upto_end {Ss : List (List UInt8)} {m : Nat} {Q : List UInt8} {l : List (List UInt8)} (h : UptoS Ss m Q l) (hn : NoneS Ss m Q) : IsOrd Ss l :=
  ⟨h.sorted, fun P => ⟨h.segs P, fun hP => (h.all P hP).resolve_right (hn P hP)⟩⟩
/-- how many parts of the samples are behind (m, Q) -/
def leftS (Ss : List (List UInt8)) (m : Nat) (Q : List UInt8) : Nat := (Ss.flatMap win8).countP fun R => decide (aftF (freqB Ss R) R m Q)
theorem countP_lt {α : Type} {p q : α → Bool} (hpq : ∀ a, p a = true → q a = true) : ∀ (l : List α) (a : α), a ∈ l → q a = true → p a = false → l.countP p < l.countP q
  | [], a, h, _, _ => by cases h
  | b :: l, a, h, hq, hp => by
    rw [List.countP_cons, List.countP_cons]
    rcases List.mem_cons.1 h with rfl | h
    · have := List.countP_mono_left (l := l) (p := p) (q := q) fun x _ => hpq x
      rw [hq, hp]
      simp only [if_true, Bool.false_eq_true, if_false]
      omega
    · have ih := countP_lt hpq l a h hq hp
      have : (if p b = true then 1 else 0) ≤ (if q b = true then 1 else 0) := by
        by_cases hb : p b = true
        · rw [if_pos hb, if_pos (hpq b hb)]
          exact Nat.le_refl _
        · rw [if_neg hb]
          exact Nat.zero_le _
      omega
theorem seg_mem {Ss : List (List UInt8)} {P : List UInt8} (h : isSeg Ss P) : P ∈ Ss.flatMap win8 := by
  have h1 : 0 < Ss.countP fun X => occB X P := Nat.lt_of_lt_of_le (by omega) h.2
  obtain ⟨X, hX, ho⟩ := List.countP_pos_iff.1 h1
  exact List.mem_flatMap.2 ⟨X, hX, (win8_mem h.1).2 ho⟩
theorem left_next {Ss : List (List UInt8)} {m : Nat} {Q P : List UInt8} (h : isSeg Ss P) (ha : aftF (freqB Ss P) P m Q) : leftS Ss (freqB Ss P) P < leftS Ss m Q :=
  countP_lt (fun _R hR => decide_eq_true (aft_trans (of_decide_eq_true hR) ha)) _ P (seg_mem h) (decide_eq_true ha) (decide_eq_false (aft_irrefl _ _))

/-! ### the search for the next segment -/
/-- among the parts l the first segment behind (m, Q) is b, with frequency q; q = 0: there is none -/
def BestL (Ss : List (List UInt8)) (m : Nat) (Q : List UInt8) (l : List (List UInt8)) (b : List UInt8) (q : Nat) : Prop :=
  (q = 0 ∧ b = [] ∧ ∀ R ∈ l, isSeg Ss R → ¬ aftF (freqB Ss R) R m Q) ∨ (2 ≤ q ∧ q = freqB Ss b ∧ isSeg Ss b ∧ aftF q b m Q ∧ ∀ R ∈ l, isSeg Ss R → aftF (freqB Ss R) R m Q → R = b ∨ befS Ss b R)
theorem best_start (Ss : List (List UInt8)) (m : Nat) (Q : List UInt8) : BestL Ss m Q [] [] 0 := .inl ⟨rfl, rfl, fun R h => by cases h⟩
theorem best_take {Ss l : List (List UInt8)} {m n q : Nat} {Q b P : List UInt8} (h : BestL Ss m Q l b q) (h8 : P.length = 8) (hn : n = freqB Ss P) (h2 : 2 ≤ n) (ha : aftF n P m Q) (hb : q = 0 ∨ aftF q b n P) : BestL Ss m Q (l ++ [P]) P n := by
  refine .inr ⟨h2, hn, ⟨h8, by rw [← hn]; exact h2⟩, ha, fun R hR hs haR => ?_⟩
  rcases List.mem_append.1 hR with hR | hR
  · rcases h with ⟨_, _, h⟩ | ⟨h2q, hq, _, _, h⟩
    · exact absurd haR (h R hR hs)
    · have hb2 : aftF q b n P := hb.resolve_left (by omega)
      rcases h R hR hs haR with rfl | h
      · refine .inr ?_
        unfold befS
        rw [← hq, ← hn]
        exact hb2
      · refine .inr ?_
        unfold befS at h ⊢
        rw [← hq] at h
        rw [← hn]
        exact aft_trans h hb2
  · exact .inl (List.mem_singleton.1 hR)
theorem best_skip {Ss l : List (List UInt8)} {m : Nat} {q : Nat} {Q b P : List UInt8} (h : BestL Ss m Q l b q) (hn : freqB Ss P < 2 ∨ ¬ aftF (freqB Ss P) P m Q) : BestL Ss m Q (l ++ [P]) b q := by
  rcases h with ⟨h1, h2, h⟩ | ⟨h1, h2, h3, h4, h⟩
  · refine .inl ⟨h1, h2, fun R hR hs ha => ?_⟩
    rcases List.mem_append.1 hR with hR | hR
    · exact h R hR hs ha
    · obtain rfl := List.mem_singleton.1 hR
      rcases hn with hn | hn
      · exact absurd hs.2 (by omega)
      · exact hn ha
  · refine .inr ⟨h1, h2, h3, h4, fun R hR hs ha => ?_⟩
    rcases List.mem_append.1 hR with hR | hR
    · exact h R hR hs ha
    · obtain rfl := List.mem_singleton.1 hR
      rcases hn with hn | hn
      · exact absurd hs.2 (by omega)
      · exact absurd ha hn
theorem best_keep {Ss l : List (List UInt8)} {m q : Nat} {Q b P : List UInt8} (h : BestL Ss m Q l b q) (h0 : q ≠ 0) (hn : ¬ aftF q b (freqB Ss P) P) : BestL Ss m Q (l ++ [P]) b q := by
  rcases h with ⟨h1, _⟩ | ⟨h1, h2, h3, h4, h⟩
  · exact absurd h1 h0
  · refine .inr ⟨h1, h2, h3, h4, fun R hR hs ha => ?_⟩
    rcases List.mem_append.1 hR with hR | hR
    · exact h R hR hs ha
    · obtain rfl := List.mem_singleton.1 hR
      rcases aft_total q b (freqB Ss R) R with h5 | ⟨_, h5⟩ | h5
      · exact absurd h5 hn
      · exact .inl h5.symm
      · refine .inr ?_
        unfold befS
        rw [← h2]
        exact h5
/-- what the search for the next segment answers -/
def NextIs (Ss : List (List UInt8)) (m : Nat) (Q b : List UInt8) (q : Nat) : Prop := (q = 0 ∧ b = [] ∧ NoneS Ss m Q) ∨ (2 ≤ q ∧ q = freqB Ss b ∧ FirstS Ss m Q b)
theorem best_end {Ss : List (List UInt8)} {m q : Nat} {Q b : List UInt8} (h : BestL Ss m Q (Ss.flatMap win8) b q) : NextIs Ss m Q b q := by
  rcases h with ⟨h1, h2, h⟩ | ⟨h1, h2, h3, h4, h⟩
  · exact .inl ⟨h1, h2, fun R hR => h R (seg_mem hR) hR⟩
  · exact .inr ⟨h1, h2, h3, by rw [← h2]; exact h4, fun R hR => h R (seg_mem hR) hR⟩
theorem win_take (X : List UInt8) (k : Nat) (h : k + 8 ≤ X.length) : (win8 X).take (k + 1) = (win8 X).take k ++ [(X.drop k).take 8] := by
  have hl : k < (win8 X).length := by rw [win8_length]; omega
  rw [List.take_succ_eq_append_getElem hl]
  congr 2
  simp [win8]
theorem flat_take (Ss : List (List UInt8)) (i : Nat) (X : List UInt8) (h : Ss[i]? = some X) : (Ss.take (i + 1)).flatMap win8 = (Ss.take i).flatMap win8 ++ win8 X := by
  obtain ⟨hi, h⟩ := List.getElem?_eq_some_iff.1 h
  rw [List.take_succ_eq_append_getElem hi, List.flatMap_append, h, List.flatMap_singleton]

/-! ### what a dictionary saves -/
/-- the tokens for L behind E cost k bits -/
def costIs (E L : List UInt8) (k : Nat) : Prop := ∃ K t, Tab (E ++ L) E.length L.length K t 0 ∧ k = K 0
theorem cost_one {E L : List UInt8} {k k' : Nat} (h : costIs E L k) (h' : costIs E L k') : k = k' := by
  obtain ⟨K, t, h1, rfl⟩ := h
  obtain ⟨K', t', h2, rfl⟩ := h'
  have hX : (E ++ L).length = E.length + L.length := List.length_append
  exact ((tab_one hX h1 h2) L.length 0 (Nat.add_zero _)).1
theorem cost_path_is {E L : List UInt8} {K : Nat → Nat} {t : Nat → Tk} {D N : Nat} (hD : D = E.length) (hN : N = L.length) (h : Tab (E ++ L) D N K t 0) : costIs E L (costT (pathT t N N 0)) := by
  subst hD hN
  have hX : (E ++ L).length = E.length + L.length := List.length_append
  exact ⟨K, t, h, cost_path hX h L.length 0 (by omega) (Nat.zero_le _)⟩
theorem cost_saves {E L : List UInt8} {k k' : Nat} (h : costIs [] L k) (h' : costIs E L k') : k' ≤ k := by
  obtain ⟨K, t, h1, rfl⟩ := h
  obtain ⟨K', t', h2, rfl⟩ := h'
  rw [List.nil_append] at h1
  have hX : L.length = 0 + L.length := (Nat.zero_add _).symm
  exact cost_more (M := E) hX h1 h2 L.length 0 (Nat.add_zero _)
/-- the sum of what is saved for the first j samples -/
def sumD (x y : Nat → Nat) : Nat → Int
  | 0 => 0
  | j + 1 => sumD x y j + x j - y j
/-- x and y are the costs of the samples without and with the dictionary -/
def costsAre (Ls : List (List UInt8)) (E : List UInt8) (x y : Nat → Nat) : Prop := ∀ i L, Ls[i]? = some L → costIs [] L (x i) ∧ costIs E L (y i)
theorem sum_one {Ls : List (List UInt8)} {E : List UInt8} {x y x' y' : Nat → Nat} (h : costsAre Ls E x y) (h' : costsAre Ls E x' y') : ∀ j, j ≤ Ls.length → sumD x y j = sumD x' y' j
  | 0, _ => rfl
  | j + 1, hj => by
    have hg := List.getElem?_eq_getElem (show j < Ls.length by omega)
    rw [sumD, sumD, sum_one h h' j (by omega), cost_one (h j _ hg).1 (h' j _ hg).1, cost_one (h j _ hg).2 (h' j _ hg).2]
theorem sum_pos {Ls : List (List UInt8)} {E : List UInt8} {x y : Nat → Nat} (h : costsAre Ls E x y) : ∀ j, j ≤ Ls.length → 0 ≤ sumD x y j
  | 0, _ => Int.le_refl _
  | j + 1, hj => by
    have hg := List.getElem?_eq_getElem (show j < Ls.length by omega)
    have h1 := cost_saves (h j _ hg).1 (h j _ hg).2
    have h2 := sum_pos h j (by omega)
    rw [sumD]
    omega
end Go.Proofs.Ytcmbpniikcghfaa
