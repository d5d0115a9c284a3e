/-
  The closed examples of the statements about dictionaries: plain facts.
-/
import Derived.Test.YtcmbpniikcghfaaYPlain
namespace Go.Proofs.Ytcmbpniikcghfaa

def dex1 : List UInt8 := [97, 98, 99, 100, 101, 102, 103, 104, 105]
def dex2 : List UInt8 := [120, 97, 98, 99, 100, 101, 102, 103, 104, 105]
theorem dex_ord : IsOrd [dex1, dex2] [[97, 98, 99, 100, 101, 102, 103, 104], [98, 99, 100, 101, 102, 103, 104, 105]] := by
  refine ⟨?_, fun P => ⟨fun h => ?_, fun h => ?_⟩⟩
  · refine List.Pairwise.cons (fun Q hQ => ?_) (List.pairwise_singleton _ _)
    obtain rfl := List.mem_singleton.1 hQ
    exact .inr ⟨by decide, by decide⟩
  · rcases List.mem_cons.1 h with rfl | h
    · exact ⟨rfl, by decide⟩
    · obtain rfl := List.mem_singleton.1 h
      exact ⟨rfl, by decide⟩
  · have hm := seg_mem h
    have hw : ([dex1, dex2] : List (List UInt8)).flatMap win8 = [[97, 98, 99, 100, 101, 102, 103, 104], [98, 99, 100, 101, 102, 103, 104, 105], [120, 97, 98, 99, 100, 101, 102, 103], [97, 98, 99, 100, 101, 102, 103, 104], [98, 99, 100, 101, 102, 103, 104, 105]] := by decide
    rw [hw] at hm
    simp only [List.mem_cons, List.not_mem_nil, or_false] at hm ⊢
    rcases hm with h1 | h1 | h1 | h1 | h1
    · exact .inl h1
    · exact .inr h1
    · subst h1
      exact absurd h.2 (by decide)
    · exact .inl h1
    · exact .inr h1
theorem dex_train {R : List UInt8} (h : TrainIs [dex1, dex2] 512 R) : R = dex1 :=
  train_one h ⟨_, dex_ord, by decide⟩
theorem dex_none {R : List UInt8} (h : TrainIs [] 3 R) : R = [] :=
  train_one h ⟨[], ⟨.nil, fun P => ⟨(fun h => by cases h), fun h => absurd (Nat.le_trans h.2 (freq_le [] P)) (by decide)⟩⟩, rfl⟩
def dabc : List UInt8 := [97, 98, 99]
def dK1 (i : Nat) : Nat := [27, 18, 9, 0].getD i 0
def dT1 (i : Nat) : Tk := .lit (dabc.getD i 0)
theorem dex_tab1 : Tab dabc 0 3 dK1 dT1 0 := by
  refine ⟨rfl, fun p _ hp => ?_⟩
  have hb : ∀ b, fits dabc (0 + p) b → b = dT1 p := by
    intro b hb
    cases b with
    | lit x => rw [hb.2, Nat.zero_add]; rfl
    | mat d n =>
      obtain ⟨⟨h1, h2⟩, h3, h4, _⟩ := hb
      have h4' : 0 + p + n ≤ 3 := h4
      omega
  refine ⟨⟨by show 0 + p < 3; omega, by rw [Nat.zero_add]⟩, fun b hbb => ?_, ?_⟩
  · rw [hb b hbb]
    exact ahead_refl _ _ _
  · show dK1 p = 9 + dK1 (p + 1)
    rcases p with _ | _ | _ | p
    · rfl
    · rfl
    · rfl
    · omega
def dK2 (i : Nat) : Nat := [5, 18, 9, 0].getD i 0
def dT2 (i : Nat) : Tk := if i = 0 then .mat 3 3 else .lit (dabc.getD i 0)
theorem dex_at (p k : Nat) (h : p + k < 3) : (dabc ++ dabc).getD (3 + p + k) 0 = (dabc ++ dabc).getD (3 + p + k - 3) 0 := by
  have h2 : p + k = 0 ∨ p + k = 1 ∨ p + k = 2 := by omega
  have e1 : 3 + p + k - 3 = p + k := by omega
  rw [e1, show 3 + p + k = 3 + (p + k) by omega]
  rcases h2 with h2 | h2 | h2 <;> rw [h2] <;> rfl
theorem dex_tab2 : Tab (dabc ++ dabc) 3 3 dK2 dT2 0 := by
  have c1 : (Tk.mat 3 3).cost = 5 := by
    show 1 + (2 * Nat.log2 3 + 1) + (2 * Nat.log2 1 + 1) = 5
    rw [show Nat.log2 3 = 1 by decide, show Nat.log2 1 = 0 by decide]
  have hl : (dabc ++ dabc).length = 6 := rfl
  refine ⟨rfl, fun p _ hp => ?_⟩
  have hlit : ∀ x, fits (dabc ++ dabc) (3 + p) (.lit x) → x = dabc.getD p 0 := by
    intro x hx
    rw [hx.2]
    rcases p with _ | _ | _ | p
    · rfl
    · rfl
    · rfl
    · omega
  by_cases h0 : p = 0
  · subst h0
    have ht : dT2 0 = .mat 3 3 := rfl
    rw [ht]
    refine ⟨⟨⟨by omega, by omega⟩, by omega, by rw [hl]; omega, fun k hk => dex_at 0 k (by omega)⟩, fun b hb => ?_, ?_⟩
    · cases b with
      | lit x =>
        refine .inl ?_
        show (Tk.mat 3 3).cost + dK2 (0 + 3) < 9 + dK2 (0 + 1)
        rw [c1]
        decide
      | mat d n =>
        obtain ⟨⟨h1, h2⟩, h3, h4, h5⟩ := hb
        rw [hl] at h4
        have hn : n = 3 := by omega
        subst hn
        have hd : d = 3 := by
          have hk := h5 0 (by omega)
          have h6 : d = 1 ∨ d = 2 ∨ d = 3 := by omega
          rcases h6 with rfl | rfl | rfl
          · exact absurd hk (by decide)
          · exact absurd hk (by decide)
          · rfl
        subst hd
        exact ahead_refl _ _ _
    · show dK2 0 = (Tk.mat 3 3).cost + dK2 (0 + 3)
      rw [c1]
      rfl
  · have ht : dT2 p = .lit (dabc.getD p 0) := if_neg h0
    rw [ht]
    refine ⟨⟨by rw [hl]; omega, ?_⟩, fun b hb => ?_, ?_⟩
    · rcases p with _ | _ | _ | p
      · rfl
      · rfl
      · rfl
      · omega
    · cases b with
      | lit x =>
        rw [hlit x hb]
        exact ahead_refl _ _ _
      | mat d n =>
        obtain ⟨⟨h1, h2⟩, h3, h4, h5⟩ := hb
        rw [hl] at h4
        omega
    · show dK2 p = 9 + dK2 (p + 1)
      rcases p with _ | _ | _ | p
      · exact absurd rfl h0
      · rfl
      · rfl
      · omega
theorem dex_worth {x y : Nat → Nat} (h : costsAre [dabc] dabc x y) : sumD x y 1 = 22 := by
  obtain ⟨h1, h2⟩ := h 0 dabc rfl
  have e1 : x 0 = 27 := cost_one h1 ⟨dK1, dT1, dex_tab1, rfl⟩
  have e2 : y 0 = 5 := cost_one h2 ⟨dK2, dT2, dex_tab2, rfl⟩
  show (0 : Int) + x 0 - y 0 = 22
  rw [e1, e2]
  rfl
end Go.Proofs.Ytcmbpniikcghfaa
