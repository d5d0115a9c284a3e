/-
  The contract of the reference's Trained. (Written by cards/gen_RTrn.py.)
-/
import Derived.Test.YtcmbpniikcghfaaRNxt
import Derived.Test.YtcmbpniikcghfaaREnd
import Derived.Test.YtcmbpniikcghfaaGStr
namespace Go.Proofs.Ytcmbpniikcghfaa
open Go.RowKit

/-- the bytes of a string -/
def strOf : Value → List UInt8
  | .string s => s.data.toList
  | _ => []
theorem strOf_is (L : List UInt8) : strOf (.string ⟨L.toArray⟩) = L := rfl
/-- what is known between two rounds -/
def TrnIs (Ss : List (List UInt8)) (size : Nat) (P : List UInt8) (q : Nat) (D : List UInt8) : Prop := ∃ l m Q, UptoS Ss m Q l ∧ NextIs Ss m Q P q ∧ D = l.foldl (stepL size) []
theorem trn_start {Ss : List (List UInt8)} {size q : Nat} {P : List UInt8} (h : NextIs Ss (Ss.length + 1) [] P q) : TrnIs Ss size P q [] := ⟨[], _, _, upto_start Ss [], h, rfl⟩
theorem trn_end {Ss : List (List UInt8)} {size : Nat} {P D : List UInt8} (h : TrnIs Ss size P 0 D) : TrainIs Ss size D := by
  obtain ⟨l, m, Q, h1, h2, h3⟩ := h
  rcases h2 with ⟨_, _, h2⟩ | ⟨h2, _⟩
  · exact ⟨l, upto_end h1 h2, h3⟩
  · omega
theorem trn_seg {Ss : List (List UInt8)} {size q : Nat} {P D : List UInt8} (h : TrnIs Ss size P q D) (hq : q ≠ 0) : q = freqB Ss P ∧ P.length = 8 ∧ isSeg Ss P := by
  obtain ⟨l, m, Q, h1, h2, h3⟩ := h
  rcases h2 with ⟨h2, _⟩ | ⟨_, h2, h4, _⟩
  · exact absurd h2 hq
  · exact ⟨h2, h4.1, h4⟩
theorem trn_next {Ss : List (List UInt8)} {size q q' : Nat} {P D P' : List UInt8} (h : TrnIs Ss size P q D) (hq : q ≠ 0) (hn : NextIs Ss q P P' q') : TrnIs Ss size P' q' (stepL size D P) := by
  obtain ⟨l, m, Q, h1, h2, h3⟩ := h
  rcases h2 with ⟨h2, _⟩ | ⟨_, h2, h4⟩
  · exact absurd h2 hq
  · refine ⟨l ++ [P], q, P, ?_, hn, by rw [List.foldl_append, h3]; rfl⟩
    rw [h2]
    exact upto_next h1 h4
theorem next_left {Ss : List (List UInt8)} {q q' : Nat} {P P' : List UInt8} (hn : NextIs Ss q P P' q') (hq : q' ≠ 0) : leftS Ss q' P' < leftS Ss q P := by
  rcases hn with ⟨h, _⟩ | ⟨_, h, h2, h3, _⟩
  · exact absurd h hq
  · rw [h]
    exact left_next h2 h3
theorem trn_len {Ss : List (List UInt8)} {size q : Nat} {P D : List UInt8} (h : TrnIs Ss size P q D) : D.length ≤ size := by
  obtain ⟨l, _, _, _, _, rfl⟩ := h
  exact fold_len size l [] (Nat.zero_le _)
theorem step_pass {size : Nat} {D P : List UInt8} (h : occB D P = true) : stepL size D P = D := if_neg (fun h2 => by rw [h] at h2; cases h2.1)
theorem step_long {size : Nat} {D P : List UInt8} (h : ¬ (joinL D P).length ≤ size) : stepL size D P = D := if_neg (fun h2 => h h2.2)
theorem step_join {size : Nat} {D P : List UInt8} (h : occB D P = false) (h2 : (joinL D P).length ≤ size) : stepL size D P = joinL D P := if_pos ⟨h, h2⟩

/-- the measure falls -/
theorem trn_measure {Ss : List (List UInt8)} {q q' : Nat} {P P' : List UInt8} (hz : q ≠ 0) (hn : NextIs Ss q P P' q') : (if (intOf (.int .i64 (q' : Nat))).toNat = 0 then 0 else leftS Ss (intOf (.int .i64 (q' : Nat))).toNat (strOf (.string ⟨P'.toArray⟩)) + 1) < (if (intOf (.int .i64 (q : Nat))).toNat = 0 then 0 else leftS Ss (intOf (.int .i64 (q : Nat))).toNat (strOf (.string ⟨P.toArray⟩)) + 1) := by
  have e1 : ∀ n : Nat, (intOf (.int .i64 (n : Nat))).toNat = n := fun n => by simp [intOf]
  rw [e1, e1, strOf_is, strOf_is, if_neg hz]
  by_cases h : q' = 0
  · rw [if_pos h]
    exact Nat.succ_pos _
  · rw [if_neg h]
    have := next_left hn h
    omega

set_option maxRecDepth 100000 in
set_option maxHeartbeats 16000000 in
theorem trained_any (Ss : List (List UInt8)) (N : Nat) (hN : N ≤ 64) (hS8 : ∀ X ∈ Ss, X.length ≤ 1024) (size : Nat) (hsz : size ≤ 512) (A : Option Addr) (c : Nat) (w : World) (hS : Sls w w.heap.size A N Ss) :
    Calls Try.prog 15 #[.slice A N c, .int .i64 size] w fun e w' => (∃ R G g, TrainIs Ss size R ∧ e = .returned (.slice G R.length g) ∧ R.length ≤ g ∧ Sl w' w'.heap.size G R.length (bl R)) ∧ Below w.heap.size w w' := by
  obtain ⟨i0, hi, hz0, hz1, hz2⟩ := info_parts infoU8
  have hsl := hS.1
  have hn0 : Calls Try.prog 25 #[.slice A N c, .int .i64 ((N : Int) + 1), .string ⟨#[]⟩] w fun e w' => (∃ b q, NextIs Ss (N + 1) [] b q ∧ q ≤ N ∧ e = .returned (.tuple #[.string ⟨b.toArray⟩, .int .i64 (q : Nat)])) ∧ w' = w := next_any Ss N (N + 1) [] hN hS8 (by omega) A c w hS
  have HN0 := Lib.hid hn0
  have HNX := Lib.hid (fun m Q hm W hW => next_any Ss N m Q hN hS8 hm A c W hW)
  have HS := Lib.hid hS
  have HL := Lib.hid hsl
  clear hn0 hS hS8 hsl
  go_enter Try.func15, Try.ntmps15
  go_upto_region 3 with (first
    | (go_at_call 25; refine HN0.out.mono ?_; rintro e w5 ⟨⟨b5, q5, hn5, hq5, rfl⟩, rfl⟩))
  have HT5 : Hid (TrnIs Ss size b5 q5 []) := Lib.hid (trn_start (by rw [HL.out]; exact hn5))
  clear hn5 HN0
  go_loopw [5, 6, 7] (fun dv tv qv wr => ∃ (q d g : Nat) (P D : List UInt8) (G : Option Addr), tv = .string ⟨P.toArray⟩ ∧ qv = .int .i64 q ∧ q ≤ N ∧ Hid (TrnIs Ss size P q D) ∧ dv = .slice G d g ∧ d ≤ 512 ∧ d ≤ g ∧ Hid (d = D.length) ∧ Sl wr wr.heap.size G d (bl D) ∧ Below w5.heap.size w5 wr) (fun _ tv qv _ => if (intOf qv).toNat = 0 then 0 else leftS Ss (intOf qv).toNat (strOf tv) + 1)
  case atStart => exact ⟨q5, 0, 0, b5, [], none, rfl, rfl, hq5, HT5, rfl, Nat.zero_le _, Nat.le_refl _, Lib.hid rfl, (by rw [bl_nil]; exact Sl.nil _ _ _), Below.refl _ _⟩
  case round =>
    clear HT5 hq5
    obtain ⟨q, d, g, P, D, G, rfl, rfl, hq, HT, rfl, hd, hg, HD, sD, hb⟩ := hrel
    by_cases hz : q = 0
    · subst hz
      have HE := Lib.hid (trn_end HT.out)
      have t1 : decide ((0 : Int) < ((0 : Nat) : Int)) = false := rfl
      go_wp2
      go_ret
      exact ⟨⟨D, G, g, HE.out, by rw [← HD.out]; rfl, by rw [← HD.out]; exact hg, by rw [← HD.out]; exact sD⟩, hb⟩
    · have t1 : decide ((0 : Int) < (q : Int)) = true := decide_eq_true (by omega)
      obtain ⟨hqf, h8, hseg⟩ := trn_seg HT.out hz
      have HQF := Lib.hid hqf
      have H8 := Lib.hid h8
      clear hseg hqf h8
      go_upto_region 5 with (first
        | (refine wpList_conv_bytes rfl 9 23 5 _ rfl P 8 rfl H8.out.symm (by unfold maxLen; omega) Try.underlying9 Try.underlying23 Try.underlying5 ?_; intro A4 c4 w4 hc4 hm4 s4 hb4))
      have sD4 := sD.up hb4
      have hb04 := up_call hb hb4
      clear sD hb hb4
      obtain ⟨e1, he1⟩ : ∃ e, e = endsL D P := ⟨_, rfl⟩
      obtain ⟨e2, he2⟩ : ∃ e, e = endsL P D := ⟨_, rfl⟩
      have hl1 := ends_le D P
      have hl2 := ends_le P D
      rw [← he1, ← HD.out, H8.out] at hl1
      rw [← he2, ← HD.out, H8.out] at hl2
      obtain ⟨hl1a, hl1b⟩ := hl1
      obtain ⟨hl2a, hl2b⟩ := hl2
      have HE1 : Hid (∀ W : World, Sl W W.heap.size G d (bl D) → Sl W W.heap.size A4 8 (bl P) → Calls Try.prog 26 #[.slice G d g, .slice A4 8 c4] W fun e w' => e = .returned (.int .i64 (e1 : Nat)) ∧ Below W.heap.size W w') :=
        Lib.hid fun W a b => by rw [he1]; exact ends_any D P d 8 HD.out H8.out.symm (by omega) (by omega) G A4 g c4 hg hc4 W a b
      have HE2 : Hid (∀ W : World, Sl W W.heap.size G d (bl D) → Sl W W.heap.size A4 8 (bl P) → Calls Try.prog 26 #[.slice A4 8 c4, .slice G d g] W fun e w' => e = .returned (.int .i64 (e2 : Nat)) ∧ Below W.heap.size W w') :=
        Lib.hid fun W a b => by rw [he2]; exact ends_any P D 8 d H8.out.symm HD.out (by omega) (by omega) A4 G c4 g hc4 hg W b a
      obtain ⟨oc, hoc⟩ : ∃ o, o = occB D P := ⟨_, rfl⟩
      have HO : Hid (∀ W : World, Sl W W.heap.size G d (bl D) → Sl W W.heap.size A4 8 (bl P) → Calls Try.prog 18 #[.slice G d g, .slice A4 8 c4] W fun e w' => e = .returned (.bool oc) ∧ w' = W) :=
        Lib.hid fun W a b => by rw [hoc]; exact occurs_any D P d 8 HD.out H8.out.symm (by omega) (by omega) (by omega) G A4 g c4 hg W a b
      obtain ⟨J, hJ⟩ : ∃ J, J = joinL D P := ⟨_, rfl⟩
      have hjl := join_len D P
      rw [← hJ, ← HD.out, H8.out] at hjl
      obtain ⟨jl, hjj⟩ : ∃ j, j = J.length := ⟨_, rfl⟩
      rw [← hjj] at hjl
      have HX := Lib.hid (fun q' P' (h : NextIs Ss q P P' q') => trn_next HT.out hz h)
      have hst1 := fun h => @step_pass size D P h
      have hst2 := fun h => @step_long size D P h
      have hst3 := fun h h2 => @step_join size D P h h2
      rw [← hoc] at hst1
      rw [← hJ, ← hjj] at hst2
      rw [← hoc, ← hJ, ← hjj] at hst3
      have HST := Lib.hid (And.intro hst1 (And.intro hst2 hst3))
      clear hst1 hst2 hst3 hoc
      have HJL := Lib.hid hjj
      clear hjj
      by_cases hgt : e2 < e1
      · have t5 : decide ((e2 : Int) < (e1 : Int)) = true := decide_eq_true (by omega)
        have hjd : J = D ++ P.drop e1 := by rw [hJ, joinL, ← he1, ← he2, if_pos hgt]
        have HJD := Lib.hid hjd
        clear hjd hJ he1 he2
        have hj1 : d + (8 - e1) = jl := by rw [HJL.out, HJD.out, List.length_append, List.length_drop, ← HD.out, H8.out]
        by_cases hce : c4 = e1
        · subst hce
          have s8 := fun (W : World) (h : Sl W W.heap.size A4 8 (bl P)) => h.cut (k := c4) (cap := c4) (by omega) hc4
          rw [if_pos rfl, bl_drop, show 8 - c4 = 0 by omega] at s8
          rw [show 8 - c4 = 0 by omega] at hj1
          have HS8 := Lib.hid s8
          clear s8
          go_upto_region 11 with (first
            | (go_at_call 26; (with_reducible refine (HE1.out _ sD4 s4).mono ?_); rintro e w5a ⟨rfl, hb5a⟩; have sD5 := sD4.up hb5a; have s45 := s4.up hb5a; have hb05 := up_call hb04 hb5a)
            | (go_at_call 26; (with_reducible refine (HE2.out _ sD5 s45).mono ?_); rintro e w6a ⟨rfl, hb6a⟩; have sD6 := sD5.up hb6a; have s46 := s45.up hb6a; have hb06 := up_call hb05 hb6a)
            | (at_builtin; refine wpList_app _ rfl _ _ _ rfl w6a.heap.size 5 i0 (.int .u8 0) 1 Try.underlying23 hi hz0 hz1 hz2 rfl (.slice none 0 0) 0 [] rfl (World.ownsRow_nil _ _ _ _) w6a.heap.size G d g _ rfl sD6 (bl_one _) (by unfold maxLen; omega) (by omega) (Nat.le_refl _) ?_; intro v7 w7 hown7 hg7; have hb7 := blw_grown (Below.refl w6a.heap.size w6a) hg7 (Nat.le_refl _) (World.ownsRow_nil w6a w6a.heap.size 5 1) (Nat.le_refl _); rw [List.nil_append, Nat.zero_add] at hown7; have HV7 := Lib.hid hown7; clear hown7 hg7; obtain ⟨A7, c7, hv7, _, _⟩ := own_form HV7.out; subst hv7; have sD7 := sD6.up hb7; have s47 := s46.up hb7; have hb07 := up_call hb06 hb7)
            | (go_at_call 26; (with_reducible refine (HE1.out _ sD7 s47).mono ?_); rintro e w8 ⟨rfl, hb8⟩; have sD8 := sD7.up hb8; have s48 := s47.up hb8; have hb08 := up_call hb07 hb8; have HV8 := Lib.hid (own_below HV7.out hb8); have hb68 := up_call hb7 hb8)
            | (at_builtin; refine wpList_app _ rfl _ _ _ rfl w6a.heap.size 5 i0 (.int .u8 0) 1 Try.underlying23 hi hz0 hz1 hz2 rfl _ d _ rfl HV8.out w8.heap.size _ (0) _ _ rfl (HS8.out _ s48) (bl_one _) (by unfold maxLen; omega) (by omega) hb68.size ?_; intro v9 w9 hown9 hg9; have hb69 := blw_grown hb68 hg9 hb68.size HV8.out (Nat.le_refl _)))
          rw [hj1, ← bl_append, ← HJD.out] at hown9
          have HV9 := Lib.hid hown9
          obtain ⟨A9, c9, hv9, hc9, _⟩ := own_form HV9.out
          subst hv9
          have sD9 := sD6.up hb69
          have s49 := s46.up hb69
          have hb09 := up_call hb06 hb69
          clear hown9 hg9 hb69 sD4 s4 sD5 s45 sD6 s46 sD7 s47 sD8 s48 hb04 hb05 hb06 hb07 hb08 HV7 HV8 HS8 HE1 HE2 hb5a hb6a hb7 hb8 hb68 hgt
          cases hoc : oc with
          | true =>
            rw [hoc] at HO
            have HR : Hid (stepL size D P = D) := Lib.hid (HST.out.1 hoc)
            clear HST hoc
            go_wp2_with (first
              | (go_at_call 18; refine (HO.out _ sD9 s49).mono ?_; rintro e w10 ⟨rfl, rfl⟩)
              | (go_at_call 25; refine (HNX.out q P (by omega) _ (HS.out.up hb09)).mono ?_; rintro e w11 ⟨⟨b5, q5, hn5, hq5, rfl⟩, rfl⟩))
            go_roundw
            case rel => exact ⟨q5, d, g, b5, D, G, rfl, rfl, hq5, Lib.hid (by rw [← HR.out]; exact HX.out _ _ hn5), rfl, hd, hg, HD, sD9, hb09⟩
            case measure => exact trn_measure hz hn5
          | false =>
            rw [hoc] at HO
            by_cases hjs : jl ≤ size
            · have t7 : decide ((jl : Int) ≤ (size : Int)) = true := decide_eq_true (by omega)
              have HR : Hid (stepL size D P = J) := Lib.hid (HST.out.2.2 hoc hjs)
              clear HST hoc
              go_wp2_with (first
                | (go_at_call 18; refine (HO.out _ sD9 s49).mono ?_; rintro e w10 ⟨rfl, rfl⟩)
                | (go_at_call 25; refine (HNX.out q P (by omega) _ (HS.out.up hb09)).mono ?_; rintro e w11 ⟨⟨b5, q5, hn5, hq5, rfl⟩, rfl⟩))
              go_roundw
              case rel => exact ⟨q5, jl, c9, b5, J, A9, rfl, rfl, hq5, Lib.hid (by rw [← HR.out]; exact HX.out _ _ hn5), rfl, by omega, hc9, HJL, Sl.of_own HV9.out, hb09⟩
              case measure => exact trn_measure hz hn5
            · have t7 : decide ((jl : Int) ≤ (size : Int)) = false := decide_eq_false (by omega)
              have HR : Hid (stepL size D P = D) := Lib.hid (HST.out.2.1 hjs)
              clear HST hoc
              go_wp2_with (first
                | (go_at_call 18; refine (HO.out _ sD9 s49).mono ?_; rintro e w10 ⟨rfl, rfl⟩)
                | (go_at_call 25; refine (HNX.out q P (by omega) _ (HS.out.up hb09)).mono ?_; rintro e w11 ⟨⟨b5, q5, hn5, hq5, rfl⟩, rfl⟩))
              go_roundw
              case rel => exact ⟨q5, d, g, b5, D, G, rfl, rfl, hq5, Lib.hid (by rw [← HR.out]; exact HX.out _ _ hn5), rfl, hd, hg, HD, sD9, hb09⟩
              case measure => exact trn_measure hz hn5
        · have s8 := fun (W : World) (h : Sl W W.heap.size A4 8 (bl P)) => h.cut (k := e1) (cap := c4) (by omega) hc4
          rw [if_neg hce, bl_drop] at s8
          have HS8 := Lib.hid s8
          clear s8
          obtain ⟨ad4, rfl, _, _⟩ := s4.2 (by omega)
          go_upto_region 11 with (first
            | (go_at_call 26; (with_reducible refine (HE1.out _ sD4 s4).mono ?_); rintro e w5a ⟨rfl, hb5a⟩; have sD5 := sD4.up hb5a; have s45 := s4.up hb5a; have hb05 := up_call hb04 hb5a)
            | (go_at_call 26; (with_reducible refine (HE2.out _ sD5 s45).mono ?_); rintro e w6a ⟨rfl, hb6a⟩; have sD6 := sD5.up hb6a; have s46 := s45.up hb6a; have hb06 := up_call hb05 hb6a)
            | (at_builtin; refine wpList_app _ rfl _ _ _ rfl w6a.heap.size 5 i0 (.int .u8 0) 1 Try.underlying23 hi hz0 hz1 hz2 rfl (.slice none 0 0) 0 [] rfl (World.ownsRow_nil _ _ _ _) w6a.heap.size G d g _ rfl sD6 (bl_one _) (by unfold maxLen; omega) (by omega) (Nat.le_refl _) ?_; intro v7 w7 hown7 hg7; have hb7 := blw_grown (Below.refl w6a.heap.size w6a) hg7 (Nat.le_refl _) (World.ownsRow_nil w6a w6a.heap.size 5 1) (Nat.le_refl _); rw [List.nil_append, Nat.zero_add] at hown7; have HV7 := Lib.hid hown7; clear hown7 hg7; obtain ⟨A7, c7, hv7, _, _⟩ := own_form HV7.out; subst hv7; have sD7 := sD6.up hb7; have s47 := s46.up hb7; have hb07 := up_call hb06 hb7)
            | (go_at_call 26; (with_reducible refine (HE1.out _ sD7 s47).mono ?_); rintro e w8 ⟨rfl, hb8⟩; have sD8 := sD7.up hb8; have s48 := s47.up hb8; have hb08 := up_call hb07 hb8; have HV8 := Lib.hid (own_below HV7.out hb8); have hb68 := up_call hb7 hb8)
            | (at_builtin; refine wpList_app _ rfl _ _ _ rfl w6a.heap.size 5 i0 (.int .u8 0) 1 Try.underlying23 hi hz0 hz1 hz2 rfl _ d _ rfl HV8.out w8.heap.size _ (8 - e1) _ _ rfl (HS8.out _ s48) (bl_one _) (by unfold maxLen; omega) (by omega) hb68.size ?_; intro v9 w9 hown9 hg9; have hb69 := blw_grown hb68 hg9 hb68.size HV8.out (Nat.le_refl _)))
          rw [hj1, ← bl_append, ← HJD.out] at hown9
          have HV9 := Lib.hid hown9
          obtain ⟨A9, c9, hv9, hc9, _⟩ := own_form HV9.out
          subst hv9
          have sD9 := sD6.up hb69
          have s49 := s46.up hb69
          have hb09 := up_call hb06 hb69
          clear hown9 hg9 hb69 sD4 s4 sD5 s45 sD6 s46 sD7 s47 sD8 s48 hb04 hb05 hb06 hb07 hb08 HV7 HV8 HS8 HE1 HE2 hb5a hb6a hb7 hb8 hb68 hgt
          cases hoc : oc with
          | true =>
            rw [hoc] at HO
            have HR : Hid (stepL size D P = D) := Lib.hid (HST.out.1 hoc)
            clear HST hoc
            go_wp2_with (first
              | (go_at_call 18; refine (HO.out _ sD9 s49).mono ?_; rintro e w10 ⟨rfl, rfl⟩)
              | (go_at_call 25; refine (HNX.out q P (by omega) _ (HS.out.up hb09)).mono ?_; rintro e w11 ⟨⟨b5, q5, hn5, hq5, rfl⟩, rfl⟩))
            go_roundw
            case rel => exact ⟨q5, d, g, b5, D, G, rfl, rfl, hq5, Lib.hid (by rw [← HR.out]; exact HX.out _ _ hn5), rfl, hd, hg, HD, sD9, hb09⟩
            case measure => exact trn_measure hz hn5
          | false =>
            rw [hoc] at HO
            by_cases hjs : jl ≤ size
            · have t7 : decide ((jl : Int) ≤ (size : Int)) = true := decide_eq_true (by omega)
              have HR : Hid (stepL size D P = J) := Lib.hid (HST.out.2.2 hoc hjs)
              clear HST hoc
              go_wp2_with (first
                | (go_at_call 18; refine (HO.out _ sD9 s49).mono ?_; rintro e w10 ⟨rfl, rfl⟩)
                | (go_at_call 25; refine (HNX.out q P (by omega) _ (HS.out.up hb09)).mono ?_; rintro e w11 ⟨⟨b5, q5, hn5, hq5, rfl⟩, rfl⟩))
              go_roundw
              case rel => exact ⟨q5, jl, c9, b5, J, A9, rfl, rfl, hq5, Lib.hid (by rw [← HR.out]; exact HX.out _ _ hn5), rfl, by omega, hc9, HJL, Sl.of_own HV9.out, hb09⟩
              case measure => exact trn_measure hz hn5
            · have t7 : decide ((jl : Int) ≤ (size : Int)) = false := decide_eq_false (by omega)
              have HR : Hid (stepL size D P = D) := Lib.hid (HST.out.2.1 hjs)
              clear HST hoc
              go_wp2_with (first
                | (go_at_call 18; refine (HO.out _ sD9 s49).mono ?_; rintro e w10 ⟨rfl, rfl⟩)
                | (go_at_call 25; refine (HNX.out q P (by omega) _ (HS.out.up hb09)).mono ?_; rintro e w11 ⟨⟨b5, q5, hn5, hq5, rfl⟩, rfl⟩))
              go_roundw
              case rel => exact ⟨q5, d, g, b5, D, G, rfl, rfl, hq5, Lib.hid (by rw [← HR.out]; exact HX.out _ _ hn5), rfl, hd, hg, HD, sD9, hb09⟩
              case measure => exact trn_measure hz hn5
      · have t5 : decide ((e2 : Int) < (e1 : Int)) = false := decide_eq_false (by omega)
        have hjd : J = P.take (8 - e2) ++ D := by rw [hJ, joinL, ← he1, ← he2, if_neg hgt, H8.out]
        have HJD := Lib.hid hjd
        clear hjd hJ he1 he2
        have hj1 : 8 - e2 + d = jl := by rw [HJL.out, HJD.out, List.length_append, List.length_take, ← HD.out, H8.out]; omega
        obtain ⟨k, hk⟩ : ∃ k, k = 8 - e2 := ⟨_, rfl⟩
        have ww : IntKind.i64.wrap (8 - (e2 : Int)) = (k : Int) := by rw [IntKind.wrap_i64]; omega
        have k0 : (0 : Int) ≤ (k : Int) := by omega
        have k1 : (k : Int) ≤ (c4 : Int) := by omega
        have s8 := fun (W : World) (h : Sl W W.heap.size A4 8 (bl P)) => h.first (k := k) (by omega)
        rw [bl_take] at s8
        rw [← hk] at hj1 HJD
        have HS8 := Lib.hid s8
        have hk8 : k ≤ 8 := by omega
        clear s8 hk
        go_upto_region 11 with (first
          | (go_at_call 26; (with_reducible refine (HE1.out _ sD4 s4).mono ?_); rintro e w5a ⟨rfl, hb5a⟩; have sD5 := sD4.up hb5a; have s45 := s4.up hb5a; have hb05 := up_call hb04 hb5a)
          | (go_at_call 26; (with_reducible refine (HE2.out _ sD5 s45).mono ?_); rintro e w6a ⟨rfl, hb6a⟩; have sD6 := sD5.up hb6a; have s46 := s45.up hb6a; have hb06 := up_call hb05 hb6a)
          | (go_at_call 26; (with_reducible refine (HE2.out _ sD6 s46).mono ?_); rintro e w8 ⟨rfl, hb8⟩; have sD8 := sD6.up hb8; have s48 := s46.up hb8; have hb08 := up_call hb06 hb8)
          | (at_builtin; refine wpList_app _ rfl _ _ _ rfl w8.heap.size 5 i0 (.int .u8 0) 1 Try.underlying23 hi hz0 hz1 hz2 rfl (.slice none 0 0) 0 [] rfl (World.ownsRow_nil _ _ _ _) w8.heap.size A4 k _ _ rfl (HS8.out _ s48) (bl_one _) (by unfold maxLen; omega) (by omega) (Nat.le_refl _) ?_; intro v7 w7 hown7 hg7; have hb7 := blw_grown (Below.refl w8.heap.size w8) hg7 (Nat.le_refl _) (World.ownsRow_nil w8 w8.heap.size 5 1) (Nat.le_refl _); rw [List.nil_append, Nat.zero_add] at hown7; have HV7 := Lib.hid hown7; clear hown7 hg7; obtain ⟨A7, c7, hv7, _, _⟩ := own_form HV7.out; subst hv7; have sD7 := sD8.up hb7)
          | (at_builtin; refine wpList_app _ rfl _ _ _ rfl w8.heap.size 5 i0 (.int .u8 0) 1 Try.underlying23 hi hz0 hz1 hz2 rfl _ k _ rfl HV7.out w7.heap.size G d g _ rfl sD7 (bl_one _) (by unfold maxLen; omega) (by omega) hb7.size ?_; intro v9 w9 hown9 hg9; have hb89 := blw_grown hb7 hg9 hb7.size HV7.out (Nat.le_refl _)))
        rw [hj1, ← bl_append, ← HJD.out] at hown9
        have HV9 := Lib.hid hown9
        obtain ⟨A9, c9, hv9, hc9, _⟩ := own_form HV9.out
        subst hv9
        have sD9 := sD8.up hb89
        have s49 := s48.up hb89
        have hb09 := up_call hb08 hb89
        clear hown9 hg9 hb89 sD4 s4 sD5 s45 sD6 s46 sD7 sD8 s48 hb04 hb05 hb06 hb08 HV7 HS8 HE1 HE2 hb5a hb6a hb7 hb8 hgt
        cases hoc : oc with
        | true =>
          rw [hoc] at HO
          have HR : Hid (stepL size D P = D) := Lib.hid (HST.out.1 hoc)
          clear HST hoc
          go_wp2_with (first
            | (go_at_call 18; refine (HO.out _ sD9 s49).mono ?_; rintro e w10 ⟨rfl, rfl⟩)
            | (go_at_call 25; refine (HNX.out q P (by omega) _ (HS.out.up hb09)).mono ?_; rintro e w11 ⟨⟨b5, q5, hn5, hq5, rfl⟩, rfl⟩))
          go_roundw
          case rel => exact ⟨q5, d, g, b5, D, G, rfl, rfl, hq5, Lib.hid (by rw [← HR.out]; exact HX.out _ _ hn5), rfl, hd, hg, HD, sD9, hb09⟩
          case measure => exact trn_measure hz hn5
        | false =>
          rw [hoc] at HO
          by_cases hjs : jl ≤ size
          · have t7 : decide ((jl : Int) ≤ (size : Int)) = true := decide_eq_true (by omega)
            have HR : Hid (stepL size D P = J) := Lib.hid (HST.out.2.2 hoc hjs)
            clear HST hoc
            go_wp2_with (first
              | (go_at_call 18; refine (HO.out _ sD9 s49).mono ?_; rintro e w10 ⟨rfl, rfl⟩)
              | (go_at_call 25; refine (HNX.out q P (by omega) _ (HS.out.up hb09)).mono ?_; rintro e w11 ⟨⟨b5, q5, hn5, hq5, rfl⟩, rfl⟩))
            go_roundw
            case rel => exact ⟨q5, jl, c9, b5, J, A9, rfl, rfl, hq5, Lib.hid (by rw [← HR.out]; exact HX.out _ _ hn5), rfl, by omega, hc9, HJL, Sl.of_own HV9.out, hb09⟩
            case measure => exact trn_measure hz hn5
          · have t7 : decide ((jl : Int) ≤ (size : Int)) = false := decide_eq_false (by omega)
            have HR : Hid (stepL size D P = D) := Lib.hid (HST.out.2.1 hjs)
            clear HST hoc
            go_wp2_with (first
              | (go_at_call 18; refine (HO.out _ sD9 s49).mono ?_; rintro e w10 ⟨rfl, rfl⟩)
              | (go_at_call 25; refine (HNX.out q P (by omega) _ (HS.out.up hb09)).mono ?_; rintro e w11 ⟨⟨b5, q5, hn5, hq5, rfl⟩, rfl⟩))
            go_roundw
            case rel => exact ⟨q5, d, g, b5, D, G, rfl, rfl, hq5, Lib.hid (by rw [← HR.out]; exact HX.out _ _ hn5), rfl, hd, hg, HD, sD9, hb09⟩
            case measure => exact trn_measure hz hn5
end Go.Proofs.Ytcmbpniikcghfaa
