/-
  The contract of the reference's Decoded.
-/
import Derived.Test.YtcnokjiohbifeaaRSteps
import Derived.Test.YtcnokjiohbifeaaRWin
namespace Go.Proofs.Ytcnokjiohbifeaa
open Go.RowKit

theorem dec_step {C : Nat → Bool} {L H v m V p : Nat} {ps : List Nat} {o T : List Bool} {M : Nat} (b : Bool) {fL fH : Nat} {s : List Nat} (hf : stepN L H p b = (fL, fH, s)) (hw : WideR L H) (h1 : 1 ≤ p) (h2 : p ≤ 4095) (hv1 : L ≤ v) (hv2 : v ≤ H) (e : v + 32768 * V = numF C (m + 16)) (hb : decide (v ≤ splitN L H p) = b)
    (t : o ++ takeN C L H v (m + 16) (p :: ps) = T) (hm : m + manyN C L H v (m + 16) (p :: ps) = M) :
    ∃ v', WideR fL fH ∧ fL ≤ v' ∧ v' ≤ fH ∧ v' + 32768 * valF V s = numF C (m + s.length + 16) ∧ (o ++ [b]) ++ takeN C fL fH v' (m + s.length + 16) ps = T ∧ m + s.length + manyN C fL fH v' (m + s.length + 16) ps = M := by
  subst hb
  obtain ⟨s1, s2, s3, s4⟩ := step_ok hw h1 h2 (decide (v ≤ splitN L H p))
  obtain ⟨r1, r2, r3⟩ := part_room hw h1 h2 (decide (v ≤ splitN L H p))
  obtain ⟨p1, p2⟩ := part_of L H p v hv1 hv2
  obtain ⟨m1, m2, m3⟩ := move_dbl C 14 _ _ v (m + 16) p1 p2 r2
  have m4 := move_inv (V := V) (f := 14) p1 p2 r2 e
  rw [show dblN 14 (partN L H p (decide (v ≤ splitN L H p))).1 (partN L H p (decide (v ≤ splitN L H p))).2 = (fL, fH, s) from hf] at m2 m3 m4
  rw [takeN] at t
  rw [manyN] at hm
  rw [hf] at s1 t hm
  simp only at s1 t hm m2 m3 m4
  rw [show m + 16 + s.length = m + s.length + 16 by omega] at t hm m4
  exact ⟨_, s1, m2, m3, m4, by rw [List.append_assoc]; exact t, by omega⟩
theorem own_samer {w w' : World} {base : Nat} {e : TypeId} {v : Value} {n : Nat} {xs : List Value} (h : w.ownsRow base e 1 v n xs) (hb : Below w.heap.size w w') : w'.ownsRow base e 1 v n xs := by
  refine ⟨h.1, ?_⟩
  rcases h.2 with h0 | ⟨g, cap, cur, rfl, h2, h3, h4⟩
  · exact .inl h0
  · exact .inr ⟨g, cap, cur, rfl, h2, (hb.block g (h.lt g rfl).2).trans h3, h4⟩
theorem il_b' (o : List Bool) (b : Bool) (z : Int) (hz : z = ((b.toNat : Nat) : Int)) : il (o ++ [b]) = il o ++ [.int .i64 z] := by
  subst hz
  rw [il_append]
  unfold il
  rfl
theorem valF_take (V : Nat) (s : List Nat) (k : Nat) (h : k < s.length) : valF V (s.take (k + 1)) = 2 * valF V (s.take k) + s.getD k 0 := by
  rw [List.take_succ_eq_append_getElem h, valF_append, valF, valF]
  simp [List.getD_eq_getElem?_getD, h]

set_option maxRecDepth 100000 in
set_option maxHeartbeats 8000000 in
theorem decoded_any (l : List Bool) (hl : l.length ≤ 200000) (ps : List Nat) (hps : ∀ p ∈ ps, 1 ≤ p ∧ p ≤ 4095) (n : Nat) (hn : n = ps.length) (hnn : n ≤ 10000) (N : Nat) (hN : N = l.length) (A B : Option Addr) (c d : Nat) (w : World) (hS : Sl w w.heap.size A N (il l)) (hP : Sl w w.heap.size B n (nl ps))
    (C : Nat → Bool) (hC : C = fun i => l.getD i false) (T : List Bool) (M : Nat) (hT : takeN C 0 65535 (numF C 16) 16 ps = T) (hM : manyN C 0 65535 (numF C 16) 16 ps = M) :
    Calls Try.prog 33 #[.slice A N c, .slice B n d] w fun e w' => ∃ v, e = .returned (.tuple #[v, .int .i64 (M : Int)]) ∧ w'.ownsRow w.heap.size 3 1 v T.length (il T) ∧ Below w.heap.size w w' := by
  obtain ⟨i0, hi, hz0, hz1, hz2⟩ := info_parts infoI
  have HN := Lib.hid (And.intro hn (And.intro hps (And.intro hN hl)))
  have HT := Lib.hid (And.intro hT hM)
  have hv16 := numF_lt C 16
  have HC := Lib.hid hC
  clear hn hps hN hl hT hM hC
  go_enter Try.func33, Try.ntmps33
  go_wp2
  go_loopw [6, 7, 8, 9, 10, 11] (fun lo hh ba ma ov i wr => ∃ (j L H g m : Nat) (o : List Bool), j ≤ n ∧ i = .int .i64 (j : Int) ∧ lo = .int .i64 (L : Int) ∧ hh = .int .i64 (H : Int) ∧ ba = .int .i64 (g : Int) ∧ ma = .int .i64 (m : Int) ∧ m ≤ 14 * j ∧ o.length = j ∧ (∃ v V, g = 32768 * V % 16777216 ∧ WideR L H ∧ L ≤ v ∧ v ≤ H ∧ v + 32768 * V = numF C (m + 16) ∧ o ++ takeN C L H v (m + 16) (ps.drop j) = T ∧ m + manyN C L H v (m + 16) (ps.drop j) = M) ∧ wr.ownsRow w.heap.size 3 1 ov j (il o) ∧ Below w.heap.size w wr) (fun _ _ _ _ _ i _ => n - (intOf i).toNat)
  case atStart => exact ⟨0, 0, 65535, 0, 0, [], Nat.zero_le _, rfl, rfl, rfl, rfl, rfl, Nat.le_refl _, rfl, ⟨numF C 16, 0, rfl, by decide, Nat.zero_le _, Nat.le_of_lt_succ hv16, rfl, by rw [List.drop_zero, List.nil_append]; exact HT.out.1, by rw [List.drop_zero, Nat.zero_add]; exact HT.out.2⟩, by rw [il_nil]; exact World.ownsRow_nil _ _ _ _, Below.refl _ _⟩
  case round =>
    clear hv16
    obtain ⟨j, L, H, g, m, o, hj, rfl, rfl, rfl, rfl, rfl, hmj, hol, ⟨v, V, hg, hw, hv1, hv2, hval, ht, hmm⟩, ho, hb⟩ := hrel
    by_cases hlt : j < n
    · obtain ⟨ad, rfl, hba, hcell⟩ := (hP.up hb).num hlt
      have hjs : j < ps.length := by rw [← HN.out.1]; exact hlt
      have hp12 := HN.out.2.1 ps[j] (List.getElem_mem hjs)
      rw [List.drop_eq_getElem_cons hjs] at ht hmm
      have hpg : ps.getD j 0 = ps[j] := by simp [List.getD_eq_getElem?_getD, hjs]
      rw [hpg] at hcell
      obtain ⟨p, hp⟩ : ∃ p, p = ps[j] := ⟨_, rfl⟩
      rw [← hp] at hp12 ht hmm hcell
      obtain ⟨hp1, hp2⟩ := hp12
      have HPP := Lib.hid (hpg.trans hp.symm)
      clear hp hpg hjs
      have hwin := window_any l (Nat.le_trans HN.out.2.2.2 (by decide)) A c (m + 16) (by omega) N HN.out.2.2.1 wr (hS.up hb)
      rw [← HC.out] at hwin
      rw [show ((m + 16 : Nat) : Int) = (m : Int) + 16 from rfl] at hwin
      have hvm := value_mod (v := v) (V := V) (N := numF C (m + 16)) (by obtain ⟨_, _, h3, _⟩ := hw; omega) hval
      rw [← hg] at hvm
      obtain ⟨x, hx⟩ : ∃ x, x = numF C (m + 16) % 16777216 := ⟨_, rfl⟩
      have hx2 : x < 16777216 := by rw [hx]; exact Nat.mod_lt _ (by decide)
      have hg2 : g < 16777216 := by rw [hg]; exact Nat.mod_lt _ (by decide)
      rw [← hx] at hwin hvm
      have hsp := split_any L H p hw hp1 hp2
      obtain ⟨q, hq⟩ : ∃ q, q = splitN L H p := ⟨_, rfl⟩
      rw [← hq] at hsp
      obtain ⟨hw1, hw2, hw3, hw4⟩ := id hw
      by_cases hle : v ≤ q
      · have hdb : decide (v ≤ splitN L H p) = true := by rw [← hq]; exact decide_eq_true (by omega)
        have hst := steps_any L H p true hw hp1 hp2
        obtain ⟨fL, fH, s, hf⟩ : ∃ fL fH s, stepN L H p true = (fL, fH, s) := ⟨_, _, _, rfl⟩
        obtain ⟨v', k1, k2, k3, k4, k5, k6⟩ := dec_step true hf hw hp1 hp2 hv1 hv2 hval hdb ht hmm
        obtain ⟨_, hsl, _, hs2⟩ := step_ok hw hp1 hp2 true
        rw [hf] at hst hsl hs2
        simp only at hst hsl hs2
        rw [show (((true : Bool).toNat : Nat) : Int) = 1 from rfl] at hst
        have HST := Lib.hid hst
        have HS2 := Lib.hid hs2
        have HSP := Lib.hid hsp
        have HWN := Lib.hid hwin
        have HO := Lib.hid ho
        have HG := Lib.hid hg
        have HK := Lib.hid (And.intro k1 (And.intro k2 (And.intro k3 (And.intro k4 (And.intro k5 k6)))))
        have HBC := Lib.hid (il_b' o true 1 rfl)
        have HOL := Lib.hid hol
        have tle : decide ((v : Int) ≤ (q : Int)) = true := decide_eq_true (by omega)
        clear hst hs2 hsp hwin ho hg k1 k2 k3 k4 k5 k6 hol hdb hf hq ht hmm hval hx hw
        go_wp2_with (first
          | (go_at_call 52; refine HWN.out.mono ?_; rintro e w9 ⟨rfl, h9⟩; subst h9)
          | (go_at_call 28; refine (HSP.out _).mono ?_; rintro e w9 ⟨rfl, h9⟩; subst w9)
          | (at_builtin; refine wpList_app _ rfl _ _ _ rfl w.heap.size 3 i0 (.int .i64 0) 8 Try.underlying38 hi hz0 hz1 hz2 rfl _ j _ rfl (HO.out.alloc _) (wr.heap.size + 1) _ 1 _ [_] rfl (Sl.one _ _ _) (fun u hu => by obtain rfl := List.mem_singleton.1 hu; rfl) (by unfold maxLen; omega) (by omega) (Nat.le_trans hb.size (by simp)) ?_; intro v2 w2 hown2 hgr2; have hb2 : Below w.heap.size w w2 := blw_grown (hb.alloc hb.size _) hgr2 (Nat.le_trans hb.size (by simp)) (HO.out.alloc _) (Nat.le_refl _); obtain ⟨ad9, he9, _, hcell2⟩ := (hP.up hb2).num hlt; injection he9 with he9; subst he9; rw [HPP.out] at hcell2)
          | (go_at_call 21; refine (HST.out _).mono ?_; rintro e w5 ⟨v5, rfl, hown5, hb5⟩))
        obtain ⟨A5, c5, hv5, _, _⟩ := own_form hown5
        subst hv5
        have hS5 := Sl.of_own hown5
        clear hown5
        rw [← HBC.out] at hown2
        have HO5 := Lib.hid (And.intro (own_samer hown2 hb5) (up_call hb2 hb5))
        obtain ⟨ns, hns⟩ : ∃ ns, ns = s.length := ⟨_, rfl⟩
        rw [← hns] at hS5 hsl ⊢
        have HNS := Lib.hid hns
        clear hgr2 hown2 hb2 hb5 hvm tle hle hns
        go_loop [8, 15] (fun q k => ∃ t : Nat, t ≤ ns ∧ k = .int .i64 (t : Int) ∧ q = .int .i64 ((32768 * valF V (s.take t) % 16777216 : Nat) : Int)) (fun _ k => ns - (intOf k).toNat)
        case atStart => exact ⟨0, Nat.zero_le _, rfl, by rw [List.take_zero, HG.out]; rfl⟩
        case round =>
          obtain ⟨t, htn, rfl, rfl⟩ := hrel
          by_cases htl : t < ns
          · obtain ⟨ad5, rfl, hba5, hcell5⟩ := hS5.num htl
            have hts : t < s.length := by rw [← HNS.out]; exact htl
            have hk2 := HS2.out _ (List.getElem_mem hts)
            rw [show s[t] = s.getD t 0 from by simp [List.getD_eq_getElem?_getD, hts]] at hk2
            have hvt := valF_take V s t hts
            obtain ⟨kk, hkk⟩ : ∃ kk, kk = s.getD t 0 := ⟨_, rfl⟩
            rw [← hkk] at hk2 hvt hcell5
            obtain ⟨X, hX⟩ : ∃ X, X = valF V (s.take t) := ⟨_, rfl⟩
            rw [← hX] at hvt ⊢
            obtain ⟨y, hy⟩ : ∃ y, y = 32768 * X % 16777216 := ⟨_, rfl⟩
            have hy2 : y < 16777216 := by rw [hy]; exact Nat.mod_lt _ (by decide)
            have hnew : (2 * (y : Int) + 32768 * (kk : Int)) % 16777216 = ((32768 * (2 * X + kk) % 16777216 : Nat) : Int) := by rw [hy]; omega
            rw [← hy] at ⊢
            rw [← hvt] at hnew
            obtain ⟨z, hz⟩ : ∃ z, z = 32768 * valF V (s.take (t + 1)) % 16777216 := ⟨_, rfl⟩
            rw [← hz] at hnew
            have HZ := Lib.hid hz
            clear hts hvt hkk hX hy hz
            go_wp2
            go_round
            case rel => exact ⟨t + 1, by omega, by go_num, by rw [← HZ.out, ← hnew]⟩
            case measure => simp [intOf]; omega
          · obtain rfl : t = ns := by omega
            have hfull : s.take t = s := List.take_of_length_le (by rw [HNS.out]; exact Nat.le_refl _)
            rw [hfull]
            obtain ⟨v6, hv6⟩ : ∃ v6, v6 = 32768 * valF V s % 16777216 := ⟨_, rfl⟩
            rw [← hv6]
            have HV6 := Lib.hid hv6
            clear hfull hv6
            go_wp2
            go_roundw
            case rel => exact ⟨j + 1, fL, fH, v6, m + t, o ++ [true], by omega, by go_num, rfl, rfl, rfl, by go_num, by omega, by rw [List.length_append, HOL.out]; rfl, ⟨v', valF V s, HV6.out, by rw [HNS.out]; exact HK.out⟩, HO5.out.1, HO5.out.2⟩
            case measure => simp [intOf]; omega
      · have hdb : decide (v ≤ splitN L H p) = false := by rw [← hq]; exact decide_eq_false (by omega)
        have hst := steps_any L H p false hw hp1 hp2
        obtain ⟨fL, fH, s, hf⟩ : ∃ fL fH s, stepN L H p false = (fL, fH, s) := ⟨_, _, _, rfl⟩
        obtain ⟨v', k1, k2, k3, k4, k5, k6⟩ := dec_step false hf hw hp1 hp2 hv1 hv2 hval hdb ht hmm
        obtain ⟨_, hsl, _, hs2⟩ := step_ok hw hp1 hp2 false
        rw [hf] at hst hsl hs2
        simp only at hst hsl hs2
        rw [show (((false : Bool).toNat : Nat) : Int) = 0 from rfl] at hst
        have HST := Lib.hid hst
        have HS2 := Lib.hid hs2
        have HSP := Lib.hid hsp
        have HWN := Lib.hid hwin
        have HO := Lib.hid ho
        have HG := Lib.hid hg
        have HK := Lib.hid (And.intro k1 (And.intro k2 (And.intro k3 (And.intro k4 (And.intro k5 k6)))))
        have HBC := Lib.hid (il_b' o false 0 rfl)
        have HOL := Lib.hid hol
        have tle : decide ((v : Int) ≤ (q : Int)) = false := decide_eq_false (by omega)
        clear hst hs2 hsp hwin ho hg k1 k2 k3 k4 k5 k6 hol hdb hf hq ht hmm hval hx hw
        go_wp2_with (first
          | (go_at_call 52; refine HWN.out.mono ?_; rintro e w9 ⟨rfl, h9⟩; subst h9)
          | (go_at_call 28; refine (HSP.out _).mono ?_; rintro e w9 ⟨rfl, h9⟩; subst w9)
          | (at_builtin; refine wpList_app _ rfl _ _ _ rfl w.heap.size 3 i0 (.int .i64 0) 8 Try.underlying38 hi hz0 hz1 hz2 rfl _ j _ rfl (HO.out.alloc _) (wr.heap.size + 1) _ 1 _ [_] rfl (Sl.one _ _ _) (fun u hu => by obtain rfl := List.mem_singleton.1 hu; rfl) (by unfold maxLen; omega) (by omega) (Nat.le_trans hb.size (by simp)) ?_; intro v2 w2 hown2 hgr2; have hb2 : Below w.heap.size w w2 := blw_grown (hb.alloc hb.size _) hgr2 (Nat.le_trans hb.size (by simp)) (HO.out.alloc _) (Nat.le_refl _); obtain ⟨ad9, he9, _, hcell2⟩ := (hP.up hb2).num hlt; injection he9 with he9; subst he9; rw [HPP.out] at hcell2)
          | (go_at_call 21; refine (HST.out _).mono ?_; rintro e w5 ⟨v5, rfl, hown5, hb5⟩))
        obtain ⟨A5, c5, hv5, _, _⟩ := own_form hown5
        subst hv5
        have hS5 := Sl.of_own hown5
        clear hown5
        rw [← HBC.out] at hown2
        have HO5 := Lib.hid (And.intro (own_samer hown2 hb5) (up_call hb2 hb5))
        obtain ⟨ns, hns⟩ : ∃ ns, ns = s.length := ⟨_, rfl⟩
        rw [← hns] at hS5 hsl ⊢
        have HNS := Lib.hid hns
        clear hgr2 hown2 hb2 hb5 hvm tle hle hns
        go_loop [8, 15] (fun q k => ∃ t : Nat, t ≤ ns ∧ k = .int .i64 (t : Int) ∧ q = .int .i64 ((32768 * valF V (s.take t) % 16777216 : Nat) : Int)) (fun _ k => ns - (intOf k).toNat)
        case atStart => exact ⟨0, Nat.zero_le _, rfl, by rw [List.take_zero, HG.out]; rfl⟩
        case round =>
          obtain ⟨t, htn, rfl, rfl⟩ := hrel
          by_cases htl : t < ns
          · obtain ⟨ad5, rfl, hba5, hcell5⟩ := hS5.num htl
            have hts : t < s.length := by rw [← HNS.out]; exact htl
            have hk2 := HS2.out _ (List.getElem_mem hts)
            rw [show s[t] = s.getD t 0 from by simp [List.getD_eq_getElem?_getD, hts]] at hk2
            have hvt := valF_take V s t hts
            obtain ⟨kk, hkk⟩ : ∃ kk, kk = s.getD t 0 := ⟨_, rfl⟩
            rw [← hkk] at hk2 hvt hcell5
            obtain ⟨X, hX⟩ : ∃ X, X = valF V (s.take t) := ⟨_, rfl⟩
            rw [← hX] at hvt ⊢
            obtain ⟨y, hy⟩ : ∃ y, y = 32768 * X % 16777216 := ⟨_, rfl⟩
            have hy2 : y < 16777216 := by rw [hy]; exact Nat.mod_lt _ (by decide)
            have hnew : (2 * (y : Int) + 32768 * (kk : Int)) % 16777216 = ((32768 * (2 * X + kk) % 16777216 : Nat) : Int) := by rw [hy]; omega
            rw [← hy] at ⊢
            rw [← hvt] at hnew
            obtain ⟨z, hz⟩ : ∃ z, z = 32768 * valF V (s.take (t + 1)) % 16777216 := ⟨_, rfl⟩
            rw [← hz] at hnew
            have HZ := Lib.hid hz
            clear hts hvt hkk hX hy hz
            go_wp2
            go_round
            case rel => exact ⟨t + 1, by omega, by go_num, by rw [← HZ.out, ← hnew]⟩
            case measure => simp [intOf]; omega
          · obtain rfl : t = ns := by omega
            have hfull : s.take t = s := List.take_of_length_le (by rw [HNS.out]; exact Nat.le_refl _)
            rw [hfull]
            obtain ⟨v6, hv6⟩ : ∃ v6, v6 = 32768 * valF V s % 16777216 := ⟨_, rfl⟩
            rw [← hv6]
            have HV6 := Lib.hid hv6
            clear hfull hv6
            go_wp2
            go_roundw
            case rel => exact ⟨j + 1, fL, fH, v6, m + t, o ++ [false], by omega, by go_num, rfl, rfl, rfl, by go_num, by omega, by rw [List.length_append, HOL.out]; rfl, ⟨v', valF V s, HV6.out, by rw [HNS.out]; exact HK.out⟩, HO5.out.1, HO5.out.2⟩
            case measure => simp [intOf]; omega
    · obtain rfl : j = n := by omega
      have hd : ps.drop j = [] := List.drop_eq_nil_of_le (by rw [HN.out.1]; exact Nat.le_refl _)
      rw [hd, takeN, List.append_nil] at ht
      rw [hd, manyN, Nat.add_zero] at hmm
      subst ht hmm
      go_wp2
      go_ret2
      exact ⟨_, rfl, by rw [hol]; exact ho, hb⟩
end Go.Proofs.Ytcnokjiohbifeaa
