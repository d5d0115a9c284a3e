/-
  The contract of train.
-/
import Derived.Test.YtcmbpniikcghfaaYShr
import Derived.Test.YtcmbpniikcghfaaYJoi
import Derived.Test.YtcmbpniikcghfaaGStr
namespace Go.Proofs.Ytcmbpniikcghfaa
open Go.RowKit Go.Maps
open Go.Proofs (encStr)

theorem contains_occ (X P : List UInt8) : Lib.contains X P = occB X P := by
  rw [Bool.eq_iff_iff, occB_iff]
  unfold Lib.contains
  rw [decide_eq_true_eq]
  have hpre : ∀ j, Lib.occAt X P j = true ↔ (X.drop j).take P.length = P := fun j => by
    unfold Lib.occAt
    rw [List.isPrefixOf_iff_prefix, List.prefix_iff_eq_take]
    exact ⟨fun h => h.symm, fun h => h.symm⟩
  constructor
  · intro h
    rcases Lib.index_spec X P with ⟨h1, _⟩ | ⟨i, h1, h2, h3, _⟩
    · omega
    · have h4 := (hpre i).1 h3
      have h5 := Lib.index_room X P h
      exact ⟨i, by omega, h4⟩
  · rintro ⟨i, hi, h⟩
    rcases Lib.index_spec X P with ⟨_, h2⟩ | ⟨j, h1, _⟩
    · have h3 := h2 i (by omega)
      rw [(hpre i).2 h] at h3
      cases h3
    · omega
theorem contains_any (X P : List UInt8) (hX : X.length ≤ 100000) (w : World) (hm : ML w) :
    Calls Try.prog 34 #[.string ⟨X.toArray⟩, .string ⟨P.toArray⟩] w fun e w' => e = .returned (.bool (occB X P)) ∧ w' = w := by
  obtain ⟨m, hm⟩ := hm
  have h := Any.strings_Contains containsL ⟨X.toArray⟩ ⟨P.toArray⟩ m w (by show X.toArray.size < _; rw [List.size_toArray]; omega) hm
  have e : Lib.contains (⟨X.toArray⟩ : ByteArray).data.toList (⟨P.toArray⟩ : ByteArray).data.toList = occB X P := contains_occ X P
  rw [e] at h
  exact h
theorem fold_take (l : List (List UInt8)) (size i : Nat) (P : List UInt8) (h : l[i]? = some P) : (l.take (i + 1)).foldl (stepL size) [] = stepL size ((l.take i).foldl (stepL size) []) P := by
  obtain ⟨hi, h⟩ := List.getElem?_eq_some_iff.1 h
  rw [List.take_succ_eq_append_getElem hi, List.foldl_append, h]
  rfl
theorem ystep_pass {size : Nat} {D P : List UInt8} (h : occB D P = true) : stepL size D P = D := if_neg (fun h2 => by rw [h] at h2; cases h2.1)
theorem ystep_long {size : Nat} {D P : List UInt8} (h : ¬ (joinL D P).length ≤ size) : stepL size D P = D := if_neg (fun h2 => h h2.2)
theorem ystep_join {size : Nat} {D P : List UInt8} (h : occB D P = false) (h2 : (joinL D P).length ≤ size) : stepL size D P = joinL D P := if_pos ⟨h, h2⟩

set_option maxRecDepth 100000 in
set_option maxHeartbeats 8000000 in
theorem ptrain_any (Ss : List (List UInt8)) (N : Nat) (hN : N ≤ 64) (h8 : ∀ X ∈ Ss, X.length ≤ 1024) (size : Nat) (hsz : size ≤ 512) (A : Option Addr) (c : Nat) (w : World) (hM : ML w) (hS : Sls w w.heap.size A N Ss) :
    Calls Try.prog 24 #[.slice A N c, .int .i64 size] w fun e w' => (∃ R G g, TrainIs Ss size R ∧ e = .returned (.slice G R.length g) ∧ R.length ≤ g ∧ Sl w' w'.heap.size G R.length (bl R)) ∧ Below w.heap.size w w' := by
  have HSH := Lib.hid (shared_any Ss N hN h8 A c w hS)
  have HML := Lib.hid hM
  clear hS h8 hM
  go_enter Try.func24, Try.ntmps24
  go_upto_region 3 with (first | (go_at_call 33; refine HSH.out.mono ?_; rintro e w5 ⟨⟨l, G, g, ho, hl, rfl, hg, sl⟩, hb5⟩))
  have HM5 := Lib.hid (HML.out.below hb5)
  have HO := Lib.hid ho
  obtain ⟨n, hn⟩ : ∃ n, n = l.length := ⟨_, rfl⟩
  rw [← hn] at hl hg sl ⊢
  have HN := Lib.hid hn
  clear hn ho HSH HML
  go_loopw [5, 12] (fun dv iv wr => ∃ (i d : Nat) (D : List UInt8), wr = w5 ∧ iv = .int .i64 (i : Nat) ∧ i ≤ n ∧ dv = .string ⟨D.toArray⟩ ∧ d ≤ 512 ∧ Hid (d = D.length) ∧ d ≤ size ∧ Hid (D = (l.take i).foldl (stepL size) [])) (fun _ iv _ => n - (intOf iv).toNat)
  case atStart => exact ⟨0, 0, [], rfl, rfl, Nat.zero_le _, rfl, Nat.zero_le _, Lib.hid rfl, Nat.zero_le _, Lib.hid (by rw [List.take_zero]; rfl)⟩
  case round =>
    obtain ⟨i, d, D, rfl, rfl, hi, rfl, hd, HD, hds, HF⟩ := hrel
    by_cases hlt : i < n
    · have t1 : decide ((i : Int) < (n : Int)) = true := decide_eq_true (by omega)
      have t2 : decide (i < n) = true := decide_eq_true hlt
      obtain ⟨ad, u, rfl, _, hu, k1⟩ := sl.at_ hlt
      have hil : i < l.length := by rw [← HN.out]; exact hlt
      obtain ⟨P, hP⟩ : ∃ P, P = l[i] := ⟨_, rfl⟩
      have hgP : l[i]? = some P := by rw [hP]; exact List.getElem?_eq_getElem hil
      rw [List.getElem?_map, hgP, Option.map_some, Option.some.injEq] at hu
      rw [← hu] at k1
      have hP8 : P.length = 8 := ((HO.out.2 P).1 (by rw [hP]; exact List.getElem_mem hil)).1
      have hft := fold_take l size i P hgP
      rw [← HF.out] at hft
      obtain ⟨oc, hoc⟩ : ∃ o, o = occB D P := ⟨_, rfl⟩
      have hco := contains_any D P (by rw [← HD.out]; omega) wr HM5.out
      rw [← hoc] at hco
      have hjo := join_any D P (by rw [← HD.out]; omega) (by omega) wr
      obtain ⟨J, hJ⟩ : ∃ J, J = joinL D P := ⟨_, rfl⟩
      rw [← hJ] at hjo
      obtain ⟨j, hj⟩ : ∃ j, j = J.length := ⟨_, rfl⟩
      have hzJ : (⟨J.toArray⟩ : ByteArray).size = j := by rw [hj]; rfl
      have HCO := Lib.hid hco
      have HJO := Lib.hid hjo
      have HFT := Lib.hid hft
      cases hocc : oc with
      | true =>
        rw [hocc] at HCO
        have HR : Hid (D = (l.take (i + 1)).foldl (stepL size) []) := Lib.hid (by rw [HFT.out, ystep_pass (by rw [← hoc]; exact hocc)])
        clear hco hjo hft hoc hocc hJ hj hP hu hgP hP8 hil HJO hzJ
        go_wp2_with (first
          | (go_at_call 34; refine HCO.out.mono ?_; rintro e w6 ⟨rfl, rfl⟩))
        go_roundw
        case rel => exact ⟨i + 1, d, D, trivial, by go_num, by omega, rfl, hd, HD, hds, HR⟩
        case measure => simp [intOf]; omega
      | false =>
        rw [hocc] at HCO
        by_cases hjs : j ≤ size
        · have t3 : decide ((j : Int) ≤ (size : Int)) = true := decide_eq_true (by omega)
          have t4 : decide (j ≤ size) = true := decide_eq_true hjs
          have HR : Hid (J = (l.take (i + 1)).foldl (stepL size) []) := Lib.hid (by rw [HFT.out, ystep_join (by rw [← hoc]; exact hocc) (by rw [← hJ, ← hj]; exact hjs), hJ])
          have HJL := Lib.hid hj
          clear hco hjo hft hoc hocc hJ hj hP hu hgP hP8 hil
          go_wp2_with (first
            | (go_at_call 34; refine HCO.out.mono ?_; rintro e w6 ⟨rfl, rfl⟩)
            | (go_at_call 35; refine HJO.out.mono ?_; rintro e w6 ⟨rfl, rfl⟩))
          go_roundw
          case rel => exact ⟨i + 1, j, J, trivial, by go_num, by omega, rfl, by omega, HJL, hjs, HR⟩
          case measure => simp [intOf]; omega
        · have t3 : decide ((j : Int) ≤ (size : Int)) = false := decide_eq_false (by omega)
          have t4 : decide (j ≤ size) = false := decide_eq_false hjs
          have HR : Hid (D = (l.take (i + 1)).foldl (stepL size) []) := Lib.hid (by rw [HFT.out, ystep_long (by rw [← hJ, ← hj]; exact hjs)])
          clear hco hjo hft hoc hocc hJ hj hP hu hgP hP8 hil
          go_wp2_with (first
            | (go_at_call 34; refine HCO.out.mono ?_; rintro e w6 ⟨rfl, rfl⟩)
            | (go_at_call 35; refine HJO.out.mono ?_; rintro e w6 ⟨rfl, rfl⟩))
          go_roundw
          case rel => exact ⟨i + 1, d, D, trivial, by go_num, by omega, rfl, hd, HD, hds, HR⟩
          case measure => simp [intOf]; omega
    · obtain rfl : n = i := by omega
      have t1 : decide ((n : Int) < (n : Int)) = false := decide_eq_false (by omega)
      have t2 : decide (n < n) = false := decide_eq_false (by omega)
      have HE : Hid (TrainIs Ss size D) := Lib.hid ⟨l, HO.out, by rw [HF.out, List.take_of_length_le (by rw [HN.out]; exact Nat.le_refl _)]⟩
      clear HF sl
      go_wp2_with (first
        | (refine wpList_conv_bytes rfl 9 23 5 _ rfl D d rfl HD.out (by unfold maxLen; omega) Try.underlying9 Try.underlying23 Try.underlying5 ?_; intro A4 c4 w4 hc4 hm4 s4 hb4))
      go_ret
      exact ⟨⟨D, A4, c4, HE.out, by rw [← HD.out]; rfl, by rw [← HD.out]; exact hc4, by rw [← HD.out]; exact s4⟩, up_call hb5 hb4⟩
end Go.Proofs.Ytcmbpniikcghfaa
