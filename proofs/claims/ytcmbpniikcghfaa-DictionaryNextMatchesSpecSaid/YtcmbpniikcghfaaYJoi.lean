/-
  The contracts of overlap and join.
-/
import Derived.Test.YtcmbpniikcghfaaYP
import Derived.Test.YtcmbpniikcghfaaYLay
namespace Go.Proofs.Ytcmbpniikcghfaa
open Go.RowKit

theorem ext_list (b : List UInt8) (i k : Nat) : (ByteArray.extract ⟨b.toArray⟩ i k).data.toList = (b.take k).drop i := by
  simp [ByteArray.data_extract, List.extract_eq_take_drop, List.drop_take]
theorem suf_drop (a p : List UInt8) : Lib.hasSuffix a p = decide (p.length ≤ a.length ∧ a.drop (a.length - p.length) = p) := by
  unfold Lib.hasSuffix
  rw [Bool.eq_iff_iff, List.isSuffixOf_iff_suffix, decide_eq_true_eq]
  constructor
  · intro h
    exact ⟨h.length_le, (List.suffix_iff_eq_drop.1 h).symm⟩
  · rintro ⟨_, h⟩
    exact List.suffix_iff_eq_drop.2 h.symm
theorem suffix_any (a b : List UInt8) (k : Nat) (ha : a.length ≤ 100000) (hka : k ≤ a.length) (hkb : k ≤ b.length) (w : World) :
    Calls Try.prog 57 #[.string ⟨a.toArray⟩, .string (ByteArray.extract ⟨b.toArray⟩ 0 k)] w fun e w' => e = .returned (.bool (decide (a.drop (a.length - k) = b.take k))) ∧ w' = w := by
  have h := Any.strings_HasSuffix suffixL ⟨a.toArray⟩ (ByteArray.extract ⟨b.toArray⟩ 0 k) w (by show a.toArray.size ≤ _; rw [List.size_toArray]; omega)
  have e : Lib.hasSuffix (⟨a.toArray⟩ : ByteArray).data.toList (ByteArray.extract ⟨b.toArray⟩ 0 k).data.toList = decide (a.drop (a.length - k) = b.take k) := by
    rw [ext_list, List.drop_zero, suf_drop]
    rw [decide_eq_decide, List.length_take, Nat.min_eq_left hkb]
    exact ⟨fun h => h.2, fun h => ⟨hka, h⟩⟩
  rw [e] at h
  exact h

set_option maxRecDepth 100000 in
set_option maxHeartbeats 4000000 in
theorem overlap_any (a b : List UInt8) (ha : a.length ≤ 100000) (_hb : b.length ≤ 100000) (w : World) :
    Calls Try.prog 50 #[.string ⟨a.toArray⟩, .string ⟨b.toArray⟩] w fun e w' => e = .returned (.int .i64 (endsL a b : Nat)) ∧ w' = w := by
  have HS := Lib.hid (fun k h1 h2 w => suffix_any a b k ha h1 h2 w)
  obtain ⟨n, hn⟩ : ∃ n, n = a.length := ⟨_, rfl⟩
  obtain ⟨m, hm⟩ : ∃ m, m = b.length := ⟨_, rfl⟩
  have HL : Hid (endsF a b (min n m) = endsL a b) := Lib.hid (by rw [hn, hm]; rfl)
  have hza : (⟨a.toArray⟩ : ByteArray).size = n := by rw [hn]; rfl
  have hzb : (⟨b.toArray⟩ : ByteArray).size = m := by rw [hm]; rfl
  rw [← hn] at ha HS
  rw [← hm] at _hb HS
  have hmin : ∃ p, p = min n m ∧ p ≤ n ∧ p ≤ m := ⟨_, rfl, by omega, by omega⟩
  obtain ⟨p, hp, hpn, hpm⟩ := hmin
  have HN := Lib.hid hn
  have HM := Lib.hid hm
  rw [← hp] at HL
  have hmi : min (n : Int) (m : Int) = (p : Int) := by omega
  obtain ⟨z, hz⟩ : ∃ z, z = endsL a b := ⟨_, rfl⟩
  rw [← hz] at HL ⊢
  clear hn hm hp hz
  go_enter Try.func50, Try.ntmps50
  go_upto_region 2 with (fail)
  clear hmi
  go_loopw [5] (fun u wr => ∃ k : Nat, wr = w ∧ u = .int .i64 (k : Nat) ∧ k ≤ p ∧ Hid (endsF a b k = z)) (fun u _ => (intOf u).toNat)
  case atStart => exact ⟨p, rfl, rfl, Nat.le_refl _, HL⟩
  case round =>
    clear HL
    obtain ⟨k, rfl, rfl, hk, HK⟩ := hrel
    by_cases h : a.drop (n - k) = b.take k
    · have HC := HS.out k (by omega) (by omega) wr
      rw [decide_eq_true h] at HC
      have hkz : k = z := by
        rw [← HK.out]
        cases k with
        | zero => rfl
        | succ j => rw [endsF, if_pos (by rw [← HN.out]; exact h)]
      have HZ := Lib.hid hkz
      have HCC := Lib.hid HC
      clear HC h hkz
      go_wp2_with (first | (go_at_call 57; refine HCC.out.mono ?_; rintro e w5 ⟨rfl, rfl⟩))
      go_ret
      exact ⟨by rw [← HZ.out]; rfl, rfl⟩
    · have HC := HS.out k (by omega) (by omega) wr
      rw [decide_eq_false h] at HC
      obtain ⟨j, rfl⟩ : ∃ j, k = j + 1 := by
        cases k with
        | zero => exact absurd (by rw [Nat.sub_zero, HN.out, List.drop_length, List.take_zero]) h
        | succ j => exact ⟨j, rfl⟩
      have hkz : endsF a b j = z := by
        rw [← HK.out, endsF, if_neg (by rw [← HN.out]; exact h)]
      have HZ := Lib.hid hkz
      have HCC := Lib.hid HC
      clear HC h hkz HK
      go_wp2_with (first | (go_at_call 57; refine HCC.out.mono ?_; rintro e w5 ⟨rfl, rfl⟩))
      go_roundw
      case rel => exact ⟨j, trivial, by go_num, by omega, HZ⟩
      case measure => simp [intOf]

theorem cat_bytes (D s : List UInt8) : (⟨D.toArray⟩ ++ ⟨s.toArray⟩ : ByteArray) = ⟨(D ++ s).toArray⟩ := by
  apply ByteArray.ext
  rw [ByteArray.data_append]
  simp
theorem ext_bytes (b : List UInt8) (i k : Nat) : ByteArray.extract ⟨b.toArray⟩ i k = ⟨((b.take k).drop i).toArray⟩ := by
  apply ByteArray.ext
  rw [← Array.toList_inj, ext_list]
set_option maxRecDepth 100000 in
set_option maxHeartbeats 4000000 in
theorem join_any (D s : List UInt8) (hD : D.length ≤ 1000) (hs : s.length ≤ 1000) (w : World) :
    Calls Try.prog 35 #[.string ⟨D.toArray⟩, .string ⟨s.toArray⟩] w fun e w' => e = .returned (.string ⟨(joinL D s).toArray⟩) ∧ w' = w := by
  have HO1 := Lib.hid (fun w => overlap_any s D (by omega) (by omega) w)
  have HO2 := Lib.hid (fun w => overlap_any D s (by omega) (by omega) w)
  obtain ⟨n, hn⟩ : ∃ n, n = D.length := ⟨_, rfl⟩
  obtain ⟨m, hm⟩ : ∃ m, m = s.length := ⟨_, rfl⟩
  have hza : (⟨D.toArray⟩ : ByteArray).size = n := by rw [hn]; rfl
  have hzb : (⟨s.toArray⟩ : ByteArray).size = m := by rw [hm]; rfl
  obtain ⟨f, hf⟩ : ∃ f, f = endsL s D := ⟨_, rfl⟩
  obtain ⟨b, hb⟩ : ∃ b, b = endsL D s := ⟨_, rfl⟩
  obtain ⟨J, hJ⟩ : ∃ J, J = joinL D s := ⟨_, rfl⟩
  have hl1 := ends_le s D
  have hl2 := ends_le D s
  rw [← hf] at HO1 hl1
  rw [← hb] at HO2 hl2
  rw [← hJ]
  unfold joinL at hJ
  rw [← hf, ← hb] at hJ
  rw [← hn] at hl1 hl2 hD
  rw [← hm] at hl1 hl2 hs
  obtain ⟨hl1a, hl1b⟩ := hl1
  obtain ⟨hl2a, hl2b⟩ := hl2
  by_cases h : f < b
  · have t1 : decide ((f : Int) < (b : Int)) = true := decide_eq_true (by omega)
    have t2 : decide (f < b) = true := decide_eq_true h
    rw [if_pos h] at hJ
    have HJ : Hid (Value.string (⟨D.toArray⟩ ++ ByteArray.extract ⟨s.toArray⟩ b m) = .string ⟨J.toArray⟩) := Lib.hid (by
      rw [ext_bytes, cat_bytes, hJ, List.take_of_length_le (by rw [hm]; exact Nat.le_refl _)])
    clear hf hb hJ hn hm h
    go_enter Try.func35, Try.ntmps35
    go_wp2_with (first
      | (go_at_call 50; (with_reducible refine (HO1.out _).mono ?_); rintro e w5 ⟨rfl, rfl⟩)
      | (go_at_call 50; (with_reducible refine (HO2.out _).mono ?_); rintro e w5 ⟨rfl, rfl⟩))
    go_ret
    exact ⟨by rw [← HJ.out]; rfl, rfl⟩
  · have t1 : decide ((f : Int) < (b : Int)) = false := decide_eq_false (by omega)
    have t2 : decide (f < b) = false := decide_eq_false h
    rw [if_neg h] at hJ
    obtain ⟨k, hk⟩ : ∃ k, k = m - f := ⟨_, rfl⟩
    have ww : IntKind.i64.wrap ((m : Int) - (f : Int)) = (k : Int) := by rw [IntKind.wrap_i64]; omega
    have hkm : k ≤ m := by omega
    have HJ : Hid (Value.string (ByteArray.extract ⟨s.toArray⟩ 0 k ++ ⟨D.toArray⟩) = .string ⟨J.toArray⟩) := Lib.hid (by
      rw [ext_bytes, cat_bytes, hJ, List.drop_zero, hk, hm])
    clear hf hb hJ hn hm h hk
    go_enter Try.func35, Try.ntmps35
    go_wp2_with (first
      | (go_at_call 50; (with_reducible refine (HO1.out _).mono ?_); rintro e w5 ⟨rfl, rfl⟩)
      | (go_at_call 50; (with_reducible refine (HO2.out _).mono ?_); rintro e w5 ⟨rfl, rfl⟩))
    go_ret
    exact ⟨by rw [← HJ.out]; rfl, rfl⟩
end Go.Proofs.Ytcmbpniikcghfaa
