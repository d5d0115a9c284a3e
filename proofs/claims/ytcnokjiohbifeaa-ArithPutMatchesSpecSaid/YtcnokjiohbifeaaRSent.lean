/-
  The contract of the reference's Sent.
-/
import Derived.Test.YtcnokjiohbifeaaAPlain
import Derived.Test.YtcnokjiohbifeaaIL
import Derived.Test.YtcnokjiohbifeaaRIn
namespace Go.Proofs.Ytcnokjiohbifeaa
open Go.RowKit

theorem sent_step (P : Nat) (s : List Nat) (i : Nat) (h : i < s.length) {k : Nat} (hk : s.getD i 0 = k) : sentN P (s.take (i + 1)) = ((sentN P (s.take i)).1 ++ (sentN (sentN P (s.take i)).2 [k]).1, (sentN (sentN P (s.take i)).2 [k]).2) := by
  rw [List.take_succ_eq_append_getElem h, sent_append]
  have : s[i] = k := by rw [← hk]; simp [List.getD_eq_getElem?_getD, h]
  rw [this]
theorem sent_room (P : Nat) (s : List Nat) (i : Nat) : (sentN P (s.take i)).1.length + (sentN P (s.take i)).2 ≤ P + s.length := by
  have h1 := sent_length (s.take i) P
  have h2 : (s.take i).length ≤ s.length := by rw [List.length_take]; omega
  omega
theorem il_b (o : List Bool) (b : Bool) (z : Int) (hz : z = ((b.toNat : Nat) : Int)) : il (o ++ [b]) = il o ++ [.int .i64 z] := by
  subst hz
  rw [il_append]
  unfold il
  rfl

set_option maxRecDepth 100000 in
set_option maxHeartbeats 8000000 in
theorem sent_any (s : List Nat) (hs : ∀ k ∈ s, k ≤ 2) (P : Nat) (n : Nat) (hn : n = s.length) (hl : P + n ≤ 1000000) (A : Option Addr) (c : Nat) (w : World) (hS : Sl w w.heap.size A n (nl s)) :
    Calls Try.prog 18 #[.slice A n c, .int .i64 P] w fun e w' => ∃ v, e = .returned (.tuple #[v, .int .i64 ((sentN P s).2 : Nat)]) ∧ w'.ownsRow w.heap.size 3 1 v (sentN P s).1.length (il (sentN P s).1) ∧ Below w.heap.size w w' := by
  obtain ⟨i0, hi, hz0, hz1, hz2⟩ := info_parts infoI
  have HN := Lib.hid (And.intro hn hs)
  clear hn hs
  go_enter Try.func18, Try.ntmps18
  go_wp2
  go_loopw [1, 6, 7] (fun q v i wr => ∃ j : Nat, j ≤ n ∧ i = .int .i64 j ∧ q = .int .i64 ((sentN P (s.take j)).2 : Nat) ∧ wr.ownsRow w.heap.size 3 1 v (sentN P (s.take j)).1.length (il (sentN P (s.take j)).1) ∧ Below w.heap.size w wr) (fun _ _ i _ => n - (intOf i).toNat)
  case atStart => exact ⟨0, Nat.zero_le _, rfl, by rw [List.take_zero]; rfl, by rw [List.take_zero]; simp only [sentN]; rw [il_nil]; exact World.ownsRow_nil _ _ _ _, Below.refl _ _⟩
  case round =>
    obtain ⟨j, hj, rfl, rfl, ho, hb⟩ := hrel
    have hroom := sent_room P s j
    rw [← HN.out.1] at hroom
    by_cases hlt : j < n
    · obtain ⟨ad, rfl, hba, hcell⟩ := (hS.up hb).num hlt
      have hk2 : s.getD j 0 ≤ 2 := by
        have hjs : j < s.length := by rw [← HN.out.1]; exact hlt
        have := HN.out.2 s[j] (List.getElem_mem hjs)
        simpa [List.getD_eq_getElem?_getD, hjs] using this
      obtain ⟨k, hk⟩ : ∃ k, s.getD j 0 = k := ⟨_, rfl⟩
      have hst := sent_step P s j (by rw [← HN.out.1]; exact hlt) hk
      rw [hk] at hcell hk2
      have HK := Lib.hid hk
      clear hk
      obtain ⟨o, p, hop⟩ : ∃ o p, sentN P (s.take j) = (o, p) := ⟨_, _, rfl⟩
      rw [hop] at hst hroom ho ⊢
      simp only at hst hroom ho ⊢
      clear hop
      obtain rfl | rfl | rfl : k = 1 ∨ k = 0 ∨ k = 2 := by omega
      · rw [sent_one] at hst
        have HST := Lib.hid hst
        clear hst
        go_wp2
        go_roundw
        case rel => exact ⟨j + 1, by omega, by go_num, by rw [HST.out]; simp only [sentN]; go_num, by rw [HST.out]; simp only [sentN, List.append_nil]; exact ho, hb⟩
        case measure => simp [intOf]; omega
      · rw [sent_low] at hst
        have HST := Lib.hid hst
        have HO := Lib.hid ho
        have hbc := il_b o false 0 rfl
        have HBC := Lib.hid hbc
        obtain ⟨m, hm⟩ : ∃ m, m = o.length := ⟨_, rfl⟩
        rw [← hm] at hroom HO
        have HM := Lib.hid hm
        clear hst ho hbc hm
        go_wp2_with (first
          | (at_builtin; refine wpList_app _ rfl _ _ _ rfl w.heap.size 3 i0 (.int .i64 0) 8 Try.underlying38 hi hz0 hz1 hz2 rfl _ m _ rfl (HO.out.alloc _) (wr.heap.size + 1) _ 1 _ [_] rfl (Sl.one _ _ _) (fun u hu => by obtain rfl := List.mem_singleton.1 hu; rfl) (by unfold maxLen; omega) (by omega) (Nat.le_trans hb.size (by simp)) ?_; intro v2 w2 hown2 hg2))
        have hb2 : Below w.heap.size w w2 := blw_grown (hb.alloc hb.size _) hg2 (Nat.le_trans hb.size (by simp)) (HO.out.alloc _) (Nat.le_refl _)
        rw [← HBC.out] at hown2
        clear hg2
        have HO2 := Lib.hid hown2
        clear hown2
        go_loopw [6, 8] (fun v i wr => ∃ t : Nat, t ≤ p ∧ i = .int .i64 t ∧ wr.ownsRow w.heap.size 3 1 v (m + 1 + t) (il (o ++ [false] ++ List.replicate t true)) ∧ Below w.heap.size w wr) (fun _ i _ => p - (intOf i).toNat)
        case atStart => exact ⟨0, Nat.zero_le _, rfl, by rw [List.replicate_zero, List.append_nil]; exact HO2.out, hb2⟩
        case round =>
          clear hb2
          obtain ⟨t, ht, rfl, ho, hb3⟩ := hrel
          by_cases hlt2 : t < p
          · obtain ⟨ad2, he, hba2, hcell2⟩ := (hS.up hb3).num hlt
            injection he with he
            subst he
            rw [HK.out] at hcell2
            have hbc := il_b (o ++ [false] ++ List.replicate t true) true 1 rfl
            rw [List.append_assoc _ (List.replicate t true), ← List.replicate_succ'] at hbc
            have HBC2 := Lib.hid hbc
            have HO3 := Lib.hid ho
            clear hbc ho hcell
            go_wp2_with (first
              | (at_builtin; refine wpList_app _ rfl _ _ _ rfl w.heap.size 3 i0 (.int .i64 0) 8 Try.underlying38 hi hz0 hz1 hz2 rfl _ (m + 1 + t) _ rfl (HO3.out.alloc _) (wr.heap.size + 1) _ 1 _ [_] rfl (Sl.one _ _ _) (fun u hu => by obtain rfl := List.mem_singleton.1 hu; rfl) (by unfold maxLen; omega) (by omega) (Nat.le_trans hb3.size (by simp)) ?_; intro v3 w3 hown3 hg3))
            go_roundw
            case rel => exact ⟨t + 1, by omega, by go_num, by rw [HBC2.out]; exact hown3, blw_grown (hb3.alloc hb3.size _) hg3 (Nat.le_trans hb3.size (by simp)) (HO3.out.alloc _) (Nat.le_refl _)⟩
            case measure => simp [intOf]; omega
          · obtain rfl : t = p := by omega
            have HO3 := Lib.hid ho
            clear ho
            go_wp2
            go_roundw
            case rel => exact ⟨j + 1, by omega, by go_num, by rw [HST.out]; rfl, by rw [HST.out, show o ++ (false :: List.replicate t true ++ (sentN 0 []).1) = o ++ [false] ++ List.replicate t true from by simp [sentN], show (o ++ [false] ++ List.replicate t true).length = m + 1 + t from by rw [HM.out]; simp; omega]; exact HO3.out, hb3⟩
            case measure => simp [intOf]; omega
      · rw [sent_high] at hst
        have HST := Lib.hid hst
        have HO := Lib.hid ho
        have hbc := il_b o true 1 rfl
        have HBC := Lib.hid hbc
        obtain ⟨m, hm⟩ : ∃ m, m = o.length := ⟨_, rfl⟩
        rw [← hm] at hroom HO
        have HM := Lib.hid hm
        clear hst ho hbc hm
        go_wp2_with (first
          | (at_builtin; refine wpList_app _ rfl _ _ _ rfl w.heap.size 3 i0 (.int .i64 0) 8 Try.underlying38 hi hz0 hz1 hz2 rfl _ m _ rfl (HO.out.alloc _) (wr.heap.size + 1) _ 1 _ [_] rfl (Sl.one _ _ _) (fun u hu => by obtain rfl := List.mem_singleton.1 hu; rfl) (by unfold maxLen; omega) (by omega) (Nat.le_trans hb.size (by simp)) ?_; intro v2 w2 hown2 hg2))
        have hb2 : Below w.heap.size w w2 := blw_grown (hb.alloc hb.size _) hg2 (Nat.le_trans hb.size (by simp)) (HO.out.alloc _) (Nat.le_refl _)
        rw [← HBC.out] at hown2
        clear hg2
        have HO2 := Lib.hid hown2
        clear hown2
        go_loopw [6, 8] (fun v i wr => ∃ t : Nat, t ≤ p ∧ i = .int .i64 t ∧ wr.ownsRow w.heap.size 3 1 v (m + 1 + t) (il (o ++ [true] ++ List.replicate t false)) ∧ Below w.heap.size w wr) (fun _ i _ => p - (intOf i).toNat)
        case atStart => exact ⟨0, Nat.zero_le _, rfl, by rw [List.replicate_zero, List.append_nil]; exact HO2.out, hb2⟩
        case round =>
          clear hb2
          obtain ⟨t, ht, rfl, ho, hb3⟩ := hrel
          by_cases hlt2 : t < p
          · obtain ⟨ad2, he, hba2, hcell2⟩ := (hS.up hb3).num hlt
            injection he with he
            subst he
            rw [HK.out] at hcell2
            have hbc := il_b (o ++ [true] ++ List.replicate t false) false 0 rfl
            rw [List.append_assoc _ (List.replicate t false), ← List.replicate_succ'] at hbc
            have HBC2 := Lib.hid hbc
            have HO3 := Lib.hid ho
            clear hbc ho hcell
            go_wp2_with (first
              | (at_builtin; refine wpList_app _ rfl _ _ _ rfl w.heap.size 3 i0 (.int .i64 0) 8 Try.underlying38 hi hz0 hz1 hz2 rfl _ (m + 1 + t) _ rfl (HO3.out.alloc _) (wr.heap.size + 1) _ 1 _ [_] rfl (Sl.one _ _ _) (fun u hu => by obtain rfl := List.mem_singleton.1 hu; rfl) (by unfold maxLen; omega) (by omega) (Nat.le_trans hb3.size (by simp)) ?_; intro v3 w3 hown3 hg3))
            go_roundw
            case rel => exact ⟨t + 1, by omega, by go_num, by rw [HBC2.out]; exact hown3, blw_grown (hb3.alloc hb3.size _) hg3 (Nat.le_trans hb3.size (by simp)) (HO3.out.alloc _) (Nat.le_refl _)⟩
            case measure => simp [intOf]; omega
          · obtain rfl : t = p := by omega
            have HO3 := Lib.hid ho
            clear ho
            go_wp2
            go_roundw
            case rel => exact ⟨j + 1, by omega, by go_num, by rw [HST.out]; rfl, by rw [HST.out, show o ++ (true :: List.replicate t false ++ (sentN 0 []).1) = o ++ [true] ++ List.replicate t false from by simp [sentN], show (o ++ [true] ++ List.replicate t false).length = m + 1 + t from by rw [HM.out]; simp; omega]; exact HO3.out, hb3⟩
            case measure => simp [intOf]; omega
    · obtain rfl : j = n := by omega
      have hfull : s.take j = s := List.take_of_length_le (by rw [HN.out.1]; exact Nat.le_refl _)
      rw [hfull] at ho ⊢
      go_wp2
      go_ret2
      exact ⟨_, rfl, ho, hb⟩
end Go.Proofs.Ytcnokjiohbifeaa
