/-
  The contracts of the reference's TokenBits and TokensBits: the code of tokens.
-/
import Derived.Test.YtahihgmlkcbfiaaRTokF
import Derived.Test.YtahihgmlkcbfiaaRGam
namespace Go.Proofs.Ytahihgmlkcbfiaa
open Go.RowKit

theorem il_true : il [true] = [.int .i64 1] := by simp [il]
def TkBits (t : Tk) : Prop := ∀ w : World, Calls Try.prog 45 #[.agg (tcs t.z.1 t.z.2.1 t.z.2.2)] w fun e w' => ∃ u, e = .returned u ∧ w'.ownsRow w.heap.size 3 1 u t.code.length (il t.code) ∧ Below w.heap.size w w'

set_option maxRecDepth 100000 in
set_option maxHeartbeats 4000000 in
theorem tokenbits_lit (x : UInt8) : TkBits (.lit x) := by
  intro w
  show Calls Try.prog 45 #[.agg (tcs 0 0 x)] w _
  have hx : x.toNat < 256 := UInt8.toNat_lt x
  unfold tcs
  obtain ⟨y, hy⟩ : ∃ y, y = x.toNat := ⟨_, rfl⟩
  have hcode : (Tk.lit x).code = digB y 9 := by rw [hy]; rfl
  rw [hcode, digB_length, ← hy]
  rw [← hy] at hx
  clear hcode hy
  have hd := digits_is y 9 (y : Int) 9 rfl rfl (by omega) (by omega)
  go_enter Try.func45, Try.ntmps45
  go_wp2_with (first
    | (go_at_call 58; refine (hd _).mono ?_; rintro e w1 ⟨g, rfl, hg, rg, hb1⟩))
  go_ret
  exact ⟨_, rfl, own_lit rg _ _ (Nat.le_trans (by simp) hg) (by simp [il_length, digB_length]) (by unfold maxLen; omega), up_call ((Below.refl _ _).alloc (Nat.le_refl _) _) hb1⟩

set_option maxRecDepth 100000 in
set_option maxHeartbeats 4000000 in
theorem tokenbits_mat (d n : Nat) (h : (Tk.mat d n).ok) : TkBits (.mat d n) := by
  intro w
  obtain ⟨i0, hi, hz0, hz1, hz2⟩ := info_parts infoI
  show Calls Try.prog 45 #[.agg (tcs (d : Int) (n : Int) 0)] w _
  obtain ⟨h1, h2, h3, h4⟩ := h
  have t0 : ((d : Int) == 0) = false := beq_eq_false_iff_ne.2 (by omega)
  have t1 : (d == 0) = false := beq_eq_false_iff_ne.2 (by omega)
  obtain ⟨zd, hzd⟩ : ∃ z, z = Nat.log2 d := ⟨_, rfl⟩
  obtain ⟨zn, hzn⟩ : ∃ z, z = Nat.log2 (n - 2) := ⟨_, rfl⟩
  have hd := rgamma_any d zd (by omega) (by omega) hzd
  have hn := rgamma_any (n - 2) zn (by omega) (by omega) hzn
  have bd : zd < 11 := by rw [hzd]; exact log2_small d 11 h1 (by omega)
  have bn : zn < 10 := by rw [hzn]; exact log2_small (n - 2) 10 (by omega) (by omega)
  have hcode : (Tk.mat d n).code = [true] ++ (digB d (zd + (zd + 1)) ++ digB (n - 2) (zn + (zn + 1))) := by rw [hzd, hzn]; rfl
  have hlen : (Tk.mat d n).code.length = 1 + (zd + (zd + 1)) + (zn + (zn + 1)) := by rw [hcode]; simp [digB_length]; omega
  rw [hlen, hcode]
  have he : ((n : Int) - 2) = ((n - 2 : Nat) : Int) := by omega
  obtain ⟨m, hm⟩ : ∃ m, m = n - 2 := ⟨_, rfl⟩
  rw [← hm] at hn he
  rw [← hm]
  have hnm : n = m + 2 := by omega
  obtain ⟨E, hE⟩ : ∃ E, E = digB d (zd + (zd + 1)) := ⟨_, rfl⟩
  obtain ⟨F, hF⟩ : ∃ F, F = digB m (zn + (zn + 1)) := ⟨_, rfl⟩
  rw [← hE] at hd ⊢
  rw [← hF] at hn ⊢
  have HD := Lib.hid hd
  have HN := Lib.hid hn
  subst hnm
  unfold tcs
  clear hd hn hcode hlen hzd hzn hm hE hF he
  go_enter Try.func45, Try.ntmps45
  go_upto_region 4 with (fail)
  refine wp_world (F := fun W => W.ownsRow w.heap.size 3 1 (.slice (some ⟨w.heap.size + 1, 0, none⟩) 1 1) 1 [.int .i64 1] ∧ Row W w.heap.size 37 #[.int .i64 (d : Int), .int .i64 ((m : Int) + 2), .int .u8 0] ∧ Below w.heap.size w W)
    ⟨own_lit (cs := #[.int .i64 1]) (Row.newAt (w.alloc (.cells #[.int .i64 (d : Int), .int .i64 ((m : Int) + 2), .int .u8 0] 37)) 3 #[.int .i64 1] (w.heap.size + 1) (by simp)) w.heap.size 1 (Nat.le_succ _) rfl (by unfold maxLen; omega), (Row.newEq _ _ _ _ _ rfl rfl).alloc _, ((Below.refl _ _).alloc (Nat.le_refl _) _).alloc (by simp) _⟩ ?_
  rintro W0 ⟨ho, r0, hb⟩
  have k0 : W0.cell? ⟨w.heap.size, 0, none⟩ = some (.int .i64 (d : Int)) := (r0.cell 0).trans rfl
  go_upto_region 5 with (first
    | (go_at_call 37; refine (HD.out _).mono ?_; rintro e w2 ⟨u2, rfl, ho2, hb2⟩; have hoa := own_below ho hb2; obtain ⟨A2, c2, hv2, _, _⟩ := own_form ho2; subst hv2)
    | (at_builtin; refine wpList_app _ rfl _ _ _ rfl w.heap.size 3 i0 (.int .i64 0) 8 Try.underlying48 hi hz0 hz1 hz2 rfl _ 1 _ rfl hoa _ _ (zd + (zd + 1)) _ _ rfl (Sl.of_own ho2) (fun u hu => il_one _ u hu) (by unfold maxLen; omega) (by omega) (Nat.le_trans hb.size hb2.size) ?_; intro v3 w3 hown3 hg3))
  have hk3 : Below w.heap.size w w3 := blw_grown (up_call hb hb2) hg3 (up_call hb hb2).size hoa (Nat.le_refl _)
  have r3 : Row w3 w.heap.size 37 #[.int .i64 (d : Int), .int .i64 ((m : Int) + 2), .int .u8 0] := (r0.below hb2 r0.lt).grown hg3 (by show some w.heap.size ≠ some (w.heap.size + 1); simp)
  clear k0 r0 ho2 hoa hg3 hb2 ho hb
  have k1 : w3.cell? ⟨w.heap.size, 1, none⟩ = some (.int .i64 ((m : Int) + 2)) := (r3.cell 1).trans rfl
  rw [← il_true, ← il_append] at hown3
  clear r3 HD
  obtain ⟨A3, c3, hv3, _, _⟩ := own_form hown3
  subst hv3
  go_wp2_with (first
    | (go_at_call 37; refine (HN.out _).mono ?_; rintro e w5 ⟨u5, rfl, ho5, hb5⟩; have hob := own_below hown3 hb5; obtain ⟨A5, c5, hv5, _, _⟩ := own_form ho5; subst hv5)
    | (at_builtin; refine wpList_app _ rfl _ _ _ rfl w.heap.size 3 i0 (.int .i64 0) 8 Try.underlying48 hi hz0 hz1 hz2 rfl _ (1 + (zd + (zd + 1))) _ rfl hob _ _ (zn + (zn + 1)) _ _ rfl (Sl.of_own ho5) (fun u hu => il_one _ u hu) (by unfold maxLen; omega) (by omega) (Nat.le_trans hk3.size hb5.size) ?_; intro v6 w6 hown6 hg6))
  go_ret
  rw [← il_append, List.append_assoc] at hown6
  exact ⟨_, rfl, hown6, blw_grown (up_call hk3 hb5) hg6 (up_call hk3 hb5).size hob (Nat.le_refl _)⟩
theorem tokenbits_any (t : Tk) (h : t.ok) : TkBits t := by
  cases t with
  | lit x => exact tokenbits_lit x
  | mat d n => exact tokenbits_mat d n h

set_option maxRecDepth 100000 in
set_option maxHeartbeats 8000000 in
theorem tokensbits_any (l : List Tk) (hg : GoodT l) (n : Nat) (hn : n = l.length) (hl : n ≤ 1024) (A : Option Addr) (cp : Nat) (w : World) (hS : Tks w w.heap.size A n (tz l)) :
    Calls Try.prog 25 #[.slice A n cp] w fun e w' => ∃ u, e = .returned u ∧ w'.ownsRow w.heap.size 3 1 u (codeT l).length (il (codeT l)) ∧ Below w.heap.size w w' := by
  obtain ⟨i0, hi, hz0, hz1, hz2⟩ := info_parts infoI
  have HS := Lib.hid hS
  have HL := Lib.hid (And.intro hn hg)
  clear hS hn hg
  go_enter Try.func25, Try.ntmps25
  go_upto_region 3 with fail
  go_loopw [3, 4] (fun v i wr => ∃ (j m : Nat) (o : List Bool), j ≤ n ∧ i = .int .i64 j ∧ m ≤ 41 * j ∧ Hid (o = codeT (l.take j) ∧ m = o.length) ∧ Hid (wr.ownsRow w.heap.size 3 1 v m (il o)) ∧ Below w.heap.size w wr) (fun _ i _ => n - (intOf i).toNat)
  case atStart => exact ⟨0, 0, [], Nat.zero_le _, rfl, Nat.zero_le _, Lib.hid ⟨by rw [List.take_zero]; rfl, rfl⟩, Lib.hid (by rw [il_nil]; exact World.ownsRow_nil _ _ _ _), Below.refl _ _⟩
  case round =>
    obtain ⟨j, m, o, hj, rfl, hm, HO, HV, hb⟩ := hrel
    obtain ⟨A3, c3, hv3, _, _⟩ := own_form HV.out
    subst hv3
    by_cases hlt : j < n
    · obtain ⟨ad, rfl, hbl, k1, k2, k3⟩ := (HS.out.below hb).at_ hlt
      have hjl : j < l.length := by rw [← HL.out.1]; exact hlt
      rw [tz_getD l j hjl] at k1 k2 k3
      have hok := HL.out.2 l[j] (List.getElem_mem hjl)
      have htb := tokenbits_any l[j] hok
      have hcl := cost_le l[j] hok
      rw [← code_cost] at hcl
      have hcd : codeT (l.take (j + 1)) = o ++ l[j].code := by rw [List.take_succ_eq_append_getElem hjl, codeT_append, codeT_one, HO.out.1]
      obtain ⟨q, hq⟩ : ∃ q, q = l[j].code.length := ⟨_, rfl⟩
      obtain ⟨p, hp⟩ : ∃ p, p = l[j].code := ⟨_, rfl⟩
      have hml : m + q = (o ++ p).length := by rw [List.length_append, hq, hp, HO.out.2]
      unfold TkBits at htb
      rw [← hq] at hcl htb
      rw [← hp] at hcd htb
      obtain ⟨x, y, z, ht⟩ : ∃ x y z, l[j].z = (x, y, z) := ⟨_, _, _, rfl⟩
      rw [ht] at k1 k2 k3 htb
      simp only at k1 k2 k3 htb
      unfold tcs at htb
      obtain ⟨zz, hzz⟩ : ∃ zz : Int, zz = (z.toNat : Int) := ⟨_, rfl⟩
      rw [← hzz] at k3 htb
      have HC := Lib.hid (And.intro hcd hml)
      have HT := Lib.hid htb
      clear hok hcd hml hq hp ht hzz hjl hbl htb
      go_wp2_with (first
        | (go_at_call 45; refine (HT.out _).mono ?_; rintro e w5 ⟨u5, rfl, ho5, hb5⟩; have hob := own_below HV.out hb5; obtain ⟨A5, c5, hv5, _, _⟩ := own_form ho5; subst hv5)
        | (at_builtin; refine wpList_app _ rfl _ _ _ rfl w.heap.size 3 i0 (.int .i64 0) 8 Try.underlying48 hi hz0 hz1 hz2 rfl _ m _ rfl hob _ _ q _ _ rfl (Sl.of_own ho5) (fun u hu => il_one _ u hu) (by unfold maxLen; omega) (by omega) (Nat.le_trans hb.size hb5.size) ?_; intro v6 w6 hown6 hg6))
      have hb6 := blw_grown (up_call hb hb5) hg6 (up_call hb hb5).size hob (Nat.le_refl _)
      rw [← il_append] at hown6
      have HV6 := Lib.hid hown6
      clear hown6 hg6 hob ho5 hb5 k1 k2 k3
      go_roundw
      case rel => exact ⟨j + 1, m + q, o ++ p, by omega, by go_num, by omega, Lib.hid ⟨HC.out.1.symm, HC.out.2⟩, HV6, hb6⟩
      case measure => simp [intOf]; omega
    · obtain rfl : n = j := by omega
      have htk : l.take n = l := List.take_of_length_le (by rw [← HL.out.1]; exact Nat.le_refl _)
      have ho := HO.out
      rw [htk] at ho
      go_wp2
      go_ret
      rw [← ho.1, ← ho.2]
      exact ⟨_, rfl, HV.out, hb⟩
end Go.Proofs.Ytahihgmlkcbfiaa
