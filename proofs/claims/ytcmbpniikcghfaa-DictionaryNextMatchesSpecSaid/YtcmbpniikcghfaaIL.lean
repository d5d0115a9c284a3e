/-
  Bits as cells of numbers. Helper text: it proves nothing of the program by itself. Numbers as cells. Helper text: it proves nothing of the program by itself. Integers as cells of a slice.
-/
import Derived.Test.YtcmbpniikcghfaaProg
import Derived.Test.YtcmbpniikcghfaaGMem
namespace Go.Proofs.Ytcmbpniikcghfaa
open Go.RowKit

/-- bits as cells of numbers -/
def il (l : List Bool) : List Value := l.map fun b => .int .i64 ((b.toNat : Nat) : Int)
theorem il_length (l : List Bool) : (il l).length = l.length := by simp [il]
theorem il_append (l m : List Bool) : il (l ++ m) = il l ++ il m := by simp [il]
theorem il_nil : il [] = [] := rfl
theorem il_one (l : List Bool) : ∀ v ∈ il l, v.oneCell' = true := by
  intro v hv
  obtain ⟨x, _, rfl⟩ : ∃ x, x ∈ l ∧ Value.int .i64 ((x.toNat : Nat) : Int) = v := by simpa [il] using hv
  rfl
theorem il_get (l : List Bool) (i : Nat) (h : i < l.length) : (il l)[i]? = some (.int .i64 (((l.getD i false).toNat : Nat) : Int)) := by
  unfold il
  simp [List.getD_eq_getElem?_getD, h]
theorem il_snoc (l : List Bool) (j : Nat) (h : j < l.length) (b : Int) (hb : b = (((l.getD j false).toNat : Nat) : Int)) : il (l.take (j + 1)) = il (l.take j) ++ [.int .i64 b] := by
  subst hb
  rw [List.take_succ_eq_append_getElem h, il_append]
  simp [il, List.getD_eq_getElem?_getD, h]
attribute [irreducible] il
theorem il_take (l : List Bool) (k : Nat) : (il l).take k = il (l.take k) := by unfold il; rw [List.map_take]
theorem il_drop (l : List Bool) (k : Nat) : (il l).drop k = il (l.drop k) := by unfold il; rw [List.map_drop]
theorem Sl.bit {w : World} {B n : Nat} {A : Option Addr} {l : List Bool} (h : Sl w B A n (il l)) {k : Nat} (hk : k < n) : ∃ ad, A = some ad ∧ ad.block < B ∧ w.cell? (ad.add k) = some (.int .i64 (((l.getD k false).toNat : Nat) : Int)) := by
  obtain ⟨ad, u, h1, h2, h3, h4⟩ := h.at_ hk
  have hn : k < l.length := by
    have := h.1
    rw [il_length] at this
    omega
  rw [il_get l k hn] at h3
  injection h3 with h3
  exact ⟨ad, h1, h2, by rw [h4, ← h3]⟩
theorem own_drewN {w : World} {base : Nat} {e : TypeId} {v : Value} {n : Nat} {xs : List Value} (h : w.ownsRow base e 1 v n xs) (k : Nat) : (w.drewN k).ownsRow base e 1 v n xs := h
theorem infoI : (Try.prog.info? 3).map (fun i => (i.zero, i.size, i.bytes)) = some (some (.int .i64 0), 1, 8) := by kernel_rfl
theorem bit_lt2 (b : Bool) : ((b.toNat : Nat) : Int) ≤ 1 := by cases b <;> decide
end Go.Proofs.Ytcmbpniikcghfaa

namespace Go.Proofs.Ytcmbpniikcghfaa
open Go.RowKit

/-- numbers as cells -/
def nl (ns : List Nat) : List Value := ns.map fun (n : Nat) => .int .i64 (n : Int)
theorem nl_length (ns : List Nat) : (nl ns).length = ns.length := by simp [nl]
theorem nl_append (a b : List Nat) : nl (a ++ b) = nl a ++ nl b := by simp [nl]
theorem nl_one' (n : Nat) : nl [n] = [.int .i64 (n : Int)] := rfl
theorem nl_nil : nl [] = [] := rfl
theorem nl_one (ns : List Nat) : ∀ v ∈ nl ns, v.oneCell' = true := by
  intro v hv
  obtain ⟨x, _, rfl⟩ : ∃ x, x ∈ ns ∧ Value.int .i64 (x : Int) = v := by simpa [nl] using hv
  rfl
theorem nl_get (ns : List Nat) (i : Nat) (h : i < ns.length) : (nl ns)[i]? = some (.int .i64 ((ns.getD i 0 : Nat) : Int)) := by
  unfold nl
  simp [List.getD_eq_getElem?_getD, h]
theorem nl_take (ns : List Nat) (k : Nat) : (nl ns).take k = nl (ns.take k) := by unfold nl; rw [List.map_take]
theorem nl_set (ns : List Nat) (k n : Nat) : nl (ns.set k n) = (nl ns).set k (.int .i64 (n : Int)) := by unfold nl; rw [List.map_set]
theorem nl_snoc (ns : List Nat) (j : Nat) (h : j < ns.length) (b : Int) (hb : b = ((ns.getD j 0 : Nat) : Int)) : nl (ns.take (j + 1)) = nl (ns.take j) ++ [.int .i64 b] := by
  subst hb
  rw [List.take_succ_eq_append_getElem h, nl_append]
  unfold nl
  simp [List.getD_eq_getElem?_getD, h]
/-- bits as numbers are bits as cells -/
theorem nl_bool (l : List Bool) : nl (l.map Bool.toNat) = il l := by
  unfold nl il
  rw [List.map_map]
  rfl
attribute [irreducible] nl
theorem Sl.num {w : World} {B n : Nat} {A : Option Addr} {ns : List Nat} (h : Sl w B A n (nl ns)) {k : Nat} (hk : k < n) : ∃ ad, A = some ad ∧ ad.block < B ∧ w.cell? (ad.add k) = some (.int .i64 ((ns.getD k 0 : Nat) : Int)) := by
  obtain ⟨ad, u, h1, h2, h3, h4⟩ := h.at_ hk
  have hn : k < ns.length := by
    have := h.1
    rw [nl_length] at this
    omega
  rw [nl_get ns k hn] at h3
  injection h3 with h3
  exact ⟨ad, h1, h2, by rw [h4, ← h3]⟩
end Go.Proofs.Ytcmbpniikcghfaa

namespace Go.Proofs.Ytcmbpniikcghfaa
open Go.RowKit

/-- integers as cells -/
def zl (zs : List Int) : List Value := zs.map fun (z : Int) => .int .i64 z
theorem zl_length (zs : List Int) : (zl zs).length = zs.length := by simp [zl]
theorem zl_get (zs : List Int) (i : Nat) (h : i < zs.length) : (zl zs)[i]? = some (.int .i64 (zs.getD i 0)) := by
  unfold zl
  simp [List.getD_eq_getElem?_getD, h]
/-- bits as integers -/
def bz (l : List Bool) : List Int := l.map fun b => ((b.toNat : Nat) : Int)
theorem bz_length (l : List Bool) : (bz l).length = l.length := by simp [bz]
theorem bz_getD (l : List Bool) (i : Nat) : (bz l).getD i 0 = (((l.getD i false).toNat : Nat) : Int) := by
  unfold bz
  rw [List.getD_eq_getElem?_getD, List.getD_eq_getElem?_getD, List.getElem?_map]
  cases l[i]? <;> rfl
theorem zl_bz (l : List Bool) : zl (bz l) = il l := by
  unfold zl bz il
  rw [List.map_map]
  rfl
theorem zl_take (zs : List Int) (k : Nat) : (zl zs).take k = zl (zs.take k) := by unfold zl; rw [List.map_take]
attribute [irreducible] zl
theorem Sl.int {w : World} {B n : Nat} {A : Option Addr} {zs : List Int} (h : Sl w B A n (zl zs)) {k : Nat} (hk : k < n) : ∃ ad, A = some ad ∧ ad.block < B ∧ w.cell? (ad.add k) = some (.int .i64 (zs.getD k 0)) := by
  obtain ⟨ad, u, h1, h2, h3, h4⟩ := h.at_ hk
  have hn : k < zs.length := by
    have := h.1
    rw [zl_length] at this
    omega
  rw [zl_get zs k hn] at h3
  injection h3 with h3
  exact ⟨ad, h1, h2, by rw [h4, ← h3]⟩
end Go.Proofs.Ytcmbpniikcghfaa
