/-
  Two rows of a call's own that grow in turn: what an append to one leaves of the other. Helper text: it proves nothing of the program by itself.
-/
import Derived.Test.YtcnokjiohbifeaaGSl
namespace Go.Proofs.Ytcnokjiohbifeaa
open Go.RowKit

/-- two slices do not share a block -/
def Apart2 (a b : Value) : Prop := ∀ k, a.ownBlock = some k → b.ownBlock = some k → False
theorem Apart2.symm {a b : Value} (h : Apart2 a b) : Apart2 b a := fun k h1 h2 => h k h2 h1
theorem apart_none (u : Value) : Apart2 (.slice none 0 0) u := fun k h => by cases h
theorem own_kept2 {w w' : World} {base : Nat} {e : TypeId} {v u : Value} {n : Nat} {xs : List Value} (h : w.ownsRow base e 1 u n xs) (hg : w.grownBy w' v.ownBlock) (hA : Apart2 v u) : w'.ownsRow base e 1 u n xs := by
  refine h.kept hg ?_
  cases hu : u.ownBlock with
  | none => exact .inl rfl
  | some k =>
    refine .inr fun he => ?_
    exact hA k he.symm hu
theorem apart_after {w : World} {base : Nat} {e : TypeId} {v v' u : Value} {n : Nat} {xs : List Value} (h : w.ownsRow base e 1 u n xs) (hA : Apart2 v u) (hv : v'.ownBlock = v.ownBlock ∨ v'.ownBlock = some w.heap.size) : Apart2 v' u := by
  intro k h1 h2
  rcases hv with hv | hv
  · exact hA k (hv.symm.trans h1) h2
  · have hk := (h.lt k h2).2
    rw [hv] at h1
    injection h1 with h1
    omega
section
variable {P : Program} (w : World)
theorem wpList_app_at {ops : Array Oper} {rest : List Oper} {o : Oper} {a : Act} {Q : Exit → Act → World → Prop} (hgd : o.guard = none) (s x : Operand) (t : TypeId)
    (ho : o.op = .call { callee := .builtin .append, args := #[s, x], argTypes := #[t, t] })
    (base : Nat) (e : TypeId) (i : TypeInfo) (z : Value) (bytes : Nat) (ht : P.underlying t = some (.slice e)) (hi : P.info? e = some i) (hz : i.zero = some z)
    (hsize : i.size = 1) (hby : i.bytes = bytes) (hzs : z.cells.size = 1)
    (v : Value) (n : Nat) (xs : List Value) (hs : a.eval s = v) (hown : w.ownsRow base e 1 v n xs)
    (ad : Addr) (m c : Nat) (news : List Value) (hx : a.eval x = .slice (some ad) m c) (hl : news.length = m) (hr : ∀ j u, news[j]? = some u → w.cell? (ad.add j) = some u) (h1 : ∀ u ∈ news, u.oneCell' = true)
    (h63 : n + m ≤ maxLen) (hbytes : (n + m) * bytes ≤ 140737488355328) (hbase : base ≤ w.heap.size)
    (h : ∀ v' w', w'.ownsRow base e 1 v' (n + m) (xs ++ news) → w.grownBy w' v.ownBlock → (v'.ownBlock = v.ownBlock ∨ v'.ownBlock = some w.heap.size) → wpList P ops Q rest (a.put o.dst v') w') : wpList P ops Q (o :: rest) a w := by
  obtain ⟨v', w', hrun, h2, h3, _, h4⟩ := run_append_own_at (P := P) w base t o.type e i z 1 bytes ht hi hz hsize hby hzs (by omega) v n xs hown ad m c news (by omega) hr h1 h63 hbytes hbase
  exact Lib.wpList_append_run w hgd s x t t ho v (.slice (some ad) m c) hs hx v' w' hrun (h v' w' h2 h3 h4)
end
end Go.Proofs.Ytcnokjiohbifeaa
