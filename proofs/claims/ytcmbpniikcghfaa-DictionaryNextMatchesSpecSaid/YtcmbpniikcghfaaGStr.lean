/-
  The bytes of a string, made anew: the walk's law of that conversion.
-/
import Derived.Test.YtcmbpniikcghfaaGMem
import Derived.Lib.ConvBytes
namespace Go.Proofs.Ytcmbpniikcghfaa
open Go.RowKit

theorem conv_bytes_new {P : Program} (w : World) (src dst e : TypeId) (L : List UInt8) (n : Nat) (hn : n = L.length) (hl : n ≤ maxLen) (hs : P.underlying src = some .string) (hd : P.underlying dst = some (.slice e)) (he : P.underlying e = some (.int .u8)) :
    ∃ A c w', (convert src dst (.string ⟨L.toArray⟩)).run P w = .ok (.slice A n c) w' ∧ n ≤ c ∧ c ≤ maxLen ∧ Sl w' w'.heap.size A n (bl L) ∧ Below w.heap.size w w' := by
  have hsz : (⟨L.toArray⟩ : ByteArray).size = n := by rw [hn]; rfl
  have h := Lib.run_convert_string_bytes (P := P) w src dst e ⟨L.toArray⟩ hs hd he
  rw [hsz] at h
  refine ⟨_, _, _, h, grownCap_ge w n 0 e, grownCap_le_maxLen w n 0 e hl, ⟨by rw [bl_length, hn], fun _ => ⟨_, rfl, ?_, fun j u hu => ?_⟩⟩, ?_⟩
  · rw [Lib.bytesWorld_size]
    exact Nat.lt_succ_self _
  · have hj : j < L.length := by
      have := (List.getElem?_eq_some_iff.1 hu).1
      rw [bl_length] at this
      exact this
    have hc := Lib.bytesWorld_cell w e ⟨L.toArray⟩ j (by rw [hsz, hn]; exact hj)
    have ha : (⟨w.heap.size, 0, none⟩ : Addr).add j = ⟨w.heap.size, j, none⟩ := by simp [Addr.add]; exact fun h => h.symm
    rw [ha, hc]
    unfold bl at hu
    rw [List.getElem?_map, List.getElem?_eq_getElem hj, Option.map_some, Option.some.injEq] at hu
    rw [← hu]
    simp [List.getD_eq_getElem?_getD, hj]
  · exact ⟨rfl, rfl, rfl, by rw [Lib.bytesWorld_size]; exact Nat.le_succ _, fun k hk => Lib.bytesWorld_at_old w e _ k hk⟩

theorem wpList_conv_bytes {P : Program} {ops : Array Oper} {rest : List Oper} {o : Oper} {a : Act} {w : World} {Q : Exit → Act → World → Prop} (hgd : o.guard = none) (src dst e : TypeId) (x : Operand) (ho : o.op = .convert src dst x)
    (L : List UInt8) (n : Nat) (hx : a.eval x = .string ⟨L.toArray⟩) (hn : n = L.length) (hl : n ≤ maxLen) (hs : P.underlying src = some .string) (hd : P.underlying dst = some (.slice e)) (he : P.underlying e = some (.int .u8))
    (h : ∀ A c w', n ≤ c → c ≤ maxLen → Sl w' w'.heap.size A n (bl L) → Below w.heap.size w w' → wpList P ops Q rest (a.put o.dst (.slice A n c)) w') : wpList P ops Q (o :: rest) a w := by
  obtain ⟨A, c, w', hr, h1, h2, h3, h4⟩ := conv_bytes_new (P := P) w src dst e L n hn hl hs hd he
  refine wpList_plain hgd fun _ hK => ?_
  have hk := hK _ _ (h A c w' h1 h2 h3 h4)
  unfold Oper.wp execOp
  simp only [ho, hx, Sem.run_bind, Sem.run_pure, Result.andThen_ok, hr]
  exact hk
end Go.Proofs.Ytcmbpniikcghfaa
