/-
  The contracts of digest.output (the bytes of a state) and digest.padding (what follows a message of a given length).
-/
import Derived.Test.YtcippenhomhpbaaDoorShaMix
import Derived.Test.YtcippenhomhpbaaDoorSlice
namespace Go.Proofs.YtcippenhomhpbaaDoor
open Go.RowKit

attribute [local go_sem] W_low

/-- byte i of a state -/
def outByte (s : St) (i : Nat) : UInt8 := low (s.get (i / 4) >>> (24 - 8 * (i % 4)))
/-- the first k bytes of a state, zeros behind them -/
def outPart (s : St) (k : Nat) : List UInt8 := (List.range 32).map fun i => if i < k then outByte s i else 0
/-- the bytes of a state -/
def outBytes (s : St) : List UInt8 := (List.range 32).map (outByte s)
theorem outPart_zero (s : St) : outPart s 0 = List.replicate 32 0 := rfl
theorem outPart_all (s : St) : outPart s 32 = outBytes s := by
  unfold outPart outBytes
  apply List.map_congr_left
  intro i hi
  rw [if_pos (List.mem_range.1 hi)]
theorem outPart_length (s : St) (k : Nat) : (outPart s k).length = 32 := by simp [outPart]
theorem outBytes_length (s : St) : (outBytes s).length = 32 := by simp [outBytes]
theorem outPart_next (s : St) (k : Nat) : (outPart s k).set k (outByte s k) = outPart s (k + 1) := by
  apply List.ext_getElem
  · simp [outPart]
  · intro i h1 h2
    simp only [outPart, List.getElem_set, List.getElem_map, List.getElem_range]
    by_cases hi : k = i
    · subst hi
      simp
    · by_cases h3 : i < k
      · simp [hi, h3, show i < k + 1 by omega]
      · simp [hi, h3, show ¬ i < k + 1 by omega]
attribute [irreducible] outByte outPart outBytes

theorem cellsD : (Tryd.prog.info? 24).map (·.size) = some 32 := by kernel_rfl

theorem outByte_eq (s : St) (i : Nat) : outByte s i = low (s.get (i / 4) >>> (24 - 8 * (i % 4))) := by unfold outByte; rfl

theorem outByte_num (s : St) (k : Nat) : W (s.get (k / 4)) / 2 ^ (24 - 8 * (k % 4)) % (256 : Int) = ((outByte s k).toNat : Int) := by
  rw [W_shr, W_low, outByte_eq]

set_option maxRecDepth 100000 in
set_option maxHeartbeats 4000000 in
theorem output_any (s : St) (w : World) :
    Calls Tryd.prog 39 #[.agg (stc s)] w fun e w' => e = .returned (.agg (bs (outBytes s))) ∧ Below w.heap.size w w' := by
  go_enter Tryd.func39, Tryd.ntmps39
  go_wp2
  go_loopw [4, 5] (fun _ i wr => ∃ k : Nat, k ≤ 32 ∧ i = .int .i64 k ∧ Row wr w.heap.size 28 (stc s) ∧ Row wr (w.heap.size + 1) 24 (bs (List.replicate 32 0)) ∧ Row wr (w.heap.size + 1 + 1) 24 (bs (outPart s k)) ∧ Below w.heap.size w wr) (fun _ i _ => 32 - (intOf i).toNat)
  case atStart =>
    refine ⟨0, by omega, rfl, ?_, ?_, ?_, ?_⟩
    · exact ((Row.new _ _ _).alloc _).alloc _
    · exact (Row.newEq _ _ _ _ _ (by simp) (by kernel_rfl)).alloc _
    · rw [outPart_zero]
      exact Row.newEq _ _ _ _ _ (by simp) (by kernel_rfl)
    · exact (((Below.refl _ _).alloc (Nat.le_refl _) _).alloc (by simp) _).alloc (by simp; omega) _
  case round =>
    obtain ⟨k, hk, rfl, h1, h2, h3, hb⟩ := hrel
    by_cases hlt : k < 32
    · have c1 := (h1.cell (k / 4)).trans (stc_get s (k / 4) (by omega))
      have c3 := (h3.cell k).trans (bs_get _ _ (by rw [outPart_length]; exact hlt))
      have f3 := h3.free k
      have hm : k % 4 ≤ 3 := by omega
      go_wp2
      go_roundw
      case rel =>
        rw [outByte_num]
        refine ⟨k + 1, by omega, by go_num, ?_, ?_, ?_, ?_⟩
        · exact h1.far (by simp; omega) _
        · exact h2.far (by simp) _
        · rw [← outPart_next s k, ← bs_set]
          exact h3.put _ _
        · exact hb.setCell (by simp; omega) _
      case measure => simp [intOf]; omega
    · obtain rfl : k = 32 := by omega
      have hz : some (bs (outPart s 32)).size = some 32 := by rw [bs_size, outPart_length]
      have HZ := Lib.hid hz
      clear hz
      go_wp2_with (first
        | (refine wpList_load_row rfl 24 _ rfl (w.heap.size + 1 + 1) rfl 24 _ (0, 0) _ h3 Tryd.underlying24 rfl (cellsD.trans HZ.out.symm) ?_)
        | (refine wpList_store_row rfl 24 _ _ rfl (w.heap.size + 1) _ rfl rfl 24 _ h2 (cellsD.trans HZ.out.symm) (by rw [bs_size, bs_size, outPart_length]; rfl) (all_one (bs_one _)) ?_))
      refine bodyPost_ret (results_row Tryd.results39 _ _ (w.heap.size + 1) 24 (bs (outPart s 32)) _ rfl (Row.row h2 _) Tryd.underlying24 rfl (cellsD.trans HZ.out.symm)) rfl ⟨?_, ?_⟩
      · rw [outPart_all]
      · exact blw_row hb (by omega) _

/-! ### what follows a message -/
/-- the number of zeros that follow the byte 0x80 -/
def zeroCount (n : Nat) : Nat := (119 - n % 64) % 64
/-- byte i of the eight bytes of a number -/
def sizeByte (n i : Nat) : UInt8 := UInt8.ofNat (8 * n / 2 ^ (8 * (7 - i)))
/-- 0x80, the zeros, the first k bytes of the length in bits -/
def endPart (n k : Nat) : List UInt8 := 128 :: (List.replicate (zeroCount n) 0 ++ (List.range k).map (sizeByte n))
/-- what follows a message of n bytes -/
def padBytes (n : Nat) : List UInt8 := endPart n 8

theorem endPart_zero (n : Nat) : endPart n 0 = 128 :: List.replicate (zeroCount n) 0 := by simp [endPart]
theorem endPart_next (n k : Nat) : endPart n (k + 1) = endPart n k ++ [sizeByte n k] := by simp [endPart, List.range_succ]
theorem endPart_length (n k : Nat) : (endPart n k).length = 1 + zeroCount n + k := by simp [endPart]; omega
theorem zeroCount_le (n : Nat) : zeroCount n ≤ 63 := by unfold zeroCount; omega
theorem zeroCount_eq (n : Nat) : (119 - (n : Int) % 64) % 64 = ((zeroCount n : Nat) : Int) := by unfold zeroCount; omega
theorem sizeByte_num (n i : Nat) : (8 * (n : Int)) / 2 ^ (8 * (7 - i)) % (256 : Int) = ((sizeByte n i).toNat : Int) := by
  unfold sizeByte
  simp
theorem padBytes_eq (n : Nat) : padBytes n = endPart n 8 := rfl
/-- bytes as cells, in a list -/
def bl (l : List UInt8) : List Value := l.map fun b => .int .u8 (b.toNat : Int)
theorem bl_length (l : List UInt8) : (bl l).length = l.length := by simp [bl]
theorem bl_append (l m : List UInt8) : bl (l ++ m) = bl l ++ bl m := by simp [bl]
theorem bl_cons (b : UInt8) (l : List UInt8) : bl (b :: l) = .int .u8 (b.toNat : Int) :: bl l := by simp [bl]
theorem bl_nil : bl [] = [] := rfl
theorem bl_zeros (n : Nat) : bl (List.replicate n 0) = List.replicate n (.int .u8 0) := by simp [bl]
theorem bl_one (l : List UInt8) : ∀ v ∈ bl l, v.oneCell' = true := by
  intro v hv
  obtain ⟨x, _, rfl⟩ : ∃ x, x ∈ l ∧ Value.int .u8 (x.toNat : Int) = v := by simpa [bl] using hv
  rfl
attribute [irreducible] zeroCount sizeByte endPart padBytes bl

theorem infoB : (Tryd.prog.info? 5).map (fun i => (i.zero, i.size, i.bytes)) = some (some (.int .u8 0), 1, 1) := by kernel_rfl

set_option maxRecDepth 100000 in
set_option maxHeartbeats 4000000 in
theorem padding_any (n : Nat) (hn : n ≤ 1152921504606846975) (w : World) :
    Calls Tryd.prog 40 #[.int .i64 (n : Int)] w fun e w' => ∃ v, e = .returned v ∧ w'.ownsRow w.heap.size 5 1 v (padBytes n).length (bl (padBytes n)) ∧ Below w.heap.size w w' := by
  have hm : n % 64 ≤ 63 := by omega
  obtain ⟨i0, hi, hz0, hz1, hz2⟩ := info_parts infoB
  have hzc := zeroCount_eq n
  have hzl := zeroCount_le n
  have HP := Lib.hid (padBytes_eq n)
  have HZ := Lib.hid hzc
  clear hzc
  go_enter Tryd.func40, Tryd.ntmps40
  go_wp2_with (at_builtin; refine wpList_app_zeros _ rfl _ _ _ _ rfl w.heap.size 5 i0 (.int .u8 0) 1 .i64 .i64 Tryd.underlying22 Tryd.underlying3 hi hz0 hz1 hz2 rfl rfl _ 1 _ rfl (own_lit (Row.new _ _ _) _ _ (Nat.le_refl _) rfl (by unfold maxLen; omega)) (zeroCount n) (congrArg (Value.int IntKind.i64) HZ.out) (by unfold maxLen; omega) (by omega) (by simp) ?_; intro v1 w1 hown1 hg1)
  have hb1 : Below w.heap.size w w1 := blw_grown ((Below.refl _ _).alloc (Nat.le_refl _) _) hg1 (by simp) (own_lit (Row.new w 5 #[.int .u8 128]) w.heap.size 1 (Nat.le_refl _) rfl (by unfold maxLen; omega)) (Nat.le_refl _)
  have ho1 : w1.ownsRow w.heap.size 5 1 v1 (1 + zeroCount n) (bl (endPart n 0)) := by
    rw [endPart_zero, bl_cons, bl_zeros]
    exact hown1
  clear hg1 hown1
  go_loopw [4, 5, 13] (fun v _ i wr => ∃ k : Nat, k ≤ 8 ∧ i = .int .i64 k ∧ wr.ownsRow w.heap.size 5 1 v (1 + zeroCount n + k) (bl (endPart n k)) ∧ Below w.heap.size w wr) (fun _ _ i _ => 8 - (intOf i).toNat)
  case atStart => exact ⟨0, by omega, rfl, ho1, hb1⟩
  case round =>
    clear ho1 hb1
    obtain ⟨k, hk, rfl, ho, hb⟩ := hrel
    by_cases hlt : k < 8
    · go_wp2_with (at_builtin; refine wpList_app _ rfl _ _ _ rfl w.heap.size 5 i0 (.int .u8 0) 1 Tryd.underlying22 hi hz0 hz1 hz2 rfl _ (1 + zeroCount n + k) _ rfl (ho.alloc _) (wr.heap.size + 1) _ 1 _ [_] rfl (Sl.one _ _ _) (fun u hu => by obtain rfl := List.mem_singleton.1 hu; rfl) (by unfold maxLen; omega) (by omega) (Nat.le_trans hb.size (by simp)) ?_; intro v2 w2 hown2 hg2)
      go_roundw
      case rel =>
        refine ⟨k + 1, by omega, by go_num, ?_, ?_⟩
        · rw [endPart_next, bl_append, bl_cons, bl_nil, ← sizeByte_num]
          exact hown2
        · exact blw_grown (hb.alloc hb.size _) hg2 (Nat.le_trans hb.size (by simp)) (ho.alloc _) (Nat.le_refl _)
      case measure => simp [intOf]; omega
    · obtain rfl : k = 8 := by omega
      go_wp2
      go_ret
      refine ⟨_, rfl, ?_, hb⟩
      rw [HP.out, endPart_length]
      exact ho
end Go.Proofs.YtcippenhomhpbaaDoor
