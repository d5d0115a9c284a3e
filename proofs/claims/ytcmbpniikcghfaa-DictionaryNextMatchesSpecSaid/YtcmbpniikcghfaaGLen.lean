/-
  The contracts of math/bits.Len64 and Len: the number of binary digits.
-/
import Derived.Test.YtcmbpniikcghfaaProg
import Derived.Test.YtcmbpniikcghfaaGMem
import Derived.WalkKit
import Derived.Lib.BitFns
import Derived.Lib.Small
import Derived.IntWalk
import Derived.Lib.Strings
import Derived.Lib.Slices
import Derived.Lib.Walk
namespace Go.Proofs.Ytcmbpniikcghfaa
open Go.RowKit

theorem tab_len (i : Nat) (h : i < Lib.len8tab.size) (hi : i < 256) : (((Lib.len8tab[i]'h).toNat : Nat) : Int) = (Lib.bitLen i : Int) := by
  have := Lib.len8_of (i : Int) (by omega) (by omega)
  unfold Lib.len8 at this
  rw [Int.toNat_natCast, ByteArray.getElem?_lt' _ _ h, Option.getD_some] at this
  exact this
theorem close_len (x y : Int) (k K : Nat) (hK : K = 2 ^ k) (hk : k ≤ 56) (hx : x.toNat < 18446744073709551616) (hy : y.toNat = x.toNat / K) (hl : y.toNat < 256) (hb : K ≤ x.toNat) (hin : y.toNat < Lib.len8tab.size) :
    wrap64 ((k : Int) + wrap64 (((Lib.len8tab[y.toNat]'hin).toNat : Nat) : Int)) = (Lib.bitLen x.toNat : Int) := by
  have h8 : Lib.bitLen y.toNat ≤ 8 := Lib.bitLen_le8 ⟨y.toNat, hl⟩
  have hs := Lib.bitLen_shift k x.toNat (by rw [← hK]; exact hb) hx
  rw [← hK, ← hy] at hs
  have e := IntWalk.wrap64_in ((Lib.bitLen y.toNat : Nat) : Int) (by omega)
  rw [tab_len _ hin hl, e, IntWalk.wrap64_in _ (by omega), hs]
  omega
theorem close_len0 (x : Int) (hl : x.toNat < 256) (hin : x.toNat < Lib.len8tab.size) : wrap64 (wrap64 (((Lib.len8tab[x.toNat]'hin).toNat : Nat) : Int)) = (Lib.bitLen x.toNat : Int) := by
  have h8 : Lib.bitLen x.toNat ≤ 8 := Lib.bitLen_le8 ⟨x.toNat, hl⟩
  have e := IntWalk.wrap64_in ((Lib.bitLen x.toNat : Nat) : Int) (by omega)
  rw [tab_len _ hin hl, e, e]

set_option maxHeartbeats 4000000 in
set_option maxRecDepth 100000 in
theorem len64_any (x : Int) (h0 : 0 ≤ x) (h1 : x ≤ 18446744073709551615) (w : World) :
    Calls Try.prog 59 #[.int .u64 x] w fun e w' => e = .returned (.int .i64 (Lib.bitLen x.toNat)) ∧ w = w' := by
  have hsz := Lib.len8tab_size
  go_enter Try.func59, Try.ntmps59
  go_wp2
  all_goals (go_ret; refine ⟨ret_int ?_, rfl⟩)
  · exact close_len x _ 56 72057594037927936 rfl (by omega) (by omega) (by omega) (by omega) (by omega) _
  · exact close_len x _ 48 281474976710656 rfl (by omega) (by omega) (by omega) (by omega) (by omega) _
  · exact close_len x _ 40 1099511627776 rfl (by omega) (by omega) (by omega) (by omega) (by omega) _
  · exact close_len x _ 32 4294967296 rfl (by omega) (by omega) (by omega) (by omega) (by omega) _
  · exact close_len x _ 24 16777216 rfl (by omega) (by omega) (by omega) (by omega) (by omega) _
  · exact close_len x _ 16 65536 rfl (by omega) (by omega) (by omega) (by omega) (by omega) _
  · exact close_len x _ 8 256 rfl (by omega) (by omega) (by omega) (by omega) (by omega) _
  · exact close_len0 x (by omega) _

theorem len_any (x : Int) (h0 : 0 ≤ x) (h1 : x ≤ 18446744073709551615) (w : World) :
    Calls Try.prog 51 #[.int .u64 x] w fun e w' => e = .returned (.int .i64 (Lib.bitLen x.toNat)) ∧ w = w' := by
  go_enter Try.func51, Try.ntmps51
  go_wp2_with (go_at_call 59; refine (len64_any x h0 h1 _).mono ?_; rintro e w' ⟨rfl, rfl⟩)
  go_ret
  exact ⟨rfl, rfl⟩
end Go.Proofs.Ytcmbpniikcghfaa
