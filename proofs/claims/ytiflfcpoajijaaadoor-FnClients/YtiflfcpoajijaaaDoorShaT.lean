/- Words turned: what the leaves of both Hash functions answer. -/
import Derived.Test.YtiflfcpoajijaaaDoorRows
import Derived.Test.YtiflfcpoajijaaaDoorShaM
import Derived.WalkKit
import Derived.ProofKit
import Derived.WalkSpells
namespace Go.Proofs.YtiflfcpoajijaaaDoor.Sh
open Go.RowKit

theorem ret_u32 {a b : Int} (h : a = b) : Ending.returned (.int .u32 a) = .returned (.int .u32 b) := by rw [h]
theorem nat_or_comm (x y : UInt32) : nat (x ||| y) = nat (y ||| x) := by rw [UInt32.or_comm]

theorem turn_eq (x : UInt32) (n : Int) (h0 : 0 < n) (h1 : n < 32) : bits BinOp.or IntKind.u32 (nat x / 2 ^ n.toNat) (nat x * 2 ^ (32 - n).toNat % 4294967296) = nat (rotr x n.toNat) := by
  rw [nat_shr x _ (by omega), nat_shl x _ (by omega), nat_or, show (32 - n).toNat = 32 - n.toNat by omega]
  rfl
theorem turn_eq2 (x : UInt32) (n : Int) (h0 : 0 < n) (h1 : n < 32) : bits BinOp.or IntKind.u32 (nat x * 2 ^ (32 - n).toNat % 4294967296) (nat x / 2 ^ (32 - (32 - n)).toNat) = nat (rotr x n.toNat) := by
  rw [nat_shl x _ (by omega), nat_shr x _ (by omega), nat_or, show (32 - n).toNat = 32 - n.toNat by omega, show (32 - (32 - n)).toNat = n.toNat by omega, UInt32.or_comm]
  rfl
theorem mask31 (n : Int) (h0 : 0 < n) (h1 : n < 32) : bits .and .u64 (IntKind.u64.wrap (-n)) 31 = 32 - n := by
  have e : (-n) % 18446744073709551616 = 18446744073709551616 - n := by omega
  rw [IntKind.wrap_u64, e, u64_and _ _ (by omega) (by omega) (by decide) (by decide)]
  have e2 : (31 : Int).toNat = 2 ^ 5 - 1 := rfl
  rw [e2, Nat.and_two_pow_sub_one_eq_mod]
  omega
theorem turnRight_any (x : UInt32) (n : Int) (w : World) (h0 : 0 < n) (h1 : n < 32) :
    Calls Tryd.prog 45 #[.int .u32 (nat x), .int .i64 n] w fun e w' => e = .returned (.int .u32 (nat (rotr x n.toNat))) ∧ w' = w := by
  have hm := mask31 n h0 h1
  go_enter Tryd.func45, Tryd.ntmps45
  go_wp2
  go_ret
  exact ⟨ret_u32 (turn_eq2 x n h0 h1), rfl⟩

theorem mixLower_any (x : UInt32) (w : World) :
    Calls Tryd.prog 43 #[.int .u32 (nat x)] w fun e w' => e = .returned (.int .u32 (nat (low x))) ∧ w' = w := by
  have hx := nat_xor
  go_enter Tryd.func43, Tryd.ntmps43
  go_wp2_with (go_at_call 45; refine (turnRight_any _ _ _ (by decide) (by decide)).mono ?_; rintro e w' ⟨rfl, rfl⟩)
  go_ret
  exact ⟨rfl, rfl⟩
theorem mixUpper_any (x : UInt32) (w : World) :
    Calls Tryd.prog 44 #[.int .u32 (nat x)] w fun e w' => e = .returned (.int .u32 (nat (up x))) ∧ w' = w := by
  have hx := nat_xor
  go_enter Tryd.func44, Tryd.ntmps44
  go_wp2_with (go_at_call 45; refine (turnRight_any _ _ _ (by decide) (by decide)).mono ?_; rintro e w' ⟨rfl, rfl⟩)
  go_ret
  exact ⟨rfl, rfl⟩
end Go.Proofs.YtiflfcpoajijaaaDoor.Sh
