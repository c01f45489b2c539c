/- Where a tree of pieces forks: impl.forkOf, the specification's l09Half. -/
import Derived.Test.YtnebohdlndiejaaGreatDoorPf
import Derived.Lib.Strings
import Derived.Lib.Small
import Derived.Lib.Walk
import Derived.Lib.BitFns
namespace Go.Proofs.YtnebohdlndiejaaGreatDoor.Px
open Go.RowKit Go.Proofs.YtnebohdlndiejaaGreatDoor.Pf

/-- The highest power of 2 below n. -/
def half (n : Nat) : Nat := if n ≤ 2 then 1 else if n ≤ 4 then 2 else if n ≤ 8 then 4 else if n ≤ 16 then 8 else if n ≤ 32 then 16 else 32
theorem half_lt {n : Nat} (h : 2 ≤ n) : 1 ≤ half n ∧ half n < n ∧ half n ≤ 32 := by
  unfold half
  repeat' split
  all_goals omega
theorem bit_half : ∀ x : Fin 64, 1 ≤ x.val → (Lib.bitLen x.val = 1 ∧ half (x.val + 1) = 1) ∨ (Lib.bitLen x.val = 2 ∧ half (x.val + 1) = 2) ∨ (Lib.bitLen x.val = 3 ∧ half (x.val + 1) = 4) ∨ (Lib.bitLen x.val = 4 ∧ half (x.val + 1) = 8) ∨ (Lib.bitLen x.val = 5 ∧ half (x.val + 1) = 16) ∨ (Lib.bitLen x.val = 6 ∧ half (x.val + 1) = 32) := by decide +kernel
theorem tab64 : ∀ (x : Fin 64) (h : x.val < Lib.len8tab.size), wrap64 (wrap64 ((Lib.len8tab[x.val]'h).toNat : Int)) = (Lib.bitLen x.val : Int) := by decide +kernel
set_option maxRecDepth 100000 in
set_option maxHeartbeats 1000000 in
theorem len64_any (x : Int) (w : World) (h0 : 0 ≤ x) (h1 : x < 64) : Calls Tryz.prog 175 #[.int .u64 x] w fun e w' => e = .returned (.int .i64 (Lib.bitLen x.toNat)) ∧ w = w' := by
  have q1 : ¬ 4294967296 ≤ x := by omega
  have q2 : ¬ 65536 ≤ x := by omega
  have q3 : ¬ 256 ≤ x := by omega
  have hsz : x < (Lib.len8tab.size : Int) := by have : Lib.len8tab.size = 256 := by decide +kernel
                                                omega
  go_enter Tryz.func175, Tryz.ntmps175
  go_wp2
  go_ret
  refine ⟨congrArg Ending.returned (congrArg (Value.int IntKind.i64) ?_), rfl⟩
  exact tab64 ⟨x.toNat, by omega⟩ (by show x.toNat < _; omega)
set_option maxRecDepth 100000 in
theorem len_any (x : Int) (w : World) (h0 : 0 ≤ x) (h1 : x < 64) : Calls Tryz.prog 161 #[.int .u64 x] w fun e w' => e = .returned (.int .i64 (Lib.bitLen x.toNat)) ∧ w = w' := by
  have HL : Hid (Calls Tryz.prog 175 #[.int .u64 x] w fun e w' => e = .returned (.int .i64 (Lib.bitLen x.toNat)) ∧ w = w') := len64_any x w h0 h1
  generalize (Lib.bitLen x.toNat : Int) = z at HL
  go_enter Tryz.func161, Tryz.ntmps161
  go_wp2_with fail
  refine HL.out.mono ?_
  rintro e w1 ⟨rfl, rfl⟩
  go_wp2_with fail
  go_ret
  exact ⟨rfl, rfl⟩
set_option maxRecDepth 100000 in
set_option maxHeartbeats 1000000 in
theorem forkOf_any (n : Nat) (w : World) (h2 : 2 ≤ n) (h64 : n ≤ 64) : Calls Tryz.prog 142 #[.int .i64 n] w fun e w' => e = .returned (.int .i64 (half n)) ∧ w = w' := by
  have HL0 := len_any ((n : Int) - 1) w (by omega) (by omega)
  have hb := bit_half ⟨n - 1, by omega⟩ (by show 1 ≤ n - 1; omega)
  have e1 : n - 1 + 1 = n := by omega
  have e2 : ((n : Int) - 1).toNat = n - 1 := by omega
  have hm : ((n : Int) - 1) % 18446744073709551616 = (n : Int) - 1 := by omega
  simp only [e1] at hb
  rw [e2] at HL0
  obtain ⟨b, HB⟩ : ∃ b, Hid (Lib.bitLen (n - 1) = b) := ⟨_, rfl⟩
  obtain ⟨z, HZ⟩ : ∃ z, Hid (half n = z) := ⟨_, rfl⟩
  rw [HB.out] at HL0 hb
  rw [HZ.out] at hb ⊢
  have HL : Hid (Calls Tryz.prog 161 #[.int .u64 ((n : Int) - 1)] w fun e w' => e = .returned (.int .i64 b) ∧ w = w') := HL0
  clear HL0 e1 e2 HB HZ
  rcases hb with ⟨rfl, rfl⟩ | ⟨rfl, rfl⟩ | ⟨rfl, rfl⟩ | ⟨rfl, rfl⟩ | ⟨rfl, rfl⟩ | ⟨rfl, rfl⟩
  all_goals
    go_enter Tryz.func142, Tryz.ntmps142
    go_wp2_with fail
    refine HL.out.mono ?_
    rintro e w1 ⟨rfl, rfl⟩
    go_wp2_with fail
    go_ret
    exact ⟨rfl, rfl⟩
theorem half_step : ∀ k : Fin 6, ∀ n : Fin 65, 2 ≤ n.val → (k.val = 0 ∨ 2 ^ k.val < n.val) → ¬ 2 * 2 ^ k.val < n.val → half n.val = 2 ^ k.val := by decide +kernel
set_option maxRecDepth 100000 in
set_option maxHeartbeats 1000000 in
theorem l09Half_any (n : Nat) (w : World) (h2 : 2 ≤ n) (h64 : n ≤ 64) : Calls Tryz.prog 96 #[.int .i64 n] w fun e w' => e = .returned (.int .i64 (half n)) ∧ w = w' := by
  go_enter Tryz.func96, Tryz.ntmps96
  go_wp2_with fail
  go_loop [3] (fun i => ∃ k : Nat, k ≤ 5 ∧ i = .int .i64 ((2 ^ k : Nat) : Int) ∧ (k = 0 ∨ 2 ^ k < n)) (fun i => n - (intOf i).toNat)
  case atStart => exact ⟨0, by omega, rfl, .inl rfl⟩
  case round =>
    obtain ⟨k, hk, rfl, hlt⟩ := hrel
    have HE : Hid (¬ 2 * 2 ^ k < n → half n = 2 ^ k) := half_step ⟨k, by omega⟩ ⟨n, by omega⟩ h2 hlt
    have HP : Hid (2 ^ (k + 1) = 2 * 2 ^ k) := by show _ = _; rw [Nat.pow_succ]; omega
    have HQ : Hid (2 * 2 ^ k < n → k + 1 ≤ 5) := fun h => by
      by_cases h5 : k = 5
      · subst h5; simp at h; omega
      · omega
    have hpos : 1 ≤ 2 ^ k := Nat.one_le_two_pow
    have hpb : 2 ^ k ≤ 32 := Nat.pow_le_pow_right (n := 2) (by decide) hk
    generalize 2 ^ k = p at hlt HE HP HQ hpos hpb
    by_cases hl : 2 * p < n
    · have hl' : 2 * (p : Int) < (n : Int) := by omega
      go_wp2_with fail
      exact ⟨⟨k + 1, HQ.out hl, Tx.val_eq (by rw [HP.out]; omega), .inr (by rw [HP.out]; exact hl)⟩, by simp [intOf]; omega⟩
    · have hl' : ¬ 2 * (p : Int) < (n : Int) := by omega
      go_wp2_with fail
      go_ret
      exact ⟨retI (by rw [HE.out hl]), rfl⟩
end Go.Proofs.YtnebohdlndiejaaGreatDoor.Px
