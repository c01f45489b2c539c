/- FaultsOf and AddTime, of the program and of the specification. -/
import Derived.Test.YtlgfeohoebmbcaaGreatRows
import Derived.WalkKit
import Derived.ProofKit
import Derived.WalkSpells
import Derived.Below
import Derived.Laws.NewBlocks
namespace Go.Proofs.YtlgfeohoebmbcaaGreat.Tm
open Go.RowKit

/-- What FaultsOf answers. -/
def fOut (n : Int) : Int := if n = 1 then 0 else if n = 4 then 1 else if n = 7 then 2 else 0
def fCode (n : Int) : Int := if n = 1 ∨ n = 4 ∨ n = 7 then 0 else 4
/-- What AddTime answers. -/
def adT (a b : Int) : Int := min (max a 0 + max b 0) 9223372036854775807
theorem ret_i {a b : Int} (h : a = b) : Ending.returned (.int .i64 a) = .returned (.int .i64 b) := by rw [h]
theorem ret_ii {a b c d : Int} (h : a = c ∧ b = d) : Ending.returned (.tuple #[.int .i64 a, .int .i64 b]) = .returned (.tuple #[.int .i64 c, .int .i64 d]) := by rw [h.1, h.2]
theorem f_cases (n : Int) : n = 1 ∨ n = 4 ∨ n = 7 ∨ (n ≠ 1 ∧ n ≠ 4 ∧ n ≠ 7 ∧ fOut n = 0 ∧ fCode n = 4) := by
  by_cases h1 : n = 1
  · exact .inl h1
  by_cases h2 : n = 4
  · exact .inr (.inl h2)
  by_cases h3 : n = 7
  · exact .inr (.inr (.inl h3))
  refine .inr (.inr (.inr ⟨h1, h2, h3, ?_, ?_⟩))
  · unfold fOut; rw [if_neg h1, if_neg h2, if_neg h3]
  · unfold fCode; rw [if_neg (by omega)]
set_option maxRecDepth 100000 in
set_option maxHeartbeats 400000 in
theorem specAddTime_any (a b : Int) (w : World) (ha : -9223372036854775808 ≤ a ∧ a ≤ 9223372036854775807) (hb : -9223372036854775808 ≤ b ∧ b ≤ 9223372036854775807) :
    Calls Tryz.prog 108 #[.int .i64 a, .int .i64 b] w fun e w' => e = .returned (.int .i64 (adT a b)) ∧ w' = w := by
  go_enter Tryz.func108, Tryz.ntmps108
  go_wp2_with fail
  all_goals (go_ret; exact ⟨ret_i (by unfold adT; omega), rfl⟩)
end Go.Proofs.YtlgfeohoebmbcaaGreat.Tm
