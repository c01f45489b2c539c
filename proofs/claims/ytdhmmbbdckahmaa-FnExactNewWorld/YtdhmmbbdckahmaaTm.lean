/- FaultsOf and AddTime, of the program and of the specification. -/
import Derived.Test.YtdhmmbbdckahmaaRows
import Derived.WalkKit
import Derived.ProofKit
import Derived.WalkSpells
import Derived.Below
import Derived.Laws.NewBlocks
namespace Go.Proofs.Ytdhmmbbdckahmaa.Tm
open Go.RowKit

/-- What FaultsOf answers. -/
def fOut (n : Int) : Int := if n = 1 then 0 else if n = 4 then 1 else if n = 7 then 2 else 0
def fCode (n : Int) : Int := if n = 1 ∨ n = 4 ∨ n = 7 then 0 else 4
/-- What AddTime answers. -/
def adT (a b : Int) : Int := min (max a 0 + max b 0) 9223372036854775807
theorem ret_i {a b : Int} (h : a = b) : Ending.returned (.int .i64 a) = .returned (.int .i64 b) := by rw [h]
theorem ret_ii {a b c d : Int} (h : a = c ∧ b = d) : Ending.returned (.tuple #[.int .i64 a, .int .i64 b]) = .returned (.tuple #[.int .i64 c, .int .i64 d]) := by rw [h.1, h.2]
theorem f_cases (n : Int) : n = 1 ∨ n = 4 ∨ n = 7 ∨ (n ≠ 1 ∧ n ≠ 4 ∧ n ≠ 7 ∧ fOut n = 0 ∧ fCode n = 4) := by
  by_cases h1 : n = 1
  · exact .inl h1
  by_cases h2 : n = 4
  · exact .inr (.inl h2)
  by_cases h3 : n = 7
  · exact .inr (.inr (.inl h3))
  refine .inr (.inr (.inr ⟨h1, h2, h3, ?_, ?_⟩))
  · unfold fOut; rw [if_neg h1, if_neg h2, if_neg h3]
  · unfold fCode; rw [if_neg (by omega)]
set_option maxRecDepth 100000 in
set_option maxHeartbeats 400000 in
theorem implFaultsOf_any (n : Int) (w : World) : Calls Try.prog 51 #[.int .i64 n] w fun e w' => e = .returned (.tuple #[.int .i64 (fOut n), .int .i64 (fCode n)]) ∧ w' = w := by
  rcases f_cases n with rfl | rfl | rfl | ⟨h1, h2, h3, e1, e2⟩
  · go_enter Try.func51, Try.ntmps51
    go_wp2
    go_ret2
    exact ⟨ret_ii ⟨by decide, by decide⟩, rfl⟩
  · go_enter Try.func51, Try.ntmps51
    go_wp2
    go_ret2
    exact ⟨ret_ii ⟨by decide, by decide⟩, rfl⟩
  · go_enter Try.func51, Try.ntmps51
    go_wp2
    go_ret2
    exact ⟨ret_ii ⟨by decide, by decide⟩, rfl⟩
  · have HE : Hid (fOut n = 0 ∧ fCode n = 4) := ⟨e1, e2⟩
    have b1 : (n == 1) = false := by simpa using h1
    have b2 : (n == 4) = false := by simpa using h2
    have b3 : (n == 7) = false := by simpa using h3
    clear h1 h2 h3 e1 e2
    go_enter Try.func51, Try.ntmps51
    go_wp2
    go_ret2
    exact ⟨ret_ii ⟨HE.out.1.symm, HE.out.2.symm⟩, rfl⟩
end Go.Proofs.Ytdhmmbbdckahmaa.Tm
