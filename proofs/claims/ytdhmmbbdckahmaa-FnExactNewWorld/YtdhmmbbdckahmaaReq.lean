/- Requests: what both RequestOK functions answer, and their helpers. -/
import Derived.Test.YtdhmmbbdckahmaaNameParts
import Derived.WalkSpells
namespace Go.Proofs.Ytdhmmbbdckahmaa.Rq
open Go.RowKit

def inB (x a b : Int) : Bool := decide (a ≤ x ∧ x ≤ b)
theorem ret_bool {a b : Bool} (h : a = b) : Ending.returned (.bool a) = .returned (.bool b) := by rw [h]
theorem within_any (x a b : Int) (w : World) :
    Calls Try.prog 32 #[.int .i64 x, .int .i64 a, .int .i64 b] w fun e w' => e = .returned (.bool (inB x a b)) ∧ w' = w := by
  by_cases h1 : a ≤ x
  · by_cases h2 : x ≤ b
    all_goals
      go_enter Try.func32, Try.ntmps32
      go_wp2
      go_ret
      exact ⟨ret_bool (by unfold inB; rw [Bool.eq_iff_iff]; simp; try omega), rfl⟩
  · go_enter Try.func32, Try.ntmps32
    go_wp2
    go_ret
    exact ⟨ret_bool (by unfold inB; rw [Bool.eq_iff_iff]; simp; try omega), rfl⟩
theorem l01In_any (x a b : Int) (w : World) :
    Calls Try.prog 26 #[.int .i64 x, .int .i64 a, .int .i64 b] w fun e w' => e = .returned (.bool (inB x a b)) ∧ w' = w := by
  by_cases h1 : a ≤ x
  · by_cases h2 : x ≤ b
    all_goals
      go_enter Try.func26, Try.ntmps26
      go_wp2
      go_ret
      exact ⟨ret_bool (by unfold inB; rw [Bool.eq_iff_iff]; simp; try omega), rfl⟩
  · go_enter Try.func26, Try.ntmps26
    go_wp2
    go_ret
    exact ⟨ret_bool (by unfold inB; rw [Bool.eq_iff_iff]; simp; try omega), rfl⟩

def leB (k l : Int) : Bool := decide ((k = 1 ∨ k = 3) ∧ 1 ≤ l ∧ l ≤ 1000 ∨ (k = 2 ∨ k = 4) ∧ l = 0)
def opB (n : ByteArray) : Bool := decide (n.size ≤ 12) && Nm.nameB n
/-- A request is right. -/
def reqB (c st k l : Int) (n : ByteArray) : Bool := inB c 0 255 && (inB st 1 65535 && (leB k l && opB n))
/-- A request as a value. -/
def reqV (c st k l : Int) (n : ByteArray) : Value := .agg #[.int .i64 c, .int .i64 st, .int .i64 k, .int .i64 l, .string n]

theorem lease_split (k l : Int) : leB k l = (inB k 1 4 && (inB l 0 1000 && (decide (0 < l) == (k == 1 || k == 3)))) := by
  unfold leB inB
  by_cases k1 : k = 1
  · subst k1; rw [Bool.eq_iff_iff]; simp; omega
  by_cases k2 : k = 2
  · subst k2; rw [Bool.eq_iff_iff]; simp; omega
  by_cases k3 : k = 3
  · subst k3; rw [Bool.eq_iff_iff]; simp; omega
  by_cases k4 : k = 4
  · subst k4; rw [Bool.eq_iff_iff]; simp; omega
  have e1 : ¬ (1 ≤ k ∧ k ≤ 4) := by omega
  rw [Bool.eq_iff_iff]
  simp [k1, k2, k3, k4]
  omega
theorem req_split (c st k l : Int) (n : ByteArray) : reqB c st k l n = (inB c 0 255 && (inB st 1 65535 && (inB k 1 4 && (inB l 0 1000 && (opB n && (decide (0 < l) == (k == 1 || k == 3))))))) := by
  unfold reqB
  rw [lease_split]
  cases inB c 0 255 <;> cases inB st 1 65535 <;> cases inB k 1 4 <;> cases inB l 0 1000 <;> cases opB n <;> simp

end Go.Proofs.Ytdhmmbbdckahmaa.Rq
