/- Requests: what both RequestOK functions answer, and their helpers. -/
import Derived.Test.YtlgfeohoebmbcaaGreatNameParts
import Derived.WalkSpells
namespace Go.Proofs.YtlgfeohoebmbcaaGreat.Rq
open Go.RowKit

def inB (x a b : Int) : Bool := decide (a ≤ x ∧ x ≤ b)
theorem ret_bool {a b : Bool} (h : a = b) : Ending.returned (.bool a) = .returned (.bool b) := by rw [h]
theorem within_any (x a b : Int) (w : World) :
    Calls Tryz.prog 82 #[.int .i64 x, .int .i64 a, .int .i64 b] w fun e w' => e = .returned (.bool (inB x a b)) ∧ w' = w := by
  by_cases h1 : a ≤ x
  · by_cases h2 : x ≤ b
    all_goals
      go_enter Tryz.func82, Tryz.ntmps82
      go_wp2
      go_ret
      exact ⟨ret_bool (by unfold inB; rw [Bool.eq_iff_iff]; simp; try omega), rfl⟩
  · go_enter Tryz.func82, Tryz.ntmps82
    go_wp2
    go_ret
    exact ⟨ret_bool (by unfold inB; rw [Bool.eq_iff_iff]; simp; try omega), rfl⟩
theorem l01In_any (x a b : Int) (w : World) :
    Calls Tryz.prog 39 #[.int .i64 x, .int .i64 a, .int .i64 b] w fun e w' => e = .returned (.bool (inB x a b)) ∧ w' = w := by
  by_cases h1 : a ≤ x
  · by_cases h2 : x ≤ b
    all_goals
      go_enter Tryz.func39, Tryz.ntmps39
      go_wp2
      go_ret
      exact ⟨ret_bool (by unfold inB; rw [Bool.eq_iff_iff]; simp; try omega), rfl⟩
  · go_enter Tryz.func39, Tryz.ntmps39
    go_wp2
    go_ret
    exact ⟨ret_bool (by unfold inB; rw [Bool.eq_iff_iff]; simp; try omega), rfl⟩

def opB (n : ByteArray) : Bool := decide (n.size ≤ 12) && Nm.nameB n
theorem opNameOK_any (n : ByteArray) (w : World) (hs : n.size ≤ maxLen) :
    Calls Tryz.prog 84 #[.string n] w fun e w' => e = .returned (.bool (opB n)) ∧ Below w.heap.size w w' := by
  by_cases h : n.size ≤ 12
  · have h1 : (n.size : Int) ≤ 12 := by omega
    have HO : Hid (opB n = Nm.nameB n) := by show opB n = Nm.nameB n; unfold opB; simp [h]
    go_enter Tryz.func84, Tryz.ntmps84
    go_wp2_with (go_at_call 109; refine (Nm.implNameOK_any _ _ hs).mono ?_; rintro e w' ⟨rfl, hb⟩)
    go_ret
    exact ⟨ret_bool HO.out.symm, hb⟩
  · have h1 : (12 : Int) < (n.size : Int) := by omega
    have HO : Hid (opB n = false) := by show opB n = false; unfold opB; simp [h]
    go_enter Tryz.func84, Tryz.ntmps84
    go_wp2
    go_ret
    exact ⟨ret_bool HO.out.symm, Below.refl _ _⟩
theorem l02Text_any (n : ByteArray) (w : World) (hs : n.size ≤ maxLen) :
    Calls Tryz.prog 67 #[.string n, .int .i64 12] w fun e w' => e = .returned (.bool (opB n)) ∧ w' = w := by
  cases h : inB (n.size : Int) 1 12
  · have HO : Hid (opB n = false) := by
      show opB n = false
      unfold inB at h
      unfold opB Nm.nameB
      simp at h ⊢
      omega
    go_enter Tryz.func67, Tryz.ntmps67
    go_wp2_with (go_at_call 39; refine (l01In_any _ _ _ _).mono ?_; rintro e w' ⟨rfl, rfl⟩)
    go_ret
    exact ⟨ret_bool HO.out.symm, rfl⟩
  · have HO : Hid (opB n = Nm.nameB n) := by
      show opB n = Nm.nameB n
      unfold inB at h
      unfold opB
      simp at h ⊢
      omega
    go_enter Tryz.func67, Tryz.ntmps67
    go_wp2_with (first | (go_at_call 39; refine (l01In_any _ _ _ _).mono ?_; rintro e w' ⟨rfl, rfl⟩) | (go_at_call 92; refine (Nm.specNameOK_any _ _ hs).mono ?_; rintro e w' ⟨rfl, rfl⟩))
    go_ret
    exact ⟨ret_bool HO.out.symm, rfl⟩

end Go.Proofs.YtlgfeohoebmbcaaGreat.Rq
