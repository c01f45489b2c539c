/- Requests: what both RequestOK functions answer, and their helpers. -/
import Derived.Test.YtkmnjnblacmjlaaRb
import Derived.Test.YtkmnjnblacmjlaaNameParts
import Derived.WalkSpells
namespace Go.Proofs.Ytkmnjnblacmjlaa.Rq
open Go.RowKit

def leB (k l : Int) : Bool := decide ((k = 1 ∨ k = 3) ∧ 1 ≤ l ∧ l ≤ 1000 ∨ (k = 2 ∨ k = 4) ∧ l = 0)
theorem leaseOK_any (k l : Int) (w : World) :
    Calls Try.prog 35 #[.int .i64 k, .int .i64 l] w fun e w' => e = .returned (.bool (leB k l)) ∧ w' = w := by
  by_cases k1 : k = 1
  · subst k1
    go_enter Try.func35, Try.ntmps35
    go_wp2_with (go_at_call 34; refine (within_any _ _ _ _).mono ?_; rintro e w' ⟨rfl, rfl⟩)
    go_ret
    exact ⟨ret_bool (by unfold leB inB; simp), rfl⟩
  by_cases k3 : k = 3
  · subst k3
    go_enter Try.func35, Try.ntmps35
    go_wp2_with (go_at_call 34; refine (within_any _ _ _ _).mono ?_; rintro e w' ⟨rfl, rfl⟩)
    go_ret
    exact ⟨ret_bool (by unfold leB inB; simp), rfl⟩
  by_cases k2 : k = 2
  · subst k2
    go_enter Try.func35, Try.ntmps35
    go_wp2
    go_ret
    exact ⟨ret_bool (by unfold leB; rw [Bool.eq_iff_iff]; simp), rfl⟩
  by_cases k4 : k = 4
  · subst k4
    go_enter Try.func35, Try.ntmps35
    go_wp2
    go_ret
    exact ⟨ret_bool (by unfold leB; rw [Bool.eq_iff_iff]; simp), rfl⟩
  have e1 : (k == 1) = false := beq_eq_false_iff_ne.2 k1
  have e2 : (k == 2) = false := beq_eq_false_iff_ne.2 k2
  have e3 : (k == 3) = false := beq_eq_false_iff_ne.2 k3
  have e4 : (k == 4) = false := beq_eq_false_iff_ne.2 k4
  go_enter Try.func35, Try.ntmps35
  go_wp2
  go_ret
  exact ⟨ret_bool (by unfold leB; rw [Bool.eq_iff_iff]; simp; omega), rfl⟩

/-- A request is right. -/
def reqB (c st k l : Int) (n : ByteArray) : Bool := inB c 0 255 && (inB st 1 65535 && (leB k l && opB n))
/-- A request as a value. -/
def reqV (c st k l : Int) (n : ByteArray) : Value := .agg #[.int .i64 c, .int .i64 st, .int .i64 k, .int .i64 l, .string n]

set_option maxHeartbeats 400000 in
theorem implRequestOK_any (c st k l : Int) (n : ByteArray) (w : World) (hs : n.size ≤ maxLen) :
    Calls Try.prog 29 #[reqV c st k l n] w fun e w' => e = .returned (.bool (reqB c st k l n)) ∧ Below w.heap.size w w' := by
  unfold reqV
  cases h1 : inB c 0 255
  · have HO : Hid (reqB c st k l n = false) := by show reqB c st k l n = false; unfold reqB; rw [h1]; rfl
    go_enter Try.func29, Try.ntmps29
    go_wp2_with (go_at_call 34; refine (within_any _ _ _ _).mono ?_; rintro e w' ⟨rfl, rfl⟩)
    go_ret
    exact ⟨ret_bool HO.out.symm, (Below.refl _ _).alloc (Nat.le_refl _) _⟩
  cases h2 : inB st 1 65535
  · have HO : Hid (reqB c st k l n = false) := by show reqB c st k l n = false; unfold reqB; rw [h1, h2]; rfl
    go_enter Try.func29, Try.ntmps29
    go_wp2_with (go_at_call 34; refine (within_any _ _ _ _).mono ?_; rintro e w' ⟨rfl, rfl⟩)
    go_ret
    exact ⟨ret_bool HO.out.symm, (Below.refl _ _).alloc (Nat.le_refl _) _⟩
  cases h3 : leB k l
  · have HO : Hid (reqB c st k l n = false) := by show reqB c st k l n = false; unfold reqB; rw [h1, h2, h3]; rfl
    go_enter Try.func29, Try.ntmps29
    go_wp2_with (first | (go_at_call 34; refine (within_any _ _ _ _).mono ?_; rintro e w' ⟨rfl, rfl⟩) | (go_at_call 35; refine (leaseOK_any _ _ _).mono ?_; rintro e w' ⟨rfl, rfl⟩))
    go_ret
    exact ⟨ret_bool HO.out.symm, (Below.refl _ _).alloc (Nat.le_refl _) _⟩
  have HO : Hid (reqB c st k l n = opB n) := by show reqB c st k l n = opB n; unfold reqB; rw [h1, h2, h3]; rfl
  go_enter Try.func29, Try.ntmps29
  go_wp2_with (first | (go_at_call 34; refine (within_any _ _ _ _).mono ?_; rintro e w' ⟨rfl, rfl⟩) | (go_at_call 35; refine (leaseOK_any _ _ _).mono ?_; rintro e w' ⟨rfl, rfl⟩) | (go_at_call 36; refine (opNameOK_any _ _ hs).mono ?_; rintro e w' ⟨rfl, hb⟩))
  go_ret
  exact ⟨ret_bool HO.out.symm, ((Below.refl _ _).alloc (Nat.le_refl _) _).trans (hb.mono (by simp))⟩

theorem lease_split (k l : Int) : leB k l = (inB k 1 4 && (inB l 0 1000 && (decide (0 < l) == (k == 1 || k == 3)))) := by
  unfold leB inB
  by_cases k1 : k = 1
  · subst k1; rw [Bool.eq_iff_iff]; simp; omega
  by_cases k2 : k = 2
  · subst k2; rw [Bool.eq_iff_iff]; simp; omega
  by_cases k3 : k = 3
  · subst k3; rw [Bool.eq_iff_iff]; simp; omega
  by_cases k4 : k = 4
  · subst k4; rw [Bool.eq_iff_iff]; simp; omega
  have e1 : ¬ (1 ≤ k ∧ k ≤ 4) := by omega
  rw [Bool.eq_iff_iff]
  simp [k1, k2, k3, k4]
  omega
theorem req_split (c st k l : Int) (n : ByteArray) : reqB c st k l n = (inB c 0 255 && (inB st 1 65535 && (inB k 1 4 && (inB l 0 1000 && (opB n && (decide (0 < l) == (k == 1 || k == 3))))))) := by
  unfold reqB
  rw [lease_split]
  cases inB c 0 255 <;> cases inB st 1 65535 <;> cases inB k 1 4 <;> cases inB l 0 1000 <;> cases opB n <;> simp

set_option maxHeartbeats 800000 in
theorem specRequestOK_any (c st k l : Int) (n : ByteArray) (w : World) (hs : n.size ≤ maxLen) :
    Calls Try.prog 19 #[reqV c st k l n] w fun e w' => e = .returned (.bool (reqB c st k l n)) ∧ Below w.heap.size w w' := by
  unfold reqV
  cases h1 : inB c 0 255
  · have HO : Hid (reqB c st k l n = false) := by show reqB c st k l n = false; rw [req_split, h1]; rfl
    go_enter Try.func19, Try.ntmps19
    go_wp2_with (go_at_call 24; refine (l01In_any _ _ _ _).mono ?_; rintro e w' ⟨rfl, rfl⟩)
    go_ret
    exact ⟨ret_bool HO.out.symm, (Below.refl _ _).alloc (Nat.le_refl _) _⟩
  cases h2 : inB st 1 65535
  · have HO : Hid (reqB c st k l n = false) := by show reqB c st k l n = false; rw [req_split, h1, h2]; rfl
    go_enter Try.func19, Try.ntmps19
    go_wp2_with (go_at_call 24; refine (l01In_any _ _ _ _).mono ?_; rintro e w' ⟨rfl, rfl⟩)
    go_ret
    exact ⟨ret_bool HO.out.symm, (Below.refl _ _).alloc (Nat.le_refl _) _⟩
  cases h3 : inB k 1 4
  · have HO : Hid (reqB c st k l n = false) := by show reqB c st k l n = false; rw [req_split, h1, h2, h3]; rfl
    go_enter Try.func19, Try.ntmps19
    go_wp2_with (go_at_call 24; refine (l01In_any _ _ _ _).mono ?_; rintro e w' ⟨rfl, rfl⟩)
    go_ret
    exact ⟨ret_bool HO.out.symm, (Below.refl _ _).alloc (Nat.le_refl _) _⟩
  cases h4 : inB l 0 1000
  · have HO : Hid (reqB c st k l n = false) := by show reqB c st k l n = false; rw [req_split, h1, h2, h3, h4]; rfl
    go_enter Try.func19, Try.ntmps19
    go_wp2_with (go_at_call 24; refine (l01In_any _ _ _ _).mono ?_; rintro e w' ⟨rfl, rfl⟩)
    go_ret
    exact ⟨ret_bool HO.out.symm, (Below.refl _ _).alloc (Nat.le_refl _) _⟩
  cases h5 : opB n
  · have HO : Hid (reqB c st k l n = false) := by show reqB c st k l n = false; rw [req_split, h1, h2, h3, h4, h5]; rfl
    go_enter Try.func19, Try.ntmps19
    go_wp2_with (first | (go_at_call 24; refine (l01In_any _ _ _ _).mono ?_; rintro e w' ⟨rfl, rfl⟩) | (go_at_call 25; refine (l02Text_any _ _ hs).mono ?_; rintro e w' ⟨rfl, rfl⟩))
    go_ret
    exact ⟨ret_bool HO.out.symm, (Below.refl _ _).alloc (Nat.le_refl _) _⟩
  have HO : Hid (reqB c st k l n = (decide (0 < l) == (k == 1 || k == 3))) := by show reqB c st k l n = _; rw [req_split, h1, h2, h3, h4, h5]; simp
  by_cases k1 : k = 1
  · subst k1
    go_enter Try.func19, Try.ntmps19
    go_wp2_with (first | (go_at_call 24; refine (l01In_any _ _ _ _).mono ?_; rintro e w' ⟨rfl, rfl⟩) | (go_at_call 25; refine (l02Text_any _ _ hs).mono ?_; rintro e w' ⟨rfl, rfl⟩))
    go_ret
    exact ⟨ret_bool (by rw [HO.out]; simp), (Below.refl _ _).alloc (Nat.le_refl _) _⟩
  have e1 : (k == 1) = false := beq_eq_false_iff_ne.2 k1
  go_enter Try.func19, Try.ntmps19
  go_wp2_with (first | (go_at_call 24; refine (l01In_any _ _ _ _).mono ?_; rintro e w' ⟨rfl, rfl⟩) | (go_at_call 25; refine (l02Text_any _ _ hs).mono ?_; rintro e w' ⟨rfl, rfl⟩))
  go_ret
  exact ⟨ret_bool (by rw [HO.out]; simp [e1]), (Below.refl _ _).alloc (Nat.le_refl _) _⟩
end Go.Proofs.Ytkmnjnblacmjlaa.Rq
