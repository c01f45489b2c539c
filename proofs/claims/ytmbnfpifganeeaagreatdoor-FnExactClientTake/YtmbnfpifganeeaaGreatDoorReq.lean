/- Requests: what both RequestOK functions answer, and their helpers. -/
import Derived.Test.YtmbnfpifganeeaaGreatDoorNameParts
import Derived.WalkSpells
namespace Go.Proofs.YtmbnfpifganeeaaGreatDoor.Rq
open Go.RowKit

def inB (x a b : Int) : Bool := decide (a ≤ x ∧ x ≤ b)
theorem ret_bool {a b : Bool} (h : a = b) : Ending.returned (.bool a) = .returned (.bool b) := by rw [h]
theorem within_any (x a b : Int) (w : World) :
    Calls Tryz.prog 41 #[.int .i64 x, .int .i64 a, .int .i64 b] w fun e w' => e = .returned (.bool (inB x a b)) ∧ w' = w := by
  by_cases h1 : a ≤ x
  · by_cases h2 : x ≤ b
    all_goals
      go_enter Tryz.func41, Tryz.ntmps41
      go_wp2
      go_ret
      exact ⟨ret_bool (by unfold inB; rw [Bool.eq_iff_iff]; simp; try omega), rfl⟩
  · go_enter Tryz.func41, Tryz.ntmps41
    go_wp2
    go_ret
    exact ⟨ret_bool (by unfold inB; rw [Bool.eq_iff_iff]; simp; try omega), rfl⟩
theorem l01In_any (x a b : Int) (w : World) :
    Calls Tryz.prog 35 #[.int .i64 x, .int .i64 a, .int .i64 b] w fun e w' => e = .returned (.bool (inB x a b)) ∧ w' = w := by
  by_cases h1 : a ≤ x
  · by_cases h2 : x ≤ b
    all_goals
      go_enter Tryz.func35, Tryz.ntmps35
      go_wp2
      go_ret
      exact ⟨ret_bool (by unfold inB; rw [Bool.eq_iff_iff]; simp; try omega), rfl⟩
  · go_enter Tryz.func35, Tryz.ntmps35
    go_wp2
    go_ret
    exact ⟨ret_bool (by unfold inB; rw [Bool.eq_iff_iff]; simp; try omega), rfl⟩

def leB (k l : Int) : Bool := decide ((k = 1 ∨ k = 3) ∧ 1 ≤ l ∧ l ≤ 1000 ∨ (k = 2 ∨ k = 4) ∧ l = 0)
theorem leaseOK_any (k l : Int) (w : World) :
    Calls Tryz.prog 117 #[.int .i64 k, .int .i64 l] w fun e w' => e = .returned (.bool (leB k l)) ∧ w' = w := by
  by_cases k1 : k = 1
  · subst k1
    go_enter Tryz.func117, Tryz.ntmps117
    go_wp2_with (go_at_call 41; refine (within_any _ _ _ _).mono ?_; rintro e w' ⟨rfl, rfl⟩)
    go_ret
    exact ⟨ret_bool (by unfold leB inB; simp), rfl⟩
  by_cases k3 : k = 3
  · subst k3
    go_enter Tryz.func117, Tryz.ntmps117
    go_wp2_with (go_at_call 41; refine (within_any _ _ _ _).mono ?_; rintro e w' ⟨rfl, rfl⟩)
    go_ret
    exact ⟨ret_bool (by unfold leB inB; simp), rfl⟩
  by_cases k2 : k = 2
  · subst k2
    go_enter Tryz.func117, Tryz.ntmps117
    go_wp2
    go_ret
    exact ⟨ret_bool (by unfold leB; rw [Bool.eq_iff_iff]; simp), rfl⟩
  by_cases k4 : k = 4
  · subst k4
    go_enter Tryz.func117, Tryz.ntmps117
    go_wp2
    go_ret
    exact ⟨ret_bool (by unfold leB; rw [Bool.eq_iff_iff]; simp), rfl⟩
  have e1 : (k == 1) = false := beq_eq_false_iff_ne.2 k1
  have e2 : (k == 2) = false := beq_eq_false_iff_ne.2 k2
  have e3 : (k == 3) = false := beq_eq_false_iff_ne.2 k3
  have e4 : (k == 4) = false := beq_eq_false_iff_ne.2 k4
  go_enter Tryz.func117, Tryz.ntmps117
  go_wp2
  go_ret
  exact ⟨ret_bool (by unfold leB; rw [Bool.eq_iff_iff]; simp; omega), rfl⟩

def opB (n : ByteArray) : Bool := decide (n.size ≤ 12) && Nm.nameB n
theorem opNameOK_any (n : ByteArray) (w : World) (hs : n.size ≤ maxLen) :
    Calls Tryz.prog 118 #[.string n] w fun e w' => e = .returned (.bool (opB n)) ∧ Below w.heap.size w w' := by
  by_cases h : n.size ≤ 12
  · have h1 : (n.size : Int) ≤ 12 := by omega
    have HO : Hid (opB n = Nm.nameB n) := by show opB n = Nm.nameB n; unfold opB; simp [h]
    go_enter Tryz.func118, Tryz.ntmps118
    go_wp2_with (go_at_call 122; refine (Nm.implNameOK_any _ _ hs).mono ?_; rintro e w' ⟨rfl, hb⟩)
    go_ret
    exact ⟨ret_bool HO.out.symm, hb⟩
  · have h1 : (12 : Int) < (n.size : Int) := by omega
    have HO : Hid (opB n = false) := by show opB n = false; unfold opB; simp [h]
    go_enter Tryz.func118, Tryz.ntmps118
    go_wp2
    go_ret
    exact ⟨ret_bool HO.out.symm, Below.refl _ _⟩
theorem l02Text_any (n : ByteArray) (w : World) (hs : n.size ≤ maxLen) :
    Calls Tryz.prog 48 #[.string n, .int .i64 12] w fun e w' => e = .returned (.bool (opB n)) ∧ w' = w := by
  cases h : inB (n.size : Int) 1 12
  · have HO : Hid (opB n = false) := by
      show opB n = false
      unfold inB at h
      unfold opB Nm.nameB
      simp at h ⊢
      omega
    go_enter Tryz.func48, Tryz.ntmps48
    go_wp2_with (go_at_call 35; refine (l01In_any _ _ _ _).mono ?_; rintro e w' ⟨rfl, rfl⟩)
    go_ret
    exact ⟨ret_bool HO.out.symm, rfl⟩
  · have HO : Hid (opB n = Nm.nameB n) := by
      show opB n = Nm.nameB n
      unfold inB at h
      unfold opB
      simp at h ⊢
      omega
    go_enter Tryz.func48, Tryz.ntmps48
    go_wp2_with (first | (go_at_call 35; refine (l01In_any _ _ _ _).mono ?_; rintro e w' ⟨rfl, rfl⟩) | (go_at_call 57; refine (Nm.specNameOK_any _ _ hs).mono ?_; rintro e w' ⟨rfl, rfl⟩))
    go_ret
    exact ⟨ret_bool HO.out.symm, rfl⟩

/-- A request is right. -/
def reqB (c st k l : Int) (n : ByteArray) : Bool := inB c 0 255 && (inB st 1 65535 && (leB k l && opB n))
/-- A request as a value. -/
def reqV (c st k l : Int) (n : ByteArray) : Value := .agg #[.int .i64 c, .int .i64 st, .int .i64 k, .int .i64 l, .string n]

set_option maxHeartbeats 400000 in
theorem implRequestOK_any (c st k l : Int) (n : ByteArray) (w : World) (hs : n.size ≤ maxLen) :
    Calls Tryz.prog 113 #[reqV c st k l n] w fun e w' => e = .returned (.bool (reqB c st k l n)) ∧ Below w.heap.size w w' := by
  unfold reqV
  cases h1 : inB c 0 255
  · have HO : Hid (reqB c st k l n = false) := by show reqB c st k l n = false; unfold reqB; rw [h1]; rfl
    go_enter Tryz.func113, Tryz.ntmps113
    go_wp2_with (go_at_call 41; refine (within_any _ _ _ _).mono ?_; rintro e w' ⟨rfl, rfl⟩)
    go_ret
    exact ⟨ret_bool HO.out.symm, (Below.refl _ _).alloc (Nat.le_refl _) _⟩
  cases h2 : inB st 1 65535
  · have HO : Hid (reqB c st k l n = false) := by show reqB c st k l n = false; unfold reqB; rw [h1, h2]; rfl
    go_enter Tryz.func113, Tryz.ntmps113
    go_wp2_with (go_at_call 41; refine (within_any _ _ _ _).mono ?_; rintro e w' ⟨rfl, rfl⟩)
    go_ret
    exact ⟨ret_bool HO.out.symm, (Below.refl _ _).alloc (Nat.le_refl _) _⟩
  cases h3 : leB k l
  · have HO : Hid (reqB c st k l n = false) := by show reqB c st k l n = false; unfold reqB; rw [h1, h2, h3]; rfl
    go_enter Tryz.func113, Tryz.ntmps113
    go_wp2_with (first | (go_at_call 41; refine (within_any _ _ _ _).mono ?_; rintro e w' ⟨rfl, rfl⟩) | (go_at_call 117; refine (leaseOK_any _ _ _).mono ?_; rintro e w' ⟨rfl, rfl⟩))
    go_ret
    exact ⟨ret_bool HO.out.symm, (Below.refl _ _).alloc (Nat.le_refl _) _⟩
  have HO : Hid (reqB c st k l n = opB n) := by show reqB c st k l n = opB n; unfold reqB; rw [h1, h2, h3]; rfl
  go_enter Tryz.func113, Tryz.ntmps113
  go_wp2_with (first | (go_at_call 41; refine (within_any _ _ _ _).mono ?_; rintro e w' ⟨rfl, rfl⟩) | (go_at_call 117; refine (leaseOK_any _ _ _).mono ?_; rintro e w' ⟨rfl, rfl⟩) | (go_at_call 118; refine (opNameOK_any _ _ hs).mono ?_; rintro e w' ⟨rfl, hb⟩))
  go_ret
  exact ⟨ret_bool HO.out.symm, ((Below.refl _ _).alloc (Nat.le_refl _) _).trans (hb.mono (by simp))⟩

theorem lease_split (k l : Int) : leB k l = (inB k 1 4 && (inB l 0 1000 && (decide (0 < l) == (k == 1 || k == 3)))) := by
  unfold leB inB
  by_cases k1 : k = 1
  · subst k1; rw [Bool.eq_iff_iff]; simp; omega
  by_cases k2 : k = 2
  · subst k2; rw [Bool.eq_iff_iff]; simp; omega
  by_cases k3 : k = 3
  · subst k3; rw [Bool.eq_iff_iff]; simp; omega
  by_cases k4 : k = 4
  · subst k4; rw [Bool.eq_iff_iff]; simp; omega
  have e1 : ¬ (1 ≤ k ∧ k ≤ 4) := by omega
  rw [Bool.eq_iff_iff]
  simp [k1, k2, k3, k4]
  omega
theorem req_split (c st k l : Int) (n : ByteArray) : reqB c st k l n = (inB c 0 255 && (inB st 1 65535 && (inB k 1 4 && (inB l 0 1000 && (opB n && (decide (0 < l) == (k == 1 || k == 3))))))) := by
  unfold reqB
  rw [lease_split]
  cases inB c 0 255 <;> cases inB st 1 65535 <;> cases inB k 1 4 <;> cases inB l 0 1000 <;> cases opB n <;> simp

set_option maxHeartbeats 800000 in
theorem specRequestOK_any (c st k l : Int) (n : ByteArray) (w : World) (hs : n.size ≤ maxLen) :
    Calls Tryz.prog 37 #[reqV c st k l n] w fun e w' => e = .returned (.bool (reqB c st k l n)) ∧ Below w.heap.size w w' := by
  unfold reqV
  cases h1 : inB c 0 255
  · have HO : Hid (reqB c st k l n = false) := by show reqB c st k l n = false; rw [req_split, h1]; rfl
    go_enter Tryz.func37, Tryz.ntmps37
    go_wp2_with (go_at_call 35; refine (l01In_any _ _ _ _).mono ?_; rintro e w' ⟨rfl, rfl⟩)
    go_ret
    exact ⟨ret_bool HO.out.symm, (Below.refl _ _).alloc (Nat.le_refl _) _⟩
  cases h2 : inB st 1 65535
  · have HO : Hid (reqB c st k l n = false) := by show reqB c st k l n = false; rw [req_split, h1, h2]; rfl
    go_enter Tryz.func37, Tryz.ntmps37
    go_wp2_with (go_at_call 35; refine (l01In_any _ _ _ _).mono ?_; rintro e w' ⟨rfl, rfl⟩)
    go_ret
    exact ⟨ret_bool HO.out.symm, (Below.refl _ _).alloc (Nat.le_refl _) _⟩
  cases h3 : inB k 1 4
  · have HO : Hid (reqB c st k l n = false) := by show reqB c st k l n = false; rw [req_split, h1, h2, h3]; rfl
    go_enter Tryz.func37, Tryz.ntmps37
    go_wp2_with (go_at_call 35; refine (l01In_any _ _ _ _).mono ?_; rintro e w' ⟨rfl, rfl⟩)
    go_ret
    exact ⟨ret_bool HO.out.symm, (Below.refl _ _).alloc (Nat.le_refl _) _⟩
  cases h4 : inB l 0 1000
  · have HO : Hid (reqB c st k l n = false) := by show reqB c st k l n = false; rw [req_split, h1, h2, h3, h4]; rfl
    go_enter Tryz.func37, Tryz.ntmps37
    go_wp2_with (go_at_call 35; refine (l01In_any _ _ _ _).mono ?_; rintro e w' ⟨rfl, rfl⟩)
    go_ret
    exact ⟨ret_bool HO.out.symm, (Below.refl _ _).alloc (Nat.le_refl _) _⟩
  cases h5 : opB n
  · have HO : Hid (reqB c st k l n = false) := by show reqB c st k l n = false; rw [req_split, h1, h2, h3, h4, h5]; rfl
    go_enter Tryz.func37, Tryz.ntmps37
    go_wp2_with (first | (go_at_call 35; refine (l01In_any _ _ _ _).mono ?_; rintro e w' ⟨rfl, rfl⟩) | (go_at_call 48; refine (l02Text_any _ _ hs).mono ?_; rintro e w' ⟨rfl, rfl⟩))
    go_ret
    exact ⟨ret_bool HO.out.symm, (Below.refl _ _).alloc (Nat.le_refl _) _⟩
  have HO : Hid (reqB c st k l n = (decide (0 < l) == (k == 1 || k == 3))) := by show reqB c st k l n = _; rw [req_split, h1, h2, h3, h4, h5]; simp
  by_cases k1 : k = 1
  · subst k1
    go_enter Tryz.func37, Tryz.ntmps37
    go_wp2_with (first | (go_at_call 35; refine (l01In_any _ _ _ _).mono ?_; rintro e w' ⟨rfl, rfl⟩) | (go_at_call 48; refine (l02Text_any _ _ hs).mono ?_; rintro e w' ⟨rfl, rfl⟩))
    go_ret
    exact ⟨ret_bool (by rw [HO.out]; simp), (Below.refl _ _).alloc (Nat.le_refl _) _⟩
  have e1 : (k == 1) = false := beq_eq_false_iff_ne.2 k1
  go_enter Tryz.func37, Tryz.ntmps37
  go_wp2_with (first | (go_at_call 35; refine (l01In_any _ _ _ _).mono ?_; rintro e w' ⟨rfl, rfl⟩) | (go_at_call 48; refine (l02Text_any _ _ hs).mono ?_; rintro e w' ⟨rfl, rfl⟩))
  go_ret
  exact ⟨ret_bool (by rw [HO.out]; simp [e1]), (Below.refl _ _).alloc (Nat.le_refl _) _⟩
end Go.Proofs.YtmbnfpifganeeaaGreatDoor.Rq
