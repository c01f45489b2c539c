/- ReadingMac, of the program and of the specification. -/
import Derived.Test.YtiflfcpoajijaaaDoorMr
namespace Go.Proofs.YtiflfcpoajijaaaDoor.Rm
open Go.RowKit Go.Proofs.YtiflfcpoajijaaaDoor.Sl Go.Proofs.YtiflfcpoajijaaaDoor.By Go.Proofs.YtiflfcpoajijaaaDoor.Ap Go.Proofs.YtiflfcpoajijaaaDoor.Tx Go.Proofs.YtiflfcpoajijaaaDoor.Sh Go.Proofs.YtiflfcpoajijaaaDoor.Ho Go.Proofs.YtiflfcpoajijaaaDoor.Mr

def inR (n a b : Int) : Bool := decide (a ≤ n) && decide (n ≤ b)
theorem ret_bool {a b : Bool} (h : a = b) : Ending.returned (.bool a) = .returned (.bool b) := by rw [h]
theorem inR_nat {n a b : Int} (h : inR n a b = true) : a ≤ n ∧ n ≤ b := by unfold inR at h; simpa using h
theorem within_any (n a b : Int) (w : World) : Calls Tryd.prog 12 #[.int .i64 n, .int .i64 a, .int .i64 b] w fun e w' => e = .returned (.bool (inR n a b)) ∧ w = w' := by
  by_cases h1 : a ≤ n
  · by_cases h2 : n ≤ b
    · have HE : Hid (inR n a b = true) := by show _ = _; unfold inR; rw [decide_eq_true h1, decide_eq_true h2]; rfl
      go_enter Tryd.func12, Tryd.ntmps12
      go_wp2
      go_ret
      exact ⟨ret_bool HE.out.symm, rfl⟩
    · have HE : Hid (inR n a b = false) := by show _ = _; unfold inR; rw [decide_eq_false h2, Bool.and_false]
      go_enter Tryd.func12, Tryd.ntmps12
      go_wp2
      go_ret
      exact ⟨ret_bool HE.out.symm, rfl⟩
  · have HE : Hid (inR n a b = false) := by show _ = _; unfold inR; rw [decide_eq_false h1, Bool.false_and]
    go_enter Tryd.func12, Tryd.ntmps12
    go_wp2
    go_ret
    exact ⟨ret_bool HE.out.symm, rfl⟩
theorem nodeOK_any (n : Int) (w : World) : Calls Tryd.prog 24 #[.int .i64 n] w fun e w' => e = .returned (.bool (inR n 0 6)) ∧ w = w' := by
  go_enter Tryd.func24, Tryd.ntmps24
  go_wp2_with (go_at_call 12; refine (within_any n 0 6 _).mono ?_; rintro e w' ⟨rfl, rfl⟩)
  go_ret
  exact ⟨rfl, rfl⟩
theorem ret_sc {s t : ByteArray} {a b : Int} (h : s = t ∧ a = b) : Ending.returned (.tuple #[.string s, .int .i64 a]) = .returned (.tuple #[.string t, .int .i64 b]) := by rw [h.1, h.2]
/-- What ReadingMac answers. -/
def okM (f x : Int) : Bool := inR f 0 6 && inR x 0 1000000000
def rmCode (f x : Int) : Int := if okM f x then 0 else 4
def rmOut (f x : Int) : ByteArray := if okM f x then rmk f.toNat x else ⟨#[]⟩
theorem rm_cases (f x : Int) : (inR f 0 6 = false ∧ rmCode f x = 4 ∧ rmOut f x = ⟨#[]⟩) ∨ (inR f 0 6 = true ∧ inR x 0 1000000000 = false ∧ rmCode f x = 4 ∧ rmOut f x = ⟨#[]⟩) ∨ (∃ i : Nat, f = i ∧ i < 7 ∧ inR f 0 6 = true ∧ inR x 0 1000000000 = true ∧ rmCode f x = 0 ∧ rmOut f x = rmk i x) := by
  unfold rmCode rmOut okM
  cases h1 : inR f 0 6 with
  | false => exact .inl ⟨rfl, rfl, rfl⟩
  | true =>
    cases h2 : inR x 0 1000000000 with
    | false => exact .inr (.inl ⟨rfl, rfl, rfl, rfl⟩)
    | true =>
      obtain ⟨a, b⟩ := inR_nat h1
      obtain ⟨i, rfl⟩ := Int.eq_ofNat_of_zero_le a
      exact .inr (.inr ⟨i, rfl, by omega, rfl, rfl, rfl, rfl⟩)
end Go.Proofs.YtiflfcpoajijaaaDoor.Rm
