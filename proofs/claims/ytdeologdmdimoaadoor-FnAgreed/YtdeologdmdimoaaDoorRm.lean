/- ReadingMac, of the program and of the specification. -/
import Derived.Test.YtdeologdmdimoaaDoorMr
namespace Go.Proofs.YtdeologdmdimoaaDoor.Rm
open Go.RowKit Go.Proofs.YtdeologdmdimoaaDoor.Sl Go.Proofs.YtdeologdmdimoaaDoor.By Go.Proofs.YtdeologdmdimoaaDoor.Ap Go.Proofs.YtdeologdmdimoaaDoor.Tx Go.Proofs.YtdeologdmdimoaaDoor.Sh Go.Proofs.YtdeologdmdimoaaDoor.Ho Go.Proofs.YtdeologdmdimoaaDoor.Mr

def inR (n a b : Int) : Bool := decide (a ≤ n) && decide (n ≤ b)
theorem ret_bool {a b : Bool} (h : a = b) : Ending.returned (.bool a) = .returned (.bool b) := by rw [h]
theorem inR_nat {n a b : Int} (h : inR n a b = true) : a ≤ n ∧ n ≤ b := by unfold inR at h; simpa using h
theorem within_any (n a b : Int) (w : World) : Calls Tryd.prog 35 #[.int .i64 n, .int .i64 a, .int .i64 b] w fun e w' => e = .returned (.bool (inR n a b)) ∧ w = w' := by
  by_cases h1 : a ≤ n
  · by_cases h2 : n ≤ b
    · have HE : Hid (inR n a b = true) := by show _ = _; unfold inR; rw [decide_eq_true h1, decide_eq_true h2]; rfl
      go_enter Tryd.func35, Tryd.ntmps35
      go_wp2
      go_ret
      exact ⟨ret_bool HE.out.symm, rfl⟩
    · have HE : Hid (inR n a b = false) := by show _ = _; unfold inR; rw [decide_eq_false h2, Bool.and_false]
      go_enter Tryd.func35, Tryd.ntmps35
      go_wp2
      go_ret
      exact ⟨ret_bool HE.out.symm, rfl⟩
  · have HE : Hid (inR n a b = false) := by show _ = _; unfold inR; rw [decide_eq_false h1, Bool.false_and]
    go_enter Tryd.func35, Tryd.ntmps35
    go_wp2
    go_ret
    exact ⟨ret_bool HE.out.symm, rfl⟩
theorem l01In_any (n a b : Int) (w : World) : Calls Tryd.prog 25 #[.int .i64 n, .int .i64 a, .int .i64 b] w fun e w' => e = .returned (.bool (inR n a b)) ∧ w = w' := by
  by_cases h1 : a ≤ n
  · by_cases h2 : n ≤ b
    · have HE : Hid (inR n a b = true) := by show _ = _; unfold inR; rw [decide_eq_true h1, decide_eq_true h2]; rfl
      go_enter Tryd.func25, Tryd.ntmps25
      go_wp2
      go_ret
      exact ⟨ret_bool HE.out.symm, rfl⟩
    · have HE : Hid (inR n a b = false) := by show _ = _; unfold inR; rw [decide_eq_false h2, Bool.and_false]
      go_enter Tryd.func25, Tryd.ntmps25
      go_wp2
      go_ret
      exact ⟨ret_bool HE.out.symm, rfl⟩
  · have HE : Hid (inR n a b = false) := by show _ = _; unfold inR; rw [decide_eq_false h1, Bool.false_and]
    go_enter Tryd.func25, Tryd.ntmps25
    go_wp2
    go_ret
    exact ⟨ret_bool HE.out.symm, rfl⟩
theorem nodeOK_any (n : Int) (w : World) : Calls Tryd.prog 22 #[.int .i64 n] w fun e w' => e = .returned (.bool (inR n 0 6)) ∧ w = w' := by
  go_enter Tryd.func22, Tryd.ntmps22
  go_wp2_with (go_at_call 35; refine (within_any n 0 6 _).mono ?_; rintro e w' ⟨rfl, rfl⟩)
  go_ret
  exact ⟨rfl, rfl⟩
theorem ret_sc {s t : ByteArray} {a b : Int} (h : s = t ∧ a = b) : Ending.returned (.tuple #[.string s, .int .i64 a]) = .returned (.tuple #[.string t, .int .i64 b]) := by rw [h.1, h.2]
/-- What ReadingMac answers. -/
def okM (f x : Int) : Bool := inR f 0 6 && inR x 0 1000000000
def rmCode (f x : Int) : Int := if okM f x then 0 else 4
def rmOut (f x : Int) : ByteArray := if okM f x then rmk f.toNat x else ⟨#[]⟩
theorem rm_cases (f x : Int) : (inR f 0 6 = false ∧ rmCode f x = 4 ∧ rmOut f x = ⟨#[]⟩) ∨ (inR f 0 6 = true ∧ inR x 0 1000000000 = false ∧ rmCode f x = 4 ∧ rmOut f x = ⟨#[]⟩) ∨ (∃ i : Nat, f = i ∧ i < 7 ∧ inR f 0 6 = true ∧ inR x 0 1000000000 = true ∧ rmCode f x = 0 ∧ rmOut f x = rmk i x) := by
  unfold rmCode rmOut okM
  cases h1 : inR f 0 6 with
  | false => exact .inl ⟨rfl, rfl, rfl⟩
  | true =>
    cases h2 : inR x 0 1000000000 with
    | false => exact .inr (.inl ⟨rfl, rfl, rfl, rfl⟩)
    | true =>
      obtain ⟨a, b⟩ := inR_nat h1
      obtain ⟨i, rfl⟩ := Int.eq_ofNat_of_zero_le a
      exact .inr (.inr ⟨i, rfl, by omega, rfl, rfl, rfl, rfl⟩)
set_option maxRecDepth 100000 in
set_option maxHeartbeats 400000 in
theorem implReadingMac_any (f x : Int) (w : World) (hK : KTab w) (hp : 0 < w.heap.size) :
    Calls Tryd.prog 14 #[.int .i64 f, .int .i64 x] w fun e w' => e = .returned (.tuple #[.string (rmOut f x), .int .i64 (rmCode f x)]) ∧ Below w.heap.size w w' := by
  have GK : Hid (KTab w) := hK
  clear hK
  rcases rm_cases f x with ⟨h1, e1, e2⟩ | ⟨h1, h2, e1, e2⟩ | ⟨i, rfl, hi, h1, h2, e1, e2⟩
  · have HE : Hid (rmOut f x = ⟨#[]⟩ ∧ rmCode f x = 4) := ⟨e2, e1⟩
    clear e1 e2
    go_enter Tryd.func14, Tryd.ntmps14
    go_wp2_with (first | (go_at_call 22; refine (nodeOK_any _ _).mono ?_; rintro e w1 ⟨rfl, rfl⟩; rw [h1]) | (go_at_call 35; refine (within_any _ _ _ _).mono ?_; rintro e w1 ⟨rfl, rfl⟩; rw [h2]))
    go_ret2
    exact ⟨ret_sc ⟨HE.out.1.symm, HE.out.2.symm⟩, Below.refl _ _⟩
  · have HE : Hid (rmOut f x = ⟨#[]⟩ ∧ rmCode f x = 4) := ⟨e2, e1⟩
    clear e1 e2
    go_enter Tryd.func14, Tryd.ntmps14
    go_wp2_with (first | (go_at_call 22; refine (nodeOK_any _ _).mono ?_; rintro e w1 ⟨rfl, rfl⟩; rw [h1]) | (go_at_call 35; refine (within_any _ _ _ _).mono ?_; rintro e w1 ⟨rfl, rfl⟩; rw [h2]))
    go_ret2
    exact ⟨ret_sc ⟨HE.out.1.symm, HE.out.2.symm⟩, Below.refl _ _⟩
  · have HE : Hid (rmOut i x = rmk i x ∧ rmCode i x = 0) := ⟨e2, e1⟩
    clear e1 e2
    go_enter Tryd.func14, Tryd.ntmps14
    go_wp2_with (first | (go_at_call 22; refine (nodeOK_any _ _).mono ?_; rintro e w1 ⟨rfl, rfl⟩; rw [h1]) | (go_at_call 35; refine (within_any _ _ _ _).mono ?_; rintro e w1 ⟨rfl, rfl⟩; rw [h2]) | fail)
    refine (readingMark_any i x w (by omega) GK.out hp).mono ?_
    rintro e w2 ⟨rfl, b2⟩
    go_wp2_with fail
    go_ret2
    exact ⟨ret_sc ⟨HE.out.1.symm, HE.out.2.symm⟩, b2⟩
set_option maxRecDepth 100000 in
set_option maxHeartbeats 400000 in
theorem specReadingMac_any (f x : Int) (w : World) :
    Calls Tryd.prog 15 #[.int .i64 f, .int .i64 x] w fun e w' => e = .returned (.tuple #[.string (rmOut f x), .int .i64 (rmCode f x)]) ∧ Below w.heap.size w w' := by
  rcases rm_cases f x with ⟨h1, e1, e2⟩ | ⟨h1, h2, e1, e2⟩ | ⟨i, rfl, hi, h1, h2, e1, e2⟩
  · have HE : Hid (rmOut f x = ⟨#[]⟩ ∧ rmCode f x = 4) := ⟨e2, e1⟩
    clear e1 e2
    go_enter Tryd.func15, Tryd.ntmps15
    go_wp2_with (go_at_call 25; refine (l01In_any _ _ _ _).mono ?_; rintro e w1 ⟨rfl, rfl⟩; first | rw [h1] | rw [h2])
    go_ret2
    exact ⟨ret_sc ⟨HE.out.1.symm, HE.out.2.symm⟩, Below.refl _ _⟩
  · have HE : Hid (rmOut f x = ⟨#[]⟩ ∧ rmCode f x = 4) := ⟨e2, e1⟩
    clear e1 e2
    go_enter Tryd.func15, Tryd.ntmps15
    go_wp2_with (go_at_call 25; refine (l01In_any _ _ _ _).mono ?_; rintro e w1 ⟨rfl, rfl⟩; first | rw [h1] | rw [h2])
    go_ret2
    exact ⟨ret_sc ⟨HE.out.1.symm, HE.out.2.symm⟩, Below.refl _ _⟩
  · have HE : Hid (rmOut i x = rmk i x ∧ rmCode i x = 0) := ⟨e2, e1⟩
    clear e1 e2
    go_enter Tryd.func15, Tryd.ntmps15
    go_wp2_with (first | (go_at_call 25; refine (l01In_any _ _ _ _).mono ?_; rintro e w1 ⟨rfl, rfl⟩; first | rw [h1] | rw [h2]) | fail)
    refine (l04Reading_any i x w (by omega)).mono ?_
    rintro e w2 ⟨rfl, b2⟩
    go_wp2_with fail
    go_ret2
    exact ⟨ret_sc ⟨HE.out.1.symm, HE.out.2.symm⟩, b2⟩
end Go.Proofs.YtdeologdmdimoaaDoor.Rm
