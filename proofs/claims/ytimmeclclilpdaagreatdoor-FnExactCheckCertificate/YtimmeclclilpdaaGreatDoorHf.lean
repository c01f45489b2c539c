/- impl.hashFault and keyFault, and what stands in a range. -/
import Derived.Test.YtimmeclclilpdaaGreatDoorRows
import Derived.WalkKit
import Derived.ProofKit
import Derived.WalkSpells
import Derived.Laws.NewBlocks
namespace Go.Proofs.YtimmeclclilpdaaGreatDoor.Hf
open Go.RowKit

/-- What hashFault answers. -/
def hf (s : ByteArray) : Int := if 65536 < s.size then 2 else if s.size = 32 then 0 else 1
theorem hf_ok {s : ByteArray} (h : s.size = 32) : hf s = 0 := by unfold hf; rw [if_neg (by omega), if_pos h]
theorem hf_long {s : ByteArray} (h : 65536 < s.size) : hf s = 2 := if_pos h
theorem hf_bad {s : ByteArray} (h : ¬ 65536 < s.size) (h2 : s.size ≠ 32) : hf s = 1 := by unfold hf; rw [if_neg h, if_neg h2]
theorem ret_int {a b : Int} (h : a = b) : Ending.returned (.int .i64 a) = .returned (.int .i64 b) := by rw [h]
theorem hashFault_any (s : ByteArray) (w : World) : Calls Tryz.prog 71 #[.string s] w fun e w' => e = .returned (.int .i64 (hf s)) ∧ w = w' := by
  by_cases h1 : 65536 < s.size
  · have HE : Hid (hf s = 2) := hf_long h1
    have h1' : (65536 : Int) < (s.size : Int) := by omega
    go_enter Tryz.func71, Tryz.ntmps71
    go_wp2
    go_ret
    exact ⟨ret_int HE.out.symm, rfl⟩
  · have h1' : (s.size : Int) ≤ 65536 := by omega
    by_cases h2 : s.size = 32
    · have HE : Hid (hf s = 0) := hf_ok h2
      have h2' : ((s.size : Int) != 32) = false := by simp; omega
      clear h2
      go_enter Tryz.func71, Tryz.ntmps71
      go_wp2
      go_ret
      exact ⟨ret_int HE.out.symm, rfl⟩
    · have HE : Hid (hf s = 1) := hf_bad h1 h2
      have h2' : ((s.size : Int) != 32) = true := by simp; omega
      clear h2
      go_enter Tryz.func71, Tryz.ntmps71
      go_wp2
      go_ret
      exact ⟨ret_int HE.out.symm, rfl⟩
theorem hashFault_ok (s : ByteArray) (w : World) (h : s.size = 32) : Calls Tryz.prog 71 #[.string s] w fun e w' => e = .returned (.int .i64 0) ∧ w = w' := by
  rw [← hf_ok h]; exact hashFault_any s w
/-- What keyFault answers. -/
def inR (n a b : Int) : Bool := decide (a ≤ n) && decide (n ≤ b)
def kf (s : ByteArray) (i : Int) : Int := if hf s = 0 then (if inR i 0 7 then 0 else 4) else hf s
theorem ret_bool {a b : Bool} (h : a = b) : Ending.returned (.bool a) = .returned (.bool b) := by rw [h]
theorem within_any (n a b : Int) (w : World) : Calls Tryz.prog 68 #[.int .i64 n, .int .i64 a, .int .i64 b] w fun e w' => e = .returned (.bool (inR n a b)) ∧ w = w' := by
  by_cases h1 : a ≤ n
  · by_cases h2 : n ≤ b
    · have HE : Hid (inR n a b = true) := by show _ = _; unfold inR; rw [decide_eq_true h1, decide_eq_true h2]; rfl
      go_enter Tryz.func68, Tryz.ntmps68
      go_wp2
      go_ret
      exact ⟨ret_bool HE.out.symm, rfl⟩
    · have HE : Hid (inR n a b = false) := by show _ = _; unfold inR; rw [decide_eq_false h2, Bool.and_false]
      go_enter Tryz.func68, Tryz.ntmps68
      go_wp2
      go_ret
      exact ⟨ret_bool HE.out.symm, rfl⟩
  · have HE : Hid (inR n a b = false) := by show _ = _; unfold inR; rw [decide_eq_false h1, Bool.false_and]
    go_enter Tryz.func68, Tryz.ntmps68
    go_wp2
    go_ret
    exact ⟨ret_bool HE.out.symm, rfl⟩
theorem l01In_any (n a b : Int) (w : World) : Calls Tryz.prog 47 #[.int .i64 n, .int .i64 a, .int .i64 b] w fun e w' => e = .returned (.bool (inR n a b)) ∧ w = w' := by
  by_cases h1 : a ≤ n
  · by_cases h2 : n ≤ b
    · have HE : Hid (inR n a b = true) := by show _ = _; unfold inR; rw [decide_eq_true h1, decide_eq_true h2]; rfl
      go_enter Tryz.func47, Tryz.ntmps47
      go_wp2
      go_ret
      exact ⟨ret_bool HE.out.symm, rfl⟩
    · have HE : Hid (inR n a b = false) := by show _ = _; unfold inR; rw [decide_eq_false h2, Bool.and_false]
      go_enter Tryz.func47, Tryz.ntmps47
      go_wp2
      go_ret
      exact ⟨ret_bool HE.out.symm, rfl⟩
  · have HE : Hid (inR n a b = false) := by show _ = _; unfold inR; rw [decide_eq_false h1, Bool.false_and]
    go_enter Tryz.func47, Tryz.ntmps47
    go_wp2
    go_ret
    exact ⟨ret_bool HE.out.symm, rfl⟩
theorem keyIndexOK_any (i : Int) (w : World) : Calls Tryz.prog 60 #[.int .i64 i] w fun e w' => e = .returned (.bool (inR i 0 7)) ∧ w = w' := by
  go_enter Tryz.func60, Tryz.ntmps60
  go_wp2_with fail
  refine (within_any i 0 7 w).mono ?_
  rintro e w1 ⟨rfl, rfl⟩
  go_wp2_with fail
  go_ret
  exact ⟨rfl, rfl⟩
theorem keyFault_any (s : ByteArray) (i : Int) (w : World) : Calls Tryz.prog 66 #[.string s, .int .i64 i] w fun e w' => e = .returned (.int .i64 (kf s i)) ∧ w = w' := by
  by_cases h : hf s = 0
  · cases hb : inR i 0 7 with
    | true =>
      have HE : Hid (kf s i = 0) := by show _ = _; unfold kf; rw [if_pos h, hb]; rfl
      go_enter Tryz.func66, Tryz.ntmps66
      go_wp2_with fail
      refine (hashFault_any s w).mono ?_
      rintro e w1 ⟨rfl, rfl⟩
      rw [h]
      go_wp2_with fail
      refine (keyIndexOK_any i w).mono ?_
      rintro e w1 ⟨rfl, rfl⟩
      rw [hb]
      go_wp2_with fail
      go_ret
      exact ⟨ret_int HE.out.symm, rfl⟩
    | false =>
      have HE : Hid (kf s i = 4) := by show _ = _; unfold kf; rw [if_pos h, hb]; rfl
      go_enter Tryz.func66, Tryz.ntmps66
      go_wp2_with fail
      refine (hashFault_any s w).mono ?_
      rintro e w1 ⟨rfl, rfl⟩
      rw [h]
      go_wp2_with fail
      refine (keyIndexOK_any i w).mono ?_
      rintro e w1 ⟨rfl, rfl⟩
      rw [hb]
      go_wp2_with fail
      go_ret
      exact ⟨ret_int HE.out.symm, rfl⟩
  · have HE : Hid (kf s i = hf s) := if_neg h
    have h' : (hf s != 0) = true := by simpa using h
    go_enter Tryz.func66, Tryz.ntmps66
    go_wp2_with fail
    refine (hashFault_any s w).mono ?_
    rintro e w1 ⟨rfl, rfl⟩
    clear h
    generalize hf s = c at HE h'
    go_wp2_with fail
    go_ret
    exact ⟨ret_int HE.out.symm, rfl⟩
end Go.Proofs.YtimmeclclilpdaaGreatDoor.Hf
