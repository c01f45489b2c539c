/- impl.hashFault and keyFault, and what stands in a range. -/
import Derived.Test.YtjggfholjdplbabDoorRows
import Derived.WalkKit
import Derived.ProofKit
import Derived.WalkSpells
import Derived.Laws.NewBlocks
namespace Go.Proofs.YtjggfholjdplbabDoor.Hf
open Go.RowKit

/-- What hashFault answers. -/
def hf (s : ByteArray) : Int := if 65536 < s.size then 2 else if s.size = 32 then 0 else 1
theorem hf_ok {s : ByteArray} (h : s.size = 32) : hf s = 0 := by unfold hf; rw [if_neg (by omega), if_pos h]
theorem hf_long {s : ByteArray} (h : 65536 < s.size) : hf s = 2 := if_pos h
theorem hf_bad {s : ByteArray} (h : ¬ 65536 < s.size) (h2 : s.size ≠ 32) : hf s = 1 := by unfold hf; rw [if_neg h, if_neg h2]
theorem ret_int {a b : Int} (h : a = b) : Ending.returned (.int .i64 a) = .returned (.int .i64 b) := by rw [h]
theorem hashFault_any (s : ByteArray) (w : World) : Calls Tryd.prog 15 #[.string s] w fun e w' => e = .returned (.int .i64 (hf s)) ∧ w = w' := by
  by_cases h1 : 65536 < s.size
  · have HE : Hid (hf s = 2) := hf_long h1
    have h1' : (65536 : Int) < (s.size : Int) := by omega
    go_enter Tryd.func15, Tryd.ntmps15
    go_wp2
    go_ret
    exact ⟨ret_int HE.out.symm, rfl⟩
  · have h1' : (s.size : Int) ≤ 65536 := by omega
    by_cases h2 : s.size = 32
    · have HE : Hid (hf s = 0) := hf_ok h2
      have h2' : ((s.size : Int) != 32) = false := by simp; omega
      clear h2
      go_enter Tryd.func15, Tryd.ntmps15
      go_wp2
      go_ret
      exact ⟨ret_int HE.out.symm, rfl⟩
    · have HE : Hid (hf s = 1) := hf_bad h1 h2
      have h2' : ((s.size : Int) != 32) = true := by simp; omega
      clear h2
      go_enter Tryd.func15, Tryd.ntmps15
      go_wp2
      go_ret
      exact ⟨ret_int HE.out.symm, rfl⟩
theorem hashFault_ok (s : ByteArray) (w : World) (h : s.size = 32) : Calls Tryd.prog 15 #[.string s] w fun e w' => e = .returned (.int .i64 0) ∧ w = w' := by
  rw [← hf_ok h]; exact hashFault_any s w
end Go.Proofs.YtjggfholjdplbabDoor.Hf
