/- SecretAt, of the program and of the specification. -/
import Derived.Test.YtimmeclclilpdaaGreatDoorSx
import Derived.Test.YtimmeclclilpdaaGreatDoorHf
namespace Go.Proofs.YtimmeclclilpdaaGreatDoor.Sa
open Go.RowKit Go.Proofs.YtimmeclclilpdaaGreatDoor.Sl Go.Proofs.YtimmeclclilpdaaGreatDoor.By Go.Proofs.YtimmeclclilpdaaGreatDoor.Ap Go.Proofs.YtimmeclclilpdaaGreatDoor.Tx Go.Proofs.YtimmeclclilpdaaGreatDoor.Sh Go.Proofs.YtimmeclclilpdaaGreatDoor.Ho Go.Proofs.YtimmeclclilpdaaGreatDoor.Se Go.Proofs.YtimmeclclilpdaaGreatDoor.Ka Go.Proofs.YtimmeclclilpdaaGreatDoor.Sx Go.Proofs.YtimmeclclilpdaaGreatDoor.Hf

theorem ret_sc {s t : ByteArray} {a b : Int} (h : s = t ∧ a = b) : Ending.returned (.tuple #[.string s, .int .i64 a]) = .returned (.tuple #[.string t, .int .i64 b]) := by rw [h.1, h.2]
theorem inR_nat {n a b : Int} (h : inR n a b = true) : a ≤ n ∧ n ≤ b := by unfold inR at h; simpa using h
/-- What SecretAt answers. -/
def sCode (s : ByteArray) (i b v : Int) : Int := if kf s i = 0 then (if inR b 0 31 && inR v 0 1 then 0 else 4) else kf s i
def sOut (s : ByteArray) (i b v : Int) : ByteArray := if sCode s i b v = 0 then sec s i.toNat b.toNat v.toNat else ⟨#[]⟩
theorem kf_cases (s : ByteArray) (i : Int) : (65536 < s.size ∧ kf s i = 2) ∨ (¬ 65536 < s.size ∧ s.size ≠ 32 ∧ kf s i = 1) ∨ (s.size = 32 ∧ inR i 0 7 = false ∧ kf s i = 4) ∨ (s.size = 32 ∧ inR i 0 7 = true ∧ kf s i = 0) := by
  unfold kf
  by_cases h1 : 65536 < s.size
  · rw [hf_long h1]; exact .inl ⟨h1, rfl⟩
  · by_cases h2 : s.size = 32
    · rw [hf_ok h2]
      cases inR i 0 7 with
      | true => exact .inr (.inr (.inr ⟨h2, rfl, rfl⟩))
      | false => exact .inr (.inr (.inl ⟨h2, rfl, rfl⟩))
    · rw [hf_bad h1 h2]; exact .inr (.inl ⟨h1, h2, rfl⟩)
theorem kf_good {s : ByteArray} {i : Int} (h : kf s i = 0) : s.size = 32 ∧ inR i 0 7 = true := by
  rcases kf_cases s i with ⟨_, hk⟩ | ⟨_, _, hk⟩ | ⟨_, _, hk⟩ | ⟨h2, h3, _⟩
  · omega
  · omega
  · omega
  · exact ⟨h2, h3⟩

end Go.Proofs.YtimmeclclilpdaaGreatDoor.Sa
