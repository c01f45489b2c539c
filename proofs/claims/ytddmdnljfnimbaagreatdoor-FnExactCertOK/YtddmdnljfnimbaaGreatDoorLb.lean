/- A list's bytes: both ListBytes functions. -/
import Derived.Test.YtddmdnljfnimbaaGreatDoorTxs
import Derived.Test.YtddmdnljfnimbaaGreatDoorPut
import Derived.Test.YtddmdnljfnimbaaGreatDoorReqPut
import Derived.Deep.RegionLaw
import Derived.Deep.CutRange
import Derived.Deep.DeepCutAuto
namespace Go.Proofs.YtddmdnljfnimbaaGreatDoor.Lb
open Go.RowKit Go.Proofs.YtddmdnljfnimbaaGreatDoor.Sl Go.Proofs.YtddmdnljfnimbaaGreatDoor.By Go.Proofs.YtddmdnljfnimbaaGreatDoor.Rq Go.Proofs.YtddmdnljfnimbaaGreatDoor.Ap Go.Proofs.YtddmdnljfnimbaaGreatDoor.Pu Go.Proofs.YtddmdnljfnimbaaGreatDoor.Ty Go.Proofs.YtddmdnljfnimbaaGreatDoor.Rp Go.Proofs.YtddmdnljfnimbaaGreatDoor.Rr

/-- The bytes of the first k texts, how many there are ahead. -/
def listTo (ts : List ByteArray) : Nat → List Int
  | 0 => nums (ts.length : Int) 1 1
  | k + 1 => listTo ts k ++ (nums ((tnth ts k).size : Int) 2 2 ++ bys (tnth ts k))
def lenTo (ts : List ByteArray) : Nat → Nat
  | 0 => 1
  | k + 1 => lenTo ts k + (2 + (tnth ts k).size)
theorem listTo_length (ts : List ByteArray) : ∀ k, (listTo ts k).length = lenTo ts k
  | 0 => by unfold listTo lenTo; rw [nums_length]
  | k + 1 => by unfold listTo lenTo; rw [List.length_append, List.length_append, listTo_length ts k, nums_length, bys_length]
theorem listTo_range (ts : List ByteArray) : ∀ k, ∀ z ∈ listTo ts k, 0 ≤ z ∧ z ≤ 255
  | 0 => nums_range _ _ _
  | k + 1 => by
    intro z hz
    unfold listTo at hz
    rw [List.mem_append, List.mem_append] at hz
    rcases hz with h | h | h
    · exact listTo_range ts k z h
    · exact nums_range _ _ _ z h
    · exact bys_range _ z h
def bad (ts : List ByteArray) (k : Nat) : Bool := decide (20000 < (tnth ts k).size) || decide (65536 < lenTo ts (k + 1))
def cd (ts : List ByteArray) (k : Nat) : Int := if 20000 < (tnth ts k).size then 1 else 7
/-- What ListBytes answers. -/
def lbCode (ts : List ByteArray) : Int := if 4096 < ts.length then 2 else if 100 < ts.length then 1 else match (List.range ts.length).find? (bad ts) with
  | none => 0
  | some k => cd ts k
def lbOut (ts : List ByteArray) : List Int := if lbCode ts = 0 then listTo ts ts.length else []
theorem find_first (p : Nat → Bool) (n k : Nat) (hk : k < n) (h : ∀ j, j < k → p j = false) (hp : p k = true) : (List.range n).find? p = some k := by
  rw [List.find?_range_eq_some]
  exact ⟨hp, by simpa using hk, fun j hj => by simp [h j hj]⟩
theorem find_none (p : Nat → Bool) (n : Nat) (h : ∀ j, j < n → p j = false) : (List.range n).find? p = none := by
  rw [List.find?_eq_none]
  intro x hx
  simp [h x (by simpa using hx)]
theorem cd_pos (ts : List ByteArray) (k : Nat) : cd ts k ≠ 0 := by unfold cd; split <;> decide
theorem lb_bad (ts : List ByteArray) (k : Nat) (hl : ts.length ≤ 100) (hk : k < ts.length) (h : ∀ j, j < k → bad ts j = false) (hp : bad ts k = true) : lbCode ts = cd ts k ∧ lbOut ts = [] := by
  have e : lbCode ts = cd ts k := by unfold lbCode; rw [if_neg (by omega), if_neg (by omega), find_first _ _ k hk h hp]
  exact ⟨e, by unfold lbOut; rw [if_neg (by rw [e]; exact cd_pos ts k)]⟩
theorem lb_good (ts : List ByteArray) (hl : ts.length ≤ 100) (h : ∀ j, j < ts.length → bad ts j = false) : lbCode ts = 0 ∧ lbOut ts = listTo ts ts.length := by
  have e : lbCode ts = 0 := by unfold lbCode; rw [if_neg (by omega), if_neg (by omega), find_none _ _ h]
  exact ⟨e, by unfold lbOut; rw [if_pos e]⟩

end Go.Proofs.YtddmdnljfnimbaaGreatDoor.Lb
