/- Requests' bytes: both RequestBytes functions. -/
import Derived.Test.YtddmdnljfnimbaaGreatDoorPut
import Derived.Test.YtddmdnljfnimbaaGreatDoorReqLaw
import Derived.Deep.RegionLaw
import Derived.Deep.CutRange
import Derived.Deep.DeepCutAuto
import Derived.BigRegion
namespace Go.Proofs.YtddmdnljfnimbaaGreatDoor.Rp
open Go.RowKit Go.Proofs.YtddmdnljfnimbaaGreatDoor.Sl Go.Proofs.YtddmdnljfnimbaaGreatDoor.By Go.Proofs.YtddmdnljfnimbaaGreatDoor.Rq Go.Proofs.YtddmdnljfnimbaaGreatDoor.Ap Go.Proofs.YtddmdnljfnimbaaGreatDoor.Pu

/-- A request's bytes. -/
def reqBs (c st k l : Int) (n : ByteArray) : List Int := nums c 1 1 ++ (nums st 2 2 ++ (nums k 1 1 ++ (nums l 2 2 ++ (nums (n.size : Int) 1 1 ++ bys n))))
theorem reqBs_length (c st k l : Int) (n : ByteArray) : (reqBs c st k l n).length = 7 + n.size := by unfold reqBs; simp only [List.length_append, nums_length, bys_length]; omega
theorem reqBs_range (c st k l : Int) (n : ByteArray) : ∀ z ∈ reqBs c st k l n, 0 ≤ z ∧ z ≤ 255 := by
  intro z hz
  unfold reqBs at hz
  simp only [List.mem_append] at hz
  rcases hz with h | h | h | h | h | h
  all_goals first | exact nums_range _ _ _ z h | exact bys_range _ z h

theorem kept_cell {w w1 : World} {v v1 : Value} (h : Kp w w1 v v1) {b : Nat} (hb : b < w.heap.size) (hn : some b ≠ v.ownBlock) (i : Nat) : w1.cell? ⟨b, i, none⟩ = w.cell? ⟨b, i, none⟩ := World.cell?_of_block (h.block b hb hn)
theorem req_kept {w w1 : World} {v v1 : Value} {c st k l : Int} {n : ByteArray} {t : TypeId} (h : Kp (w.alloc (.cells #[.int .i64 c, .int .i64 st, .int .i64 k, .int .i64 l, .string n] t)) w1 v v1) (hn : some w.heap.size ≠ v.ownBlock) :
    w1.cell? ⟨w.heap.size, 0, none⟩ = some (.int .i64 c) ∧ w1.cell? ⟨w.heap.size, 1, none⟩ = some (.int .i64 st) ∧ w1.cell? ⟨w.heap.size, 2, none⟩ = some (.int .i64 k) ∧ w1.cell? ⟨w.heap.size, 3, none⟩ = some (.int .i64 l) ∧ w1.cell? ⟨w.heap.size, 4, none⟩ = some (.string n) := by
  have hs : w.heap.size < (w.alloc (.cells #[.int .i64 c, .int .i64 st, .int .i64 k, .int .i64 l, .string n] t)).heap.size := by simp
  have h' := fun i => (kept_cell h hs hn i).trans (World.cell?_alloc_at _ _ _ _ rfl)
  exact ⟨h' 0, h' 1, h' 2, h' 3, h' 4⟩
theorem own_away {e : TypeId} {w : World} {B : Nat} {v : Value} {zs : List Int} (h : OwnB e w B v zs) : some w.heap.size ≠ v.ownBlock := by
  intro hn
  unfold OwnB at h
  have := (h.lt _ hn.symm).2
  omega

theorem ret_tup {v : Value} {a b : Int} (h : a = b) : Ending.returned (.tuple #[v, .int .i64 a]) = .returned (.tuple #[v, .int .i64 b]) := by rw [h]
/-- What RequestBytes answers: the bytes, or none. -/
def reqOut (c st k l : Int) (n : ByteArray) : List Int := if reqB c st k l n then reqBs c st k l n else []
def reqCode (c st k l : Int) (n : ByteArray) : Int := if reqB c st k l n then 0 else 1
theorem req_small {c st k l : Int} {n : ByteArray} (h : reqB c st k l n = true) : n.size ≤ 12 := by
  unfold reqB opB at h
  simp at h
  exact h.2.2.2.1

end Go.Proofs.YtddmdnljfnimbaaGreatDoor.Rp
