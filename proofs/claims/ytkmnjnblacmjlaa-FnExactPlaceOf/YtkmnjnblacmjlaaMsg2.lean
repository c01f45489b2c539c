/- Messages: both MessageOK functions, and the laws' own helpers over messages. -/
import Derived.Test.YtkmnjnblacmjlaaMsg
namespace Go.Proofs.Ytkmnjnblacmjlaa.Ms
open Go.RowKit Go.Proofs.Ytkmnjnblacmjlaa.Rq

theorem msg_eq (kd vw sq fr : Int) (dg bd mc : ByteArray) : msgB kd vw sq fr dg bd mc = (inB vw 0 20 && (inB fr 0 6 && (((mc.size : Int) == 8) && (decide ((bd.size : Int) ≤ 20000) && kindB kd sq dg bd)))) := rfl
theorem al1 (w : World) (o : Obj) : Below w.heap.size w (w.alloc o) := (Below.refl _ _).alloc (Nat.le_refl _) _
theorem msg_split (kd vw sq fr : Int) (dg bd mc : ByteArray) : msgB kd vw sq fr dg bd mc = (inB kd 1 5 && (inB vw 0 20 && (inB fr 0 6 && (((mc.size : Int) == 8) && (decide ((bd.size : Int) ≤ 20000) && kindB kd sq dg bd))))) := by
  cases h : inB kd 1 5
  · have : kindB kd sq dg bd = false := kind_no kd sq dg bd (by unfold inB at h; simp at h; omega)
    unfold msgB
    rw [this]
    simp
  · unfold msgB
    simp

end Go.Proofs.Ytkmnjnblacmjlaa.Ms
