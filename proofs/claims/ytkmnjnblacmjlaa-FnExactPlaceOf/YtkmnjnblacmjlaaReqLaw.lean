/- The laws' own helpers over requests: their size, their copy. -/
import Derived.Test.YtkmnjnblacmjlaaReq
import Derived.Laws.NewBlocks
import Derived.Laws.ResultCell
namespace Go.Proofs.Ytkmnjnblacmjlaa.Rq
open Go.RowKit

theorem andThen {B : Nat} {W w1 w2 : World} (h : Below B W w1) (hB : B ≤ W.heap.size) (h2 : Below w1.heap.size w1 w2) : Below B W w2 := h.trans (h2.mono (Nat.le_trans hB h.size))
theorem size_new (w : World) (o : Obj) : (w.alloc o).heap.size = w.heap.size + 1 := by simp
/-- The block of a boxed value: its cells, in every later world. -/
theorem box_cells {w w1 : World} {cs : Array Value} {t : TypeId} (hb : Below (w.heap.size + 1) (w.alloc (.cells cs t)) w1) (i : Nat) : w1.cell? ⟨w.heap.size, i, none⟩ = cs[i]? := by
  have h := hb.cell (p := ⟨w.heap.size, i, none⟩) (Nat.lt_succ_self _)
  rw [h, World.cell?_alloc_at _ _ _ _ rfl]
theorem req_box {w w1 : World} {c st k l : Int} {n : ByteArray} {t : TypeId} (hb : Below (w.heap.size + 1) (w.alloc (.cells #[.int .i64 c, .int .i64 st, .int .i64 k, .int .i64 l, .string n] t)) w1) :
    w1.cell? ⟨w.heap.size, 0, none⟩ = some (.int .i64 c) ∧ w1.cell? ⟨w.heap.size, 1, none⟩ = some (.int .i64 st) ∧ w1.cell? ⟨w.heap.size, 2, none⟩ = some (.int .i64 k) ∧ w1.cell? ⟨w.heap.size, 3, none⟩ = some (.int .i64 l) ∧ w1.cell? ⟨w.heap.size, 4, none⟩ = some (.string n) :=
  ⟨box_cells hb 0, box_cells hb 1, box_cells hb 2, box_cells hb 3, box_cells hb 4⟩
theorem box_old {w w1 : World} {o : Obj} (hb : Below (w.heap.size + 1) (w.alloc o) w1) : Below w.heap.size w w1 := ((Below.refl _ _).alloc (Nat.le_refl _) o).trans (hb.mono (Nat.le_succ _))
theorem box_first {w w1 : World} {o : Obj} (hb : Below (w.alloc o).heap.size (w.alloc o) w1) : Below (w.heap.size + 1) (w.alloc o) w1 := by rw [size_new] at hb; exact hb
theorem box_next {w w1 w2 : World} {o : Obj} (h : Below (w.heap.size + 1) (w.alloc o) w1) (h2 : Below w1.heap.size w1 w2) : Below (w.heap.size + 1) (w.alloc o) w2 := andThen h (by rw [size_new]; exact Nat.le_refl _) h2
/-- What is left of a budget. -/
def lft (left s : Int) : Int := if left < s then -1 else left - s
theorem lft_no {left s : Int} (h : left < s) : lft left s = -1 := if_pos h
theorem lft_yes {left s : Int} (h : ¬ left < s) : lft left s = left - s := if_neg h
theorem ret_int {a b : Int} (h : a = b) : Ending.returned (.int .i64 a) = .returned (.int .i64 b) := by rw [h]
end Go.Proofs.Ytkmnjnblacmjlaa.Rq
