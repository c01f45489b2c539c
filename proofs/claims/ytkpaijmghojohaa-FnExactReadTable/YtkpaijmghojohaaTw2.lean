/- Copies of what was seen, of locks, of tables. -/
import Derived.Test.YtkpaijmghojohaaTw
import Derived.Deep.CutRange
import Derived.Deep.DeepCutAuto
namespace Go.Proofs.Ytkpaijmghojohaa.Tw
open Go.RowKit Go.Proofs.Ytkpaijmghojohaa.Sl Go.Proofs.Ytkpaijmghojohaa.Ap Go.Proofs.Ytkpaijmghojohaa.Tx Go.Proofs.Ytkpaijmghojohaa.Tb

/-- Three new blocks, one behind the other, in every later world. -/
theorem three {w w1 : World} {o0 o1 o2 : Obj} (b : Below (((w.alloc o0).alloc o1).alloc o2).heap.size (((w.alloc o0).alloc o1).alloc o2) w1) :
    w1.heap[w.heap.size]? = some o0 ∧ w1.heap[w.heap.size + 1]? = some o1 ∧ w1.heap[w.heap.size + 1 + 1]? = some o2 ∧ w.heap.size + 1 + 1 + 1 ≤ w1.heap.size ∧ Below w.heap.size w w1 := by
  have e1 : (w.alloc o0).heap.size = w.heap.size + 1 := size_new _ _
  have e2 : ((w.alloc o0).alloc o1).heap.size = w.heap.size + 1 + 1 := by rw [size_new, e1]
  have e3 : (((w.alloc o0).alloc o1).alloc o2).heap.size = w.heap.size + 1 + 1 + 1 := by rw [size_new, e2]
  have b1 : Below w.heap.size w (((w.alloc o0).alloc o1).alloc o2) := (((Below.refl _ _).alloc (Nat.le_refl _) _).alloc (by rw [e1]; omega) _).alloc (by rw [e2]; omega) _
  have s := b.size
  rw [e3] at b s
  refine ⟨?_, ?_, ?_, s, b1.trans (b.mono (by omega))⟩
  · rw [b.block _ (by omega), Below.heap_alloc _ _ _ (by omega), Below.heap_alloc _ _ _ (by omega)]; exact heap_alloc_new w _
  · rw [b.block _ (by omega), Below.heap_alloc _ _ _ (by omega), ← e1]; exact heap_alloc_new _ _
  · rw [b.block _ (by omega), ← e2]; exact heap_alloc_new _ _
theorem info_toWaiterS : (Try.prog.info? 53).map (fun i => (i.zero, i.size, i.bytes)) = some (some (.agg #[.int .i64 0, .int .i64 0]), 2, 16) := by kernel_rfl
/-- The copy: its first k are written. -/
def Cop_toWaiterS (xs : List Wt) (k : Nat) (A : Array Value) : Prop := A.size = xs.length * 2 ∧ ∀ j x, j < k → xs[j]? = some x → A[j * 2]? = some (.int .i64 x.c) ∧ A[j * 2 + 1]? = some (.int .i64 x.l)
theorem cop_toWaiterS {xs : List Wt} {k : Nat} {A : Array Value} {x : Wt} (h : Cop_toWaiterS xs k A) (hx : xs[k]? = some x) :
    Cop_toWaiterS xs (k + 1) (((A).setIfInBounds (k * 2) (.int .i64 x.c)).setIfInBounds (k * 2 + 1) (.int .i64 x.l)) := by
  have hk := lt_at hx
  have hs := h.1
  refine ⟨by simpa using h.1, fun j y hj hy => ?_⟩
  simp only [Array.getElem?_setIfInBounds, Array.size_setIfInBounds]
  by_cases e : j = k
  · subst e
    rw [hx] at hy
    cases hy
    refine ⟨?_, ?_⟩
    all_goals (repeat' (first | rw [if_pos rfl, if_pos (by omega)] | rw [if_neg (by omega)]))
  · obtain ⟨h0, h1⟩ := h.2 j y (by omega) hy
    refine ⟨?_, ?_⟩
    all_goals (repeat' rw [if_neg (by omega)])
    all_goals assumption
theorem info_toSeenS : (Try.prog.info? 57).map (fun i => (i.zero, i.size, i.bytes)) = some (some (.agg #[.int .i64 0, .int .i64 0, .int .i64 0, .int .i64 0, .int .i64 0, .int .i64 0]), 6, 48) := by kernel_rfl
/-- The copy: its first k are written. -/
def Cop_toSeenS (xs : List Sn) (k : Nat) (A : Array Value) : Prop := A.size = xs.length * 6 ∧ ∀ j x, j < k → xs[j]? = some x → A[j * 6]? = some (.int .i64 x.c) ∧ A[j * 6 + 1]? = some (.int .i64 x.s) ∧ A[j * 6 + 2]? = some (.int .i64 x.k) ∧ A[j * 6 + 3]? = some (.int .i64 x.t) ∧ A[j * 6 + 4]? = some (.int .i64 x.h) ∧ A[j * 6 + 5]? = some (.int .i64 x.e)
theorem cop_toSeenS {xs : List Sn} {k : Nat} {A : Array Value} {x : Sn} (h : Cop_toSeenS xs k A) (hx : xs[k]? = some x) :
    Cop_toSeenS xs (k + 1) (((((((A).setIfInBounds (k * 6) (.int .i64 x.c)).setIfInBounds (k * 6 + 1) (.int .i64 x.s)).setIfInBounds (k * 6 + 2) (.int .i64 x.k)).setIfInBounds (k * 6 + 3) (.int .i64 x.t)).setIfInBounds (k * 6 + 4) (.int .i64 x.h)).setIfInBounds (k * 6 + 5) (.int .i64 x.e)) := by
  have hk := lt_at hx
  have hs := h.1
  refine ⟨by simpa using h.1, fun j y hj hy => ?_⟩
  simp only [Array.getElem?_setIfInBounds, Array.size_setIfInBounds]
  by_cases e : j = k
  · subst e
    rw [hx] at hy
    cases hy
    refine ⟨?_, ?_, ?_, ?_, ?_, ?_⟩
    all_goals (repeat' (first | rw [if_pos rfl, if_pos (by omega)] | rw [if_neg (by omega)]))
  · obtain ⟨h0, h1, h2, h3, h4, h5⟩ := h.2 j y (by omega) hy
    refine ⟨?_, ?_, ?_, ?_, ?_, ?_⟩
    all_goals (repeat' rw [if_neg (by omega)])
    all_goals assumption
end Go.Proofs.Ytkpaijmghojohaa.Tw
