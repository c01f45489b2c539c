/- A block of cells that the call made, known whole: what stores, draws and new blocks leave of it. Of no program. -/
import Derived.WalkKit
import Derived.ProofKit
import Derived.Laws.NewBlocks
import Derived.Deep.Draws
import Derived.Laws.Tables
namespace Go.Proofs.YtiflfcpoajijaaaDoor.Me
open Go.RowKit

/-- Block g holds the cells A (type T), none of them frozen. -/
def ArrAt (w : World) (g : Nat) (T : TypeId) (A : Array Value) : Prop := w.heap[g]? = some (.cells A T (0, 0))
theorem ArrAt.lt {w : World} {g : Nat} {T : TypeId} {A : Array Value} (h : ArrAt w g T A) : g < w.heap.size := (Array.getElem?_eq_some_iff.1 h).1
theorem ArrAt.cell {w : World} {g : Nat} {T : TypeId} {A : Array Value} (h : ArrAt w g T A) (j : Nat) : w.cell? ⟨g, j, none⟩ = A[j]? := by
  unfold ArrAt at h; simp [World.cell?, h]
theorem ArrAt.frozen {w : World} {g : Nat} {T : TypeId} {A : Array Value} (h : ArrAt w g T A) (j : Nat) : w.frozen? ⟨g, j, none⟩ = false := by
  unfold ArrAt at h; simp [World.frozen?, h]
theorem ArrAt.drew {w : World} {g : Nat} {T : TypeId} {A : Array Value} (h : ArrAt w g T A) : ArrAt w.drew g T A := h
theorem ArrAt.drewN {w : World} {g : Nat} {T : TypeId} {A : Array Value} (h : ArrAt w g T A) (n : Nat) : ArrAt (w.drewN n) g T A := h
theorem ArrAt.alloc {w : World} {g : Nat} {T : TypeId} {A : Array Value} (h : ArrAt w g T A) (o : Obj) : ArrAt (w.alloc o) g T A := by
  unfold ArrAt at h ⊢; exact (heap_alloc_old w o (ArrAt.lt h)).trans h
theorem arrAt_new (w : World) (T : TypeId) (A : Array Value) : ArrAt (w.alloc (.cells A T)) w.heap.size T A := heap_alloc_new w _
theorem ArrAt.below {w w' : World} {B g : Nat} {T : TypeId} {A : Array Value} (h : ArrAt w g T A) (hb : Below B w w') (hg : g < B) : ArrAt w' g T A := (hb.block g hg).trans h
theorem ArrAt.setCell_other {w : World} {g : Nat} {T : TypeId} {A : Array Value} (h : ArrAt w g T A) {a : Addr} (hne : g ≠ a.block) (v : Value) : ArrAt (w.setCell a v) g T A := (Below.heap_setCell w a v g hne).trans h
theorem ArrAt.setCell_same {w : World} {g : Nat} {T : TypeId} {A : Array Value} (h : ArrAt w g T A) (j : Nat) (v : Value) : ArrAt (w.setCell ⟨g, j, none⟩ v) g T (A.setIfInBounds j v) := by
  have hl := ArrAt.lt h
  unfold ArrAt at h ⊢
  have h' : w.heap[g] = .cells A T (0, 0) := (Array.getElem?_eq_some_iff.1 h).2
  simp [World.setCell, hl, Array.getElem_modify, h']
theorem ArrAt.setRow_same {w : World} {g : Nat} {T : TypeId} {A : Array Value} (h : ArrAt w g T A) (C : Array Value) : ArrAt (w.setRow g C) g T C := setRow_heap w g A C T (0, 0) h
theorem ArrAt.setRow_other {w : World} {g g' : Nat} {T : TypeId} {A : Array Value} (h : ArrAt w g T A) (hne : g ≠ g') (C : Array Value) : ArrAt (w.setRow g' C) g T A := (Go.setRow_other w g' g C hne).trans h
theorem below_setRow {w w' : World} {B g : Nat} (hb : Below B w w') (hg : B ≤ g) (C : Array Value) : Below B w (w'.setRow g C) :=
  hb.trans ⟨rfl, rfl, rfl, by simp, fun k hk => Go.setRow_other w' g k C (by omega)⟩
theorem below_drewN {w w' : World} {B : Nat} (hb : Below B w w') (n : Nat) : Below B w (w'.drewN n) := hb.trans ⟨rfl, rfl, rfl, Nat.le_refl _, fun _ _ => rfl⟩
end Go.Proofs.YtiflfcpoajijaaaDoor.Me
