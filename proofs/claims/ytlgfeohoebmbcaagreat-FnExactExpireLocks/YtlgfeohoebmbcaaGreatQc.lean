/- A region that draws its order, only reads, and calls functions that add to memory alone: one walk in the order of the text. -/
import Derived.Test.YtlgfeohoebmbcaaGreatProg
import Derived.RowKit
import Derived.Below
import Derived.BigQuiet
namespace Go.Proofs.YtlgfeohoebmbcaaGreat.Qc
open Go.RowKit

theorem region_class {P : Program} {id : Nat} {Q : Exit → Act → World → Prop} {a : Act} {w : World} {l : List Oper} {X : Type} {W : X → World} (hm : P.follows .mixedOrders = true) (hB : Region.lexB .any l.toArray = true) (hC : ∃ x, w.drew = W x)
    (h : wpQuiet P l.toArray (fun w' => ∃ x, w' = W x) (fun a' => ∀ w', (∃ x, w' = W x) → Q .normal a' w') l a) : (Code.region id l.toArray true).wp P Q a w :=
  wp_region_quiet (C := fun w' => ∃ x, w' = W x) hm hB hC (by simpa using h)
/-- The worlds that hold all that w holds, as the values of one function. -/
theorem klass (w : World) : ∃ (X : Type) (_ : Nonempty X) (W : X → World), (∀ w', Below w.heap.size w w' → ∃ x, w' = W x) ∧ ∀ x, Below w.heap.size w (W x) :=
  ⟨{w' : World // Below w.heap.size w w'}, ⟨⟨w, Below.refl _ _⟩⟩, fun x => x.1, fun w' h => ⟨⟨w', h⟩, rfl⟩, fun x => x.2⟩
theorem from_drew {w : World} : Below w.heap.size w w.drew := (Below.refl _ _).drew
/-- A call from a world of the class that adds to memory alone ends in one of the class. -/
theorem back {w : World} {X : Type} {W : X → World} {x : X} {w' : World} (HI : ∀ w', Below w.heap.size w w' → ∃ x, w' = W x) (HO : ∀ x, Below w.heap.size w (W x)) (h : Below (W x).heap.size (W x) w') : ∃ m, w' = W m :=
  HI _ ((HO x).trans (h.mono (HO x).size))
theorem cell_in {w : World} {X : Type} {W : X → World} (HO : ∀ x, Below w.heap.size w (W x)) {p : Addr} {v : Value} (hp : p.block < w.heap.size) (h : w.cell? p = some v) : ∀ x, (W x).cell? p = some v := fun x => ((HO x).cell hp).trans h
theorem lt_of_cell {w : World} {p : Addr} {v : Value} (h : w.cell? p = some v) : p.block < w.heap.size := World.block_lt_of_cell? w p h
theorem cell_all {w : World} {X : Type} {W : X → World} (HO : ∀ x, Below w.heap.size w (W x)) {p : Addr} {v : Value} (h : w.cell? p = some v) : ∀ x, (W x).cell? p = some v := cell_in HO (lt_of_cell h) h
end Go.Proofs.YtlgfeohoebmbcaaGreat.Qc
