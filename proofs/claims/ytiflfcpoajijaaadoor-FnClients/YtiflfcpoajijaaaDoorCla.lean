/- Answers in a slice: read, measured, copied, compared, marked. -/
import Derived.Test.YtiflfcpoajijaaaDoorRg
import Derived.Test.YtiflfcpoajijaaaDoorRyp
namespace Go.Proofs.YtiflfcpoajijaaaDoor.Ga
open Go.RowKit Go.Proofs.YtiflfcpoajijaaaDoor.Sl Go.Proofs.YtiflfcpoajijaaaDoor.Ap Go.Proofs.YtiflfcpoajijaaaDoor.Rg

open Go.Proofs.YtiflfcpoajijaaaDoor.Rk (An)
def E1 (w : World) (b o : Nat) (x : An) : Prop := w.cell? ⟨b, o, none⟩ = some (.int .i64 x.1) ∧ w.cell? ⟨b, o + 1, none⟩ = some (.int .i64 x.2.1) ∧ w.cell? ⟨b, o + 2, none⟩ = some (.int .i64 x.2.2.1) ∧ w.cell? ⟨b, o + 3, none⟩ = some (.int .i64 x.2.2.2)
/-- The slice v holds the things xs. -/
def Row (w : World) (v : Value) (xs : List An) : Prop := RowG 4 E1 w v xs
def oneV (x : An) : Value := .agg #[.int .i64 x.1, .int .i64 x.2.1, .int .i64 x.2.2.1, .int .i64 x.2.2.2]
theorem stays1 : Stays E1 := fun _ _ b _ _ hb hlt ⟨h0, h1, h2, h3⟩ => ⟨(hb.cell (p := ⟨b, _, none⟩) hlt).trans h0, (hb.cell (p := ⟨b, _, none⟩) hlt).trans h1, (hb.cell (p := ⟨b, _, none⟩) hlt).trans h2, (hb.cell (p := ⟨b, _, none⟩) hlt).trans h3⟩
theorem Row.below {w w' : World} {v : Value} {xs : List An} (h : Row w v xs) (hb : Below w.heap.size w w') : Row w' v xs := RowG.below stays1 h hb
end Go.Proofs.YtiflfcpoajijaaaDoor.Ga
namespace Go.Proofs.YtiflfcpoajijaaaDoor.Op
open Go.ChangeShapes Go.WideShapes Go.ChangeAt Go.RowKit Go.Deep Go.Proofs.YtiflfcpoajijaaaDoor.Rg Go.Proofs.YtiflfcpoajijaaaDoor.Ga
open Go.Proofs.YtiflfcpoajijaaaDoor.Rk (An)
end Go.Proofs.YtiflfcpoajijaaaDoor.Op
