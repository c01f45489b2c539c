/- Readings in a slice: read, measured, copied, compared. -/
import Derived.Test.YtkmnjnblacmjlaaRg
namespace Go.Proofs.Ytkmnjnblacmjlaa.Gr
open Go.RowKit Go.Proofs.Ytkmnjnblacmjlaa.Sl Go.Proofs.Ytkmnjnblacmjlaa.Ap Go.Proofs.Ytkmnjnblacmjlaa.Rg

structure Rd where
  f : Int
  x : Int
  m : ByteArray
instance : Inhabited Rd := ⟨⟨0, 0, ⟨#[]⟩⟩⟩
def E1 (w : World) (b o : Nat) (x : Rd) : Prop := w.cell? ⟨b, o, none⟩ = some (.int .i64 x.f) ∧ w.cell? ⟨b, o + 1, none⟩ = some (.int .i64 x.x) ∧ w.cell? ⟨b, o + 2, none⟩ = some (.string x.m)
/-- The slice v holds the things xs. -/
def Row (w : World) (v : Value) (xs : List Rd) : Prop := RowG 3 E1 w v xs
def oneV (x : Rd) : Value := .agg #[.int .i64 x.f, .int .i64 x.x, .string x.m]
theorem stays1 : Stays E1 := fun _ _ b _ _ hb hlt ⟨h0, h1, h2⟩ => ⟨(hb.cell (p := ⟨b, _, none⟩) hlt).trans h0, (hb.cell (p := ⟨b, _, none⟩) hlt).trans h1, (hb.cell (p := ⟨b, _, none⟩) hlt).trans h2⟩
theorem Row.below {w w' : World} {v : Value} {xs : List Rd} (h : Row w v xs) (hb : Below w.heap.size w w') : Row w' v xs := RowG.below stays1 h hb
/-- Its texts are no longer than n. -/
def Tz (n : Nat) (x : Rd) : Prop := x.m.size ≤ n
end Go.Proofs.Ytkmnjnblacmjlaa.Gr
namespace Go.Proofs.Ytkmnjnblacmjlaa.Op
open Go.ChangeShapes Go.WideShapes Go.ChangeAt Go.RowKit Go.Deep Go.Proofs.Ytkmnjnblacmjlaa.Rg Go.Proofs.Ytkmnjnblacmjlaa.Gr
end Go.Proofs.Ytkmnjnblacmjlaa.Op
