/- Replies in a slice: read, measured, copied, compared. -/
import Derived.Test.YtiflfcpoajijaaaDoorRg
namespace Go.Proofs.YtiflfcpoajijaaaDoor.Gy
open Go.RowKit Go.Proofs.YtiflfcpoajijaaaDoor.Sl Go.Proofs.YtiflfcpoajijaaaDoor.Ap Go.Proofs.YtiflfcpoajijaaaDoor.Rg

structure Re where
  nd : Int
  cl : Int
  st : Int
  kd : Int
  tk : Int
  hd : Int
  ex : Int
  mc : ByteArray
instance : Inhabited Re := ⟨⟨0, 0, 0, 0, 0, 0, 0, ⟨#[]⟩⟩⟩
def E1 (w : World) (b o : Nat) (x : Re) : Prop := w.cell? ⟨b, o, none⟩ = some (.int .i64 x.nd) ∧ w.cell? ⟨b, o + 1, none⟩ = some (.int .i64 x.cl) ∧ w.cell? ⟨b, o + 2, none⟩ = some (.int .i64 x.st) ∧ w.cell? ⟨b, o + 3, none⟩ = some (.int .i64 x.kd) ∧ w.cell? ⟨b, o + 4, none⟩ = some (.int .i64 x.tk) ∧ w.cell? ⟨b, o + 5, none⟩ = some (.int .i64 x.hd) ∧ w.cell? ⟨b, o + 6, none⟩ = some (.int .i64 x.ex) ∧ w.cell? ⟨b, o + 7, none⟩ = some (.string x.mc)
/-- The slice v holds the things xs. -/
def Row (w : World) (v : Value) (xs : List Re) : Prop := RowG 8 E1 w v xs
def oneV (x : Re) : Value := .agg #[.int .i64 x.nd, .int .i64 x.cl, .int .i64 x.st, .int .i64 x.kd, .int .i64 x.tk, .int .i64 x.hd, .int .i64 x.ex, .string x.mc]
theorem stays1 : Stays E1 := fun _ _ b _ _ hb hlt ⟨h0, h1, h2, h3, h4, h5, h6, h7⟩ => ⟨(hb.cell (p := ⟨b, _, none⟩) hlt).trans h0, (hb.cell (p := ⟨b, _, none⟩) hlt).trans h1, (hb.cell (p := ⟨b, _, none⟩) hlt).trans h2, (hb.cell (p := ⟨b, _, none⟩) hlt).trans h3, (hb.cell (p := ⟨b, _, none⟩) hlt).trans h4, (hb.cell (p := ⟨b, _, none⟩) hlt).trans h5, (hb.cell (p := ⟨b, _, none⟩) hlt).trans h6, (hb.cell (p := ⟨b, _, none⟩) hlt).trans h7⟩
theorem Row.below {w w' : World} {v : Value} {xs : List Re} (h : Row w v xs) (hb : Below w.heap.size w w') : Row w' v xs := RowG.below stays1 h hb
/-- Its texts are no longer than n. -/
def Tz (n : Nat) (x : Re) : Prop := x.mc.size ≤ n
theorem two {w w1 : World} {o0 o1 : Obj} (b : Below ((w.alloc o0).alloc o1).heap.size ((w.alloc o0).alloc o1) w1) :
    w1.heap[w.heap.size]? = some o0 ∧ w1.heap[w.heap.size + 1]? = some o1 ∧ Below w.heap.size w w1 := by
  have e1 : (w.alloc o0).heap.size = w.heap.size + 1 := by simp
  refine ⟨?_, ?_, ((bel_new w o0).trans ((bel_new _ o1).mono (by simp))).trans (b.mono (by simp; omega))⟩
  · rw [b.block _ (by simp; omega), ← heap_alloc_new w o0]; exact (bel_new _ o1).block _ (by simp)
  · rw [b.block _ (by simp), ← e1]; exact heap_alloc_new _ _
end Go.Proofs.YtiflfcpoajijaaaDoor.Gy
namespace Go.Proofs.YtiflfcpoajijaaaDoor.Op
open Go.ChangeShapes Go.WideShapes Go.ChangeAt Go.RowKit Go.Deep Go.Proofs.YtiflfcpoajijaaaDoor.Rg Go.Proofs.YtiflfcpoajijaaaDoor.Gy
end Go.Proofs.YtiflfcpoajijaaaDoor.Op
