/- Texts put together: ReqPut, Gr, Bo. -/
import Derived.Test.YtakfniknkejgpaaDoorMt10
import Derived.Test.YtakfniknkejgpaaDoorMt31
import Derived.Deep.RegionLaw
import Derived.Deep.CutRange
import Derived.Deep.DeepCutAuto
import Derived.BigRegion
import Derived.Test.YtakfniknkejgpaaDoorMt13
import Derived.Laws.StructEq
/- Requests' bytes: both RequestBytes functions. -/
namespace Go.Proofs.YtakfniknkejgpaaDoor.Rp
open Go.RowKit Go.Proofs.YtakfniknkejgpaaDoor.Sl Go.Proofs.YtakfniknkejgpaaDoor.By Go.Proofs.YtakfniknkejgpaaDoor.Rq Go.Proofs.YtakfniknkejgpaaDoor.Ap Go.Proofs.YtakfniknkejgpaaDoor.Pu

theorem own_away {e : TypeId} {w : World} {B : Nat} {v : Value} {zs : List Int} (h : OwnB e w B v zs) : some w.heap.size ≠ v.ownBlock := by
 intro hn
 unfold OwnB at h
 have := (h.lt _ hn.symm).2
 omega

theorem ret_tup {v : Value} {a b : Int} (h : a = b) : Ending.returned (.tuple #[v, .int .i64 a]) = .returned (.tuple #[v, .int .i64 b]) := by rw [h]
end Go.Proofs.YtakfniknkejgpaaDoor.Rp

/- Readings in a slice: read, measured, copied, compared. -/
namespace Go.Proofs.YtakfniknkejgpaaDoor.Gr
open Go.RowKit Go.Proofs.YtakfniknkejgpaaDoor.Sl Go.Proofs.YtakfniknkejgpaaDoor.Ap Go.Proofs.YtakfniknkejgpaaDoor.Rg

structure Rd where
 f : Int
 x : Int
 m : ByteArray
instance : Inhabited Rd := ⟨⟨0, 0, ⟨#[]⟩⟩⟩
def E1 (w : World) (b o : Nat) (x : Rd) : Prop := w.cell? ⟨b, o, none⟩ = some (.int .i64 x.f) ∧ w.cell? ⟨b, o + 1, none⟩ = some (.int .i64 x.x) ∧ w.cell? ⟨b, o + 2, none⟩ = some (.string x.m)
def Row (w : World) (v : Value) (xs : List Rd) : Prop := RowG 3 E1 w v xs
theorem stays1 : Stays E1 := fun _ _ b _ _ hb hlt ⟨h0, h1, h2⟩ => ⟨(hb.cell (p := ⟨b, _, none⟩) hlt).trans h0, (hb.cell (p := ⟨b, _, none⟩) hlt).trans h1, (hb.cell (p := ⟨b, _, none⟩) hlt).trans h2⟩
theorem Row.below {w w' : World} {v : Value} {xs : List Rd} (h : Row w v xs) (hb : Below w.heap.size w w') : Row w' v xs := RowG.below stays1 h hb
end Go.Proofs.YtakfniknkejgpaaDoor.Gr
namespace Go.Proofs.YtakfniknkejgpaaDoor.Op
open Go.ChangeShapes Go.WideShapes Go.ChangeAt Go.RowKit Go.Deep Go.Proofs.YtakfniknkejgpaaDoor.Rg Go.Proofs.YtakfniknkejgpaaDoor.Gr
end Go.Proofs.YtakfniknkejgpaaDoor.Op

/- Batches: what is right, of the program and of the specification. -/
namespace Go.Proofs.YtakfniknkejgpaaDoor.Bo
open Go.RowKit Go.Proofs.YtakfniknkejgpaaDoor.Rg Go.Proofs.YtakfniknkejgpaaDoor.Gr Go.Proofs.YtakfniknkejgpaaDoor.Rq

def r1 (least : Int) (x : Rd) : Bool := inB x.f least 6 && (inB x.x 0 1000000000 && ((x.m.size : Int) == 8))
theorem with_any (x a b : Int) (w : World) : Calls Tryd.prog 43 #[.int .i64 x, .int .i64 a, .int .i64 b] w fun e w' => e = .returned (.bool (inB x a b)) ∧ w = w' := (within_any x a b w).mono fun _ _ ⟨h1, h2⟩ => ⟨h1, h2.symm⟩
theorem in_any (x a b : Int) (w : World) : Calls Tryd.prog 49 #[.int .i64 x, .int .i64 a, .int .i64 b] w fun e w' => e = .returned (.bool (inB x a b)) ∧ w = w' := (l01In_any x a b w).mono fun _ _ ⟨h1, h2⟩ => ⟨h1, h2.symm⟩
end Go.Proofs.YtakfniknkejgpaaDoor.Bo
