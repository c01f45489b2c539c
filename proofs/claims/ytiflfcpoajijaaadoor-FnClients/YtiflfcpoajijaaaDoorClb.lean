/- Clients: their cells, opened, measured, copied, compared. -/
import Derived.Test.YtiflfcpoajijaaaDoorCla
import Derived.Test.YtiflfcpoajijaaaDoorReqLaw
import Derived.OpenShut
import Derived.Deep.Fields
namespace Go.Proofs.YtiflfcpoajijaaaDoor.Cl
open Go.RowKit Go.Proofs.YtiflfcpoajijaaaDoor.Sl Go.Proofs.YtiflfcpoajijaaaDoor.Rg
open Go.Proofs.YtiflfcpoajijaaaDoor.Gy (Re)
open Go.Proofs.YtiflfcpoajijaaaDoor.Rk (An)
open Go.Proofs.YtiflfcpoajijaaaDoor.Rq (reqV)

structure Cd where
  id : Int
  st : Int
  bu : Bool
  rc : Int
  rs : Int
  rk : Int
  rl : Int
  rn : ByteArray
  re : List Re
  ac : List An
def clV (c : Cd) (vr va : Value) : Value := .agg #[.int .i64 c.id, .int .i64 c.st, .bool c.bu, .int .i64 c.rc, .int .i64 c.rs, .int .i64 c.rk, .int .i64 c.rl, .string c.rn, vr, va]
/-- The client's lists lie in these slices. -/
def Has (w : World) (c : Cd) (vr va : Value) : Prop := Gy.Row w vr c.re ∧ Ga.Row w va c.ac
theorem Has.below {w w' : World} {c : Cd} {vr va : Value} (h : Has w c vr va) (hb : Below w.heap.size w w') : Has w' c vr va := ⟨h.1.below hb, h.2.below hb⟩
theorem cell_blk {w w' : World} {g : Nat} (h : w'.heap[g]? = w.heap[g]?) (k : Nat) : w'.cell? ⟨g, k, none⟩ = w.cell? ⟨g, k, none⟩ := by simp only [World.cell?, h]
/-- All of the client that is measured is within n. -/
def Tc (n : Nat) (c : Cd) : Prop := c.rn.size ≤ n ∧ c.re.length ≤ n ∧ c.ac.length ≤ n ∧ ∀ x ∈ c.re, Gy.Tz n x
/-- Ten cells of a block are written. -/
theorem set10 {w : World} {b : Nat} {t : TypeId} (z0 z1 z2 z3 z4 z5 z6 z7 z8 z9 v0 v1 v2 v3 v4 v5 v6 v7 v8 v9 : Value) (h : w.heap[b]? = some (.cells #[z0, z1, z2, z3, z4, z5, z6, z7, z8, z9] t (0, 0))) :
    ((((((((((w.setCell ⟨b, 0, none⟩ v0).setCell ⟨b, 1, none⟩ v1).setCell ⟨b, 2, none⟩ v2).setCell ⟨b, 3, none⟩ v3).setCell ⟨b, 4, none⟩ v4).setCell ⟨b, 5, none⟩ v5).setCell ⟨b, 6, none⟩ v6).setCell ⟨b, 7, none⟩ v7).setCell ⟨b, 8, none⟩ v8).setCell ⟨b, 9, none⟩ v9).heap[b]? = some (.cells #[v0, v1, v2, v3, v4, v5, v6, v7, v8, v9] t (0, 0)) ∧ (∀ k, k ≠ b → ((((((((((w.setCell ⟨b, 0, none⟩ v0).setCell ⟨b, 1, none⟩ v1).setCell ⟨b, 2, none⟩ v2).setCell ⟨b, 3, none⟩ v3).setCell ⟨b, 4, none⟩ v4).setCell ⟨b, 5, none⟩ v5).setCell ⟨b, 6, none⟩ v6).setCell ⟨b, 7, none⟩ v7).setCell ⟨b, 8, none⟩ v8).setCell ⟨b, 9, none⟩ v9).heap[k]? = w.heap[k]?) ∧ ∀ {B : Nat} {w0 : World}, Below B w0 w → B ≤ b → Below B w0 ((((((((((w.setCell ⟨b, 0, none⟩ v0).setCell ⟨b, 1, none⟩ v1).setCell ⟨b, 2, none⟩ v2).setCell ⟨b, 3, none⟩ v3).setCell ⟨b, 4, none⟩ v4).setCell ⟨b, 5, none⟩ v5).setCell ⟨b, 6, none⟩ v6).setCell ⟨b, 7, none⟩ v7).setCell ⟨b, 8, none⟩ v8).setCell ⟨b, 9, none⟩ v9) := by
  refine ⟨?_, fun k hk => (Rg.blk_far hk 9 v9).trans ((Rg.blk_far hk 8 v8).trans ((Rg.blk_far hk 7 v7).trans ((Rg.blk_far hk 6 v6).trans ((Rg.blk_far hk 5 v5).trans ((Rg.blk_far hk 4 v4).trans ((Rg.blk_far hk 3 v3).trans ((Rg.blk_far hk 2 v2).trans ((Rg.blk_far hk 1 v1).trans (Rg.blk_far hk 0 v0))))))))), fun hb hB => (Below.setCell (Below.setCell (Below.setCell (Below.setCell (Below.setCell (Below.setCell (Below.setCell (Below.setCell (Below.setCell (Below.setCell hb (p := ⟨b, 0, none⟩) hB v0) (p := ⟨b, 1, none⟩) hB v1) (p := ⟨b, 2, none⟩) hB v2) (p := ⟨b, 3, none⟩) hB v3) (p := ⟨b, 4, none⟩) hB v4) (p := ⟨b, 5, none⟩) hB v5) (p := ⟨b, 6, none⟩) hB v6) (p := ⟨b, 7, none⟩) hB v7) (p := ⟨b, 8, none⟩) hB v8) (p := ⟨b, 9, none⟩) hB v9)⟩
  have := (Rg.blk_set (Rg.blk_set (Rg.blk_set (Rg.blk_set (Rg.blk_set (Rg.blk_set (Rg.blk_set (Rg.blk_set (Rg.blk_set (Rg.blk_set h 0 v0) 1 v1) 2 v2) 3 v3) 4 v4) 5 v5) 6 v6) 7 v7) 8 v8) 9 v9)
  simpa only [List.setIfInBounds_toArray, List.set_cons_zero, List.set_cons_succ] using this
/-- Rows in a block that nothing was written into stay. -/
def AtR (w : World) (g : Nat) (xs : List Re) : Prop := (∀ i x, xs[i]? = some x → Gy.E1 w g (i * 8) x) ∧ Wr w g (xs.length * 8)
def AtA (w : World) (g : Nat) (xs : List An) : Prop := (∀ i x, xs[i]? = some x → Ga.E1 w g (i * 4) x) ∧ Wr w g (xs.length * 4)
theorem AtR.keep {w w' : World} {g : Nat} {xs : List Re} (h : AtR w g xs) (hk : w'.heap[g]? = w.heap[g]?) : AtR w' g xs := by
  refine ⟨fun i x hi => ?_, ?_⟩
  · have := h.1 i x hi
    unfold Gy.E1 at this ⊢
    simp only [cell_blk hk]
    exact this
  · obtain ⟨A, t, h1, h2⟩ := h.2
    exact ⟨A, t, hk.trans h1, h2⟩
theorem AtA.keep {w w' : World} {g : Nat} {xs : List An} (h : AtA w g xs) (hk : w'.heap[g]? = w.heap[g]?) : AtA w' g xs := by
  refine ⟨fun i x hi => ?_, ?_⟩
  · have := h.1 i x hi
    unfold Ga.E1 at this ⊢
    simp only [cell_blk hk]
    exact this
  · obtain ⟨A, t, h1, h2⟩ := h.2
    exact ⟨A, t, hk.trans h1, h2⟩
theorem AtR.lt {w : World} {g : Nat} {xs : List Re} (h : AtR w g xs) : g < w.heap.size := by
  obtain ⟨A, t, h1, _⟩ := h.2
  exact (Array.getElem?_eq_some_iff.1 h1).1
theorem AtA.lt {w : World} {g : Nat} {xs : List An} (h : AtA w g xs) : g < w.heap.size := by
  obtain ⟨A, t, h1, _⟩ := h.2
  exact (Array.getElem?_eq_some_iff.1 h1).1
end Go.Proofs.YtiflfcpoajijaaaDoor.Cl
namespace Go.Proofs.YtiflfcpoajijaaaDoor.Op
open Go.ChangeShapes Go.WideShapes Go.ChangeAt Go.RowKit Go.Deep
end Go.Proofs.YtiflfcpoajijaaaDoor.Op
