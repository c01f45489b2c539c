/- A request is taken off the wire. -/
import Derived.Test.YtdhmmbbdckahmaaRdr
namespace Go.Proofs.Ytdhmmbbdckahmaa.Rr
open Go.RowKit Go.Proofs.Ytdhmmbbdckahmaa.Sl Go.Proofs.Ytdhmmbbdckahmaa.By Go.Proofs.Ytdhmmbbdckahmaa.Ap Go.Proofs.Ytdhmmbbdckahmaa.Rq

theorem blk_cell {w : World} {b : Nat} {cs : Array Value} {t : TypeId} (h : w.heap[b]? = some (.cells cs t (0, 0))) (i : Nat) {x : Value} (hx : cs[i]? = some x) : w.cell? ⟨b, i, none⟩ = some x ∧ w.frozen? ⟨b, i, none⟩ = false :=
  ⟨(Joins.cell_of_block h i).trans hx, Joins.unfrozen_of_block h i⟩
theorem blk_set {w : World} {b : Nat} {cs : Array Value} {t : TypeId} (h : w.heap[b]? = some (.cells cs t (0, 0))) (i : Nat) (x : Value) : (w.setCell ⟨b, i, none⟩ x).heap[b]? = some (.cells (cs.setIfInBounds i x) t (0, 0)) := Joins.block_setCell h x
theorem blk_far {w : World} {b k : Nat} (hk : k ≠ b) (i : Nat) (x : Value) : (w.setCell ⟨b, i, none⟩ x).heap[k]? = w.heap[k]? := Below.heap_setCell w ⟨b, i, none⟩ x k hk
theorem blk_new (w : World) (cs : Array Value) (t : TypeId) : (w.alloc (.cells cs t)).heap[w.heap.size]? = some (.cells cs t (0, 0)) := heap_alloc_new w _
theorem blk_kept {w w' : World} {p b : Nat} {o : Obj} (h : w.heap[b]? = some o) (hg : w.grownBy w' (some p)) (hb : b ≠ p) : w'.heap[b]? = some o :=
  (hg.block b (Array.getElem?_eq_some_iff.1 h).1 (by simpa using hb)).trans h

/-- From w to w' nothing that was there was written but block p. -/
theorem grown_new {w w' : World} {p b : Nat} (h : w.grownBy w' (some p)) (hb : w.heap.size ≤ b) (i : Nat) (x : Value) : w.grownBy (w'.setCell ⟨b, i, none⟩ x) (some p) :=
  ⟨h.os, h.tape, h.output, by simpa using h.size, fun k hk hn => (blk_far (by omega) i x).trans (h.block k hk hn)⟩
theorem grown_alloc {w w' : World} {r : Option Nat} (h : w.grownBy w' r) (o : Obj) : w.grownBy (w'.alloc o) r :=
  ⟨h.os, h.tape, h.output, Nat.le_trans h.size (by simp), fun k hk hn => (Below.heap_alloc w' o k (Nat.lt_of_lt_of_le hk h.size)).trans (h.block k hk hn)⟩

theorem txtR_range {n : Nat} {xs : List Int} (h : ∀ x ∈ xs, 0 ≤ x ∧ x ≤ 255) : ∀ x ∈ txtR n xs, 0 ≤ x ∧ x ≤ 255 := tkR_range (tkR_range h)
theorem txtR_len (n : Nat) (xs : List Int) : (txtR n xs).length ≤ xs.length := Nat.le_trans (tkR_len _ _) (tkR_len _ _)
/-- The request that bytes tell: its fields, what is left, whether they fell short. -/
def rqC (xs : List Int) : Int := beN (tkB 1 xs)
def rqS (xs : List Int) : Int := beN (tkB 2 (tkR 1 xs))
def rqK (xs : List Int) : Int := beN (tkB 1 (tkR 2 (tkR 1 xs)))
def rqL (xs : List Int) : Int := beN (tkB 2 (tkR 1 (tkR 2 (tkR 1 xs))))
def rqT (xs : List Int) : List Int := tkR 2 (tkR 1 (tkR 2 (tkR 1 xs)))
def rqN (xs : List Int) : ByteArray := txtB 1 (rqT xs)
def rqRest (xs : List Int) : List Int := txtR 1 (rqT xs)
def rqSh (xs : List Int) (sh : Bool) : Bool := txtS 1 (rqT xs) (tkS 2 (tkR 1 (tkR 2 (tkR 1 xs))) (tkS 1 (tkR 2 (tkR 1 xs)) (tkS 2 (tkR 1 xs) (tkS 1 xs sh))))
def zreq : Array Value := #[.int .i64 0, .int .i64 0, .int .i64 0, .int .i64 0, .string ⟨#[]⟩]

/-- The message that bytes tell. -/
def mg3 (xs : List Int) : List Int := tkR 1 (tkR 1 (tkR 1 (tkR 1 xs)))
def mgDg (xs : List Int) : ByteArray := txtB 1 (mg3 xs)
def mgBd (xs : List Int) : ByteArray := txtB 2 (txtR 1 (mg3 xs))
def mgMc (xs : List Int) : ByteArray := strOfNums (tkB 8 (txtR 2 (txtR 1 (mg3 xs))))
def mgRest (xs : List Int) : List Int := tkR 8 (txtR 2 (txtR 1 (mg3 xs)))
def mgSh (xs : List Int) (sh : Bool) : Bool := tkS 8 (txtR 2 (txtR 1 (mg3 xs))) (txtS 2 (txtR 1 (mg3 xs)) (txtS 1 (mg3 xs) (tkS 1 (tkR 1 (tkR 1 (tkR 1 xs))) (tkS 1 (tkR 1 (tkR 1 xs)) (tkS 1 (tkR 1 xs) (tkS 1 xs sh))))))
def zmsg : Array Value := #[.int .i64 0, .int .i64 0, .int .i64 0, .int .i64 0, .string ⟨#[]⟩, .string ⟨#[]⟩, .string ⟨#[]⟩]
/-- The reading that bytes tell. -/
def zrdg : Array Value := #[.int .i64 0, .int .i64 0, .string ⟨#[]⟩]

end Go.Proofs.Ytdhmmbbdckahmaa.Rr
