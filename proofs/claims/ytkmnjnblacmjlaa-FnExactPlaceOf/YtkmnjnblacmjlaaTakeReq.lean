/- A request is taken off the wire. -/
import Derived.Test.YtkmnjnblacmjlaaRdr
namespace Go.Proofs.Ytkmnjnblacmjlaa.Rr
open Go.RowKit Go.Proofs.Ytkmnjnblacmjlaa.Sl Go.Proofs.Ytkmnjnblacmjlaa.By Go.Proofs.Ytkmnjnblacmjlaa.Ap Go.Proofs.Ytkmnjnblacmjlaa.Rq

theorem blk_cell {w : World} {b : Nat} {cs : Array Value} {t : TypeId} (h : w.heap[b]? = some (.cells cs t (0, 0))) (i : Nat) {x : Value} (hx : cs[i]? = some x) : w.cell? ⟨b, i, none⟩ = some x ∧ w.frozen? ⟨b, i, none⟩ = false :=
  ⟨(Joins.cell_of_block h i).trans hx, Joins.unfrozen_of_block h i⟩
theorem blk_set {w : World} {b : Nat} {cs : Array Value} {t : TypeId} (h : w.heap[b]? = some (.cells cs t (0, 0))) (i : Nat) (x : Value) : (w.setCell ⟨b, i, none⟩ x).heap[b]? = some (.cells (cs.setIfInBounds i x) t (0, 0)) := Joins.block_setCell h x
theorem blk_far {w : World} {b k : Nat} (hk : k ≠ b) (i : Nat) (x : Value) : (w.setCell ⟨b, i, none⟩ x).heap[k]? = w.heap[k]? := Below.heap_setCell w ⟨b, i, none⟩ x k hk
theorem rdr_set {B p b : Nat} {w : World} {xs : List Int} {sh : Bool} (h : Rdr B w p xs sh) (hb : p ≠ b) (hB : B ≤ b) (i : Nat) (x : Value) : Rdr B (w.setCell ⟨b, i, none⟩ x) p xs sh :=
  h.kept (blk_far hb i x) (fun k hk => blk_far (by omega) i x)
theorem rdr_alloc {B p : Nat} {w : World} {xs : List Int} {sh : Bool} (h : Rdr B w p xs sh) (hB : B ≤ p) (o : Obj) : Rdr B (w.alloc o) p xs sh :=
  h.kept (Below.heap_alloc w o p h.lt) (fun k hk => Below.heap_alloc w o k (by have := h.lt; omega))
theorem blk_new (w : World) (cs : Array Value) (t : TypeId) : (w.alloc (.cells cs t)).heap[w.heap.size]? = some (.cells cs t (0, 0)) := heap_alloc_new w _
theorem blk_kept {w w' : World} {p b : Nat} {o : Obj} (h : w.heap[b]? = some o) (hg : w.grownBy w' (some p)) (hb : b ≠ p) : w'.heap[b]? = some o :=
  (hg.block b (Array.getElem?_eq_some_iff.1 h).1 (by simpa using hb)).trans h

/-- From w to w' nothing that was there was written but block p. -/
theorem grown_new {w w' : World} {p b : Nat} (h : w.grownBy w' (some p)) (hb : w.heap.size ≤ b) (i : Nat) (x : Value) : w.grownBy (w'.setCell ⟨b, i, none⟩ x) (some p) :=
  ⟨h.os, h.tape, h.output, by simpa using h.size, fun k hk hn => (blk_far (by omega) i x).trans (h.block k hk hn)⟩
theorem grown_alloc {w w' : World} {r : Option Nat} (h : w.grownBy w' r) (o : Obj) : w.grownBy (w'.alloc o) r :=
  ⟨h.os, h.tape, h.output, Nat.le_trans h.size (by simp), fun k hk hn => (Below.heap_alloc w' o k (Nat.lt_of_lt_of_le hk h.size)).trans (h.block k hk hn)⟩

theorem txtR_range {n : Nat} {xs : List Int} (h : ∀ x ∈ xs, 0 ≤ x ∧ x ≤ 255) : ∀ x ∈ txtR n xs, 0 ≤ x ∧ x ≤ 255 := tkR_range (tkR_range h)
theorem txtR_len (n : Nat) (xs : List Int) : (txtR n xs).length ≤ xs.length := Nat.le_trans (tkR_len _ _) (tkR_len _ _)
/-- The request that bytes tell: its fields, what is left, whether they fell short. -/
def rqC (xs : List Int) : Int := beN (tkB 1 xs)
def rqS (xs : List Int) : Int := beN (tkB 2 (tkR 1 xs))
def rqK (xs : List Int) : Int := beN (tkB 1 (tkR 2 (tkR 1 xs)))
def rqL (xs : List Int) : Int := beN (tkB 2 (tkR 1 (tkR 2 (tkR 1 xs))))
def rqT (xs : List Int) : List Int := tkR 2 (tkR 1 (tkR 2 (tkR 1 xs)))
def rqN (xs : List Int) : ByteArray := txtB 1 (rqT xs)
def rqRest (xs : List Int) : List Int := txtR 1 (rqT xs)
def rqSh (xs : List Int) (sh : Bool) : Bool := txtS 1 (rqT xs) (tkS 2 (tkR 1 (tkR 2 (tkR 1 xs))) (tkS 1 (tkR 2 (tkR 1 xs)) (tkS 2 (tkR 1 xs) (tkS 1 xs sh))))
def zreq : Array Value := #[.int .i64 0, .int .i64 0, .int .i64 0, .int .i64 0, .string ⟨#[]⟩]

/-- The message that bytes tell. -/
def mg3 (xs : List Int) : List Int := tkR 1 (tkR 1 (tkR 1 (tkR 1 xs)))
def mgDg (xs : List Int) : ByteArray := txtB 1 (mg3 xs)
def mgBd (xs : List Int) : ByteArray := txtB 2 (txtR 1 (mg3 xs))
def mgMc (xs : List Int) : ByteArray := strOfNums (tkB 8 (txtR 2 (txtR 1 (mg3 xs))))
def mgRest (xs : List Int) : List Int := tkR 8 (txtR 2 (txtR 1 (mg3 xs)))
def mgSh (xs : List Int) (sh : Bool) : Bool := tkS 8 (txtR 2 (txtR 1 (mg3 xs))) (txtS 2 (txtR 1 (mg3 xs)) (txtS 1 (mg3 xs) (tkS 1 (tkR 1 (tkR 1 (tkR 1 xs))) (tkS 1 (tkR 1 (tkR 1 xs)) (tkS 1 (tkR 1 xs) (tkS 1 xs sh))))))
def zmsg : Array Value := #[.int .i64 0, .int .i64 0, .int .i64 0, .int .i64 0, .string ⟨#[]⟩, .string ⟨#[]⟩, .string ⟨#[]⟩]
/-- The reading that bytes tell. -/
def zrdg : Array Value := #[.int .i64 0, .int .i64 0, .string ⟨#[]⟩]

set_option maxHeartbeats 3200000 in
theorem takeRequest_any (p B : Nat) (xs : List Int) (sh : Bool) (w : World) (h : Rdr B w p xs sh) (hB : B ≤ p) (hx : xs.length ≤ 70000) (hr : ∀ x ∈ xs, 0 ≤ x ∧ x ≤ 255) :
    Calls Try.prog 28 #[.pointer (some ⟨p, 0, none⟩)] w fun e w' => e = .returned (reqV (rqC xs) (rqS xs) (rqK xs) (rqL xs) (rqN xs)) ∧ Rdr B w' p (rqRest xs) (rqSh xs sh) ∧ w.grownBy w' (some p) := by
  have hp := h.lt
  have h0 : Rdr B ((w.alloc (.cells zreq 32)).alloc (.cells zreq 32)) p xs sh := rdr_alloc (rdr_alloc h hB _) hB _
  have a0 : ((w.alloc (.cells zreq 32)).alloc (.cells zreq 32)).heap[w.heap.size]? = some (.cells zreq 32 (0, 0)) := (Below.heap_alloc _ _ _ (by simp)).trans (blk_new _ _ _)
  have b0 : ((w.alloc (.cells zreq 32)).alloc (.cells zreq 32)).heap[w.heap.size + 1]? = some (.cells zreq 32 (0, 0)) := by
    have := blk_new (w.alloc (.cells zreq 32)) zreq 32
    rw [size_new] at this
    exact this
  have G0 : Hid (w.grownBy ((w.alloc (.cells zreq 32)).alloc (.cells zreq 32)) (some p)) := grown_alloc (grown_alloc (grown_refl _ _) _) _
  have H0 : Hid (Rdr B ((w.alloc (.cells zreq 32)).alloc (.cells zreq 32)) p xs sh) := h0
  have A0 : Hid (((w.alloc (.cells zreq 32)).alloc (.cells zreq 32)).heap[w.heap.size]? = some (.cells zreq 32 (0, 0))) := a0
  have B0 : Hid (((w.alloc (.cells zreq 32)).alloc (.cells zreq 32)).heap[w.heap.size + 1]? = some (.cells zreq 32 (0, 0))) := b0
  have HR0 : Hid (∀ x ∈ xs, 0 ≤ x ∧ x ≤ 255) := hr
  have HX0 : Hid (xs.length ≤ 70000) := hx
  clear h h0 a0 b0 hr hx
  go_enter Try.func28, Try.ntmps28
  go_wp2_with fail
  refine (number_any 1 p B xs sh _ H0.out hB (by decide) HX0.out HR0.out).mono ?_
  rintro e w1 ⟨rfl, r1, g1⟩
  have a1 := blk_kept A0.out g1 (by omega)
  have b1 := blk_kept B0.out g1 (by omega)
  obtain ⟨c1, f1⟩ := blk_cell b1 0 (x := .int .i64 0) rfl
  have H1 : Hid (Rdr B (w1.setCell ⟨w.heap.size + 1, 0, none⟩ (.int .i64 (beN (tkB 1 xs)))) p (tkR 1 xs) (tkS 1 xs sh)) := rdr_set r1 (by omega) (by omega) 0 (.int .i64 (beN (tkB 1 xs)))
  have A1 : Hid ((w1.setCell ⟨w.heap.size + 1, 0, none⟩ (.int .i64 (beN (tkB 1 xs)))).heap[w.heap.size]? = some (.cells zreq 32 (0, 0))) := (blk_far (by omega) 0 (.int .i64 (beN (tkB 1 xs)))).trans a1
  have B1 : Hid ((w1.setCell ⟨w.heap.size + 1, 0, none⟩ (.int .i64 (beN (tkB 1 xs)))).heap[w.heap.size + 1]? = some (.cells #[.int .i64 (beN (tkB 1 xs)), .int .i64 0, .int .i64 0, .int .i64 0, .string ⟨#[]⟩] 32 (0, 0))) := blk_set b1 0 (.int .i64 (beN (tkB 1 xs)))
  have G1 : Hid (w.grownBy (w1.setCell ⟨w.heap.size + 1, 0, none⟩ (.int .i64 (beN (tkB 1 xs)))) (some p)) := grown_new (grown_trans G0.out g1) (by omega) 0 (.int .i64 (beN (tkB 1 xs)))
  have HR1 : Hid (∀ x ∈ tkR 1 xs, 0 ≤ x ∧ x ≤ 255) := tkR_range HR0.out
  have HX1 : Hid ((tkR 1 xs).length ≤ 70000) := Nat.le_trans (tkR_len _ _) HX0.out
  clear r1 g1 a1 b1 A0 B0 G0 H0 HR0 HX0
  go_wp2_with fail
  clear c1 f1
  refine (number_any 2 p B (tkR 1 xs) (tkS 1 xs sh) _ H1.out hB (by decide) HX1.out HR1.out).mono ?_
  rintro e w2 ⟨rfl, r2, g2⟩
  have a2 := blk_kept A1.out g2 (by omega)
  have b2 := blk_kept B1.out g2 (by omega)
  obtain ⟨c2, f2⟩ := blk_cell b2 1 (x := .int .i64 0) rfl
  have H2 : Hid (Rdr B (w2.setCell ⟨w.heap.size + 1, 1, none⟩ (.int .i64 (beN (tkB 2 (tkR 1 xs))))) p (tkR 2 (tkR 1 xs)) (tkS 2 (tkR 1 xs) (tkS 1 xs sh))) := rdr_set r2 (by omega) (by omega) 1 (.int .i64 (beN (tkB 2 (tkR 1 xs))))
  have A2 : Hid ((w2.setCell ⟨w.heap.size + 1, 1, none⟩ (.int .i64 (beN (tkB 2 (tkR 1 xs))))).heap[w.heap.size]? = some (.cells zreq 32 (0, 0))) := (blk_far (by omega) 1 (.int .i64 (beN (tkB 2 (tkR 1 xs))))).trans a2
  have B2 : Hid ((w2.setCell ⟨w.heap.size + 1, 1, none⟩ (.int .i64 (beN (tkB 2 (tkR 1 xs))))).heap[w.heap.size + 1]? = some (.cells #[.int .i64 (beN (tkB 1 xs)), .int .i64 (beN (tkB 2 (tkR 1 xs))), .int .i64 0, .int .i64 0, .string ⟨#[]⟩] 32 (0, 0))) := blk_set b2 1 (.int .i64 (beN (tkB 2 (tkR 1 xs))))
  have G2 : Hid (w.grownBy (w2.setCell ⟨w.heap.size + 1, 1, none⟩ (.int .i64 (beN (tkB 2 (tkR 1 xs))))) (some p)) := grown_new (grown_trans G1.out g2) (by omega) 1 (.int .i64 (beN (tkB 2 (tkR 1 xs))))
  have HR2 : Hid (∀ x ∈ tkR 2 (tkR 1 xs), 0 ≤ x ∧ x ≤ 255) := tkR_range HR1.out
  have HX2 : Hid ((tkR 2 (tkR 1 xs)).length ≤ 70000) := Nat.le_trans (tkR_len _ _) HX1.out
  clear r2 g2 a2 b2 A1 B1 G1 H1 HR1 HX1
  go_wp2_with fail
  clear c2 f2
  refine (number_any 1 p B (tkR 2 (tkR 1 xs)) (tkS 2 (tkR 1 xs) (tkS 1 xs sh)) _ H2.out hB (by decide) HX2.out HR2.out).mono ?_
  rintro e w3 ⟨rfl, r3, g3⟩
  have a3 := blk_kept A2.out g3 (by omega)
  have b3 := blk_kept B2.out g3 (by omega)
  obtain ⟨c3, f3⟩ := blk_cell b3 2 (x := .int .i64 0) rfl
  have H3 : Hid (Rdr B (w3.setCell ⟨w.heap.size + 1, 2, none⟩ (.int .i64 (beN (tkB 1 (tkR 2 (tkR 1 xs)))))) p (tkR 1 (tkR 2 (tkR 1 xs))) (tkS 1 (tkR 2 (tkR 1 xs)) (tkS 2 (tkR 1 xs) (tkS 1 xs sh)))) := rdr_set r3 (by omega) (by omega) 2 (.int .i64 (beN (tkB 1 (tkR 2 (tkR 1 xs)))))
  have A3 : Hid ((w3.setCell ⟨w.heap.size + 1, 2, none⟩ (.int .i64 (beN (tkB 1 (tkR 2 (tkR 1 xs)))))).heap[w.heap.size]? = some (.cells zreq 32 (0, 0))) := (blk_far (by omega) 2 (.int .i64 (beN (tkB 1 (tkR 2 (tkR 1 xs)))))).trans a3
  have B3 : Hid ((w3.setCell ⟨w.heap.size + 1, 2, none⟩ (.int .i64 (beN (tkB 1 (tkR 2 (tkR 1 xs)))))).heap[w.heap.size + 1]? = some (.cells #[.int .i64 (beN (tkB 1 xs)), .int .i64 (beN (tkB 2 (tkR 1 xs))), .int .i64 (beN (tkB 1 (tkR 2 (tkR 1 xs)))), .int .i64 0, .string ⟨#[]⟩] 32 (0, 0))) := blk_set b3 2 (.int .i64 (beN (tkB 1 (tkR 2 (tkR 1 xs)))))
  have G3 : Hid (w.grownBy (w3.setCell ⟨w.heap.size + 1, 2, none⟩ (.int .i64 (beN (tkB 1 (tkR 2 (tkR 1 xs)))))) (some p)) := grown_new (grown_trans G2.out g3) (by omega) 2 (.int .i64 (beN (tkB 1 (tkR 2 (tkR 1 xs)))))
  have HR3 : Hid (∀ x ∈ tkR 1 (tkR 2 (tkR 1 xs)), 0 ≤ x ∧ x ≤ 255) := tkR_range HR2.out
  have HX3 : Hid ((tkR 1 (tkR 2 (tkR 1 xs))).length ≤ 70000) := Nat.le_trans (tkR_len _ _) HX2.out
  clear r3 g3 a3 b3 A2 B2 G2 H2 HR2 HX2
  go_wp2_with fail
  clear c3 f3
  refine (number_any 2 p B (tkR 1 (tkR 2 (tkR 1 xs))) (tkS 1 (tkR 2 (tkR 1 xs)) (tkS 2 (tkR 1 xs) (tkS 1 xs sh))) _ H3.out hB (by decide) HX3.out HR3.out).mono ?_
  rintro e w4 ⟨rfl, r4, g4⟩
  have a4 := blk_kept A3.out g4 (by omega)
  have b4 := blk_kept B3.out g4 (by omega)
  obtain ⟨c4, f4⟩ := blk_cell b4 3 (x := .int .i64 0) rfl
  have H4 : Hid (Rdr B (w4.setCell ⟨w.heap.size + 1, 3, none⟩ (.int .i64 (beN (tkB 2 (tkR 1 (tkR 2 (tkR 1 xs))))))) p (tkR 2 (tkR 1 (tkR 2 (tkR 1 xs)))) (tkS 2 (tkR 1 (tkR 2 (tkR 1 xs))) (tkS 1 (tkR 2 (tkR 1 xs)) (tkS 2 (tkR 1 xs) (tkS 1 xs sh))))) := rdr_set r4 (by omega) (by omega) 3 (.int .i64 (beN (tkB 2 (tkR 1 (tkR 2 (tkR 1 xs))))))
  have A4 : Hid ((w4.setCell ⟨w.heap.size + 1, 3, none⟩ (.int .i64 (beN (tkB 2 (tkR 1 (tkR 2 (tkR 1 xs))))))).heap[w.heap.size]? = some (.cells zreq 32 (0, 0))) := (blk_far (by omega) 3 (.int .i64 (beN (tkB 2 (tkR 1 (tkR 2 (tkR 1 xs))))))).trans a4
  have B4 : Hid ((w4.setCell ⟨w.heap.size + 1, 3, none⟩ (.int .i64 (beN (tkB 2 (tkR 1 (tkR 2 (tkR 1 xs))))))).heap[w.heap.size + 1]? = some (.cells #[.int .i64 (beN (tkB 1 xs)), .int .i64 (beN (tkB 2 (tkR 1 xs))), .int .i64 (beN (tkB 1 (tkR 2 (tkR 1 xs)))), .int .i64 (beN (tkB 2 (tkR 1 (tkR 2 (tkR 1 xs))))), .string ⟨#[]⟩] 32 (0, 0))) := blk_set b4 3 (.int .i64 (beN (tkB 2 (tkR 1 (tkR 2 (tkR 1 xs))))))
  have G4 : Hid (w.grownBy (w4.setCell ⟨w.heap.size + 1, 3, none⟩ (.int .i64 (beN (tkB 2 (tkR 1 (tkR 2 (tkR 1 xs))))))) (some p)) := grown_new (grown_trans G3.out g4) (by omega) 3 (.int .i64 (beN (tkB 2 (tkR 1 (tkR 2 (tkR 1 xs))))))
  have HR4 : Hid (∀ x ∈ tkR 2 (tkR 1 (tkR 2 (tkR 1 xs))), 0 ≤ x ∧ x ≤ 255) := tkR_range HR3.out
  have HX4 : Hid ((tkR 2 (tkR 1 (tkR 2 (tkR 1 xs)))).length ≤ 70000) := Nat.le_trans (tkR_len _ _) HX3.out
  clear r4 g4 a4 b4 A3 B3 G3 H3 HR3 HX3
  go_wp2_with fail
  clear c4 f4
  refine (text_any 1 p B (tkR 2 (tkR 1 (tkR 2 (tkR 1 xs)))) (tkS 2 (tkR 1 (tkR 2 (tkR 1 xs))) (tkS 1 (tkR 2 (tkR 1 xs)) (tkS 2 (tkR 1 xs) (tkS 1 xs sh)))) _ H4.out hB (by decide) HX4.out HR4.out).mono ?_
  rintro e w5 ⟨rfl, r5, g5⟩
  have a5 := blk_kept A4.out g5 (by omega)
  have b5 := blk_kept B4.out g5 (by omega)
  obtain ⟨c5, f5⟩ := blk_cell b5 4 (x := .string ⟨#[]⟩) rfl
  have H5 : Hid (Rdr B (w5.setCell ⟨w.heap.size + 1, 4, none⟩ (.string (txtB 1 (tkR 2 (tkR 1 (tkR 2 (tkR 1 xs))))))) p (txtR 1 (tkR 2 (tkR 1 (tkR 2 (tkR 1 xs))))) (txtS 1 (tkR 2 (tkR 1 (tkR 2 (tkR 1 xs)))) (tkS 2 (tkR 1 (tkR 2 (tkR 1 xs))) (tkS 1 (tkR 2 (tkR 1 xs)) (tkS 2 (tkR 1 xs) (tkS 1 xs sh)))))) := rdr_set r5 (by omega) (by omega) 4 (.string (txtB 1 (tkR 2 (tkR 1 (tkR 2 (tkR 1 xs))))))
  have A5 : Hid ((w5.setCell ⟨w.heap.size + 1, 4, none⟩ (.string (txtB 1 (tkR 2 (tkR 1 (tkR 2 (tkR 1 xs))))))).heap[w.heap.size]? = some (.cells zreq 32 (0, 0))) := (blk_far (by omega) 4 (.string (txtB 1 (tkR 2 (tkR 1 (tkR 2 (tkR 1 xs))))))).trans a5
  have B5 : Hid ((w5.setCell ⟨w.heap.size + 1, 4, none⟩ (.string (txtB 1 (tkR 2 (tkR 1 (tkR 2 (tkR 1 xs))))))).heap[w.heap.size + 1]? = some (.cells #[.int .i64 (beN (tkB 1 xs)), .int .i64 (beN (tkB 2 (tkR 1 xs))), .int .i64 (beN (tkB 1 (tkR 2 (tkR 1 xs)))), .int .i64 (beN (tkB 2 (tkR 1 (tkR 2 (tkR 1 xs))))), .string (txtB 1 (tkR 2 (tkR 1 (tkR 2 (tkR 1 xs)))))] 32 (0, 0))) := blk_set b5 4 (.string (txtB 1 (tkR 2 (tkR 1 (tkR 2 (tkR 1 xs))))))
  have G5 : Hid (w.grownBy (w5.setCell ⟨w.heap.size + 1, 4, none⟩ (.string (txtB 1 (tkR 2 (tkR 1 (tkR 2 (tkR 1 xs))))))) (some p)) := grown_new (grown_trans G4.out g5) (by omega) 4 (.string (txtB 1 (tkR 2 (tkR 1 (tkR 2 (tkR 1 xs))))))
  clear r5 g5 a5 b5 A4 B4 G4 H4 HR4 HX4
  obtain ⟨ca0, fa0⟩ := blk_cell A5.out 0 (x := .int .i64 0) rfl
  have cb0 := (blk_cell B5.out 0 (x := .int .i64 (beN (tkB 1 xs))) rfl).1
  obtain ⟨ca1, fa1⟩ := blk_cell A5.out 1 (x := .int .i64 0) rfl
  have cb1 := (blk_cell B5.out 1 (x := .int .i64 (beN (tkB 2 (tkR 1 xs)))) rfl).1
  obtain ⟨ca2, fa2⟩ := blk_cell A5.out 2 (x := .int .i64 0) rfl
  have cb2 := (blk_cell B5.out 2 (x := .int .i64 (beN (tkB 1 (tkR 2 (tkR 1 xs))))) rfl).1
  obtain ⟨ca3, fa3⟩ := blk_cell A5.out 3 (x := .int .i64 0) rfl
  have cb3 := (blk_cell B5.out 3 (x := .int .i64 (beN (tkB 2 (tkR 1 (tkR 2 (tkR 1 xs)))))) rfl).1
  obtain ⟨ca4, fa4⟩ := blk_cell A5.out 4 (x := .string ⟨#[]⟩) rfl
  have cb4 := (blk_cell B5.out 4 (x := .string (txtB 1 (tkR 2 (tkR 1 (tkR 2 (tkR 1 xs)))))) rfl).1
  have AF : ((((((w5.setCell ⟨w.heap.size + 1, 4, none⟩ (.string (txtB 1 (tkR 2 (tkR 1 (tkR 2 (tkR 1 xs))))))).setCell ⟨w.heap.size, 0, none⟩ (.int .i64 (beN (tkB 1 xs)))).setCell ⟨w.heap.size, 1, none⟩ (.int .i64 (beN (tkB 2 (tkR 1 xs))))).setCell ⟨w.heap.size, 2, none⟩ (.int .i64 (beN (tkB 1 (tkR 2 (tkR 1 xs)))))).setCell ⟨w.heap.size, 3, none⟩ (.int .i64 (beN (tkB 2 (tkR 1 (tkR 2 (tkR 1 xs))))))).setCell ⟨w.heap.size, 4, none⟩ (.string (txtB 1 (tkR 2 (tkR 1 (tkR 2 (tkR 1 xs))))))).heap[w.heap.size]? = some (.cells #[.int .i64 (beN (tkB 1 xs)), .int .i64 (beN (tkB 2 (tkR 1 xs))), .int .i64 (beN (tkB 1 (tkR 2 (tkR 1 xs)))), .int .i64 (beN (tkB 2 (tkR 1 (tkR 2 (tkR 1 xs))))), .string (txtB 1 (tkR 2 (tkR 1 (tkR 2 (tkR 1 xs)))))] 32 (0, 0)) := (blk_set (blk_set (blk_set (blk_set (blk_set A5.out 0 (.int .i64 (beN (tkB 1 xs)))) 1 (.int .i64 (beN (tkB 2 (tkR 1 xs))))) 2 (.int .i64 (beN (tkB 1 (tkR 2 (tkR 1 xs)))))) 3 (.int .i64 (beN (tkB 2 (tkR 1 (tkR 2 (tkR 1 xs))))))) 4 (.string (txtB 1 (tkR 2 (tkR 1 (tkR 2 (tkR 1 xs)))))))
  have RF : Rdr B ((((((w5.setCell ⟨w.heap.size + 1, 4, none⟩ (.string (txtB 1 (tkR 2 (tkR 1 (tkR 2 (tkR 1 xs))))))).setCell ⟨w.heap.size, 0, none⟩ (.int .i64 (beN (tkB 1 xs)))).setCell ⟨w.heap.size, 1, none⟩ (.int .i64 (beN (tkB 2 (tkR 1 xs))))).setCell ⟨w.heap.size, 2, none⟩ (.int .i64 (beN (tkB 1 (tkR 2 (tkR 1 xs)))))).setCell ⟨w.heap.size, 3, none⟩ (.int .i64 (beN (tkB 2 (tkR 1 (tkR 2 (tkR 1 xs))))))).setCell ⟨w.heap.size, 4, none⟩ (.string (txtB 1 (tkR 2 (tkR 1 (tkR 2 (tkR 1 xs))))))) p (rqRest xs) (rqSh xs sh) := (rdr_set (rdr_set (rdr_set (rdr_set (rdr_set H5.out (by omega) (by omega) 0 (.int .i64 (beN (tkB 1 xs)))) (by omega) (by omega) 1 (.int .i64 (beN (tkB 2 (tkR 1 xs))))) (by omega) (by omega) 2 (.int .i64 (beN (tkB 1 (tkR 2 (tkR 1 xs)))))) (by omega) (by omega) 3 (.int .i64 (beN (tkB 2 (tkR 1 (tkR 2 (tkR 1 xs))))))) (by omega) (by omega) 4 (.string (txtB 1 (tkR 2 (tkR 1 (tkR 2 (tkR 1 xs)))))))
  have GF : w.grownBy ((((((w5.setCell ⟨w.heap.size + 1, 4, none⟩ (.string (txtB 1 (tkR 2 (tkR 1 (tkR 2 (tkR 1 xs))))))).setCell ⟨w.heap.size, 0, none⟩ (.int .i64 (beN (tkB 1 xs)))).setCell ⟨w.heap.size, 1, none⟩ (.int .i64 (beN (tkB 2 (tkR 1 xs))))).setCell ⟨w.heap.size, 2, none⟩ (.int .i64 (beN (tkB 1 (tkR 2 (tkR 1 xs)))))).setCell ⟨w.heap.size, 3, none⟩ (.int .i64 (beN (tkB 2 (tkR 1 (tkR 2 (tkR 1 xs))))))).setCell ⟨w.heap.size, 4, none⟩ (.string (txtB 1 (tkR 2 (tkR 1 (tkR 2 (tkR 1 xs))))))) (some p) := (grown_new (grown_new (grown_new (grown_new (grown_new G5.out (Nat.le_refl _) 0 (.int .i64 (beN (tkB 1 xs)))) (Nat.le_refl _) 1 (.int .i64 (beN (tkB 2 (tkR 1 xs))))) (Nat.le_refl _) 2 (.int .i64 (beN (tkB 1 (tkR 2 (tkR 1 xs)))))) (Nat.le_refl _) 3 (.int .i64 (beN (tkB 2 (tkR 1 (tkR 2 (tkR 1 xs))))))) (Nat.le_refl _) 4 (.string (txtB 1 (tkR 2 (tkR 1 (tkR 2 (tkR 1 xs)))))))
  go_wp2_with fail
  generalize ((((((w5.setCell ⟨w.heap.size + 1, 4, none⟩ (.string (txtB 1 (tkR 2 (tkR 1 (tkR 2 (tkR 1 xs))))))).setCell ⟨w.heap.size, 0, none⟩ (.int .i64 (beN (tkB 1 xs)))).setCell ⟨w.heap.size, 1, none⟩ (.int .i64 (beN (tkB 2 (tkR 1 xs))))).setCell ⟨w.heap.size, 2, none⟩ (.int .i64 (beN (tkB 1 (tkR 2 (tkR 1 xs)))))).setCell ⟨w.heap.size, 3, none⟩ (.int .i64 (beN (tkB 2 (tkR 1 (tkR 2 (tkR 1 xs))))))).setCell ⟨w.heap.size, 4, none⟩ (.string (txtB 1 (tkR 2 (tkR 1 (tkR 2 (tkR 1 xs))))))) = wf at AF RF GF ⊢
  have d0 := (blk_cell AF 0 (x := .int .i64 (beN (tkB 1 xs))) rfl).1
  have d1 := (blk_cell AF 1 (x := .int .i64 (beN (tkB 2 (tkR 1 xs)))) rfl).1
  have d2 := (blk_cell AF 2 (x := .int .i64 (beN (tkB 1 (tkR 2 (tkR 1 xs))))) rfl).1
  have d3 := (blk_cell AF 3 (x := .int .i64 (beN (tkB 2 (tkR 1 (tkR 2 (tkR 1 xs)))))) rfl).1
  have d4 := (blk_cell AF 4 (x := .string (txtB 1 (tkR 2 (tkR 1 (tkR 2 (tkR 1 xs)))))) rfl).1
  refine bodyPost_ret (v := .agg #[.int .i64 (beN (tkB 1 xs)), .int .i64 (beN (tkB 2 (tkR 1 xs))), .int .i64 (beN (tkB 1 (tkR 2 (tkR 1 xs)))), .int .i64 (beN (tkB 2 (tkR 1 (tkR 2 (tkR 1 xs))))), .string (txtB 1 (tkR 2 (tkR 1 (tkR 2 (tkR 1 xs)))))]) (by simp [results, Try.results28, go_sem, d0, d1, d2, d3, d4]) rfl ⟨rfl, RF, GF⟩
set_option maxHeartbeats 3200000 in
theorem takeReading_any (p B : Nat) (xs : List Int) (sh : Bool) (w : World) (h : Rdr B w p xs sh) (hB : B ≤ p) (hx : xs.length ≤ 70000) (hr : ∀ x ∈ xs, 0 ≤ x ∧ x ≤ 255) :
    Calls Try.prog 27 #[.pointer (some ⟨p, 0, none⟩)] w fun e w' => e = .returned (.agg #[.int .i64 (beN (tkB 1 xs)), .int .i64 (beN (tkB 4 (tkR 1 xs))), .string (strOfNums (tkB 8 (tkR 4 (tkR 1 xs))))]) ∧ Rdr B w' p (tkR 8 (tkR 4 (tkR 1 xs))) (tkS 8 (tkR 4 (tkR 1 xs)) (tkS 4 (tkR 1 xs) (tkS 1 xs sh))) ∧ w.grownBy w' (some p) := by
  have hp := h.lt
  have h0 : Rdr B ((w.alloc (.cells zrdg 43)).alloc (.cells zrdg 43)) p xs sh := rdr_alloc (rdr_alloc h hB _) hB _
  have a0 : ((w.alloc (.cells zrdg 43)).alloc (.cells zrdg 43)).heap[w.heap.size]? = some (.cells zrdg 43 (0, 0)) := (Below.heap_alloc _ _ _ (by simp)).trans (blk_new _ _ _)
  have b0 : ((w.alloc (.cells zrdg 43)).alloc (.cells zrdg 43)).heap[w.heap.size + 1]? = some (.cells zrdg 43 (0, 0)) := by
    have := blk_new (w.alloc (.cells zrdg 43)) zrdg 43
    rw [size_new] at this
    exact this
  have G0 : Hid (w.grownBy ((w.alloc (.cells zrdg 43)).alloc (.cells zrdg 43)) (some p)) := grown_alloc (grown_alloc (grown_refl _ _) _) _
  have H0 : Hid (Rdr B ((w.alloc (.cells zrdg 43)).alloc (.cells zrdg 43)) p xs sh) := h0
  have A0 : Hid (((w.alloc (.cells zrdg 43)).alloc (.cells zrdg 43)).heap[w.heap.size]? = some (.cells zrdg 43 (0, 0))) := a0
  have B0 : Hid (((w.alloc (.cells zrdg 43)).alloc (.cells zrdg 43)).heap[w.heap.size + 1]? = some (.cells zrdg 43 (0, 0))) := b0
  have HR0 : Hid (∀ x ∈ xs, 0 ≤ x ∧ x ≤ 255) := hr
  have HX0 : Hid (xs.length ≤ 70000) := hx
  clear h h0 a0 b0 hr hx
  go_enter Try.func27, Try.ntmps27
  go_wp2_with fail
  refine (number_any 1 p B xs sh _ H0.out hB (by decide) HX0.out HR0.out).mono ?_
  rintro e w1 ⟨rfl, r1, g1⟩
  have a1 := blk_kept A0.out g1 (by omega)
  have b1 := blk_kept B0.out g1 (by omega)
  obtain ⟨c1, f1⟩ := blk_cell b1 0 (x := .int .i64 0) rfl
  have H1 : Hid (Rdr B (w1.setCell ⟨w.heap.size + 1, 0, none⟩ (.int .i64 (beN (tkB 1 xs)))) p (tkR 1 xs) (tkS 1 xs sh)) := rdr_set r1 (by omega) (by omega) 0 (.int .i64 (beN (tkB 1 xs)))
  have A1 : Hid ((w1.setCell ⟨w.heap.size + 1, 0, none⟩ (.int .i64 (beN (tkB 1 xs)))).heap[w.heap.size]? = some (.cells zrdg 43 (0, 0))) := (blk_far (by omega) 0 (.int .i64 (beN (tkB 1 xs)))).trans a1
  have B1 : Hid ((w1.setCell ⟨w.heap.size + 1, 0, none⟩ (.int .i64 (beN (tkB 1 xs)))).heap[w.heap.size + 1]? = some (.cells #[.int .i64 (beN (tkB 1 xs)), .int .i64 0, .string ⟨#[]⟩] 43 (0, 0))) := blk_set b1 0 (.int .i64 (beN (tkB 1 xs)))
  have G1 : Hid (w.grownBy (w1.setCell ⟨w.heap.size + 1, 0, none⟩ (.int .i64 (beN (tkB 1 xs)))) (some p)) := grown_new (grown_trans G0.out g1) (by omega) 0 (.int .i64 (beN (tkB 1 xs)))
  have HR1 : Hid (∀ x ∈ tkR 1 xs, 0 ≤ x ∧ x ≤ 255) := tkR_range HR0.out
  have HX1 : Hid ((tkR 1 xs).length ≤ 70000) := Nat.le_trans (tkR_len _ _) HX0.out
  clear r1 g1 a1 b1 A0 B0 G0 H0 HR0 HX0
  go_wp2_with fail
  clear c1 f1
  refine (number_any 4 p B (tkR 1 xs) (tkS 1 xs sh) _ H1.out hB (by decide) HX1.out HR1.out).mono ?_
  rintro e w2 ⟨rfl, r2, g2⟩
  have a2 := blk_kept A1.out g2 (by omega)
  have b2 := blk_kept B1.out g2 (by omega)
  obtain ⟨c2, f2⟩ := blk_cell b2 1 (x := .int .i64 0) rfl
  have H2 : Hid (Rdr B (w2.setCell ⟨w.heap.size + 1, 1, none⟩ (.int .i64 (beN (tkB 4 (tkR 1 xs))))) p (tkR 4 (tkR 1 xs)) (tkS 4 (tkR 1 xs) (tkS 1 xs sh))) := rdr_set r2 (by omega) (by omega) 1 (.int .i64 (beN (tkB 4 (tkR 1 xs))))
  have A2 : Hid ((w2.setCell ⟨w.heap.size + 1, 1, none⟩ (.int .i64 (beN (tkB 4 (tkR 1 xs))))).heap[w.heap.size]? = some (.cells zrdg 43 (0, 0))) := (blk_far (by omega) 1 (.int .i64 (beN (tkB 4 (tkR 1 xs))))).trans a2
  have B2 : Hid ((w2.setCell ⟨w.heap.size + 1, 1, none⟩ (.int .i64 (beN (tkB 4 (tkR 1 xs))))).heap[w.heap.size + 1]? = some (.cells #[.int .i64 (beN (tkB 1 xs)), .int .i64 (beN (tkB 4 (tkR 1 xs))), .string ⟨#[]⟩] 43 (0, 0))) := blk_set b2 1 (.int .i64 (beN (tkB 4 (tkR 1 xs))))
  have G2 : Hid (w.grownBy (w2.setCell ⟨w.heap.size + 1, 1, none⟩ (.int .i64 (beN (tkB 4 (tkR 1 xs))))) (some p)) := grown_new (grown_trans G1.out g2) (by omega) 1 (.int .i64 (beN (tkB 4 (tkR 1 xs))))
  have HR2 : Hid (∀ x ∈ tkR 4 (tkR 1 xs), 0 ≤ x ∧ x ≤ 255) := tkR_range HR1.out
  have HX2 : Hid ((tkR 4 (tkR 1 xs)).length ≤ 70000) := Nat.le_trans (tkR_len _ _) HX1.out
  clear r2 g2 a2 b2 A1 B1 G1 H1 HR1 HX1
  go_wp2_with fail
  clear c2 f2
  refine (take_any 8 p B (tkR 4 (tkR 1 xs)) (tkS 4 (tkR 1 xs) (tkS 1 xs sh)) _ H2.out hB (by decide) HX2.out).mono ?_
  rintro e w3 ⟨tv, rfl, tu, r3, g3⟩
  have a3 := blk_kept A2.out g3 (by omega)
  have b3 := blk_kept B2.out g3 (by omega)
  obtain ⟨c3, f3⟩ := blk_cell b3 2 (x := .string ⟨#[]⟩) rfl
  have H3 : Hid (Rdr B (w3.setCell ⟨w.heap.size + 1, 2, none⟩ (.string (strOfNums (tkB 8 (tkR 4 (tkR 1 xs)))))) p (tkR 8 (tkR 4 (tkR 1 xs))) (tkS 8 (tkR 4 (tkR 1 xs)) (tkS 4 (tkR 1 xs) (tkS 1 xs sh)))) := rdr_set r3 (by omega) (by omega) 2 (.string (strOfNums (tkB 8 (tkR 4 (tkR 1 xs)))))
  have A3 : Hid ((w3.setCell ⟨w.heap.size + 1, 2, none⟩ (.string (strOfNums (tkB 8 (tkR 4 (tkR 1 xs)))))).heap[w.heap.size]? = some (.cells zrdg 43 (0, 0))) := (blk_far (by omega) 2 (.string (strOfNums (tkB 8 (tkR 4 (tkR 1 xs)))))).trans a3
  have B3 : Hid ((w3.setCell ⟨w.heap.size + 1, 2, none⟩ (.string (strOfNums (tkB 8 (tkR 4 (tkR 1 xs)))))).heap[w.heap.size + 1]? = some (.cells #[.int .i64 (beN (tkB 1 xs)), .int .i64 (beN (tkB 4 (tkR 1 xs))), .string (strOfNums (tkB 8 (tkR 4 (tkR 1 xs))))] 43 (0, 0))) := blk_set b3 2 (.string (strOfNums (tkB 8 (tkR 4 (tkR 1 xs)))))
  have G3 : Hid (w.grownBy (w3.setCell ⟨w.heap.size + 1, 2, none⟩ (.string (strOfNums (tkB 8 (tkR 4 (tkR 1 xs)))))) (some p)) := grown_new (grown_trans G2.out g3) (by omega) 2 (.string (strOfNums (tkB 8 (tkR 4 (tkR 1 xs)))))
  have hcv := run_convert_row (P := Try.prog) w3 B 50 5 9 Try.underlying50 Try.underlying5 Try.underlying9 tv _ tu
  clear tu
  clear r3 g3 a3 b3 A2 B2 G2 H2 HR2 HX2
  obtain ⟨ca0, fa0⟩ := blk_cell A3.out 0 (x := .int .i64 0) rfl
  have cb0 := (blk_cell B3.out 0 (x := .int .i64 (beN (tkB 1 xs))) rfl).1
  obtain ⟨ca1, fa1⟩ := blk_cell A3.out 1 (x := .int .i64 0) rfl
  have cb1 := (blk_cell B3.out 1 (x := .int .i64 (beN (tkB 4 (tkR 1 xs)))) rfl).1
  obtain ⟨ca2, fa2⟩ := blk_cell A3.out 2 (x := .string ⟨#[]⟩) rfl
  have cb2 := (blk_cell B3.out 2 (x := .string (strOfNums (tkB 8 (tkR 4 (tkR 1 xs))))) rfl).1
  have AF : ((((w3.setCell ⟨w.heap.size + 1, 2, none⟩ (.string (strOfNums (tkB 8 (tkR 4 (tkR 1 xs)))))).setCell ⟨w.heap.size, 0, none⟩ (.int .i64 (beN (tkB 1 xs)))).setCell ⟨w.heap.size, 1, none⟩ (.int .i64 (beN (tkB 4 (tkR 1 xs))))).setCell ⟨w.heap.size, 2, none⟩ (.string (strOfNums (tkB 8 (tkR 4 (tkR 1 xs)))))).heap[w.heap.size]? = some (.cells #[.int .i64 (beN (tkB 1 xs)), .int .i64 (beN (tkB 4 (tkR 1 xs))), .string (strOfNums (tkB 8 (tkR 4 (tkR 1 xs))))] 43 (0, 0)) := (blk_set (blk_set (blk_set A3.out 0 (.int .i64 (beN (tkB 1 xs)))) 1 (.int .i64 (beN (tkB 4 (tkR 1 xs))))) 2 (.string (strOfNums (tkB 8 (tkR 4 (tkR 1 xs))))))
  have RF : Rdr B ((((w3.setCell ⟨w.heap.size + 1, 2, none⟩ (.string (strOfNums (tkB 8 (tkR 4 (tkR 1 xs)))))).setCell ⟨w.heap.size, 0, none⟩ (.int .i64 (beN (tkB 1 xs)))).setCell ⟨w.heap.size, 1, none⟩ (.int .i64 (beN (tkB 4 (tkR 1 xs))))).setCell ⟨w.heap.size, 2, none⟩ (.string (strOfNums (tkB 8 (tkR 4 (tkR 1 xs)))))) p (tkR 8 (tkR 4 (tkR 1 xs))) (tkS 8 (tkR 4 (tkR 1 xs)) (tkS 4 (tkR 1 xs) (tkS 1 xs sh))) := (rdr_set (rdr_set (rdr_set H3.out (by omega) (by omega) 0 (.int .i64 (beN (tkB 1 xs)))) (by omega) (by omega) 1 (.int .i64 (beN (tkB 4 (tkR 1 xs))))) (by omega) (by omega) 2 (.string (strOfNums (tkB 8 (tkR 4 (tkR 1 xs))))))
  have GF : w.grownBy ((((w3.setCell ⟨w.heap.size + 1, 2, none⟩ (.string (strOfNums (tkB 8 (tkR 4 (tkR 1 xs)))))).setCell ⟨w.heap.size, 0, none⟩ (.int .i64 (beN (tkB 1 xs)))).setCell ⟨w.heap.size, 1, none⟩ (.int .i64 (beN (tkB 4 (tkR 1 xs))))).setCell ⟨w.heap.size, 2, none⟩ (.string (strOfNums (tkB 8 (tkR 4 (tkR 1 xs)))))) (some p) := (grown_new (grown_new (grown_new G3.out (Nat.le_refl _) 0 (.int .i64 (beN (tkB 1 xs)))) (Nat.le_refl _) 1 (.int .i64 (beN (tkB 4 (tkR 1 xs))))) (Nat.le_refl _) 2 (.string (strOfNums (tkB 8 (tkR 4 (tkR 1 xs))))))
  go_wp2_with fail
  generalize ((((w3.setCell ⟨w.heap.size + 1, 2, none⟩ (.string (strOfNums (tkB 8 (tkR 4 (tkR 1 xs)))))).setCell ⟨w.heap.size, 0, none⟩ (.int .i64 (beN (tkB 1 xs)))).setCell ⟨w.heap.size, 1, none⟩ (.int .i64 (beN (tkB 4 (tkR 1 xs))))).setCell ⟨w.heap.size, 2, none⟩ (.string (strOfNums (tkB 8 (tkR 4 (tkR 1 xs)))))) = wf at AF RF GF ⊢
  have d0 := (blk_cell AF 0 (x := .int .i64 (beN (tkB 1 xs))) rfl).1
  have d1 := (blk_cell AF 1 (x := .int .i64 (beN (tkB 4 (tkR 1 xs)))) rfl).1
  have d2 := (blk_cell AF 2 (x := .string (strOfNums (tkB 8 (tkR 4 (tkR 1 xs))))) rfl).1
  refine bodyPost_ret (v := .agg #[.int .i64 (beN (tkB 1 xs)), .int .i64 (beN (tkB 4 (tkR 1 xs))), .string (strOfNums (tkB 8 (tkR 4 (tkR 1 xs))))]) (by simp [results, Try.results27, go_sem, d0, d1, d2]) rfl ⟨rfl, RF, GF⟩
end Go.Proofs.Ytkmnjnblacmjlaa.Rr
