/- Clients: their cells, opened, measured, copied, compared. -/
import Derived.Test.YtdhmmbbdckahmaaCla
import Derived.Test.YtdhmmbbdckahmaaReqLaw
import Derived.OpenShut
import Derived.Deep.Fields
namespace Go.Proofs.Ytdhmmbbdckahmaa.Cl
open Go.RowKit Go.Proofs.Ytdhmmbbdckahmaa.Sl Go.Proofs.Ytdhmmbbdckahmaa.Rg
open Go.Proofs.Ytdhmmbbdckahmaa.Gy (Re)
open Go.Proofs.Ytdhmmbbdckahmaa.Rk (An)
open Go.Proofs.Ytdhmmbbdckahmaa.Rq (reqV eqRequest_same)

structure Cd where
  id : Int
  st : Int
  bu : Bool
  rc : Int
  rs : Int
  rk : Int
  rl : Int
  rn : ByteArray
  re : List Re
  ac : List An
def clV (c : Cd) (vr va : Value) : Value := .agg #[.int .i64 c.id, .int .i64 c.st, .bool c.bu, .int .i64 c.rc, .int .i64 c.rs, .int .i64 c.rk, .int .i64 c.rl, .string c.rn, vr, va]
/-- The client's lists lie in these slices. -/
def Has (w : World) (c : Cd) (vr va : Value) : Prop := Gy.Row w vr c.re ∧ Ga.Row w va c.ac
theorem Has.below {w w' : World} {c : Cd} {vr va : Value} (h : Has w c vr va) (hb : Below w.heap.size w w') : Has w' c vr va := ⟨h.1.below hb, h.2.below hb⟩
theorem cell_blk {w w' : World} {g : Nat} (h : w'.heap[g]? = w.heap[g]?) (k : Nat) : w'.cell? ⟨g, k, none⟩ = w.cell? ⟨g, k, none⟩ := by simp only [World.cell?, h]
/-- All of the client that is measured is within n. -/
def Tc (n : Nat) (c : Cd) : Prop := c.rn.size ≤ n ∧ c.re.length ≤ n ∧ c.ac.length ≤ n ∧ ∀ x ∈ c.re, Gy.Tz n x
/-- Ten cells of a block are written. -/
theorem set10 {w : World} {b : Nat} {t : TypeId} (z0 z1 z2 z3 z4 z5 z6 z7 z8 z9 v0 v1 v2 v3 v4 v5 v6 v7 v8 v9 : Value) (h : w.heap[b]? = some (.cells #[z0, z1, z2, z3, z4, z5, z6, z7, z8, z9] t (0, 0))) :
    ((((((((((w.setCell ⟨b, 0, none⟩ v0).setCell ⟨b, 1, none⟩ v1).setCell ⟨b, 2, none⟩ v2).setCell ⟨b, 3, none⟩ v3).setCell ⟨b, 4, none⟩ v4).setCell ⟨b, 5, none⟩ v5).setCell ⟨b, 6, none⟩ v6).setCell ⟨b, 7, none⟩ v7).setCell ⟨b, 8, none⟩ v8).setCell ⟨b, 9, none⟩ v9).heap[b]? = some (.cells #[v0, v1, v2, v3, v4, v5, v6, v7, v8, v9] t (0, 0)) ∧ (∀ k, k ≠ b → ((((((((((w.setCell ⟨b, 0, none⟩ v0).setCell ⟨b, 1, none⟩ v1).setCell ⟨b, 2, none⟩ v2).setCell ⟨b, 3, none⟩ v3).setCell ⟨b, 4, none⟩ v4).setCell ⟨b, 5, none⟩ v5).setCell ⟨b, 6, none⟩ v6).setCell ⟨b, 7, none⟩ v7).setCell ⟨b, 8, none⟩ v8).setCell ⟨b, 9, none⟩ v9).heap[k]? = w.heap[k]?) ∧ ∀ {B : Nat} {w0 : World}, Below B w0 w → B ≤ b → Below B w0 ((((((((((w.setCell ⟨b, 0, none⟩ v0).setCell ⟨b, 1, none⟩ v1).setCell ⟨b, 2, none⟩ v2).setCell ⟨b, 3, none⟩ v3).setCell ⟨b, 4, none⟩ v4).setCell ⟨b, 5, none⟩ v5).setCell ⟨b, 6, none⟩ v6).setCell ⟨b, 7, none⟩ v7).setCell ⟨b, 8, none⟩ v8).setCell ⟨b, 9, none⟩ v9) := by
  refine ⟨?_, fun k hk => (Rg.blk_far hk 9 v9).trans ((Rg.blk_far hk 8 v8).trans ((Rg.blk_far hk 7 v7).trans ((Rg.blk_far hk 6 v6).trans ((Rg.blk_far hk 5 v5).trans ((Rg.blk_far hk 4 v4).trans ((Rg.blk_far hk 3 v3).trans ((Rg.blk_far hk 2 v2).trans ((Rg.blk_far hk 1 v1).trans (Rg.blk_far hk 0 v0))))))))), fun hb hB => (Below.setCell (Below.setCell (Below.setCell (Below.setCell (Below.setCell (Below.setCell (Below.setCell (Below.setCell (Below.setCell (Below.setCell hb (p := ⟨b, 0, none⟩) hB v0) (p := ⟨b, 1, none⟩) hB v1) (p := ⟨b, 2, none⟩) hB v2) (p := ⟨b, 3, none⟩) hB v3) (p := ⟨b, 4, none⟩) hB v4) (p := ⟨b, 5, none⟩) hB v5) (p := ⟨b, 6, none⟩) hB v6) (p := ⟨b, 7, none⟩) hB v7) (p := ⟨b, 8, none⟩) hB v8) (p := ⟨b, 9, none⟩) hB v9)⟩
  have := (Rg.blk_set (Rg.blk_set (Rg.blk_set (Rg.blk_set (Rg.blk_set (Rg.blk_set (Rg.blk_set (Rg.blk_set (Rg.blk_set (Rg.blk_set h 0 v0) 1 v1) 2 v2) 3 v3) 4 v4) 5 v5) 6 v6) 7 v7) 8 v8) 9 v9)
  simpa only [List.setIfInBounds_toArray, List.set_cons_zero, List.set_cons_succ] using this
/-- Rows in a block that nothing was written into stay. -/
def AtR (w : World) (g : Nat) (xs : List Re) : Prop := (∀ i x, xs[i]? = some x → Gy.E1 w g (i * 8) x) ∧ Wr w g (xs.length * 8)
def AtA (w : World) (g : Nat) (xs : List An) : Prop := (∀ i x, xs[i]? = some x → Ga.E1 w g (i * 4) x) ∧ Wr w g (xs.length * 4)
theorem AtR.keep {w w' : World} {g : Nat} {xs : List Re} (h : AtR w g xs) (hk : w'.heap[g]? = w.heap[g]?) : AtR w' g xs := by
  refine ⟨fun i x hi => ?_, ?_⟩
  · have := h.1 i x hi
    unfold Gy.E1 at this ⊢
    simp only [cell_blk hk]
    exact this
  · obtain ⟨A, t, h1, h2⟩ := h.2
    exact ⟨A, t, hk.trans h1, h2⟩
theorem AtA.keep {w w' : World} {g : Nat} {xs : List An} (h : AtA w g xs) (hk : w'.heap[g]? = w.heap[g]?) : AtA w' g xs := by
  refine ⟨fun i x hi => ?_, ?_⟩
  · have := h.1 i x hi
    unfold Ga.E1 at this ⊢
    simp only [cell_blk hk]
    exact this
  · obtain ⟨A, t, h1, h2⟩ := h.2
    exact ⟨A, t, hk.trans h1, h2⟩
theorem AtR.lt {w : World} {g : Nat} {xs : List Re} (h : AtR w g xs) : g < w.heap.size := by
  obtain ⟨A, t, h1, _⟩ := h.2
  exact (Array.getElem?_eq_some_iff.1 h1).1
theorem AtA.lt {w : World} {g : Nat} {xs : List An} (h : AtA w g xs) : g < w.heap.size := by
  obtain ⟨A, t, h1, _⟩ := h.2
  exact (Array.getElem?_eq_some_iff.1 h1).1
set_option maxRecDepth 100000 in
set_option maxHeartbeats 1600000 in
theorem eqC_same (c : Cd) (va vb ua ub : Value) (w : World) (ra : Has w c va vb) (ta : Has w c ua ub) (hz : c.re.length ≤ 1048576 ∧ c.ac.length ≤ 1048576) :
    Calls Try.prog 36 #[clV c va vb, clV c ua ub] w fun e w' => e = .returned (.bool true) ∧ Below w.heap.size w w' := by
  have HN : Hid (∀ W, Below w.heap.size w W → Has W c va vb ∧ Has W c ua ub) := fun W hW => ⟨ra.below hW, ta.below hW⟩
  have HZ : Hid (c.re.length ≤ 1048576 ∧ c.ac.length ≤ 1048576) := hz
  obtain ⟨a1, k1, rfl⟩ := RowG.slice ra.1
  obtain ⟨a2, k2, rfl⟩ := RowG.slice ra.2
  obtain ⟨e1, l1, rfl⟩ := RowG.slice ta.1
  obtain ⟨e2, l2, rfl⟩ := RowG.slice ta.2
  clear ra ta hz
  have HX : Hid (∀ W, Below ((w.alloc (.cells #[.int .i64 c.id, .int .i64 c.st, .bool c.bu, .int .i64 c.rc, .int .i64 c.rs, .int .i64 c.rk, .int .i64 c.rl, .string c.rn, .slice a1 c.re.length k1, .slice a2 c.ac.length k2] 49)).alloc (.cells #[.int .i64 c.id, .int .i64 c.st, .bool c.bu, .int .i64 c.rc, .int .i64 c.rs, .int .i64 c.rk, .int .i64 c.rl, .string c.rn, .slice e1 c.re.length l1, .slice e2 c.ac.length l2] 49)).heap.size ((w.alloc (.cells #[.int .i64 c.id, .int .i64 c.st, .bool c.bu, .int .i64 c.rc, .int .i64 c.rs, .int .i64 c.rk, .int .i64 c.rl, .string c.rn, .slice a1 c.re.length k1, .slice a2 c.ac.length k2] 49)).alloc (.cells #[.int .i64 c.id, .int .i64 c.st, .bool c.bu, .int .i64 c.rc, .int .i64 c.rs, .int .i64 c.rk, .int .i64 c.rl, .string c.rn, .slice e1 c.re.length l1, .slice e2 c.ac.length l2] 49)) W → ((W.cell? ⟨w.heap.size, 0, none⟩ = some (.int .i64 c.id) ∧ W.cell? ⟨w.heap.size, 1, none⟩ = some (.int .i64 c.st) ∧ W.cell? ⟨w.heap.size, 2, none⟩ = some (.bool c.bu) ∧ W.cell? ⟨w.heap.size, 3, none⟩ = some (.int .i64 c.rc) ∧ W.cell? ⟨w.heap.size, 4, none⟩ = some (.int .i64 c.rs) ∧ W.cell? ⟨w.heap.size, 5, none⟩ = some (.int .i64 c.rk) ∧ W.cell? ⟨w.heap.size, 6, none⟩ = some (.int .i64 c.rl) ∧ W.cell? ⟨w.heap.size, 7, none⟩ = some (.string c.rn) ∧ W.cell? ⟨w.heap.size, 8, none⟩ = some (.slice a1 c.re.length k1) ∧ W.cell? ⟨w.heap.size, 9, none⟩ = some (.slice a2 c.ac.length k2)) ∧ (W.cell? ⟨w.heap.size + 1, 0, none⟩ = some (.int .i64 c.id) ∧ W.cell? ⟨w.heap.size + 1, 1, none⟩ = some (.int .i64 c.st) ∧ W.cell? ⟨w.heap.size + 1, 2, none⟩ = some (.bool c.bu) ∧ W.cell? ⟨w.heap.size + 1, 3, none⟩ = some (.int .i64 c.rc) ∧ W.cell? ⟨w.heap.size + 1, 4, none⟩ = some (.int .i64 c.rs) ∧ W.cell? ⟨w.heap.size + 1, 5, none⟩ = some (.int .i64 c.rk) ∧ W.cell? ⟨w.heap.size + 1, 6, none⟩ = some (.int .i64 c.rl) ∧ W.cell? ⟨w.heap.size + 1, 7, none⟩ = some (.string c.rn) ∧ W.cell? ⟨w.heap.size + 1, 8, none⟩ = some (.slice e1 c.re.length l1) ∧ W.cell? ⟨w.heap.size + 1, 9, none⟩ = some (.slice e2 c.ac.length l2))) ∧ Below w.heap.size w W) := fun W hW => by
    obtain ⟨h1, h2, h3⟩ := Gy.two hW
    exact ⟨⟨⟨(Rg.blk_cell h1 0 rfl).1, (Rg.blk_cell h1 1 rfl).1, (Rg.blk_cell h1 2 rfl).1, (Rg.blk_cell h1 3 rfl).1, (Rg.blk_cell h1 4 rfl).1, (Rg.blk_cell h1 5 rfl).1, (Rg.blk_cell h1 6 rfl).1, (Rg.blk_cell h1 7 rfl).1, (Rg.blk_cell h1 8 rfl).1, (Rg.blk_cell h1 9 rfl).1⟩, ⟨(Rg.blk_cell h2 0 rfl).1, (Rg.blk_cell h2 1 rfl).1, (Rg.blk_cell h2 2 rfl).1, (Rg.blk_cell h2 3 rfl).1, (Rg.blk_cell h2 4 rfl).1, (Rg.blk_cell h2 5 rfl).1, (Rg.blk_cell h2 6 rfl).1, (Rg.blk_cell h2 7 rfl).1, (Rg.blk_cell h2 8 rfl).1, (Rg.blk_cell h2 9 rfl).1⟩⟩, h3⟩
  have HG : Hid (∀ W, Calls Try.prog 56 #[.agg #[.int .i64 c.rc, .int .i64 c.rs, .int .i64 c.rk, .int .i64 c.rl, .string c.rn], .agg #[.int .i64 c.rc, .int .i64 c.rs, .int .i64 c.rk, .int .i64 c.rl, .string c.rn]] W fun e w' => e = .returned (.bool true) ∧ Below W.heap.size W w') := fun W => eqRequest_same c.rc c.rs c.rk c.rl c.rn W
  have q0 : (c.id != c.id) = false := by simp
  have q1 : (c.st != c.st) = false := by simp
  have q2 : (c.bu != c.bu) = false := by simp
  have q3 : (!(c.bu == c.bu)) = false := by simp
  have q4 : (c.bu == c.bu) = true := by simp
  unfold clV
  go_enter Try.func36, Try.ntmps36
  go_upto_region 1 with fail
  generalize ((w.alloc (.cells #[.int .i64 c.id, .int .i64 c.st, .bool c.bu, .int .i64 c.rc, .int .i64 c.rs, .int .i64 c.rk, .int .i64 c.rl, .string c.rn, .slice a1 c.re.length k1, .slice a2 c.ac.length k2] 49)).alloc (.cells #[.int .i64 c.id, .int .i64 c.st, .bool c.bu, .int .i64 c.rc, .int .i64 c.rs, .int .i64 c.rk, .int .i64 c.rl, .string c.rn, .slice e1 c.re.length l1, .slice e2 c.ac.length l2] 49)) = wb at HX ⊢
  obtain ⟨⟨⟨c0, c1, c2, c3, c4, c5, c6, c7, c8, c9⟩, ⟨d0, d1, d2, d3, d4, d5, d6, d7, d8, d9⟩⟩, g0⟩ := HX.out wb (Below.refl _ _)
  go_wp2_with fail
  refine (HG.out _).mono ?_
  rintro e w1 ⟨rfl, b1⟩
  have B1 : Hid (Below wb.heap.size wb w1) := b1
  clear b1 c0 c1 c2 c3 c4 c5 c6 c7 c8 c9 d0 d1 d2 d3 d4 d5 d6 d7 d8 d9 g0
  obtain ⟨⟨⟨c0, c1, c2, c3, c4, c5, c6, c7, c8, c9⟩, ⟨d0, d1, d2, d3, d4, d5, d6, d7, d8, d9⟩⟩, g1⟩ := HX.out w1 B1.out
  have E1 := Gy.eqS_same _ _ c.re w1 (HN.out _ g1).1.1 (HN.out _ g1).2.1 HZ.out.1
  clear g1
  go_wp2_with fail
  refine E1.mono ?_
  rintro e w2 ⟨rfl, b2⟩
  have B2 : Hid (Below wb.heap.size wb w2) := B1.out.trans (b2.mono B1.out.size)
  clear b2 E1 B1 c0 c1 c2 c3 c4 c5 c6 c7 c8 c9 d0 d1 d2 d3 d4 d5 d6 d7 d8 d9
  obtain ⟨⟨⟨c0, c1, c2, c3, c4, c5, c6, c7, c8, c9⟩, ⟨d0, d1, d2, d3, d4, d5, d6, d7, d8, d9⟩⟩, g1⟩ := HX.out w2 B2.out
  have E2 := Ga.eqS_same _ _ c.ac w2 (HN.out _ g1).1.2 (HN.out _ g1).2.2 HZ.out.2
  clear g1
  go_wp2_with fail
  refine E2.mono ?_
  rintro e w3 ⟨rfl, b3⟩
  have G3 : Hid (Below w.heap.size w w3) := (HX.out _ (B2.out.trans (b3.mono B2.out.size))).2
  clear b3 E2 B2 HX c0 c1 c2 c3 c4 c5 c6 c7 c8 c9 d0 d1 d2 d3 d4 d5 d6 d7 d8 d9
  go_wp2_with fail
  go_ret
  exact ⟨rfl, G3.out⟩
end Go.Proofs.Ytdhmmbbdckahmaa.Cl
namespace Go.Proofs.Ytdhmmbbdckahmaa.Op
open Go.ChangeShapes Go.WideShapes Go.ChangeAt Go.RowKit Go.Deep
end Go.Proofs.Ytdhmmbbdckahmaa.Op
