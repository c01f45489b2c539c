/- Clients: their cells, opened, measured, copied, compared. -/
import Derived.Test.YtmbnfpifganeeaaGreatDoorCla
import Derived.Test.YtmbnfpifganeeaaGreatDoorReqLaw
import Derived.OpenShut
import Derived.Deep.Fields
namespace Go.Proofs.YtmbnfpifganeeaaGreatDoor.Cl
open Go.RowKit Go.Proofs.YtmbnfpifganeeaaGreatDoor.Sl Go.Proofs.YtmbnfpifganeeaaGreatDoor.Rg
open Go.Proofs.YtmbnfpifganeeaaGreatDoor.Gy (Re)
open Go.Proofs.YtmbnfpifganeeaaGreatDoor.Rk (An)
open Go.Proofs.YtmbnfpifganeeaaGreatDoor.Rq (reqV szRequest_any toRequest_any eqRequest_same)

structure Cd where
  id : Int
  st : Int
  bu : Bool
  rc : Int
  rs : Int
  rk : Int
  rl : Int
  rn : ByteArray
  re : List Re
  ac : List An
def clV (c : Cd) (vr va : Value) : Value := .agg #[.int .i64 c.id, .int .i64 c.st, .bool c.bu, .int .i64 c.rc, .int .i64 c.rs, .int .i64 c.rk, .int .i64 c.rl, .string c.rn, vr, va]
/-- The client's lists lie in these slices. -/
def Has (w : World) (c : Cd) (vr va : Value) : Prop := Gy.Row w vr c.re ∧ Ga.Row w va c.ac
theorem Has.below {w w' : World} {c : Cd} {vr va : Value} (h : Has w c vr va) (hb : Below w.heap.size w w') : Has w' c vr va := ⟨h.1.below hb, h.2.below hb⟩
theorem cell_blk {w w' : World} {g : Nat} (h : w'.heap[g]? = w.heap[g]?) (k : Nat) : w'.cell? ⟨g, k, none⟩ = w.cell? ⟨g, k, none⟩ := by simp only [World.cell?, h]
/-- All of the client that is measured is within n. -/
def Tc (n : Nat) (c : Cd) : Prop := c.rn.size ≤ n ∧ c.re.length ≤ n ∧ c.ac.length ≤ n ∧ ∀ x ∈ c.re, Gy.Tz n x
set_option maxRecDepth 100000 in
set_option maxHeartbeats 1600000 in
theorem szC_any (c : Cd) (vr va : Value) (w : World) (h : Has w c vr va) (hz : Tc maxLen c) :
    Calls Tryz.prog 4 #[clV c vr va, .int .i64 (1048576 : Nat)] w fun e w' => (∃ r : Int, e = .returned (.int .i64 r) ∧ (r = -1 ∨ ∃ q : Nat, r = q ∧ q ≤ 1048576 ∧ Tc 1048576 c)) ∧ Below w.heap.size w w' := by
  have HR : Hid (∀ W, Below w.heap.size w W → Has W c vr va) := fun W hW => h.below hW
  have HZ : Hid (Tc maxLen c) := hz
  obtain ⟨ar, kr, rfl⟩ := RowG.slice h.1
  obtain ⟨aa, ka, rfl⟩ := RowG.slice h.2
  clear h hz
  have HX : Hid (∀ W, Below (w.alloc (.cells #[.int .i64 c.id, .int .i64 c.st, .bool c.bu, .int .i64 c.rc, .int .i64 c.rs, .int .i64 c.rk, .int .i64 c.rl, .string c.rn, .slice ar c.re.length kr, .slice aa c.ac.length ka] 27)).heap.size (w.alloc (.cells #[.int .i64 c.id, .int .i64 c.st, .bool c.bu, .int .i64 c.rc, .int .i64 c.rs, .int .i64 c.rk, .int .i64 c.rl, .string c.rn, .slice ar c.re.length kr, .slice aa c.ac.length ka] 27)) W → (W.cell? ⟨w.heap.size, 0, none⟩ = some (.int .i64 c.id) ∧ W.cell? ⟨w.heap.size, 1, none⟩ = some (.int .i64 c.st) ∧ W.cell? ⟨w.heap.size, 2, none⟩ = some (.bool c.bu) ∧ W.cell? ⟨w.heap.size, 3, none⟩ = some (.int .i64 c.rc) ∧ W.cell? ⟨w.heap.size, 4, none⟩ = some (.int .i64 c.rs) ∧ W.cell? ⟨w.heap.size, 5, none⟩ = some (.int .i64 c.rk) ∧ W.cell? ⟨w.heap.size, 6, none⟩ = some (.int .i64 c.rl) ∧ W.cell? ⟨w.heap.size, 7, none⟩ = some (.string c.rn) ∧ W.cell? ⟨w.heap.size, 8, none⟩ = some (.slice ar c.re.length kr) ∧ W.cell? ⟨w.heap.size, 9, none⟩ = some (.slice aa c.ac.length ka)) ∧ Below w.heap.size w W) := fun W hW => by
    have h1 := (hW.block w.heap.size (by simp)).trans (heap_alloc_new w _)
    exact ⟨⟨(Rg.blk_cell h1 0 rfl).1, (Rg.blk_cell h1 1 rfl).1, (Rg.blk_cell h1 2 rfl).1, (Rg.blk_cell h1 3 rfl).1, (Rg.blk_cell h1 4 rfl).1, (Rg.blk_cell h1 5 rfl).1, (Rg.blk_cell h1 6 rfl).1, (Rg.blk_cell h1 7 rfl).1, (Rg.blk_cell h1 8 rfl).1, (Rg.blk_cell h1 9 rfl).1⟩, (bel_new w _).trans (hW.mono (by simp))⟩
  have HSG : Hid (∀ W, Calls Tryz.prog 13 #[.agg #[.int .i64 c.rc, .int .i64 c.rs, .int .i64 c.rk, .int .i64 c.rl, .string c.rn], .int .i64 (1048576 : Nat)] W fun e w' => e = .returned (.int .i64 (Rq.lft (1048576 : Nat) (c.rn.size : Int))) ∧ Below W.heap.size W w') := fun W => szRequest_any c.rc c.rs c.rk c.rl c.rn (1048576 : Nat) W HZ.out.1 (by decide) (by decide)
  unfold clV
  go_enter Tryz.func4, Tryz.ntmps4
  go_upto_region 1 with fail
  generalize w.alloc (.cells #[.int .i64 c.id, .int .i64 c.st, .bool c.bu, .int .i64 c.rc, .int .i64 c.rs, .int .i64 c.rk, .int .i64 c.rl, .string c.rn, .slice ar c.re.length kr, .slice aa c.ac.length ka] 27) = wb at HX ⊢
  obtain ⟨⟨c0, c1, c2, c3, c4, c5, c6, c7, c8, c9⟩, g0⟩ := HX.out wb (Below.refl _ _)
  go_wp2_with fail
  refine (HSG.out _).mono ?_
  rintro e w1 ⟨rfl, b1⟩
  have B1 : Hid (Below wb.heap.size wb w1) := b1
  clear b1 c0 c1 c2 c3 c4 c5 c6 c7 c8 c9 g0
  by_cases hlt : ((1048576 : Nat) : Int) < (c.rn.size : Int)
  · rw [Rq.lft_no hlt]
    have G1 : Hid (Below w.heap.size w w1) := (HX.out _ B1.out).2
    clear HX
    go_wp2_with fail
    go_ret
    exact ⟨⟨-1, rfl, .inl rfl⟩, G1.out⟩
  rw [Rq.lft_yes hlt]
  have HN : Hid (c.rn.size ≤ 1048576) := by show _ ≤ _; omega
  obtain ⟨q, hq⟩ : ∃ q : Nat, ((1048576 : Nat) : Int) - (c.rn.size : Int) = (q : Int) := ⟨1048576 - c.rn.size, by omega⟩
  have hq1 : q ≤ 1048576 := by omega
  rw [hq]
  clear hq hlt
  have hq0 : ¬ (q : Int) < 0 := by omega
  obtain ⟨⟨c0, c1, c2, c3, c4, c5, c6, c7, c8, c9⟩, g1⟩ := HX.out w1 B1.out
  have HSN := Gy.szS_any _ c.re q w1 (HR.out _ g1).1 HZ.out.2.2.2 HZ.out.2.1 hq1
  clear g1
  go_wp2_with fail
  refine HSN.mono ?_
  rintro e w2 ⟨⟨r, rfl, hr⟩, b2⟩
  have B2 : Hid (Below wb.heap.size wb w2) := B1.out.trans (b2.mono B1.out.size)
  clear HSN c0 c1 c2 c3 c4 c5 c6 c7 c8 c9 hq0 b2
  rcases hr with rfl | ⟨q2, rfl, hq2, hnl, hnt⟩
  · have G1 : Hid (Below w.heap.size w w2) := (HX.out _ B2.out).2
    clear HX
    go_wp2_with fail
    go_ret
    exact ⟨⟨-1, rfl, .inl rfl⟩, G1.out⟩
  have hq0 : ¬ (q2 : Int) < 0 := by omega
  obtain ⟨⟨c0, c1, c2, c3, c4, c5, c6, c7, c8, c9⟩, g1⟩ := HX.out w2 B2.out
  have HSK := Ga.szS_any _ c.ac q2 w2 (HR.out _ g1).2 HZ.out.2.2.1 hq2
  have HNL : Hid (c.re.length ≤ 1048576 ∧ ∀ x ∈ c.re, Gy.Tz 1048576 x) := ⟨hnl, hnt⟩
  clear g1 hnl hnt
  go_wp2_with fail
  refine HSK.mono ?_
  rintro e w3 ⟨⟨r, rfl, hr⟩, b3⟩
  have G3 : Hid (Below w.heap.size w w3) := (HX.out _ (B2.out.trans (b3.mono B2.out.size))).2
  clear HSK c0 c1 c2 c3 c4 c5 c6 c7 c8 c9 hq0 b3 HX
  rcases hr with rfl | ⟨q3, rfl, hq3, hal⟩
  · go_wp2_with fail
    go_ret
    exact ⟨⟨-1, rfl, .inl rfl⟩, G3.out⟩
  · have hq0 : ¬ (q3 : Int) < 0 := by omega
    go_wp2_with fail
    go_ret
    exact ⟨⟨q3, rfl, .inr ⟨q3, rfl, hq3, HN.out, HNL.out.1, hal, HNL.out.2⟩⟩, G3.out⟩
/-- Ten cells of a block are written. -/
theorem set10 {w : World} {b : Nat} {t : TypeId} (z0 z1 z2 z3 z4 z5 z6 z7 z8 z9 v0 v1 v2 v3 v4 v5 v6 v7 v8 v9 : Value) (h : w.heap[b]? = some (.cells #[z0, z1, z2, z3, z4, z5, z6, z7, z8, z9] t (0, 0))) :
    ((((((((((w.setCell ⟨b, 0, none⟩ v0).setCell ⟨b, 1, none⟩ v1).setCell ⟨b, 2, none⟩ v2).setCell ⟨b, 3, none⟩ v3).setCell ⟨b, 4, none⟩ v4).setCell ⟨b, 5, none⟩ v5).setCell ⟨b, 6, none⟩ v6).setCell ⟨b, 7, none⟩ v7).setCell ⟨b, 8, none⟩ v8).setCell ⟨b, 9, none⟩ v9).heap[b]? = some (.cells #[v0, v1, v2, v3, v4, v5, v6, v7, v8, v9] t (0, 0)) ∧ (∀ k, k ≠ b → ((((((((((w.setCell ⟨b, 0, none⟩ v0).setCell ⟨b, 1, none⟩ v1).setCell ⟨b, 2, none⟩ v2).setCell ⟨b, 3, none⟩ v3).setCell ⟨b, 4, none⟩ v4).setCell ⟨b, 5, none⟩ v5).setCell ⟨b, 6, none⟩ v6).setCell ⟨b, 7, none⟩ v7).setCell ⟨b, 8, none⟩ v8).setCell ⟨b, 9, none⟩ v9).heap[k]? = w.heap[k]?) ∧ ∀ {B : Nat} {w0 : World}, Below B w0 w → B ≤ b → Below B w0 ((((((((((w.setCell ⟨b, 0, none⟩ v0).setCell ⟨b, 1, none⟩ v1).setCell ⟨b, 2, none⟩ v2).setCell ⟨b, 3, none⟩ v3).setCell ⟨b, 4, none⟩ v4).setCell ⟨b, 5, none⟩ v5).setCell ⟨b, 6, none⟩ v6).setCell ⟨b, 7, none⟩ v7).setCell ⟨b, 8, none⟩ v8).setCell ⟨b, 9, none⟩ v9) := by
  refine ⟨?_, fun k hk => (Rg.blk_far hk 9 v9).trans ((Rg.blk_far hk 8 v8).trans ((Rg.blk_far hk 7 v7).trans ((Rg.blk_far hk 6 v6).trans ((Rg.blk_far hk 5 v5).trans ((Rg.blk_far hk 4 v4).trans ((Rg.blk_far hk 3 v3).trans ((Rg.blk_far hk 2 v2).trans ((Rg.blk_far hk 1 v1).trans (Rg.blk_far hk 0 v0))))))))), fun hb hB => (Below.setCell (Below.setCell (Below.setCell (Below.setCell (Below.setCell (Below.setCell (Below.setCell (Below.setCell (Below.setCell (Below.setCell hb (p := ⟨b, 0, none⟩) hB v0) (p := ⟨b, 1, none⟩) hB v1) (p := ⟨b, 2, none⟩) hB v2) (p := ⟨b, 3, none⟩) hB v3) (p := ⟨b, 4, none⟩) hB v4) (p := ⟨b, 5, none⟩) hB v5) (p := ⟨b, 6, none⟩) hB v6) (p := ⟨b, 7, none⟩) hB v7) (p := ⟨b, 8, none⟩) hB v8) (p := ⟨b, 9, none⟩) hB v9)⟩
  have := (Rg.blk_set (Rg.blk_set (Rg.blk_set (Rg.blk_set (Rg.blk_set (Rg.blk_set (Rg.blk_set (Rg.blk_set (Rg.blk_set (Rg.blk_set h 0 v0) 1 v1) 2 v2) 3 v3) 4 v4) 5 v5) 6 v6) 7 v7) 8 v8) 9 v9)
  simpa only [List.setIfInBounds_toArray, List.set_cons_zero, List.set_cons_succ] using this
/-- While a client is copied: the box, the result, the copy. -/
structure Cq (w W : World) (A X : Array Value) : Prop where
  bx : W.heap[w.heap.size]? = some (.cells A 27 (0, 0))
  rs : W.heap[w.heap.size + 1]? = some (.cells #[.int .i64 0, .int .i64 0, .bool false, .int .i64 0, .int .i64 0, .int .i64 0, .int .i64 0, .string ByteArray.empty, .slice none 0 0, .slice none 0 0] 38 (0, 0))
  ou : W.heap[w.heap.size + 1 + 1]? = some (.cells X 38 (0, 0))
  be : Below w.heap.size w W
  sz : w.heap.size + 1 + 1 + 1 ≤ W.heap.size
theorem Cq.below {w W W' : World} {A X : Array Value} (h : Cq w W A X) (b : Below W.heap.size W W') : Cq w W' A X := by
  have hs := h.sz
  have hs2 := b.size
  exact ⟨(b.block _ (by omega)).trans h.bx, (b.block _ (by omega)).trans h.rs, (b.block _ (by omega)).trans h.ou, h.be.trans (b.mono h.be.size), by omega⟩
theorem Cq.set {w W : World} {A X : Array Value} (h : Cq w W A X) (j : Nat) (y : Value) : Cq w (W.setCell ⟨w.heap.size + 1 + 1, j, none⟩ y) A (X.setIfInBounds j y) :=
  ⟨(Rg.blk_far (by omega) j y).trans h.bx, (Rg.blk_far (by omega) j y).trans h.rs, Rg.blk_set h.ou j y, Below.setCell h.be (p := ⟨w.heap.size + 1 + 1, j, none⟩) (by simp <;> omega) y, by simpa using h.sz⟩
theorem startC (w : World) (A X : Array Value) : Cq w (((w.alloc (.cells A 27)).alloc (.cells #[.int .i64 0, .int .i64 0, .bool false, .int .i64 0, .int .i64 0, .int .i64 0, .int .i64 0, .string ByteArray.empty, .slice none 0 0, .slice none 0 0] 38)).alloc (.cells X 38)) A X := by
  have s1 := Rg.size_new w (.cells A 27)
  have s2 := Rg.size_new (w.alloc (.cells A 27)) (.cells #[.int .i64 0, .int .i64 0, .bool false, .int .i64 0, .int .i64 0, .int .i64 0, .int .i64 0, .string ByteArray.empty, .slice none 0 0, .slice none 0 0] 38)
  have e2 := Rg.blk_new (w.alloc (.cells A 27)) #[.int .i64 0, .int .i64 0, .bool false, .int .i64 0, .int .i64 0, .int .i64 0, .int .i64 0, .string ByteArray.empty, .slice none 0 0, .slice none 0 0] 38
  have e3 := Rg.blk_new ((w.alloc (.cells A 27)).alloc (.cells #[.int .i64 0, .int .i64 0, .bool false, .int .i64 0, .int .i64 0, .int .i64 0, .int .i64 0, .string ByteArray.empty, .slice none 0 0, .slice none 0 0] 38)) X 38
  rw [s1] at e2
  rw [s2, s1] at e3
  have h1 := bel_new w (.cells A 27)
  have h2 := h1.alloc h1.size (.cells #[.int .i64 0, .int .i64 0, .bool false, .int .i64 0, .int .i64 0, .int .i64 0, .int .i64 0, .string ByteArray.empty, .slice none 0 0, .slice none 0 0] 38)
  exact ⟨(Below.heap_alloc _ _ _ (by omega)).trans ((Below.heap_alloc _ _ _ (by omega)).trans (Rg.blk_new _ _ _)), (Below.heap_alloc _ _ _ (by omega)).trans e2, e3, h2.alloc h2.size _, by rw [Rg.size_new, s2, s1]; exact Nat.le_refl _⟩
/-- Rows in a block that nothing was written into stay. -/
def AtR (w : World) (g : Nat) (xs : List Re) : Prop := (∀ i x, xs[i]? = some x → Gy.E1 w g (i * 8) x) ∧ Wr w g (xs.length * 8)
def AtA (w : World) (g : Nat) (xs : List An) : Prop := (∀ i x, xs[i]? = some x → Ga.E1 w g (i * 4) x) ∧ Wr w g (xs.length * 4)
theorem AtR.keep {w w' : World} {g : Nat} {xs : List Re} (h : AtR w g xs) (hk : w'.heap[g]? = w.heap[g]?) : AtR w' g xs := by
  refine ⟨fun i x hi => ?_, ?_⟩
  · have := h.1 i x hi
    unfold Gy.E1 at this ⊢
    simp only [cell_blk hk]
    exact this
  · obtain ⟨A, t, h1, h2⟩ := h.2
    exact ⟨A, t, hk.trans h1, h2⟩
theorem AtA.keep {w w' : World} {g : Nat} {xs : List An} (h : AtA w g xs) (hk : w'.heap[g]? = w.heap[g]?) : AtA w' g xs := by
  refine ⟨fun i x hi => ?_, ?_⟩
  · have := h.1 i x hi
    unfold Ga.E1 at this ⊢
    simp only [cell_blk hk]
    exact this
  · obtain ⟨A, t, h1, h2⟩ := h.2
    exact ⟨A, t, hk.trans h1, h2⟩
theorem AtR.lt {w : World} {g : Nat} {xs : List Re} (h : AtR w g xs) : g < w.heap.size := by
  obtain ⟨A, t, h1, _⟩ := h.2
  exact (Array.getElem?_eq_some_iff.1 h1).1
theorem AtA.lt {w : World} {g : Nat} {xs : List An} (h : AtA w g xs) : g < w.heap.size := by
  obtain ⟨A, t, h1, _⟩ := h.2
  exact (Array.getElem?_eq_some_iff.1 h1).1
theorem AtR.row {w : World} {g : Nat} {xs : List Re} (h : AtR w g xs) : Gy.Row w (.slice (some ⟨g, 0, none⟩) xs.length xs.length) xs := Gy.toS_row h.lt h.1
theorem AtA.row {w : World} {g : Nat} {xs : List An} (h : AtA w g xs) : Ga.Row w (.slice (some ⟨g, 0, none⟩) xs.length xs.length) xs := Ga.toS_row h.lt h.1
set_option maxRecDepth 100000 in
set_option maxHeartbeats 1600000 in
theorem toC_any (c : Cd) (vr va : Value) (w : World) (h : Has w c vr va) (hz : Tc 1048576 c) :
    Calls Tryz.prog 7 #[clV c vr va] w fun e w' => ∃ gr ga, e = .returned (clV c (.slice (some ⟨gr, 0, none⟩) c.re.length c.re.length) (.slice (some ⟨ga, 0, none⟩) c.ac.length c.ac.length)) ∧ Hid (w.heap.size ≤ gr ∧ w.heap.size ≤ ga ∧ AtR w' gr c.re ∧ AtA w' ga c.ac) ∧ Below w.heap.size w w' := by
  have HR : Hid (∀ W, Below w.heap.size w W → Has W c vr va) := fun W hW => h.below hW
  have HZ : Hid (Tc 1048576 c) := hz
  obtain ⟨ar, kr, rfl⟩ := RowG.slice h.1
  obtain ⟨aa, ka, rfl⟩ := RowG.slice h.2
  clear h hz
  have S0 : Hid _ := startC w #[.int .i64 c.id, .int .i64 c.st, .bool c.bu, .int .i64 c.rc, .int .i64 c.rs, .int .i64 c.rk, .int .i64 c.rl, .string c.rn, .slice ar c.re.length kr, .slice aa c.ac.length ka] #[.int .i64 c.id, .int .i64 c.st, .bool c.bu, .int .i64 0, .int .i64 0, .int .i64 0, .int .i64 0, .string ByteArray.empty, .slice none 0 0, .slice none 0 0]
  have HG : Hid (∀ W, Calls Tryz.prog 19 #[.agg #[.int .i64 c.rc, .int .i64 c.rs, .int .i64 c.rk, .int .i64 c.rl, .string c.rn]] W fun e w' => e = .returned (.agg #[.int .i64 c.rc, .int .i64 c.rs, .int .i64 c.rk, .int .i64 c.rl, .string c.rn]) ∧ Below W.heap.size W w') := fun W => toRequest_any c.rc c.rs c.rk c.rl c.rn W
  unfold clV
  go_enter Tryz.func7, Tryz.ntmps7
  go_wp2_with fail
  refine (HG.out _).mono ?_
  rintro e w1 ⟨rfl, b1⟩
  have C1 := S0.out.below b1
  obtain ⟨y3, fy3⟩ := Rg.blk_cell C1.ou 3 (x := .int .i64 0) rfl
  obtain ⟨y4, fy4⟩ := Rg.blk_cell C1.ou 4 (x := .int .i64 0) rfl
  obtain ⟨y5, fy5⟩ := Rg.blk_cell C1.ou 5 (x := .int .i64 0) rfl
  obtain ⟨y6, fy6⟩ := Rg.blk_cell C1.ou 6 (x := .int .i64 0) rfl
  obtain ⟨y7, fy7⟩ := Rg.blk_cell C1.ou 7 (x := .string ByteArray.empty) rfl
  have D1 : Hid (Cq w (((((w1.setCell ⟨w.heap.size + 1 + 1, 3, none⟩ (.int .i64 c.rc)).setCell ⟨w.heap.size + 1 + 1, 4, none⟩ (.int .i64 c.rs)).setCell ⟨w.heap.size + 1 + 1, 5, none⟩ (.int .i64 c.rk)).setCell ⟨w.heap.size + 1 + 1, 6, none⟩ (.int .i64 c.rl)).setCell ⟨w.heap.size + 1 + 1, 7, none⟩ (.string c.rn)) #[.int .i64 c.id, .int .i64 c.st, .bool c.bu, .int .i64 c.rc, .int .i64 c.rs, .int .i64 c.rk, .int .i64 c.rl, .string c.rn, .slice ar c.re.length kr, .slice aa c.ac.length ka] #[.int .i64 c.id, .int .i64 c.st, .bool c.bu, .int .i64 c.rc, .int .i64 c.rs, .int .i64 c.rk, .int .i64 c.rl, .string c.rn, .slice none 0 0, .slice none 0 0]) := (((((C1.set 3 (.int .i64 c.rc)).set 4 (.int .i64 c.rs)).set 5 (.int .i64 c.rk)).set 6 (.int .i64 c.rl)).set 7 (.string c.rn))
  have p8 := (Rg.blk_cell D1.out.bx 8 (x := .slice ar c.re.length kr) rfl).1
  clear b1 C1
  go_upto_region 6 with fail
  generalize (((((w1.setCell ⟨w.heap.size + 1 + 1, 3, none⟩ (.int .i64 c.rc)).setCell ⟨w.heap.size + 1 + 1, 4, none⟩ (.int .i64 c.rs)).setCell ⟨w.heap.size + 1 + 1, 5, none⟩ (.int .i64 c.rk)).setCell ⟨w.heap.size + 1 + 1, 6, none⟩ (.int .i64 c.rl)).setCell ⟨w.heap.size + 1 + 1, 7, none⟩ (.string c.rn)) = w2 at D1 p8 ⊢
  clear y3 fy3 y4 fy4 y5 fy5 y6 fy6 y7 fy7
  go_wp2_with fail
  refine (Gy.toS_any _ c.re _ (HR.out _ D1.out.be).1 HZ.out.2.1).mono ?_
  rintro e w3 ⟨gr, rfl, l2, u2, t2, b2, q2⟩
  have RN : Hid (AtR w3 gr c.re ∧ w.heap.size + 1 + 1 + 1 ≤ gr) := ⟨⟨t2, q2⟩, Nat.le_trans D1.out.sz l2⟩
  have C2 := D1.out.below b2
  obtain ⟨f1, f2⟩ := Rg.blk_cell C2.ou 8 (x := .slice none 0 0) rfl
  have D2 : Hid (Cq w (w3.setCell ⟨w.heap.size + 1 + 1, 8, none⟩ (.slice (some ⟨gr, 0, none⟩) c.re.length c.re.length)) #[.int .i64 c.id, .int .i64 c.st, .bool c.bu, .int .i64 c.rc, .int .i64 c.rs, .int .i64 c.rk, .int .i64 c.rl, .string c.rn, .slice ar c.re.length kr, .slice aa c.ac.length ka] #[.int .i64 c.id, .int .i64 c.st, .bool c.bu, .int .i64 c.rc, .int .i64 c.rs, .int .i64 c.rk, .int .i64 c.rl, .string c.rn, .slice (some ⟨gr, 0, none⟩) c.re.length c.re.length, .slice none 0 0]) := C2.set 8 (.slice (some ⟨gr, 0, none⟩) c.re.length c.re.length)
  have R2 : Hid (AtR (w3.setCell ⟨w.heap.size + 1 + 1, 8, none⟩ (.slice (some ⟨gr, 0, none⟩) c.re.length c.re.length)) gr c.re ∧ w.heap.size + 1 + 1 + 1 ≤ gr) := ⟨RN.out.1.keep (Rg.blk_far (by have := RN.out.2; omega) _ _), RN.out.2⟩
  have p9 := (Rg.blk_cell D2.out.bx 9 (x := .slice aa c.ac.length ka) rfl).1
  clear b2 C2 p8 RN l2 u2 t2 q2
  go_upto_region 7 with fail
  generalize (w3.setCell ⟨w.heap.size + 1 + 1, 8, none⟩ (.slice (some ⟨gr, 0, none⟩) c.re.length c.re.length)) = w4 at D2 R2 p9 ⊢
  clear f1 f2
  go_wp2_with fail
  refine (Ga.toS_any _ c.ac _ (HR.out _ D2.out.be).2 HZ.out.2.2.1).mono ?_
  rintro e w5 ⟨ga, rfl, l3, u3, t3, b3, q3⟩
  have RK : Hid (AtA w5 ga c.ac ∧ w.heap.size + 1 + 1 + 1 ≤ ga) := ⟨⟨t3, q3⟩, Nat.le_trans D2.out.sz l3⟩
  have C3 := D2.out.below b3
  obtain ⟨f1, f2⟩ := Rg.blk_cell C3.ou 9 (x := .slice none 0 0) rfl
  have D3 : Hid (Cq w (w5.setCell ⟨w.heap.size + 1 + 1, 9, none⟩ (.slice (some ⟨ga, 0, none⟩) c.ac.length c.ac.length)) #[.int .i64 c.id, .int .i64 c.st, .bool c.bu, .int .i64 c.rc, .int .i64 c.rs, .int .i64 c.rk, .int .i64 c.rl, .string c.rn, .slice ar c.re.length kr, .slice aa c.ac.length ka] #[.int .i64 c.id, .int .i64 c.st, .bool c.bu, .int .i64 c.rc, .int .i64 c.rs, .int .i64 c.rk, .int .i64 c.rl, .string c.rn, .slice (some ⟨gr, 0, none⟩) c.re.length c.re.length, .slice (some ⟨ga, 0, none⟩) c.ac.length c.ac.length]) := C3.set 9 (.slice (some ⟨ga, 0, none⟩) c.ac.length c.ac.length)
  have R3 : Hid ((AtR (w5.setCell ⟨w.heap.size + 1 + 1, 9, none⟩ (.slice (some ⟨ga, 0, none⟩) c.ac.length c.ac.length)) gr c.re ∧ w.heap.size + 1 + 1 + 1 ≤ gr) ∧ AtA (w5.setCell ⟨w.heap.size + 1 + 1, 9, none⟩ (.slice (some ⟨ga, 0, none⟩) c.ac.length c.ac.length)) ga c.ac ∧ w.heap.size + 1 + 1 + 1 ≤ ga) := ⟨⟨(R2.out.1.keep (b3.block _ R2.out.1.lt)).keep (Rg.blk_far (by have := R2.out.2; omega) _ _), R2.out.2⟩, RK.out.1.keep (Rg.blk_far (by have := RK.out.2; omega) _ _), RK.out.2⟩
  clear b3 C3 p9 RK R2 l3 u3 t3 q3
  go_upto_region 8 with fail
  generalize (w5.setCell ⟨w.heap.size + 1 + 1, 9, none⟩ (.slice (some ⟨ga, 0, none⟩) c.ac.length c.ac.length)) = w6 at D3 R3 ⊢
  clear f1 f2
  obtain ⟨k0, _fk0⟩ := Rg.blk_cell D3.out.ou 0 (x := .int .i64 c.id) rfl
  obtain ⟨k1, _fk1⟩ := Rg.blk_cell D3.out.ou 1 (x := .int .i64 c.st) rfl
  obtain ⟨k2, _fk2⟩ := Rg.blk_cell D3.out.ou 2 (x := .bool c.bu) rfl
  obtain ⟨k3, _fk3⟩ := Rg.blk_cell D3.out.ou 3 (x := .int .i64 c.rc) rfl
  obtain ⟨k4, _fk4⟩ := Rg.blk_cell D3.out.ou 4 (x := .int .i64 c.rs) rfl
  obtain ⟨k5, _fk5⟩ := Rg.blk_cell D3.out.ou 5 (x := .int .i64 c.rk) rfl
  obtain ⟨k6, _fk6⟩ := Rg.blk_cell D3.out.ou 6 (x := .int .i64 c.rl) rfl
  obtain ⟨k7, _fk7⟩ := Rg.blk_cell D3.out.ou 7 (x := .string c.rn) rfl
  obtain ⟨k8, _fk8⟩ := Rg.blk_cell D3.out.ou 8 (x := .slice (some ⟨gr, 0, none⟩) c.re.length c.re.length) rfl
  obtain ⟨k9, _fk9⟩ := Rg.blk_cell D3.out.ou 9 (x := .slice (some ⟨ga, 0, none⟩) c.ac.length c.ac.length) rfl
  obtain ⟨z0, fz0⟩ := Rg.blk_cell D3.out.rs 0 (x := .int .i64 0) rfl
  obtain ⟨z1, fz1⟩ := Rg.blk_cell D3.out.rs 1 (x := .int .i64 0) rfl
  obtain ⟨z2, fz2⟩ := Rg.blk_cell D3.out.rs 2 (x := .bool false) rfl
  obtain ⟨z3, fz3⟩ := Rg.blk_cell D3.out.rs 3 (x := .int .i64 0) rfl
  obtain ⟨z4, fz4⟩ := Rg.blk_cell D3.out.rs 4 (x := .int .i64 0) rfl
  obtain ⟨z5, fz5⟩ := Rg.blk_cell D3.out.rs 5 (x := .int .i64 0) rfl
  obtain ⟨z6, fz6⟩ := Rg.blk_cell D3.out.rs 6 (x := .int .i64 0) rfl
  obtain ⟨z7, fz7⟩ := Rg.blk_cell D3.out.rs 7 (x := .string ByteArray.empty) rfl
  obtain ⟨z8, fz8⟩ := Rg.blk_cell D3.out.rs 8 (x := .slice none 0 0) rfl
  obtain ⟨z9, fz9⟩ := Rg.blk_cell D3.out.rs 9 (x := .slice none 0 0) rfl
  obtain ⟨AF, HB, GF0⟩ := set10 (.int .i64 0) (.int .i64 0) (.bool false) (.int .i64 0) (.int .i64 0) (.int .i64 0) (.int .i64 0) (.string ByteArray.empty) (.slice none 0 0) (.slice none 0 0) (.int .i64 c.id) (.int .i64 c.st) (.bool c.bu) (.int .i64 c.rc) (.int .i64 c.rs) (.int .i64 c.rk) (.int .i64 c.rl) (.string c.rn) (.slice (some ⟨gr, 0, none⟩) c.re.length c.re.length) (.slice (some ⟨ga, 0, none⟩) c.ac.length c.ac.length) D3.out.rs
  have GF := GF0 D3.out.be (Nat.le_succ w.heap.size)
  clear GF0
  have KF : Hid (w.heap.size ≤ gr ∧ w.heap.size ≤ ga ∧ AtR ((((((((((w6.setCell ⟨w.heap.size + 1, 0, none⟩ (.int .i64 c.id)).setCell ⟨w.heap.size + 1, 1, none⟩ (.int .i64 c.st)).setCell ⟨w.heap.size + 1, 2, none⟩ (.bool c.bu)).setCell ⟨w.heap.size + 1, 3, none⟩ (.int .i64 c.rc)).setCell ⟨w.heap.size + 1, 4, none⟩ (.int .i64 c.rs)).setCell ⟨w.heap.size + 1, 5, none⟩ (.int .i64 c.rk)).setCell ⟨w.heap.size + 1, 6, none⟩ (.int .i64 c.rl)).setCell ⟨w.heap.size + 1, 7, none⟩ (.string c.rn)).setCell ⟨w.heap.size + 1, 8, none⟩ (.slice (some ⟨gr, 0, none⟩) c.re.length c.re.length)).setCell ⟨w.heap.size + 1, 9, none⟩ (.slice (some ⟨ga, 0, none⟩) c.ac.length c.ac.length)) gr c.re ∧ AtA ((((((((((w6.setCell ⟨w.heap.size + 1, 0, none⟩ (.int .i64 c.id)).setCell ⟨w.heap.size + 1, 1, none⟩ (.int .i64 c.st)).setCell ⟨w.heap.size + 1, 2, none⟩ (.bool c.bu)).setCell ⟨w.heap.size + 1, 3, none⟩ (.int .i64 c.rc)).setCell ⟨w.heap.size + 1, 4, none⟩ (.int .i64 c.rs)).setCell ⟨w.heap.size + 1, 5, none⟩ (.int .i64 c.rk)).setCell ⟨w.heap.size + 1, 6, none⟩ (.int .i64 c.rl)).setCell ⟨w.heap.size + 1, 7, none⟩ (.string c.rn)).setCell ⟨w.heap.size + 1, 8, none⟩ (.slice (some ⟨gr, 0, none⟩) c.re.length c.re.length)).setCell ⟨w.heap.size + 1, 9, none⟩ (.slice (some ⟨ga, 0, none⟩) c.ac.length c.ac.length)) ga c.ac) := by
    have e1 := R3.out.1.2
    have e2 := R3.out.2.2
    exact ⟨by omega, by omega, R3.out.1.1.keep (HB gr (by omega)), R3.out.2.1.keep (HB ga (by omega))⟩
  go_wp2_with fail
  generalize ((((((((((w6.setCell ⟨w.heap.size + 1, 0, none⟩ (.int .i64 c.id)).setCell ⟨w.heap.size + 1, 1, none⟩ (.int .i64 c.st)).setCell ⟨w.heap.size + 1, 2, none⟩ (.bool c.bu)).setCell ⟨w.heap.size + 1, 3, none⟩ (.int .i64 c.rc)).setCell ⟨w.heap.size + 1, 4, none⟩ (.int .i64 c.rs)).setCell ⟨w.heap.size + 1, 5, none⟩ (.int .i64 c.rk)).setCell ⟨w.heap.size + 1, 6, none⟩ (.int .i64 c.rl)).setCell ⟨w.heap.size + 1, 7, none⟩ (.string c.rn)).setCell ⟨w.heap.size + 1, 8, none⟩ (.slice (some ⟨gr, 0, none⟩) c.re.length c.re.length)).setCell ⟨w.heap.size + 1, 9, none⟩ (.slice (some ⟨ga, 0, none⟩) c.ac.length c.ac.length)) = wf at AF GF KF ⊢
  have d0 := (Rg.blk_cell AF 0 (x := .int .i64 c.id) rfl).1
  have d1 := (Rg.blk_cell AF 1 (x := .int .i64 c.st) rfl).1
  have d2 := (Rg.blk_cell AF 2 (x := .bool c.bu) rfl).1
  have d3 := (Rg.blk_cell AF 3 (x := .int .i64 c.rc) rfl).1
  have d4 := (Rg.blk_cell AF 4 (x := .int .i64 c.rs) rfl).1
  have d5 := (Rg.blk_cell AF 5 (x := .int .i64 c.rk) rfl).1
  have d6 := (Rg.blk_cell AF 6 (x := .int .i64 c.rl) rfl).1
  have d7 := (Rg.blk_cell AF 7 (x := .string c.rn) rfl).1
  have d8 := (Rg.blk_cell AF 8 (x := .slice (some ⟨gr, 0, none⟩) c.re.length c.re.length) rfl).1
  have d9 := (Rg.blk_cell AF 9 (x := .slice (some ⟨ga, 0, none⟩) c.ac.length c.ac.length) rfl).1
  exact bodyPost_ret (v := .agg #[.int .i64 c.id, .int .i64 c.st, .bool c.bu, .int .i64 c.rc, .int .i64 c.rs, .int .i64 c.rk, .int .i64 c.rl, .string c.rn, .slice (some ⟨gr, 0, none⟩) c.re.length c.re.length, .slice (some ⟨ga, 0, none⟩) c.ac.length c.ac.length]) (by simp [results, Tryz.results7, go_sem, d0, d1, d2, d3, d4, d5, d6, d7, d8, d9]) rfl ⟨gr, ga, rfl, KF, GF⟩
set_option maxRecDepth 100000 in
set_option maxHeartbeats 1600000 in
theorem eqC_same (c : Cd) (va vb ua ub : Value) (w : World) (ra : Has w c va vb) (ta : Has w c ua ub) (hz : c.re.length ≤ 1048576 ∧ c.ac.length ≤ 1048576) :
    Calls Tryz.prog 10 #[clV c va vb, clV c ua ub] w fun e w' => e = .returned (.bool true) ∧ Below w.heap.size w w' := by
  have HN : Hid (∀ W, Below w.heap.size w W → Has W c va vb ∧ Has W c ua ub) := fun W hW => ⟨ra.below hW, ta.below hW⟩
  have HZ : Hid (c.re.length ≤ 1048576 ∧ c.ac.length ≤ 1048576) := hz
  obtain ⟨a1, k1, rfl⟩ := RowG.slice ra.1
  obtain ⟨a2, k2, rfl⟩ := RowG.slice ra.2
  obtain ⟨e1, l1, rfl⟩ := RowG.slice ta.1
  obtain ⟨e2, l2, rfl⟩ := RowG.slice ta.2
  clear ra ta hz
  have HX : Hid (∀ W, Below ((w.alloc (.cells #[.int .i64 c.id, .int .i64 c.st, .bool c.bu, .int .i64 c.rc, .int .i64 c.rs, .int .i64 c.rk, .int .i64 c.rl, .string c.rn, .slice a1 c.re.length k1, .slice a2 c.ac.length k2] 38)).alloc (.cells #[.int .i64 c.id, .int .i64 c.st, .bool c.bu, .int .i64 c.rc, .int .i64 c.rs, .int .i64 c.rk, .int .i64 c.rl, .string c.rn, .slice e1 c.re.length l1, .slice e2 c.ac.length l2] 38)).heap.size ((w.alloc (.cells #[.int .i64 c.id, .int .i64 c.st, .bool c.bu, .int .i64 c.rc, .int .i64 c.rs, .int .i64 c.rk, .int .i64 c.rl, .string c.rn, .slice a1 c.re.length k1, .slice a2 c.ac.length k2] 38)).alloc (.cells #[.int .i64 c.id, .int .i64 c.st, .bool c.bu, .int .i64 c.rc, .int .i64 c.rs, .int .i64 c.rk, .int .i64 c.rl, .string c.rn, .slice e1 c.re.length l1, .slice e2 c.ac.length l2] 38)) W → ((W.cell? ⟨w.heap.size, 0, none⟩ = some (.int .i64 c.id) ∧ W.cell? ⟨w.heap.size, 1, none⟩ = some (.int .i64 c.st) ∧ W.cell? ⟨w.heap.size, 2, none⟩ = some (.bool c.bu) ∧ W.cell? ⟨w.heap.size, 3, none⟩ = some (.int .i64 c.rc) ∧ W.cell? ⟨w.heap.size, 4, none⟩ = some (.int .i64 c.rs) ∧ W.cell? ⟨w.heap.size, 5, none⟩ = some (.int .i64 c.rk) ∧ W.cell? ⟨w.heap.size, 6, none⟩ = some (.int .i64 c.rl) ∧ W.cell? ⟨w.heap.size, 7, none⟩ = some (.string c.rn) ∧ W.cell? ⟨w.heap.size, 8, none⟩ = some (.slice a1 c.re.length k1) ∧ W.cell? ⟨w.heap.size, 9, none⟩ = some (.slice a2 c.ac.length k2)) ∧ (W.cell? ⟨w.heap.size + 1, 0, none⟩ = some (.int .i64 c.id) ∧ W.cell? ⟨w.heap.size + 1, 1, none⟩ = some (.int .i64 c.st) ∧ W.cell? ⟨w.heap.size + 1, 2, none⟩ = some (.bool c.bu) ∧ W.cell? ⟨w.heap.size + 1, 3, none⟩ = some (.int .i64 c.rc) ∧ W.cell? ⟨w.heap.size + 1, 4, none⟩ = some (.int .i64 c.rs) ∧ W.cell? ⟨w.heap.size + 1, 5, none⟩ = some (.int .i64 c.rk) ∧ W.cell? ⟨w.heap.size + 1, 6, none⟩ = some (.int .i64 c.rl) ∧ W.cell? ⟨w.heap.size + 1, 7, none⟩ = some (.string c.rn) ∧ W.cell? ⟨w.heap.size + 1, 8, none⟩ = some (.slice e1 c.re.length l1) ∧ W.cell? ⟨w.heap.size + 1, 9, none⟩ = some (.slice e2 c.ac.length l2))) ∧ Below w.heap.size w W) := fun W hW => by
    obtain ⟨h1, h2, h3⟩ := Gy.two hW
    exact ⟨⟨⟨(Rg.blk_cell h1 0 rfl).1, (Rg.blk_cell h1 1 rfl).1, (Rg.blk_cell h1 2 rfl).1, (Rg.blk_cell h1 3 rfl).1, (Rg.blk_cell h1 4 rfl).1, (Rg.blk_cell h1 5 rfl).1, (Rg.blk_cell h1 6 rfl).1, (Rg.blk_cell h1 7 rfl).1, (Rg.blk_cell h1 8 rfl).1, (Rg.blk_cell h1 9 rfl).1⟩, ⟨(Rg.blk_cell h2 0 rfl).1, (Rg.blk_cell h2 1 rfl).1, (Rg.blk_cell h2 2 rfl).1, (Rg.blk_cell h2 3 rfl).1, (Rg.blk_cell h2 4 rfl).1, (Rg.blk_cell h2 5 rfl).1, (Rg.blk_cell h2 6 rfl).1, (Rg.blk_cell h2 7 rfl).1, (Rg.blk_cell h2 8 rfl).1, (Rg.blk_cell h2 9 rfl).1⟩⟩, h3⟩
  have HG : Hid (∀ W, Calls Tryz.prog 27 #[.agg #[.int .i64 c.rc, .int .i64 c.rs, .int .i64 c.rk, .int .i64 c.rl, .string c.rn], .agg #[.int .i64 c.rc, .int .i64 c.rs, .int .i64 c.rk, .int .i64 c.rl, .string c.rn]] W fun e w' => e = .returned (.bool true) ∧ Below W.heap.size W w') := fun W => eqRequest_same c.rc c.rs c.rk c.rl c.rn W
  have q0 : (c.id != c.id) = false := by simp
  have q1 : (c.st != c.st) = false := by simp
  have q2 : (c.bu != c.bu) = false := by simp
  have q3 : (!(c.bu == c.bu)) = false := by simp
  have q4 : (c.bu == c.bu) = true := by simp
  unfold clV
  go_enter Tryz.func10, Tryz.ntmps10
  go_upto_region 1 with fail
  generalize ((w.alloc (.cells #[.int .i64 c.id, .int .i64 c.st, .bool c.bu, .int .i64 c.rc, .int .i64 c.rs, .int .i64 c.rk, .int .i64 c.rl, .string c.rn, .slice a1 c.re.length k1, .slice a2 c.ac.length k2] 38)).alloc (.cells #[.int .i64 c.id, .int .i64 c.st, .bool c.bu, .int .i64 c.rc, .int .i64 c.rs, .int .i64 c.rk, .int .i64 c.rl, .string c.rn, .slice e1 c.re.length l1, .slice e2 c.ac.length l2] 38)) = wb at HX ⊢
  obtain ⟨⟨⟨c0, c1, c2, c3, c4, c5, c6, c7, c8, c9⟩, ⟨d0, d1, d2, d3, d4, d5, d6, d7, d8, d9⟩⟩, g0⟩ := HX.out wb (Below.refl _ _)
  go_wp2_with fail
  refine (HG.out _).mono ?_
  rintro e w1 ⟨rfl, b1⟩
  have B1 : Hid (Below wb.heap.size wb w1) := b1
  clear b1 c0 c1 c2 c3 c4 c5 c6 c7 c8 c9 d0 d1 d2 d3 d4 d5 d6 d7 d8 d9 g0
  obtain ⟨⟨⟨c0, c1, c2, c3, c4, c5, c6, c7, c8, c9⟩, ⟨d0, d1, d2, d3, d4, d5, d6, d7, d8, d9⟩⟩, g1⟩ := HX.out w1 B1.out
  have E1 := Gy.eqS_same _ _ c.re w1 (HN.out _ g1).1.1 (HN.out _ g1).2.1 HZ.out.1
  clear g1
  go_wp2_with fail
  refine E1.mono ?_
  rintro e w2 ⟨rfl, b2⟩
  have B2 : Hid (Below wb.heap.size wb w2) := B1.out.trans (b2.mono B1.out.size)
  clear b2 E1 B1 c0 c1 c2 c3 c4 c5 c6 c7 c8 c9 d0 d1 d2 d3 d4 d5 d6 d7 d8 d9
  obtain ⟨⟨⟨c0, c1, c2, c3, c4, c5, c6, c7, c8, c9⟩, ⟨d0, d1, d2, d3, d4, d5, d6, d7, d8, d9⟩⟩, g1⟩ := HX.out w2 B2.out
  have E2 := Ga.eqS_same _ _ c.ac w2 (HN.out _ g1).1.2 (HN.out _ g1).2.2 HZ.out.2
  clear g1
  go_wp2_with fail
  refine E2.mono ?_
  rintro e w3 ⟨rfl, b3⟩
  have G3 : Hid (Below w.heap.size w w3) := (HX.out _ (B2.out.trans (b3.mono B2.out.size))).2
  clear b3 E2 B2 HX c0 c1 c2 c3 c4 c5 c6 c7 c8 c9 d0 d1 d2 d3 d4 d5 d6 d7 d8 d9
  go_wp2_with fail
  go_ret
  exact ⟨rfl, G3.out⟩
end Go.Proofs.YtmbnfpifganeeaaGreatDoor.Cl
namespace Go.Proofs.YtmbnfpifganeeaaGreatDoor.Op
open Go.ChangeShapes Go.WideShapes Go.ChangeAt Go.RowKit Go.Deep
set_option maxRecDepth 100000 in
theorem open_client {H : Type} {enc : TypeId × Value → H} {w : World} {base : Nat} {spare : Nat → Bool} {held : Bool} {r : Reach} {b0 : Nat} {v : Value} {d : DataW H} {p : List MemPlace}
    (hv : Value.okWide Tryz.prog w r b0 27 v) (h : DataW.Trod enc Tryz.prog w base spare held 27 v d p) :
    ∃ (c : Cl.Cd) (vr va : Value), v = Cl.clV c vr va ∧ Cl.Has w c vr va ∧ Cl.Tc maxLen c := by
  have k1 : Tryz.prog.cellsOf 3 = 1 := by kernel_rfl
  have k2 : Tryz.prog.cellsOf 9 = 1 := by kernel_rfl
  have k3 : Tryz.prog.cellsOf 4 = 1 := by kernel_rfl
  have k4 : Tryz.prog.cellsOf 24 = 1 := by kernel_rfl
  have k5 : Tryz.prog.cellsOf 25 = 1 := by kernel_rfl
  have k6 : Tryz.prog.cellsOf 23 = 5 := by kernel_rfl
  obtain ⟨cs, rfl, hsz⟩ := okWide_struct Tryz.underlying27 hv
  obtain ⟨fuel, hf⟩ := h
  obtain ⟨xs, n, _, _, hl, hlen, hfs⟩ := DataW.trod_struct Tryz.underlying27 hf
  have hsz2 : cs.size = 10 := hsz.trans (by kernel_rfl)
  obtain ⟨cl⟩ := cs
  match cl, hsz2 with
  | [c0, c1, c2, c3, c4, c5, c6, c7, c8, c9], _ =>
    match xs, hlen with
    | [y0, y1, y2, y3, y4, y5], _ =>
      have g0 := hfs 0 _ rfl
      have g1 := hfs 1 _ rfl
      have g2 := hfs 2 _ rfl
      have g3 := hfs 3 _ rfl
      have g4 := hfs 4 _ rfl
      have g5 := hfs 5 _ rfl
      simp [Value.cells, k1, k3, k4, k5, k6] at g0 g1 g2 g3 g4 g5
      obtain ⟨z0, q0, _⟩ := DataW.trod_int Tryz.underlying3 g0
      obtain ⟨z1, q1, _⟩ := DataW.trod_int Tryz.underlying3 g1
      obtain ⟨z2, q2, _⟩ := DataW.trod_bool Tryz.underlying4 g2
      obtain ⟨us, m, _, _, _, hul, hug⟩ := DataW.trod_struct Tryz.underlying23 g3
      match us, hul with
      | [u0, u1, u2, u3, u4], _ =>
        have e0 := hug 0 _ rfl
        have e1 := hug 1 _ rfl
        have e2 := hug 2 _ rfl
        have e3 := hug 3 _ rfl
        have e4 := hug 4 _ rfl
        simp [k1, k2] at e0 e1 e2 e3 e4
        obtain ⟨z3, q3, _⟩ := DataW.trod_int Tryz.underlying3 e0
        obtain ⟨z4, q4, _⟩ := DataW.trod_int Tryz.underlying3 e1
        obtain ⟨z5, q5, _⟩ := DataW.trod_int Tryz.underlying3 e2
        obtain ⟨z6, q6, _⟩ := DataW.trod_int Tryz.underlying3 e3
        obtain ⟨z7, q7, _, m7⟩ := DataW.trod_string Tryz.underlying9 e4
        obtain ⟨v8, rs, q8, hr, lr, tr⟩ := openGy g4
        obtain ⟨v9, bs, q9, ha, la⟩ := openGa g5
        simp at q0 q1 q2 q3 q4 q5 q6 q7 q8 q9
        subst q0 q1 q2 q3 q4 q5 q6 q7 q8 q9
        exact ⟨⟨z0, z1, z2, z3, z4, z5, z6, z7, rs, bs⟩, _, _, rfl, ⟨hr, ha⟩, m7, lr, la, tr⟩
end Go.Proofs.YtmbnfpifganeeaaGreatDoor.Op
