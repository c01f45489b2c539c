/-
  A certificate of f + 1 nodes is right, of fewer it is none, and of another grant just where the document says: for all bytes that draw them.
  Conditions: none beyond the given row's own; the package variable that it reads starts as the program's text lays it (the card ties it).
-/
import Derived.Test.YtiflfcpoajijaaaGreatDoorJFnCertificates2
import Derived.Test.YtiflfcpoajijaaaGreatDoorJFnCertificates32
import Derived.Test.YtiflfcpoajijaaaGreatDoorJFnCertificates33
import Derived.WalkKit
namespace Go.Proofs.YtiflfcpoajijaaaGreatDoor.fnCertificates
open Go.ChangeShapes Go.WideShapes Go.ChangeAt Go.RowKit
open Go.ChangeMaps (open_string shut_string)
open Go.Proofs.YtiflfcpoajijaaaGreatDoor.Hl (own laidOut rowed door_met)

open Go.Proofs.YtiflfcpoajijaaaGreatDoor.Kc
open Go.Proofs.YtiflfcpoajijaaaGreatDoor.Gr12 (Gg gV grB PTab)
open Go.Proofs.YtiflfcpoajijaaaGreatDoor.Sh (KTab)
open Go.Proofs.YtiflfcpoajijaaaGreatDoor.Sl (RowB)
open Go.Proofs.YtiflfcpoajijaaaGreatDoor.Tx (RowT)
open Go.Proofs.YtiflfcpoajijaaaGreatDoor.Is (RowI)
open Go.Proofs.YtiflfcpoajijaaaGreatDoor.Cr (rootS)
open Go.Proofs.YtiflfcpoajijaaaGreatDoor.Ns (nsd nsd_size nsO nsC nrO ns_good implNodeSeed_any implNodeRoot_any)
theorem fives {w W : World} {o0 o1 o2 o3 o4 : Obj} (b : Below (((((w.alloc o0).alloc o1).alloc o2).alloc o3).alloc o4).heap.size (((((w.alloc o0).alloc o1).alloc o2).alloc o3).alloc o4) W) :
    W.heap[w.heap.size]? = some o0 ∧ W.heap[w.heap.size + 1]? = some o1 ∧ W.heap[w.heap.size + 1 + 1]? = some o2 ∧ W.heap[w.heap.size + 1 + 1 + 1]? = some o3 ∧ W.heap[w.heap.size + 1 + 1 + 1 + 1]? = some o4 ∧ Below w.heap.size w W := by
  have e1 : (w.alloc o0).heap.size = w.heap.size + 1 := Rg.size_new _ _
  have e2 : ((w.alloc o0).alloc o1).heap.size = w.heap.size + 1 + 1 := by rw [Rg.size_new, e1]
  have e3 : (((w.alloc o0).alloc o1).alloc o2).heap.size = w.heap.size + 1 + 1 + 1 := by rw [Rg.size_new, e2]
  have e4 : ((((w.alloc o0).alloc o1).alloc o2).alloc o3).heap.size = w.heap.size + 1 + 1 + 1 + 1 := by rw [Rg.size_new, e3]
  have e5 : (((((w.alloc o0).alloc o1).alloc o2).alloc o3).alloc o4).heap.size = w.heap.size + 1 + 1 + 1 + 1 + 1 := by rw [Rg.size_new, e4]
  have b1 := Rg.bel_new w o0
  have b2 := Rg.bel_new (w.alloc o0) o1
  have b3 := Rg.bel_new ((w.alloc o0).alloc o1) o2
  have b4 := Rg.bel_new (((w.alloc o0).alloc o1).alloc o2) o3
  have b5 := Rg.bel_new ((((w.alloc o0).alloc o1).alloc o2).alloc o3) o4
  have h1 := heap_alloc_new w o0
  have h2 := heap_alloc_new (w.alloc o0) o1
  have h3 := heap_alloc_new ((w.alloc o0).alloc o1) o2
  have h4 := heap_alloc_new (((w.alloc o0).alloc o1).alloc o2) o3
  have h5 := heap_alloc_new ((((w.alloc o0).alloc o1).alloc o2).alloc o3) o4
  rw [e1] at h2
  rw [e2] at h3
  rw [e3] at h4
  rw [e4] at h5
  refine ⟨?_, ?_, ?_, ?_, ?_, ?_⟩
  · rw [b.block _ (by omega), b5.block _ (by omega), b4.block _ (by omega), b3.block _ (by omega), b2.block _ (by omega)]; exact h1
  · rw [b.block _ (by omega), b5.block _ (by omega), b4.block _ (by omega), b3.block _ (by omega)]; exact h2
  · rw [b.block _ (by omega), b5.block _ (by omega), b4.block _ (by omega)]; exact h3
  · rw [b.block _ (by omega), b5.block _ (by omega)]; exact h4
  · rw [b.block _ (by omega)]; exact h5
  · exact b1.trans ((b2.trans ((b3.trans ((b4.trans ((b5.trans (b.mono (by omega))).mono (by omega))).mono (by omega))).mono (by omega))).mono (by omega))
theorem rowI_two {W : World} {bF : Nat} {a b : Nat} (h : W.heap[bF]? = some (.cells #[.int .i64 (a : Int), .int .i64 (b : Int)] 3 (0, 0))) (ha : a ≤ 3) (hb : b ≤ 3) : RowI W (.slice (some ⟨bF, 0, none⟩) 2 2) [(a : Int), (b : Int)] := by
  refine ⟨_, 2, rfl, .inr ⟨bF, 0, rfl, by simp, (Array.getElem?_eq_some_iff.1 h).1, fun i hi => ?_⟩, fun x hx => ?_⟩
  · have h2 : i < 2 := by simpa using hi
    match i, h2 with
    | 0, _ => exact (Rg.blk_cell h 0 rfl).1
    | 1, _ => exact (Rg.blk_cell h 1 rfl).1
  · simp at hx
    omega
theorem sgA1 {w8 w9 : World} {p : Sv} {k : Ks} {B : Nat} (b : Below w8.heap.size w8 w9) (h : SigP w9 B p k) :
    Hid ((w9.alloc (.cells #[.int .i64 p.i, .slice p.a1 p.n1 p.c1, .slice p.a2 p.n2 p.c2, .slice p.a3 p.n3 p.c3] 37)).heap[w9.heap.size]? = some (.cells #[.int .i64 p.i, .slice p.a1 p.n1 p.c1, .slice p.a2 p.n2 p.c2, .slice p.a3 p.n3 p.c3] 37 (0, 0)) ∧ SigP (w9.alloc (.cells #[.int .i64 p.i, .slice p.a1 p.n1 p.c1, .slice p.a2 p.n2 p.c2, .slice p.a3 p.n3 p.c3] 37)) B p k ∧ Below w8.heap.size w8 (w9.alloc (.cells #[.int .i64 p.i, .slice p.a1 p.n1 p.c1, .slice p.a2 p.n2 p.c2, .slice p.a3 p.n3 p.c3] 37))) :=
  ⟨heap_alloc_new w9 _, h.below (Rg.bel_new _ _), b.alloc b.size _⟩
theorem sgB1 {w8 w9 : World} {p : Sv} {k : Ks} {B : Nat} (b : Below w8.heap.size w8 w9) (h : SigP w9 B p k) (hB : w8.heap.size < B) (hz : w9.heap[w8.heap.size]? = some (.cells #[.int .i64 0, .slice none 0 0, .slice none 0 0, .slice none 0 0] 37 (0, 0))) :
    Hid (((((w9.setCell ⟨w8.heap.size, 0, none⟩ (.int .i64 p.i)).setCell ⟨w8.heap.size, 1, none⟩ (.slice p.a1 p.n1 p.c1)).setCell ⟨w8.heap.size, 2, none⟩ (.slice p.a2 p.n2 p.c2)).setCell ⟨w8.heap.size, 3, none⟩ (.slice p.a3 p.n3 p.c3)).heap[w8.heap.size]? = some (.cells #[.int .i64 p.i, .slice p.a1 p.n1 p.c1, .slice p.a2 p.n2 p.c2, .slice p.a3 p.n3 p.c3] 37 (0, 0)) ∧ SigP ((((w9.setCell ⟨w8.heap.size, 0, none⟩ (.int .i64 p.i)).setCell ⟨w8.heap.size, 1, none⟩ (.slice p.a1 p.n1 p.c1)).setCell ⟨w8.heap.size, 2, none⟩ (.slice p.a2 p.n2 p.c2)).setCell ⟨w8.heap.size, 3, none⟩ (.slice p.a3 p.n3 p.c3)) B p k ∧ Below w8.heap.size w8 ((((w9.setCell ⟨w8.heap.size, 0, none⟩ (.int .i64 p.i)).setCell ⟨w8.heap.size, 1, none⟩ (.slice p.a1 p.n1 p.c1)).setCell ⟨w8.heap.size, 2, none⟩ (.slice p.a2 p.n2 p.c2)).setCell ⟨w8.heap.size, 3, none⟩ (.slice p.a3 p.n3 p.c3))) := by
  refine ⟨Rg.blk_set (Rg.blk_set (Rg.blk_set (Rg.blk_set hz _ _) _ _) _ _) _ _, h.kept (fun g hg => ?_), (((b.setCell (p := ⟨w8.heap.size, 0, none⟩) (Nat.le_refl _) _).setCell (p := ⟨w8.heap.size, 1, none⟩) (Nat.le_refl _) _).setCell (p := ⟨w8.heap.size, 2, none⟩) (Nat.le_refl _) _).setCell (p := ⟨w8.heap.size, 3, none⟩) (Nat.le_refl _) _⟩
  have hne : g ≠ w8.heap.size := by have := (h.lt hg).1; omega
  rw [Rg.blk_far hne, Rg.blk_far hne, Rg.blk_far hne, Rg.blk_far hne]
set_option maxRecDepth 100000 in
set_option maxHeartbeats 6400000 in
/-- THE WALK. -/
theorem walk {w : World} (v0 : Value) (xs0 : List Int) (h0 : RowB w v0 xs0) (v1 : Value) (xs1 : List Int) (h1 : RowB w v1 xs1) (hT : PTab w ∧ (KTab w ∧ 0 < w.heap.size)) :
    Calls Tryz.prog 3 #[v0, v1] w fun e w' => e = .returned (.bool true) ∧ Below w.heap.size w w' := by
  have HTB : Hid (∀ W, Below w.heap.size w W → PTab W ∧ KTab W ∧ 0 < W.heap.size) := fun W hW => ⟨hT.1.below hW, hT.2.1.below hW hT.2.2, Nat.lt_of_lt_of_le hT.2.2 hW.size⟩
  have HR : Hid (∀ W, Below w.heap.size w W → RowB W v0 xs0 ∧ RowB W v1 xs1) := fun W hW => ⟨h0.below hW, h1.below hW⟩
  obtain ⟨a0, cA, rfl, _, _⟩ := h0
  obtain ⟨a1, cB, rfl, _, _⟩ := h1
  clear hT
  by_cases hb0 : (1048576 : Int) < (xs0.length : Int)
  · go_enter Tryz.func3, Tryz.ntmps3
    go_wp2
    go_ret
    exact ⟨rfl, Below.refl _ _⟩
  by_cases hb1 : (1048576 : Int) < (xs1.length : Int)
  · go_enter Tryz.func3, Tryz.ntmps3
    go_wp2
    go_ret
    exact ⟨rfl, Below.refl _ _⟩
  have HL : Hid (∀ _ : Unit, xs0.length ≤ 1048576 ∧ xs1.length ≤ 1048576) := fun _ => ⟨by omega, by omega⟩
  go_enter Tryz.func3, Tryz.ntmps3
  go_wp2_with fail
  refine (Gn.GrantOf_any _ xs0 _ (HR.out _ (Below.refl _ _)).1 (HL.out ()).1).mono ?_
  rintro e w1 ⟨g, rfl, hg, b1⟩
  have HG : Hid (grB g = true) := hg
  have HX2 : Hid (∀ W, Below (w1.alloc (.cells #[.string g.nm, .int .i64 g.hd, .int .i64 g.tk, .int .i64 g.ex] 24)).heap.size (w1.alloc (.cells #[.string g.nm, .int .i64 g.hd, .int .i64 g.tk, .int .i64 g.ex] 24)) W → W.heap[w1.heap.size]? = some (.cells #[.string g.nm, .int .i64 g.hd, .int .i64 g.tk, .int .i64 g.ex] 24 (0, 0)) ∧ Below w.heap.size w W) := fun W hW => by
    have hn := (Rg.bel_new w1 (.cells #[.string g.nm, .int .i64 g.hd, .int .i64 g.tk, .int .i64 g.ex] 24)).trans (hW.mono (by simp))
    exact ⟨(hW.block _ (by simp)).trans (heap_alloc_new w1 _), b1.trans (hn.mono b1.size)⟩
  clear b1 hg
  unfold gV
  go_upto_region 4 with fail
  generalize w1.alloc (.cells #[.string g.nm, .int .i64 g.hd, .int .i64 g.tk, .int .i64 g.ex] 24) = w3 at HX2 ⊢
  generalize w1.heap.size = bG at HX2 ⊢
  have HAT : Hid (∀ W, Below w.heap.size w W → Calls Tryz.prog 6 #[.slice a1 xs1.length cB, .int .i64 0, .int .i64 4] W fun e w' => ∃ r : Nat, e = .returned (.int .i64 r) ∧ r < 4 ∧ Below W.heap.size W w') := fun W hW => La.at_any _ xs1 0 4 W (HR.out W hW).2 (HL.out ()).2 (by decide) (by decide) (by decide)
  have HWT : Hid (Below w.heap.size w (((((w3.alloc (.cells #[.int .i64 0, .int .i64 1] 3)).alloc (.cells #[.int .i64 0, .int .i64 2] 3)).alloc (.cells #[.int .i64 1, .int .i64 3] 3)).alloc (.cells #[.int .i64 2, .int .i64 3] 3)).alloc (.cells #[.slice (some ⟨w3.heap.size, 0, none⟩) 2 2, .slice (some ⟨w3.heap.size + 1, 0, none⟩) 2 2, .slice (some ⟨w3.heap.size + 1 + 1, 0, none⟩) 2 2, .slice (some ⟨w3.heap.size + 1 + 1 + 1, 0, none⟩) 2 2] 26)) ∧ Below w3.heap.size w3 (((((w3.alloc (.cells #[.int .i64 0, .int .i64 1] 3)).alloc (.cells #[.int .i64 0, .int .i64 2] 3)).alloc (.cells #[.int .i64 1, .int .i64 3] 3)).alloc (.cells #[.int .i64 2, .int .i64 3] 3)).alloc (.cells #[.slice (some ⟨w3.heap.size, 0, none⟩) 2 2, .slice (some ⟨w3.heap.size + 1, 0, none⟩) 2 2, .slice (some ⟨w3.heap.size + 1 + 1, 0, none⟩) 2 2, .slice (some ⟨w3.heap.size + 1 + 1 + 1, 0, none⟩) 2 2] 26))) := ⟨(HX2.out _ (fives (Below.refl _ _)).2.2.2.2.2).2, (fives (Below.refl _ _)).2.2.2.2.2⟩
  go_wp2_with fail
  refine (HAT.out _ HWT.out.1).mono ?_
  rintro e w4 ⟨r, rfl, hr, b4⟩
  obtain ⟨h0, h1, h2, h3, h5, hb3⟩ := fives b4
  obtain ⟨bF, a, b, HAB, hcell, HFR⟩ : ∃ (bF a b : Nat), Hid (a < b ∧ b ≤ 3) ∧ w4.cell? ⟨w3.heap.size + 1 + 1 + 1 + 1, r, none⟩ = some (.slice (some ⟨bF, 0, none⟩) 2 2) ∧ Hid (w4.heap[bF]? = some (.cells #[.int .i64 (a : Int), .int .i64 (b : Int)] 3 (0, 0))) := by
    match r, hr with
    | 0, _ => exact ⟨_, 0, 1, ⟨by decide, by decide⟩, (Rg.blk_cell h5 0 rfl).1, h0⟩
    | 1, _ => exact ⟨_, 0, 2, ⟨by decide, by decide⟩, (Rg.blk_cell h5 1 rfl).1, h1⟩
    | 2, _ => exact ⟨_, 1, 3, ⟨by decide, by decide⟩, (Rg.blk_cell h5 2 rfl).1, h2⟩
    | 3, _ => exact ⟨_, 2, 3, ⟨by decide, by decide⟩, (Rg.blk_cell h5 3 rfl).1, h3⟩
  have HX4 : Hid (∀ W, Below w4.heap.size w4 W → W.heap[bG]? = some (.cells #[.string g.nm, .int .i64 g.hd, .int .i64 g.tk, .int .i64 g.ex] 24 (0, 0)) ∧ W.heap[bF]? = some (.cells #[.int .i64 (a : Int), .int .i64 (b : Int)] 3 (0, 0)) ∧ Below w.heap.size w W) := fun W hW => by
    have q := HX2.out W (hb3.trans (hW.mono hb3.size))
    exact ⟨q.1, (hW.block _ (Array.getElem?_eq_some_iff.1 HFR.out).1).trans HFR.out, q.2⟩
  have hrI : (r : Int) < 4 := by omega
  clear h0 h1 h2 h3 h5 hb3 b4 hr HX2 HFR HWT
  go_upto_region 5 with fail
  clear hcell hrI HAT
  go_wp2_with fail
  refine (La.at_any _ xs1 1 8 w4 (HR.out _ (HX4.out _ (Below.refl _ _)).2.2).2 (HL.out ()).2 (by decide) (by decide) (by decide)).mono ?_
  rintro e w5 ⟨k, rfl, hk, b5⟩
  have HK8 : Hid (k < 8) := hk
  have B5 : Hid (Below w4.heap.size w4 w5) := b5
  obtain ⟨kb, HKB⟩ : ∃ kb, Hid (kOf (k : Int) g (b : Int) = kb) := ⟨_, rfl⟩
  obtain ⟨ka, HKA⟩ : ∃ ka, Hid (kOf (k : Int) g (a : Int) = ka) := ⟨_, rfl⟩
  have HMC : Hid (∀ W, Below w4.heap.size w4 W → Calls Tryz.prog 7 #[.int .i64 4, .agg #[.string g.nm, .int .i64 g.hd, .int .i64 g.tk, .int .i64 g.ex], .slice (some ⟨bF, 0, none⟩) 2 2, .int .i64 (k : Int)] W fun e w' => ∃ nb no nk sb so sk, e = .returned (.tuple #[.agg #[.string g.nm, .int .i64 g.hd, .int .i64 g.tk, .int .i64 g.ex, .slice (some ⟨nb, no, none⟩) 2 nk, .slice (some ⟨sb, so, none⟩) 2 sk], .int .i64 0]) ∧ Hid (RowI w' (.slice (some ⟨nb, no, none⟩) 2 nk) [(a : Int), (b : Int)] ∧ Row w' (.slice (some ⟨sb, so, none⟩) 2 sk) [ka, kb] ∧ 2 ≤ nk ∧ 2 ≤ sk) ∧ Below W.heap.size W w') := fun W hW => by
    have hx := HX4.out W hW
    have hh := implMakeC_ok 4 g (.slice (some ⟨bF, 0, none⟩) 2 2) [(a : Int), (b : Int)] (k : Int) W (zg_of HG.out) (rowI_two hx.2.1 (by have := HAB.out; omega) HAB.out.2) (mf_two HG.out HAB.out.1 HAB.out.2 HK8.out) (HTB.out W hx.2.2).1 (HTB.out W hx.2.2).2.1 (HTB.out W hx.2.2).2.2
    refine hh.mono ?_
    rintro e w' ⟨vn, vs, rfl, hce, hb⟩
    obtain ⟨r1, r2⟩ := hce.out.rows (fun x hx => by simp at hx; rcases hx with rfl | rfl <;> exact inR6 (by have := HAB.out; omega))
    have r2' : Row w' vs [ka, kb] := by rw [← HKA.out, ← HKB.out]; exact r2
    have r1c := r1
    have r2c := r2'
    obtain ⟨aa, nk, rfl, q1, _⟩ := r1c
    obtain ⟨ab, sk, rfl, q2⟩ := r2c
    rcases q1 with q1 | ⟨nb, no, rfl, c1, _, _⟩
    · cases q1
    rcases q2 with q2 | ⟨sb, so, rfl, c2, _, _⟩
    · cases q2
    exact ⟨nb, no, nk, sb, so, sk, rfl, ⟨r1, r2', by simpa using c1, by simpa using c2⟩, hb⟩
  have HGC := HX4.out w5 b5
  have c0 := (Rg.blk_cell HGC.1 0 (x := .string g.nm) rfl).1
  have c1 := (Rg.blk_cell HGC.1 1 (x := .int .i64 g.hd) rfl).1
  have c2 := (Rg.blk_cell HGC.1 2 (x := .int .i64 g.tk) rfl).1
  have c3 := (Rg.blk_cell HGC.1 3 (x := .int .i64 g.ex) rfl).1
  clear hk b5
  go_wp2_with fail
  refine (HMC.out _ B5.out).mono ?_
  rintro e w6 ⟨nb, no, nk, sb, so, sk, rfl, HRS, b6⟩
  have HX7 : Hid (∀ W, Below (w6.alloc (.cells #[.string g.nm, .int .i64 g.hd, .int .i64 g.tk, .int .i64 g.ex, .slice (some ⟨nb, no, none⟩) 2 nk, .slice (some ⟨sb, so, none⟩) 2 sk] 31)).heap.size (w6.alloc (.cells #[.string g.nm, .int .i64 g.hd, .int .i64 g.tk, .int .i64 g.ex, .slice (some ⟨nb, no, none⟩) 2 nk, .slice (some ⟨sb, so, none⟩) 2 sk] 31)) W → W.heap[w6.heap.size]? = some (.cells #[.string g.nm, .int .i64 g.hd, .int .i64 g.tk, .int .i64 g.ex, .slice (some ⟨nb, no, none⟩) 2 nk, .slice (some ⟨sb, so, none⟩) 2 sk] 31 (0, 0)) ∧ RowI W (.slice (some ⟨nb, no, none⟩) 2 nk) [(a : Int), (b : Int)] ∧ Row W (.slice (some ⟨sb, so, none⟩) 2 sk) [ka, kb] ∧ W.heap[bG]? = some (.cells #[.string g.nm, .int .i64 g.hd, .int .i64 g.tk, .int .i64 g.ex] 24 (0, 0)) ∧ W.heap[bF]? = some (.cells #[.int .i64 (a : Int), .int .i64 (b : Int)] 3 (0, 0)) ∧ Below w.heap.size w W) := fun W hW => by
    have hn := (Rg.bel_new w6 (.cells #[.string g.nm, .int .i64 g.hd, .int .i64 g.tk, .int .i64 g.ex, .slice (some ⟨nb, no, none⟩) 2 nk, .slice (some ⟨sb, so, none⟩) 2 sk] 31)).trans (hW.mono (by simp))
    have q := HX4.out W (B5.out.trans ((b6.trans (hn.mono b6.size)).mono B5.out.size))
    exact ⟨(hW.block _ (by simp)).trans (heap_alloc_new w6 _), HRS.out.1.below hn, HRS.out.2.1.below hn, q⟩
  have HCAP : Hid (2 ≤ nk ∧ 2 ≤ sk) := HRS.out.2.2
  clear c0 c1 c2 c3 HGC b6 HRS HMC
  go_upto_region 7 with fail
  generalize w6.alloc (.cells #[.string g.nm, .int .i64 g.hd, .int .i64 g.tk, .int .i64 g.ex, .slice (some ⟨nb, no, none⟩) 2 nk, .slice (some ⟨sb, so, none⟩) 2 sk] 31) = w7 at HX7 ⊢
  generalize w6.heap.size = bC at HX7 ⊢
  clear HX4 B5
  have HTZ : Hid (∀ x ∈ [ka, kb], Tz maxLen x) := fun x hx => by
    simp at hx
    rcases hx with rfl | rfl
    · rw [← HKA.out]; exact (kOf_tz HG.out (by have := HAB.out; omega) HK8.out).1
    · rw [← HKB.out]; exact (kOf_tz HG.out HAB.out.2 HK8.out).1
  have HCK : Hid (∀ W, Below w7.heap.size w7 W → Calls Tryz.prog 8 #[.int .i64 4, .agg #[.string g.nm, .int .i64 g.hd, .int .i64 g.tk, .int .i64 g.ex, .slice (some ⟨nb, no, none⟩) 2 nk, .slice (some ⟨sb, so, none⟩) 2 sk]] W fun e w' => e = .returned (.int .i64 0) ∧ Below W.heap.size W w') := fun W hW => by
    have q := HX7.out W hW
    have hh := implCheckCertificate_any 4 g (.slice (some ⟨nb, no, none⟩) 2 nk) (.slice (some ⟨sb, so, none⟩) 2 sk) [(a : Int), (b : Int)] [ka, kb] W q.2.1 q.2.2.1 (zg_of HG.out) (by simp) (by simp) HTZ.out (HTB.out W q.2.2.2.2.2).1 (HTB.out W q.2.2.2.2.2).2.1 (HTB.out W q.2.2.2.2.2).2.2
    have e : ckC 4 g [(a : Int), (b : Int)] [ka, kb] = 0 := by rw [← HKA.out, ← HKB.out]; exact ck_two HG.out HAB.out.1 HAB.out.2 HK8.out
    rw [e] at hh
    exact hh
  have hbc := (HX7.out _ (Below.refl _ _)).1
  have c0 := (Rg.blk_cell hbc 0 (x := .string g.nm) rfl).1
  have c1 := (Rg.blk_cell hbc 1 (x := .int .i64 g.hd) rfl).1
  have c2 := (Rg.blk_cell hbc 2 (x := .int .i64 g.tk) rfl).1
  have c3 := (Rg.blk_cell hbc 3 (x := .int .i64 g.ex) rfl).1
  have c4 := (Rg.blk_cell hbc 4 (x := .slice (some ⟨nb, no, none⟩) 2 nk) rfl).1
  have c5 := (Rg.blk_cell hbc 5 (x := .slice (some ⟨sb, so, none⟩) 2 sk) rfl).1
  go_upto_region 9 with (first | (go_at_call 8; refine (HCK.out _ (Below.refl _ _)).mono ?_; rintro e w8 ⟨rfl, b8⟩))
  have B8 : Hid (Below w7.heap.size w7 w8) := b8
  clear c0 c1 c2 c3 c4 c5 hbc b8 HCK
  have HX8 : Hid (∀ W, Below w8.heap.size w8 W → W.heap[bC]? = some (.cells #[.string g.nm, .int .i64 g.hd, .int .i64 g.tk, .int .i64 g.ex, .slice (some ⟨nb, no, none⟩) 2 nk, .slice (some ⟨sb, so, none⟩) 2 sk] 31 (0, 0)) ∧ RowI W (.slice (some ⟨nb, no, none⟩) 2 nk) [(a : Int), (b : Int)] ∧ Row W (.slice (some ⟨sb, so, none⟩) 2 sk) [ka, kb] ∧ W.heap[bG]? = some (.cells #[.string g.nm, .int .i64 g.hd, .int .i64 g.tk, .int .i64 g.ex] 24 (0, 0)) ∧ W.heap[bF]? = some (.cells #[.int .i64 (a : Int), .int .i64 (b : Int)] 3 (0, 0)) ∧ Below w.heap.size w W) := fun W hW => HX7.out W (B8.out.trans (hW.mono B8.out.size))
  clear HX7 B8
  obtain ⟨ki, HKI⟩ : ∃ ki, Hid (kb.i = ki) := ⟨_, rfl⟩
  have HSG : Hid (∀ W, Below w.heap.size w W → Calls Tryz.prog 9 #[.int .i64 (b : Int), .int .i64 (k : Int), .agg #[.string g.nm, .int .i64 g.hd, .int .i64 g.tk, .int .i64 g.ex]] W fun e w' => ∃ p1 q1 r1 p2 q2 r2 p3 q3 r3, e = .returned (.tuple #[.agg #[.int .i64 ki, .slice p1 q1 r1, .slice p2 q2 r2, .slice p3 q3 r3], .int .i64 0]) ∧ Hid (SigP w' W.heap.size ⟨ki, p1, q1, r1, p2, q2, r2, p3, q3, r3⟩ kb) ∧ Below W.heap.size W w') := fun W hW => by
    have hh := implSign_any (x := b) HG.out HAB.out.2 HK8.out W (HTB.out W hW).1 (HTB.out W hW).2.1 (HTB.out W hW).2.2
    rw [HKB.out, HKI.out] at hh
    exact hh
  have hx8 := HX8.out _ (Below.refl _ _)
  have HB8 : Hid (Below w.heap.size w w8) := hx8.2.2.2.2.2
  have HBG : Hid (w8.heap[bG]? = some (.cells #[.string g.nm, .int .i64 g.hd, .int .i64 g.tk, .int .i64 g.ex] 24 (0, 0)) ∧ bG < w8.heap.size) := ⟨hx8.2.2.2.1, (Array.getElem?_eq_some_iff.1 hx8.2.2.2.1).1⟩
  have HBF : Hid (w8.heap[bF]? = some (.cells #[.int .i64 (a : Int), .int .i64 (b : Int)] 3 (0, 0)) ∧ bF < w8.heap.size) := ⟨hx8.2.2.2.2.1, (Array.getElem?_eq_some_iff.1 hx8.2.2.2.2.1).1⟩
  have c0 := (Rg.blk_cell hx8.2.2.2.1 0 (x := .string g.nm) rfl).1
  have c1 := (Rg.blk_cell hx8.2.2.2.1 1 (x := .int .i64 g.hd) rfl).1
  have c2 := (Rg.blk_cell hx8.2.2.2.1 2 (x := .int .i64 g.tk) rfl).1
  have c3 := (Rg.blk_cell hx8.2.2.2.1 3 (x := .int .i64 g.ex) rfl).1
  have f1 := (Rg.blk_cell hx8.2.2.2.2.1 1 (x := .int .i64 (b : Int)) rfl).1
  clear hx8
  go_cut [10, 11] (fun p10 s11 wx => s11 = .int .i64 0 ∧ ∃ (b10 : Nat) (p1 : Option Addr) (q1 r1 : Nat) (p2 : Option Addr) (q2 r2 : Nat) (p3 : Option Addr) (q3 r3 B : Nat), p10 = .pointer (some ⟨b10, 0, none⟩) ∧ Hid (wx.heap[b10]? = some (.cells #[.int .i64 ki, .slice p1 q1 r1, .slice p2 q2 r2, .slice p3 q3 r3] 37 (0, 0)) ∧ SigP wx B ⟨ki, p1, q1, r1, p2, q2, r2, p3, q3, r3⟩ kb ∧ Below w8.heap.size w8 wx))
  case first =>
    have ca0 := fun o => (Rg.blk_cell ((Below.heap_alloc w8 o _ HBG.out.2).trans HBG.out.1) 0 (x := .string g.nm) rfl).1
    have ca1 := fun o => (Rg.blk_cell ((Below.heap_alloc w8 o _ HBG.out.2).trans HBG.out.1) 1 (x := .int .i64 g.hd) rfl).1
    have ca2 := fun o => (Rg.blk_cell ((Below.heap_alloc w8 o _ HBG.out.2).trans HBG.out.1) 2 (x := .int .i64 g.tk) rfl).1
    have ca3 := fun o => (Rg.blk_cell ((Below.heap_alloc w8 o _ HBG.out.2).trans HBG.out.1) 3 (x := .int .i64 g.ex) rfl).1
    have fa1 := fun o => (Rg.blk_cell ((Below.heap_alloc w8 o _ HBF.out.2).trans HBF.out.1) 1 (x := .int .i64 (b : Int)) rfl).1
    go_region_law (first
      | (go_simp; go_at_call 9; first
          | ((with_reducible refine (HSG.out _ HB8.out.drew).mono ?_); rintro e w9 ⟨p1, q1, r1, p2, q2, r2, p3, q3, r3, rfl, hs9, b9⟩; have FA : Hid (∀ (_ : Unit), Below w8.heap.size w8 w9 ∧ SigP w9 w8.heap.size ⟨ki, p1, q1, r1, p2, q2, r2, p3, q3, r3⟩ kb) := fun _ => ⟨(Below.refl _ _).drew.trans b9, hs9.out⟩; clear b9 hs9; try go_simp)
          | ((with_reducible refine (HSG.out _ (HB8.out.alloc HB8.out.size _).drew).mono ?_); rintro e w9 ⟨p1, q1, r1, p2, q2, r2, p3, q3, r3, rfl, hs9, b9⟩; have zq : w9.heap[w8.heap.size]? = some (.cells #[.int .i64 0, .slice none 0 0, .slice none 0 0, .slice none 0 0] 37 (0, 0)) := (b9.block _ (by simp)).trans (heap_alloc_new _ _); obtain ⟨z0, zf0⟩ := Rg.blk_cell zq 0 (x := .int .i64 0) rfl; obtain ⟨z1, zf1⟩ := Rg.blk_cell zq 1 (x := .slice none 0 0) rfl; obtain ⟨z2, zf2⟩ := Rg.blk_cell zq 2 (x := .slice none 0 0) rfl; obtain ⟨z3, zf3⟩ := Rg.blk_cell zq 3 (x := .slice none 0 0) rfl; have FB : Hid (∀ (_ : Unit), Below w8.heap.size w8 w9 ∧ SigP w9 (w8.heap.size + 1) ⟨ki, p1, q1, r1, p2, q2, r2, p3, q3, r3⟩ kb ∧ w9.heap[w8.heap.size]? = some (.cells #[.int .i64 0, .slice none 0 0, .slice none 0 0, .slice none 0 0] 37 (0, 0))) := fun _ => ⟨((Below.refl _ _).alloc (Nat.le_refl _) _).drew.trans (b9.mono (by simp)), by simpa using hs9.out, zq⟩; clear b9 hs9 zq; try go_simp)))
    all_goals (try go_wp2_with fail)
    all_goals go_meet
    all_goals first
      | with_reducible exact ⟨rfl, _, p1, q1, r1, p2, q2, r2, p3, q3, r3, _, rfl, sgA1 (p := ⟨ki, p1, q1, r1, p2, q2, r2, p3, q3, r3⟩) (FA.out ()).1 (FA.out ()).2⟩
      | with_reducible exact ⟨rfl, _, p1, q1, r1, p2, q2, r2, p3, q3, r3, _, rfl, sgB1 (p := ⟨ki, p1, q1, r1, p2, q2, r2, p3, q3, r3⟩) (FB.out ()).1 (FB.out ()).2.1 (Nat.lt_succ_self _) (FB.out ()).2.2⟩
  case rest =>
    obtain ⟨rfl, b10, p1, q1, r1, p2, q2, r2, p3, q3, r3, B, rfl, HS10⟩ := hcut
    obtain ⟨w10, rfl⟩ : ∃ w10, w10 = wc := ⟨_, rfl⟩
    have HX10 : Hid (∀ W, Below w10.heap.size w10 W → W.heap[b10]? = some (.cells #[.int .i64 ki, .slice p1 q1 r1, .slice p2 q2 r2, .slice p3 q3 r3] 37 (0, 0)) ∧ SigP W B ⟨ki, p1, q1, r1, p2, q2, r2, p3, q3, r3⟩ kb ∧ W.heap[bC]? = some (.cells #[.string g.nm, .int .i64 g.hd, .int .i64 g.tk, .int .i64 g.ex, .slice (some ⟨nb, no, none⟩) 2 nk, .slice (some ⟨sb, so, none⟩) 2 sk] 31 (0, 0)) ∧ RowI W (.slice (some ⟨nb, no, none⟩) 2 nk) [(a : Int), (b : Int)] ∧ Row W (.slice (some ⟨sb, so, none⟩) 2 sk) [ka, kb] ∧ W.heap[bF]? = some (.cells #[.int .i64 (a : Int), .int .i64 (b : Int)] 3 (0, 0)) ∧ Below w.heap.size w W) := fun W hW => by
      have q := HX8.out W (HS10.out.2.2.trans (hW.mono HS10.out.2.2.size))
      exact ⟨(hW.block _ (Array.getElem?_eq_some_iff.1 HS10.out.1).1).trans HS10.out.1, HS10.out.2.1.below hW, q.1, q.2.1, q.2.2.1, q.2.2.2.2.1, q.2.2.2.2.2⟩
    clear HX8 HS10 HSG c0 c1 c2 c3 f1 HB8 HBG HBF
    obtain ⟨sd, HSD⟩ : ∃ sd, Hid (nsd b = sd) := ⟨_, rfl⟩
    obtain ⟨rt, HRT⟩ : ∃ rt, Hid (rootS (nsd b) = rt) := ⟨_, rfl⟩
    have HNS : Hid (∀ W, Below w.heap.size w W → Calls Tryz.prog 10 #[.int .i64 (b : Int)] W fun e w' => e = .returned (.tuple #[.string sd, .int .i64 0]) ∧ Below W.heap.size W w') := fun W hW => by
      have hh := implNodeSeed_any (b : Int) W (HTB.out W hW).2.1 (HTB.out W hW).2.2
      rw [(ns_good (inR6 HAB.out.2)).1, (ns_good (inR6 HAB.out.2)).2.1, show (b : Int).toNat = b by simp, HSD.out] at hh
      exact hh
    have HNR : Hid (∀ W, Below w.heap.size w W → Calls Tryz.prog 11 #[.int .i64 (b : Int)] W fun e w' => e = .returned (.tuple #[.string rt, .int .i64 0]) ∧ Below W.heap.size W w') := fun W hW => by
      have hh := implNodeRoot_any (b : Int) W (HTB.out W hW).2.1 (HTB.out W hW).2.2
      rw [(ns_good (inR6 HAB.out.2)).1, (ns_good (inR6 HAB.out.2)).2.2, show (b : Int).toNat = b by simp, HRT.out] at hh
      exact hh
    have HCR : Hid (∀ W, Calls Tryz.prog 12 #[.string sd] W fun e w' => e = .returned (.tuple #[.string rt, .int .i64 0]) ∧ Below W.heap.size W w') := fun W => by
      have hh := Cr.specChainRoot_any (nsd b) W
      have e0 : Hf.hf (nsd b) = 0 := Hf.hf_ok (nsd_size b)
      have e1 : Cr.rOut (nsd b) = rootS (nsd b) := if_pos e0
      rw [e0, e1, HRT.out, HSD.out] at hh
      exact hh
    have hx10 := HX10.out _ (Below.refl _ _)
    have f1 := (Rg.blk_cell hx10.2.2.2.2.2.1 1 (x := .int .i64 (b : Int)) rfl).1
    have B10 : Hid (Below w.heap.size w w10) := hx10.2.2.2.2.2.2
    clear hx10
    go_wp2_with fail
    refine (HNS.out _ B10.out).mono ?_
    rintro e w11 ⟨rfl, b11⟩
    have B11 : Hid (Below w10.heap.size w10 w11) := b11
    clear b11 f1
    have f1 := (Rg.blk_cell (HX10.out _ B11.out).2.2.2.2.2.1 1 (x := .int .i64 (b : Int)) rfl).1
    go_wp2_with fail
    refine (HNR.out _ (HX10.out _ B11.out).2.2.2.2.2.2).mono ?_
    rintro e w12 ⟨rfl, b12⟩
    have B12 : Hid (Below w10.heap.size w10 w12) := B11.out.trans (b12.mono B11.out.size)
    clear b12 f1
    go_wp2_with fail
    refine (HCR.out _).mono ?_
    rintro e w13 ⟨rfl, b13⟩
    have B13 : Hid (Below w10.heap.size w10 w13) := B12.out.trans (b13.mono B12.out.size)
    clear b13 HNS HNR HCR B12 B11 B10
    go_upto_region 13 with fail
    obtain ⟨X, hX, W, QI0, QO0⟩ := Qc.klass w13
    have QI : Hid (∀ w', Below w13.heap.size w13 w' → ∃ x, w' = W x) := QI0
    have QO : Hid (∀ x, Below w13.heap.size w13 (W x)) := QO0
    clear QI0 QO0
    have HX13 : Hid (∀ W, Below w13.heap.size w13 W → W.heap[b10]? = some (.cells #[.int .i64 ki, .slice p1 q1 r1, .slice p2 q2 r2, .slice p3 q3 r3] 37 (0, 0)) ∧ SigP W B ⟨ki, p1, q1, r1, p2, q2, r2, p3, q3, r3⟩ kb ∧ W.heap[bC]? = some (.cells #[.string g.nm, .int .i64 g.hd, .int .i64 g.tk, .int .i64 g.ex, .slice (some ⟨nb, no, none⟩) 2 nk, .slice (some ⟨sb, so, none⟩) 2 sk] 31 (0, 0)) ∧ RowI W (.slice (some ⟨nb, no, none⟩) 2 nk) [(a : Int), (b : Int)] ∧ Row W (.slice (some ⟨sb, so, none⟩) 2 sk) [ka, kb] ∧ W.heap[bF]? = some (.cells #[.int .i64 (a : Int), .int .i64 (b : Int)] 3 (0, 0)) ∧ Below w.heap.size w W) := fun W hW => HX10.out W (B13.out.trans (hW.mono B13.out.size))
    clear HX10 B13
    obtain ⟨a1', n1', c1', a2', n2', c2', a3', n3', c3', HSC⟩ : ∃ (a1 : Option Addr) (n1 c1 : Nat) (a2 : Option Addr) (n2 c2 : Nat) (a3 : Option Addr) (n3 c3 : Nat), Hid (∀ W, Below w13.heap.size w13 W → W.cell? ⟨sb, so + 4, none⟩ = some (.int .i64 ki) ∧ W.cell? ⟨sb, so + 4 + 1, none⟩ = some (.slice a1 n1 c1) ∧ W.cell? ⟨sb, so + 4 + 2, none⟩ = some (.slice a2 n2 c2) ∧ W.cell? ⟨sb, so + 4 + 3, none⟩ = some (.slice a3 n3 c3) ∧ RowT W (.slice a1 n1 c1) kb.a ∧ RowT W (.slice a2 n2 c2) kb.b ∧ RowT W (.slice a3 n3 c3) kb.c) := by
      obtain ⟨a1, n1, c1, a2, n2, c2, a3, n3, c3, e0, e1, e2, e3, t1, t2, t3⟩ := row_second (HX13.out _ (Below.refl _ _)).2.2.2.2.1
      rw [HKI.out] at e0
      have hl : sb < w13.heap.size := World.block_lt_of_cell? w13 _ e0
      exact ⟨a1, n1, c1, a2, n2, c2, a3, n3, c3, fun W hW => ⟨(hW.cell (p := ⟨sb, _, none⟩) hl).trans e0, (hW.cell (p := ⟨sb, _, none⟩) hl).trans e1, (hW.cell (p := ⟨sb, _, none⟩) hl).trans e2, (hW.cell (p := ⟨sb, _, none⟩) hl).trans e3, t1.below hW, t2.below hW, t3.below hW⟩⟩
    have HSS : Hid (∀ q, Calls Tryz.prog 13 #[.agg #[.int .i64 ki, .slice p1 q1 r1, .slice p2 q2 r2, .slice p3 q3 r3], .agg #[.int .i64 ki, .slice a1' n1' c1', .slice a2' n2' c2', .slice a3' n3' c3']] (W q) fun e w' => e = .returned (.bool true) ∧ Below (W q).heap.size (W q) w') := fun q => by
      have h1 := (HX13.out _ (QO.out q)).2.1.2
      have h2 := HSC.out _ (QO.out q)
      have hz := (kOf_tz (x := b) HG.out HAB.out.2 HK8.out).2
      rw [HKB.out] at hz
      exact Sq.sameSig_same ki _ _ _ _ _ _ kb.a kb.b kb.c (W q) (own_row h1.oa) (own_row h1.ob) (own_row h1.oc) h2.2.2.2.2.1 h2.2.2.2.2.2.1 h2.2.2.2.2.2.2 (by omega) (by omega) (by omega)
    have s0 := fun q => (Rg.blk_cell (HX13.out _ (QO.out q)).1 0 (x := .int .i64 ki) rfl).1
    have s1 := fun q => (Rg.blk_cell (HX13.out _ (QO.out q)).1 1 (x := .slice p1 q1 r1) rfl).1
    have s2 := fun q => (Rg.blk_cell (HX13.out _ (QO.out q)).1 2 (x := .slice p2 q2 r2) rfl).1
    have s3 := fun q => (Rg.blk_cell (HX13.out _ (QO.out q)).1 3 (x := .slice p3 q3 r3) rfl).1
    have d5 := fun q => (Rg.blk_cell (HX13.out _ (QO.out q)).2.2.1 5 (x := .slice (some ⟨sb, so, none⟩) 2 sk) rfl).1
    have u0 := fun q => (HSC.out _ (QO.out q)).1
    have u1 := fun q => (HSC.out _ (QO.out q)).2.1
    have u2 := fun q => (HSC.out _ (QO.out q)).2.2.1
    have u3 := fun q => (HSC.out _ (QO.out q)).2.2.2.1
    have hrr : (rt.toList != rt.toList) = false := by simp
    have hrr2 : (rt.toList == rt.toList) = true := by simp
    refine Qc.region_class (W := W) (by kernel_rfl) (by kernel_rfl) (QI.out _ Qc.from_drew) ?_
    repeat (go_big_quiet_step (first | (go_at_call 13; refine (HSS.out _).mono ?_; rintro e w2 ⟨rfl, b2⟩; exact ⟨rfl, Qc.back QI.out QO.out b2⟩)))
    refine wpQuiet_nil ?_
    rintro _ ⟨xq, rfl⟩
    have G14 : Hid (Below w13.heap.size w13 (W xq)) := QO.out xq
    clear s0 s1 s2 s3 d5 u0 u1 u2 u3 hrr hrr2 HSS QO QI HSC
    generalize W xq = w14 at G14 ⊢
    have HX14 : Hid (∀ W, Below w14.heap.size w14 W → W.heap[bC]? = some (.cells #[.string g.nm, .int .i64 g.hd, .int .i64 g.tk, .int .i64 g.ex, .slice (some ⟨nb, no, none⟩) 2 nk, .slice (some ⟨sb, so, none⟩) 2 sk] 31 (0, 0)) ∧ RowI W (.slice (some ⟨nb, no, none⟩) 2 nk) [(a : Int), (b : Int)] ∧ Row W (.slice (some ⟨sb, so, none⟩) 2 sk) [ka, kb] ∧ Below w.heap.size w W) := fun W hW => by
      have q := HX13.out W (G14.out.trans (hW.mono G14.out.size))
      exact ⟨q.2.2.1, q.2.2.2.1, q.2.2.2.2.1, q.2.2.2.2.2.2⟩
    clear HX13 G14
    have c0 := (Rg.blk_cell (HX14.out _ (Below.refl _ _)).1 0 (x := .string g.nm) rfl).1
    have c1 := (Rg.blk_cell (HX14.out _ (Below.refl _ _)).1 1 (x := .int .i64 g.hd) rfl).1
    have c2 := (Rg.blk_cell (HX14.out _ (Below.refl _ _)).1 2 (x := .int .i64 g.tk) rfl).1
    have c3 := (Rg.blk_cell (HX14.out _ (Below.refl _ _)).1 3 (x := .int .i64 g.ex) rfl).1
    have c4 := (Rg.blk_cell (HX14.out _ (Below.refl _ _)).1 4 (x := .slice (some ⟨nb, no, none⟩) 2 nk) rfl).1
    have c5 := (Rg.blk_cell (HX14.out _ (Below.refl _ _)).1 5 (x := .slice (some ⟨sb, so, none⟩) 2 sk) rfl).1
    obtain ⟨z14, Hz14⟩ : ∃ z, Hid (z = w14.heap.size) := ⟨_, rfl⟩
    have HX15 : Hid (∀ W, Below (w14.alloc (.cells #[.string g.nm, .int .i64 g.hd, .int .i64 g.tk, .int .i64 g.ex, .slice (some ⟨nb, no, none⟩) 2 nk, .slice (some ⟨sb, so, none⟩) 2 sk] 31)).heap.size (w14.alloc (.cells #[.string g.nm, .int .i64 g.hd, .int .i64 g.tk, .int .i64 g.ex, .slice (some ⟨nb, no, none⟩) 2 nk, .slice (some ⟨sb, so, none⟩) 2 sk] 31)) W → W.heap[w14.heap.size]? = some (.cells #[.string g.nm, .int .i64 g.hd, .int .i64 g.tk, .int .i64 g.ex, .slice (some ⟨nb, no, none⟩) 2 nk, .slice (some ⟨sb, so, none⟩) 2 sk] 31 (0, 0)) ∧ Below z14 w14 W ∧ z14 ≤ w14.heap.size) := fun W hW => ⟨(hW.block _ (by simp)).trans (heap_alloc_new w14 _), by rw [Hz14.out]; exact (Rg.bel_new w14 _).trans (hW.mono (by simp)), Nat.le_of_eq Hz14.out⟩
    go_upto_region 16 with fail
    generalize w14.alloc (.cells #[.string g.nm, .int .i64 g.hd, .int .i64 g.tk, .int .i64 g.ex, .slice (some ⟨nb, no, none⟩) 2 nk, .slice (some ⟨sb, so, none⟩) 2 sk] 31) = w15 at HX15 ⊢
    generalize w14.heap.size = bO at HX15 ⊢
    clear c0 c1 c2 c3 c4 c5
    obtain ⟨t2, tf2⟩ := Rg.blk_cell (HX15.out _ (Below.refl _ _)).1 2 (x := .int .i64 g.tk) rfl
    have htk0 : 0 ≤ g.tk := (tk_of HG.out).1
    have htk1 : g.tk ≤ 1000000 := (tk_of HG.out).2
    have HX16 : Hid (∀ W, Below (w15.setCell ⟨bO, 2, none⟩ (.int .i64 (g.tk + 1))).heap.size (w15.setCell ⟨bO, 2, none⟩ (.int .i64 (g.tk + 1))) W → W.heap[bO]? = some (.cells #[.string g.nm, .int .i64 g.hd, .int .i64 (g.tk + 1), .int .i64 g.ex, .slice (some ⟨nb, no, none⟩) 2 nk, .slice (some ⟨sb, so, none⟩) 2 sk] 31 (0, 0)) ∧ W.heap[bC]? = some (.cells #[.string g.nm, .int .i64 g.hd, .int .i64 g.tk, .int .i64 g.ex, .slice (some ⟨nb, no, none⟩) 2 nk, .slice (some ⟨sb, so, none⟩) 2 sk] 31 (0, 0)) ∧ RowI W (.slice (some ⟨nb, no, none⟩) 2 nk) [(a : Int), (b : Int)] ∧ Row W (.slice (some ⟨sb, so, none⟩) 2 sk) [ka, kb] ∧ Below w.heap.size w W) := fun W hW => by
      have q := HX15.out _ (Below.refl _ _)
      have h1 := Rg.blk_set q.1 2 (.int .i64 (g.tk + 1))
      have hb := q.2.1.setCell (p := ⟨bO, 2, none⟩) q.2.2 (.int .i64 (g.tk + 1))
      rw [Hz14.out] at hb
      have q2 := HX14.out W (hb.trans (hW.mono hb.size))
      exact ⟨(hW.block _ (Array.getElem?_eq_some_iff.1 h1).1).trans h1, q2⟩
    go_upto_region 17 with fail
    generalize w15.setCell ⟨bO, 2, none⟩ (.int .i64 (g.tk + 1)) = w16 at HX16 ⊢
    clear HX15 HX14 t2 tf2 htk0 htk1 Hz14
    have c0 := (Rg.blk_cell (HX16.out _ (Below.refl _ _)).2.1 0 (x := .string g.nm) rfl).1
    have c1 := (Rg.blk_cell (HX16.out _ (Below.refl _ _)).2.1 1 (x := .int .i64 g.hd) rfl).1
    have c2 := (Rg.blk_cell (HX16.out _ (Below.refl _ _)).2.1 2 (x := .int .i64 g.tk) rfl).1
    have c3 := (Rg.blk_cell (HX16.out _ (Below.refl _ _)).2.1 3 (x := .int .i64 g.ex) rfl).1
    have c4 := (Rg.blk_cell (HX16.out _ (Below.refl _ _)).2.1 4 (x := .slice (some ⟨nb, no, none⟩) 2 nk) rfl).1
    have c5 := (Rg.blk_cell (HX16.out _ (Below.refl _ _)).2.1 5 (x := .slice (some ⟨sb, so, none⟩) 2 sk) rfl).1
    obtain ⟨z16, Hz16⟩ : ∃ z, Hid (z = w16.heap.size) := ⟨_, rfl⟩
    have HX17 : Hid ((w16.alloc (.cells #[.string g.nm, .int .i64 g.hd, .int .i64 g.tk, .int .i64 g.ex, .slice (some ⟨nb, no, none⟩) 2 nk, .slice (some ⟨sb, so, none⟩) 2 sk] 31)).heap[w16.heap.size]? = some (.cells #[.string g.nm, .int .i64 g.hd, .int .i64 g.tk, .int .i64 g.ex, .slice (some ⟨nb, no, none⟩) 2 nk, .slice (some ⟨sb, so, none⟩) 2 sk] 31 (0, 0)) ∧ Below z16 w16 (w16.alloc (.cells #[.string g.nm, .int .i64 g.hd, .int .i64 g.tk, .int .i64 g.ex, .slice (some ⟨nb, no, none⟩) 2 nk, .slice (some ⟨sb, so, none⟩) 2 sk] 31)) ∧ z16 ≤ w16.heap.size) := ⟨heap_alloc_new w16 _, by rw [Hz16.out]; exact Rg.bel_new _ _, Nat.le_of_eq Hz16.out⟩
    go_upto_region 18 with fail
    generalize w16.alloc (.cells #[.string g.nm, .int .i64 g.hd, .int .i64 g.tk, .int .i64 g.ex, .slice (some ⟨nb, no, none⟩) 2 nk, .slice (some ⟨sb, so, none⟩) 2 sk] 31) = w17 at HX17 ⊢
    generalize w16.heap.size = bL at HX17 ⊢
    clear c0 c1 c2 c3 c4 c5
    have d4 := (Rg.blk_cell (HX16.out _ (by rw [← Hz16.out]; exact HX17.out.2.1)).2.1 4 (x := .slice (some ⟨nb, no, none⟩) 2 nk) rfl).1
    obtain ⟨t4, tf4⟩ := Rg.blk_cell HX17.out.1 4 (x := .slice (some ⟨nb, no, none⟩) 2 nk) rfl
    have hn1 : (1 : Int) ≤ (nk : Int) := by have := HCAP.out.1; omega
    have hs1 : (1 : Int) ≤ (sk : Int) := by have := HCAP.out.2; omega
    have HX18 : Hid ((w17.setCell ⟨bL, 4, none⟩ (.slice (some ⟨nb, no, none⟩) 1 nk)).heap[bL]? = some (.cells #[.string g.nm, .int .i64 g.hd, .int .i64 g.tk, .int .i64 g.ex, .slice (some ⟨nb, no, none⟩) 1 nk, .slice (some ⟨sb, so, none⟩) 2 sk] 31 (0, 0)) ∧ Below z16 w16 (w17.setCell ⟨bL, 4, none⟩ (.slice (some ⟨nb, no, none⟩) 1 nk)) ∧ z16 ≤ bL) := ⟨Rg.blk_set HX17.out.1 _ _, HX17.out.2.1.setCell (p := ⟨bL, 4, none⟩) HX17.out.2.2 _, HX17.out.2.2⟩
    go_upto_region 19 with fail
    generalize w17.setCell ⟨bL, 4, none⟩ (.slice (some ⟨nb, no, none⟩) 1 nk) = w18 at HX18 ⊢
    clear HX17 d4 t4 tf4
    have d5 := (Rg.blk_cell (HX16.out _ (by rw [← Hz16.out]; exact HX18.out.2.1)).2.1 5 (x := .slice (some ⟨sb, so, none⟩) 2 sk) rfl).1
    obtain ⟨t5, tf5⟩ := Rg.blk_cell HX18.out.1 5 (x := .slice (some ⟨sb, so, none⟩) 2 sk) rfl
    have HX19 : Hid ((w18.setCell ⟨bL, 5, none⟩ (.slice (some ⟨sb, so, none⟩) 1 sk)).heap[bL]? = some (.cells #[.string g.nm, .int .i64 g.hd, .int .i64 g.tk, .int .i64 g.ex, .slice (some ⟨nb, no, none⟩) 1 nk, .slice (some ⟨sb, so, none⟩) 1 sk] 31 (0, 0)) ∧ Below z16 w16 (w18.setCell ⟨bL, 5, none⟩ (.slice (some ⟨sb, so, none⟩) 1 sk)) ∧ z16 ≤ bL) := ⟨Rg.blk_set HX18.out.1 _ _, HX18.out.2.1.setCell (p := ⟨bL, 5, none⟩) HX18.out.2.2 _, HX18.out.2.2⟩
    go_upto_region 20 with fail
    generalize w18.setCell ⟨bL, 5, none⟩ (.slice (some ⟨sb, so, none⟩) 1 sk) = w19 at HX19 ⊢
    clear HX18 d5 t5 tf5 hn1 hs1
    have HX20 : Hid (∀ W, Below w19.heap.size w19 W → W.heap[bL]? = some (.cells #[.string g.nm, .int .i64 g.hd, .int .i64 g.tk, .int .i64 g.ex, .slice (some ⟨nb, no, none⟩) 1 nk, .slice (some ⟨sb, so, none⟩) 1 sk] 31 (0, 0)) ∧ W.heap[bO]? = some (.cells #[.string g.nm, .int .i64 g.hd, .int .i64 (g.tk + 1), .int .i64 g.ex, .slice (some ⟨nb, no, none⟩) 2 nk, .slice (some ⟨sb, so, none⟩) 2 sk] 31 (0, 0)) ∧ RowI W (.slice (some ⟨nb, no, none⟩) 2 nk) [(a : Int), (b : Int)] ∧ Row W (.slice (some ⟨sb, so, none⟩) 2 sk) [ka, kb] ∧ Below w.heap.size w W) := fun W hW => by
      have q := HX16.out W (by rw [← Hz16.out]; exact HX19.out.2.1.trans (hW.mono (by have := (Array.getElem?_eq_some_iff.1 HX19.out.1).1; have := HX19.out.2.2; omega)))
      exact ⟨(hW.block _ (Array.getElem?_eq_some_iff.1 HX19.out.1).1).trans HX19.out.1, q.1, q.2.2⟩
    clear HX16 HX19 Hz16
    obtain ⟨cv, HCV⟩ : ∃ cv, Hid (ckC 4 ⟨g.nm, g.hd, g.tk + 1, g.ex⟩ [(a : Int), (b : Int)] [ka, kb] = cv) := ⟨_, rfl⟩
    have HTZ1 : Hid (∀ x ∈ [ka], Tz maxLen x) := fun x hx => HTZ.out x (by simp at hx; simp [hx])
    obtain ⟨X, hX, W, QI0, QO0⟩ := Qc.klass w19
    have QI : Hid (∀ w', Below w19.heap.size w19 w' → ∃ x, w' = W x) := QI0
    have QO : Hid (∀ x, Below w19.heap.size w19 (W x)) := QO0
    clear QI0 QO0
    have HC1 : Hid (∀ q, Calls Tryz.prog 8 #[.int .i64 4, .agg #[.string g.nm, .int .i64 g.hd, .int .i64 (g.tk + 1), .int .i64 g.ex, .slice (some ⟨nb, no, none⟩) 2 nk, .slice (some ⟨sb, so, none⟩) 2 sk]] (W q) fun e w' => e = .returned (.int .i64 cv) ∧ Below (W q).heap.size (W q) w') := fun q => by
      have x := HX20.out _ (QO.out q)
      have hh := implCheckCertificate_any 4 ⟨g.nm, g.hd, g.tk + 1, g.ex⟩ (.slice (some ⟨nb, no, none⟩) 2 nk) (.slice (some ⟨sb, so, none⟩) 2 sk) [(a : Int), (b : Int)] [ka, kb] (W q) x.2.2.1 x.2.2.2.1 (show g.nm.size ≤ maxLen from zg_of HG.out) (by simp) (by simp) HTZ.out (HTB.out _ x.2.2.2.2).1 (HTB.out _ x.2.2.2.2).2.1 (HTB.out _ x.2.2.2.2).2.2
      rw [HCV.out] at hh
      exact hh
    have HC2 : Hid (∀ q, Calls Tryz.prog 14 #[.int .i64 4, .agg #[.string g.nm, .int .i64 g.hd, .int .i64 (g.tk + 1), .int .i64 g.ex, .slice (some ⟨nb, no, none⟩) 2 nk, .slice (some ⟨sb, so, none⟩) 2 sk]] (W q) fun e w' => e = .returned (.int .i64 cv) ∧ Below (W q).heap.size (W q) w') := fun q => by
      have x := HX20.out _ (QO.out q)
      have hh := specCheckCertificate_any 4 ⟨g.nm, g.hd, g.tk + 1, g.ex⟩ (.slice (some ⟨nb, no, none⟩) 2 nk) (.slice (some ⟨sb, so, none⟩) 2 sk) [(a : Int), (b : Int)] [ka, kb] (W q) x.2.2.1 x.2.2.2.1 (show g.nm.size ≤ maxLen from zg_of HG.out) (by simp) (by simp) HTZ.out
      rw [HCV.out] at hh
      exact hh
    have HC3 : Hid (∀ q, Calls Tryz.prog 8 #[.int .i64 4, .agg #[.string g.nm, .int .i64 g.hd, .int .i64 g.tk, .int .i64 g.ex, .slice (some ⟨nb, no, none⟩) 1 nk, .slice (some ⟨sb, so, none⟩) 1 sk]] (W q) fun e w' => e = .returned (.int .i64 19) ∧ Below (W q).heap.size (W q) w') := fun q => by
      have x := HX20.out _ (QO.out q)
      have hh := implCheckCertificate_any 4 g (.slice (some ⟨nb, no, none⟩) 1 nk) (.slice (some ⟨sb, so, none⟩) 1 sk) [(a : Int)] [ka] (W q) (rowI_first x.2.2.1) (row_first x.2.2.2.1) (zg_of HG.out) (by simp) (by simp) HTZ1.out (HTB.out _ x.2.2.2.2).1 (HTB.out _ x.2.2.2.2).2.1 (HTB.out _ x.2.2.2.2).2.2
      rw [ck_one _ _ HG.out] at hh
      exact hh
    have o0 := fun q => (Rg.blk_cell (HX20.out _ (QO.out q)).2.1 0 (x := .string g.nm) rfl).1
    have o1 := fun q => (Rg.blk_cell (HX20.out _ (QO.out q)).2.1 1 (x := .int .i64 g.hd) rfl).1
    have o2 := fun q => (Rg.blk_cell (HX20.out _ (QO.out q)).2.1 2 (x := .int .i64 (g.tk + 1)) rfl).1
    have o3 := fun q => (Rg.blk_cell (HX20.out _ (QO.out q)).2.1 3 (x := .int .i64 g.ex) rfl).1
    have o4 := fun q => (Rg.blk_cell (HX20.out _ (QO.out q)).2.1 4 (x := .slice (some ⟨nb, no, none⟩) 2 nk) rfl).1
    have o5 := fun q => (Rg.blk_cell (HX20.out _ (QO.out q)).2.1 5 (x := .slice (some ⟨sb, so, none⟩) 2 sk) rfl).1
    have l0 := fun q => (Rg.blk_cell (HX20.out _ (QO.out q)).1 0 (x := .string g.nm) rfl).1
    have l1 := fun q => (Rg.blk_cell (HX20.out _ (QO.out q)).1 1 (x := .int .i64 g.hd) rfl).1
    have l2 := fun q => (Rg.blk_cell (HX20.out _ (QO.out q)).1 2 (x := .int .i64 g.tk) rfl).1
    have l3 := fun q => (Rg.blk_cell (HX20.out _ (QO.out q)).1 3 (x := .int .i64 g.ex) rfl).1
    have l4 := fun q => (Rg.blk_cell (HX20.out _ (QO.out q)).1 4 (x := .slice (some ⟨nb, no, none⟩) 1 nk) rfl).1
    have l5 := fun q => (Rg.blk_cell (HX20.out _ (QO.out q)).1 5 (x := .slice (some ⟨sb, so, none⟩) 1 sk) rfl).1
    have hcv : (cv == cv) = true := by simp
    refine Qc.region_class (W := W) (by kernel_rfl) (by kernel_rfl) (QI.out _ Qc.from_drew) ?_
    repeat (go_big_quiet_step (first | (go_at_call 8; first | ((with_reducible refine (HC1.out _).mono ?_); rintro e w2 ⟨rfl, b2⟩; exact ⟨rfl, Qc.back QI.out QO.out b2⟩) | ((with_reducible refine (HC3.out _).mono ?_); rintro e w2 ⟨rfl, b2⟩; exact ⟨rfl, Qc.back QI.out QO.out b2⟩)) | (go_at_call 14; refine (HC2.out _).mono ?_; rintro e w2 ⟨rfl, b2⟩; exact ⟨rfl, Qc.back QI.out QO.out b2⟩)))
    refine wpQuiet_nil ?_
    rintro _ ⟨xq, rfl⟩
    have G21 : Hid (Below w.heap.size w (W xq)) := (HX20.out _ (QO.out xq)).2.2.2.2
    generalize W xq = w21 at G21 ⊢
    go_wp2_with fail
    go_ret
    exact ⟨rfl, G21.out⟩

set_option maxRecDepth 100000 in
theorem lifted (os : Os) (started : os.Started) (H : Type) (enc : TypeId × Value → H) :
    ReturnsInHanded {} Tryz.checked os 3 .any (fun w args => (Rows.fnCertificatesSpec.pre enc Tryz.prog Tryz.f3 [] false w args ∧ laidMetH Tryz.prog Rows.fnCertificatesRow.laid w) ∧ sizedMet enc Tryz.prog Tryz.f3 (OpenSpec.ofChange Rows.fnCertificatesSpec) false w args)
      (Rows.fnCertificatesSpec.post enc Tryz.prog Tryz.f3 false true false false) := by
  refine returnsInHanded_of_change_and (C := Tryz.checked) (X := fun w _ => laidMetH Tryz.prog Rows.fnCertificatesRow.laid w) (fun _ _ _ hh h => h.of_heap hh) own started (by kernel_rfl) Tryz.func3
    (ChangeSpec.witness_shaped (enc := enc) (C := Tryz.checked) (os := os) (X := fun w _ => laidMetH Tryz.prog Rows.fnCertificatesRow.laid w) false (World.doorLaid Tryz.prog 400 os) #[.slice none 0 0, .slice none 0 0] 8 rfl (World.shaped_of_RefB (by kernel_rfl) (by kernel_rfl)) (by kernel_rfl) (by kernel_rfl) (by kernel_rfl) (door_met os _)) ?_
  intro W base args ds gs before hval0 hW _ _ hL _
  have hval : ∀ (j : Nat) t v, Tryz.f3.params[j]? = some t → args[j]? = some v → Value.okWide Tryz.prog W .any base t v := hval0
  have hW' := hW
  obtain ⟨p, q, hA0, hV0, rfl, hfz, hnd⟩ := hW
  have hA : DataW.TrodAll enc Tryz.prog W 0 (fun _ => true) true Tryz.f3.params.toList args.toList ds p := hA0
  have hV : DataW.TrodVars enc Tryz.prog W (fun _ => true) ["loop.example/g00292/impl.roundWords"] gs q := hV0
  rw [Tryz.params3] at hA hval
  obtain ⟨v0, vs0, d0, ds0, p0, q0, hargs, rfl, rfl, h0, r0⟩ := trodAll_cons hA
  obtain ⟨v1, vs1, d1, ds1, p1, q1, rfl, rfl, rfl, h1, r1⟩ := trodAll_cons r0
  obtain ⟨rfl, rfl, rfl⟩ := trodAll_nil r1
  obtain rfl : args = #[v0, v1] := by cases args; simp_all
  obtain ⟨_, _, _, _, dv, _, rfl, _⟩ := trodVars_one hV
  have k00 := h0
  have lt0 : ∀ x ∈ p0, x.block < W.heap.size := by obtain ⟨m, hm⟩ := k00; exact DataW.trod_lt m _ _ _ hm
  obtain ⟨xs0, w0⟩ := Op.open_bytes (hval 0 22 v0 rfl rfl) h0 (fun _ => rfl)
  have k10 := h1
  have lt1 : ∀ x ∈ p1, x.block < W.heap.size := by obtain ⟨m, hm⟩ := k10; exact DataW.trod_lt m _ _ _ hm
  obtain ⟨xs1, w1⟩ := Op.open_bytes (hval 1 22 v1 rfl rfl) h1 (fun _ => rfl)
  clear hA0 hval0 hV0
  have hT := Hl.tab_of hL
  refine (walk v0 xs0 w0 v1 xs1 w1 hT).mono fun e W' ⟨he, bel⟩ => ?_
  subst he
  exact ⟨_, rfl, _, _, _, [], _, q, hW', trodAll_mk1 (shut_bool Tryz.underlying4 _), (trodAll_cons_mk (Below.trod laidOut (by kernel_rfl) (of_decide_eq_true (by kernel_rfl)) k00 bel lt0) (trodAll_cons_mk (Below.trod laidOut (by kernel_rfl) (of_decide_eq_true (by kernel_rfl)) k10 bel lt1) trodAll_mk0)), Below.trodVars laidOut bel rowed hV, bel.frame _, fun h => by cases h⟩

theorem said : Rows.FnCertificatesSaid :=
  OpenClaim.holds_of_wide 3 Tryz.f3 rfl rfl rfl rfl rfl rfl rfl ⟨rfl, rfl, rfl, rfl, rfl⟩ rfl rfl rfl rfl rfl (by kernel_rfl) Tryz.func3 (by kernel_rfl)
    (of_decide_eq_true (by kernel_rfl)) (by unfold Func.isWrapper; first | (rw [if_pos (by decide +kernel)]; kernel_rfl) | (rw [if_neg (by decide +kernel)]; exact ⟨rfl, rfl⟩))
    (fun os started H enc _ => lifted os started H enc)

/-- No parameter wants a stand-in; the program's own looks are off. -/
theorem plain (f : FuncId) (fn : Func) (hf : Tryz.pinned.checked.prog.funcNamed "loop.example/g00292/laws.FnCertificates" = some f) (hfn : Tryz.pinned.checked.prog.funcs[f]? = some fn) :
    false = Tryz.pinned.checked.prog.looks [] ∧ ∀ (j : Nat) t, fn.params[j]? = some t → Tryz.pinned.checked.prog.wantsStandIn t = false := by
  obtain rfl : f = 3 := Option.some.inj ((show Tryz.prog.funcNamed "loop.example/g00292/laws.FnCertificates" = some 3 by kernel_rfl).symm.trans hf) |>.symm
  obtain rfl : fn = Tryz.f3 := (Option.some.inj (Tryz.func3.symm.trans hfn)).symm
  refine ⟨by kernel_rfl, fun j t ht => ?_⟩
  rw [Tryz.params3] at ht
  have hm := Array.mem_of_getElem? ht
  have hl : t ∈ [22, 22] := by simpa using hm
  have hall : ∀ x ∈ [22, 22], Tryz.prog.wantsStandIn x = false := by
    intro x hx
    simp only [List.mem_cons, List.not_mem_nil, or_false] at hx
    rcases hx with rfl | rfl <;> kernel_rfl
  exact hall t hl
end Go.Proofs.YtiflfcpoajijaaaGreatDoor.fnCertificates
namespace Go.Proofs.YtiflfcpoajijaaaGreatDoor
/-- THE STATEMENT: the card. -/
theorem fnCertificates_holds : Rows.FnCertificatesCardSaid :=
  Claim7.holds_tied_plain_at .later [] _ _ _ _ fnCertificates.said (fun _ h => by cases h) (by kernel_rfl) (fun _ h => by cases h) fnCertificates_row_tie rfl ⟨rfl, rfl⟩ (by kernel_rfl) rfl fnCertificates.plain (by kernel_rfl)
end Go.Proofs.YtiflfcpoajijaaaGreatDoor
