/-
  impl.LockAt answers at every table and name just what the specification's LockAt answers; it leaves the table as it was, keeps nothing of it, and its answer owns its memory.
  Conditions: none beyond the given row's own.
-/
import Derived.Test.YtkjbdemhpnhagaaMk6
import Derived.Test.YtkjbdemhpnhagaaTq
import Derived.Test.YtkjbdemhpnhagaaTr
import Derived.Test.YtkjbdemhpnhagaaMv2
import Derived.Test.YtkjbdemhpnhagaaMk5
import Derived.WalkKit
import Derived.Deep.RegionHeld
import Derived.ProofKit
import Derived.OpenShut
import Derived.ShutString
import Derived.ChangeOld
import Derived.Below
namespace Go.Proofs.Ytkjbdemhpnhagaa.fnExactLockAt
open Go.ChangeShapes Go.WideShapes Go.ChangeAt Go.RowKit
open Go.ChangeMaps (open_string shut_string)

theorem own : ownKnob Try.prog.godebug = none := by kernel_rfl
theorem laidOut : laidOutB Try.prog = true := by kernel_rfl

open Go.Proofs.Ytkjbdemhpnhagaa.Sl Go.Proofs.Ytkjbdemhpnhagaa.Ap Go.Proofs.Ytkjbdemhpnhagaa.Tb Go.Proofs.Ytkjbdemhpnhagaa.Tw Go.Proofs.Ytkjbdemhpnhagaa.Rq Go.Proofs.Ytkjbdemhpnhagaa.Tp Go.Proofs.Ytkjbdemhpnhagaa.Tq Go.Proofs.Ytkjbdemhpnhagaa.Mw Go.Proofs.Ytkjbdemhpnhagaa.Lp Go.Proofs.Ytkjbdemhpnhagaa.Lq Go.Proofs.Ytkjbdemhpnhagaa.Lw
open Go.Proofs.Ytkjbdemhpnhagaa.Tx (blk_cell blk_set blk_far blk_new bel_new)
set_option maxRecDepth 100000 in
set_option maxHeartbeats 6400000 in
/-- THE WALK: both functions answer alike. -/
theorem walk (t : Tab) (vl vs : Value) (w : World) (hl : RowL w vl t.ls) (hs : RowS w vs t.ss) (y : t.ls.length ≤ maxLen) (z : t.ss.length ≤ maxLen) (m : ∀ x ∈ t.ls, LkZ x) (n : ByteArray) (_hn : n.size ≤ maxLen) :
    Calls Try.prog 4 #[tabV t.tm t.nx vl vs, .string n] w fun e w' => e = .returned (.bool true) ∧ Below w.heap.size w w' := by
  obtain ⟨tm, nx, ls, ss⟩ := t
  dsimp only at hl hs y z m ⊢
  have HR : Hid (RowL w vl ls ∧ RowS w vs ss) := ⟨hl, hs⟩
  have HM : Hid (∀ x ∈ ls, LkZ x) := m
  clear hl hs m
  unfold tabV
  have HBX : Hid (Below w.heap.size w (w.alloc (.cells #[.int .i64 tm, .int .i64 nx, vl, vs] 25))) := bel_new _ _
  have HCX : Hid (∀ W, Below (w.alloc (.cells #[.int .i64 tm, .int .i64 nx, vl, vs] 25)).heap.size (w.alloc (.cells #[.int .i64 tm, .int .i64 nx, vl, vs] 25)) W → (W.cell? ⟨w.heap.size, 0, none⟩ = some (.int .i64 tm) ∧ W.cell? ⟨w.heap.size, 1, none⟩ = some (.int .i64 nx) ∧ W.cell? ⟨w.heap.size, 2, none⟩ = some vl ∧ W.cell? ⟨w.heap.size, 3, none⟩ = some vs) ∧ RowL W vl ls ∧ RowS W vs ss ∧ Below w.heap.size w W) := fun W hW => by
    have h1 := (hW.block w.heap.size (by simp)).trans (heap_alloc_new w _)
    exact ⟨⟨(blk_cell h1 0 rfl).1, (blk_cell h1 1 rfl).1, (blk_cell h1 2 rfl).1, (blk_cell h1 3 rfl).1⟩, (HR.out.1.below HBX.out).below hW, (HR.out.2.below HBX.out).below hW, HBX.out.trans (hW.mono HBX.out.size)⟩
  go_enter Try.func4, Try.ntmps4
  go_upto_region 1 with fail
  generalize w.alloc (.cells #[.int .i64 tm, .int .i64 nx, vl, vs] 25) = wb at HCX HBX ⊢
  obtain ⟨⟨x0, x1, x2, x3⟩, r1, r2, _⟩ := HCX.out wb (Below.refl _ _)
  have HRB : Hid (RowL wb vl ls ∧ RowS wb vs ss) := ⟨r1, r2⟩
  clear r1 r2 HR
  by_cases hbig : n.size > 1048576
  · have hb1 : (1048576 : Int) < (n.size : Int) := by omega
    have HE : Hid (Below w.heap.size w wb) := HBX.out
    go_wp2_with fail
    go_ret
    exact ⟨rfl, HE.out⟩
  have hb1 : ¬ (1048576 : Int) < (n.size : Int) := by omega
  have hn1 : n.size ≤ 1048576 := by omega
  go_wp2_with fail
  refine (szTable_any tm nx vl vs ls ss _ HRB.out.1 HRB.out.2 HM.out y z).mono ?_
  rintro e w1 ⟨⟨r, rfl, hr⟩, b1⟩
  have B1 : Hid (Below wb.heap.size wb w1) := b1
  clear b1 x0 x1 x2 x3 y z HM
  rcases hr with rfl | ⟨hq, hl1, hl2, hl3⟩
  · have HE : Hid (Below w.heap.size w w1) := (HCX.out w1 B1.out).2.2.2
    go_wp2_with fail
    go_ret
    exact ⟨rfl, HE.out⟩
  have hq' : ¬ r < 0 := by omega
  have H3 : Hid (∀ x ∈ ls, x.n.size ≤ 1048576 ∧ x.ws.length ≤ 1048576) := hl3
  have H4 : Hid (∀ x ∈ ls, x.ws.length ≤ 1048576) := (show ∀ x ∈ ls, x.ws.length ≤ 1048576 from fun x hx => (hl3 x hx).2)
  clear hl3 hq
  obtain ⟨⟨A, code⟩, HAC⟩ : ∃ p : Lk × Int, Hid (lAns tm nx ls ss n = p) := ⟨_, rfl⟩
  have hcc : (code != code) = false := by simp
  have hal : A.ws.length ≤ 1048576 := by
    have h : (lAns tm nx ls ss n).1.ws.length ≤ 1048576 := ans_small (fun x hx => (H3.out x hx).2)
    rw [HAC.out] at h
    exact h
  have hml : ¬ (((1 + A.ws.length * 2 : Nat) : Int) < 0) := by omega
  have hmm : (((1 + A.ws.length * 2 : Nat) : Int) != ((1 + A.ws.length * 2 : Nat) : Int)) = false := by simp
  obtain ⟨⟨x0, x1, x2, x3⟩, r1, r2, _⟩ := HCX.out w1 B1.out
  have HRC : Hid (RowL w1 vl ls ∧ RowS w1 vs ss) := ⟨r1, r2⟩
  clear r1 r2
  go_wp2_with fail
  refine (toTable_any tm nx vl vs ls ss _ HRC.out.1 HRC.out.2 hl1 hl2 H4.out).mono ?_
  rintro e w2 ⟨ul2, us2, rfl, c1, c2, b2⟩
  have B2 : Hid (Below wb.heap.size wb w2) := B1.out.trans (b2.mono B1.out.size)
  have R2 : Hid (RowL w2 ul2 ls ∧ RowS w2 us2 ss) := ⟨c1, c2⟩
  clear b2 c1 c2 HRC B1 x0 x1 x2 x3
  go_wp2_with fail
  refine (specLockAt_any tm nx ul2 us2 ls ss n w2 R2.out.1 R2.out.2 H3.out hl1 hl2 hn1).mono ?_
  rintro e w3 ⟨u3, rfl, r3, b3⟩
  rw [HAC.out] at r3 ⊢
  dsimp only at r3 ⊢
  obtain ⟨a3, c3, rfl⟩ := RowG.slice r3
  have B3 : Hid (Below wb.heap.size wb w3 ∧ RowW w3 (.slice a3 A.ws.length c3) A.ws) := ⟨B2.out.trans (b3.mono B2.out.size), r3⟩
  clear b3 r3 R2 B2
  unfold lkV
  go_upto_region 8 with fail
  have F6 : Hid (∀ W, Below (w3.alloc (.cells #[.string A.n, .int .i64 A.t, .int .i64 A.h, .int .i64 A.e, .slice a3 A.ws.length c3] 37)).heap.size (w3.alloc (.cells #[.string A.n, .int .i64 A.t, .int .i64 A.h, .int .i64 A.e, .slice a3 A.ws.length c3] 37)) W → W.heap[w3.heap.size]? = some (.cells #[.string A.n, .int .i64 A.t, .int .i64 A.h, .int .i64 A.e, .slice a3 A.ws.length c3] 37 (0, 0)) ∧ RowW W (.slice a3 A.ws.length c3) A.ws ∧ Below wb.heap.size wb W) := fun W hW =>
    ⟨(hW.block _ (by rw [Bk.size_new]; omega)).trans (blk_new _ _ _), (B3.out.2.below (bel_new _ _)).below hW, B3.out.1.trans (((bel_new w3 _).mono B3.out.1.size).trans (hW.mono (by rw [Bk.size_new]; have := B3.out.1.size; omega)))⟩
  clear B3
  generalize w3.alloc (.cells #[.string A.n, .int .i64 A.t, .int .i64 A.h, .int .i64 A.e, .slice a3 A.ws.length c3] 37) = w3b at F6 ⊢
  generalize w3.heap.size = b6 at F6 ⊢
  obtain ⟨⟨x0, x1, x2, x3⟩, r1, r2, _⟩ := HCX.out w3b (F6.out w3b (Below.refl _ _)).2.2
  have HRC : Hid (RowL w3b vl ls ∧ RowS w3b vs ss) := ⟨r1, r2⟩
  clear r1 r2
  go_wp2_with fail
  refine (toTableW_any tm nx vl vs ls ss _ HRC.out.1 HRC.out.2 hl1 hl2 H4.out).mono ?_
  rintro e w4 ⟨gl, gs, rfl, c1, c2, tw, b4⟩
  have R4 : Hid (RowL w4 (.slice (some ⟨gl, 0, none⟩) ls.length ls.length) ls ∧ RowS w4 (.slice (some ⟨gs, 0, none⟩) ss.length ss.length) ss) := ⟨c1, c2⟩
  have T4 : Hid (TabW w3b.heap.size w4.heap.size w4 gl gs ls ss) := tw
  have B34 : Hid (Below w3b.heap.size w3b w4) := b4
  clear b4 c1 c2 tw HRC x0 x1 x2 x3
  have HD : Hid (∀ W, Below (w4.alloc (.cells #[.int .i64 tm, .int .i64 nx, .slice (some ⟨gl, 0, none⟩) ls.length ls.length, .slice (some ⟨gs, 0, none⟩) ss.length ss.length] 31)).heap.size (w4.alloc (.cells #[.int .i64 tm, .int .i64 nx, .slice (some ⟨gl, 0, none⟩) ls.length ls.length, .slice (some ⟨gs, 0, none⟩) ss.length ss.length] 31)) W → (W.cell? ⟨w4.heap.size, 0, none⟩ = some (.int .i64 tm) ∧ W.cell? ⟨w4.heap.size, 1, none⟩ = some (.int .i64 nx) ∧ W.cell? ⟨w4.heap.size, 2, none⟩ = some (.slice (some ⟨gl, 0, none⟩) ls.length ls.length) ∧ W.cell? ⟨w4.heap.size, 3, none⟩ = some (.slice (some ⟨gs, 0, none⟩) ss.length ss.length)) ∧ (RowL W (.slice (some ⟨gl, 0, none⟩) ls.length ls.length) ls ∧ RowS W (.slice (some ⟨gs, 0, none⟩) ss.length ss.length) ss) ∧ Below w4.heap.size w4 W) := fun W hW => by
    have h1 := (hW.block w4.heap.size (by simp)).trans (heap_alloc_new w4 _)
    exact ⟨⟨(blk_cell h1 0 rfl).1, (blk_cell h1 1 rfl).1, (blk_cell h1 2 rfl).1, (blk_cell h1 3 rfl).1⟩, ⟨(R4.out.1.below (bel_new _ _)).below hW, (R4.out.2.below (bel_new _ _)).below hW⟩, (bel_new w4 _).trans (hW.mono (by simp))⟩
  have hsz : w4.heap.size < (w4.alloc (.cells #[.int .i64 tm, .int .i64 nx, .slice (some ⟨gl, 0, none⟩) ls.length ls.length, .slice (some ⟨gs, 0, none⟩) ss.length ss.length] 31)).heap.size := by simp
  unfold tabV
  go_upto_region 9 with fail
  generalize w4.alloc (.cells #[.int .i64 tm, .int .i64 nx, .slice (some ⟨gl, 0, none⟩) ls.length ls.length, .slice (some ⟨gs, 0, none⟩) ss.length ss.length] 31) = wd at HD hsz ⊢
  have HSD : Hid (w4.heap.size < wd.heap.size) := hsz
  obtain ⟨⟨x0, x1, x2, x3⟩, r1, bd⟩ := HD.out wd (Below.refl _ _)
  have RD : Hid (RowL wd (.slice (some ⟨gl, 0, none⟩) ls.length ls.length) ls ∧ RowS wd (.slice (some ⟨gs, 0, none⟩) ss.length ss.length) ss) := r1
  clear r1 bd R4 hsz
  go_wp2_with fail
  refine (implLockAt_any tm nx _ _ ls ss n _ RD.out.1 RD.out.2 H3.out hl1 hl2 hn1).mono ?_
  rintro e w5 ⟨u5, rfl, o5, b5⟩
  rw [HAC.out] at o5 ⊢
  dsimp only at o5 ⊢
  obtain ⟨a5, c5, rfl⟩ := Wa.OwnW.slice o5
  have B5 : Hid (Below wd.heap.size wd w5 ∧ Wa.OwnW w5 wd.heap.size (.slice a5 A.ws.length c5) A.ws) := ⟨b5, o5⟩
  clear b5 o5 x0 x1 x2 x3 RD
  unfold lkV
  go_upto_region 10 with fail
  have H9 : Hid (Below wd.heap.size wd (w5.alloc (.cells #[.string A.n, .int .i64 A.t, .int .i64 A.h, .int .i64 A.e, .slice a5 A.ws.length c5] 37)) ∧ Wa.OwnW (w5.alloc (.cells #[.string A.n, .int .i64 A.t, .int .i64 A.h, .int .i64 A.e, .slice a5 A.ws.length c5] 37)) wd.heap.size (.slice a5 A.ws.length c5) A.ws ∧ (w5.alloc (.cells #[.string A.n, .int .i64 A.t, .int .i64 A.h, .int .i64 A.e, .slice a5 A.ws.length c5] 37)).heap[w5.heap.size]? = some (.cells #[.string A.n, .int .i64 A.t, .int .i64 A.h, .int .i64 A.e, .slice a5 A.ws.length c5] 37 (0, 0)) ∧ (wd.heap.size ≤ w5.heap.size ∧ ∀ g, (Value.slice a5 A.ws.length c5).ownBlock = some g → g < w5.heap.size)) := ⟨B5.out.1.alloc B5.out.1.size _, B5.out.2.alloc _, blk_new _ _ _, B5.out.1.size, fun g hg => (B5.out.2.lt g hg).2⟩
  clear B5
  generalize w5.alloc (.cells #[.string A.n, .int .i64 A.t, .int .i64 A.h, .int .i64 A.e, .slice a5 A.ws.length c5] 37) = we at H9 ⊢
  generalize w5.heap.size = b9 at H9 ⊢
  have B3e : Hid (Below w3b.heap.size w3b we) := B34.out.trans (((HD.out we H9.out.1).2.2).mono B34.out.size)
  obtain ⟨p0, p1, p2, p3, p4⟩ := lk5 (H9.out.2.2.1)
  obtain ⟨q0, q1, q2, q3, q4⟩ := lk5 ((F6.out we B3e.out).1)
  have RR : Hid (RowW we (.slice a5 A.ws.length c5) A.ws ∧ RowW we (.slice a3 A.ws.length c3) A.ws) := ⟨H9.out.2.1.row, (F6.out we B3e.out).2.1⟩
  go_wp2_with fail
  refine (eqLock_same A _ _ _ RR.out.1 RR.out.2 hal).mono ?_
  rintro e w6 ⟨rfl, bq⟩
  have B6 : Hid (Below wd.heap.size wd w6) := H9.out.1.trans (bq.mono H9.out.1.size)
  have K6 : Hid (Below we.heap.size we w6) := bq
  clear bq p0 p1 p2 p3 p4 q0 q1 q2 q3 q4 RR B3e
  go_upto_region 12 with fail
  have HSA : Hid (∀ W, Below w6.heap.size w6 W → ((W.cell? ⟨w.heap.size, 0, none⟩ = some (.int .i64 tm) ∧ W.cell? ⟨w.heap.size, 1, none⟩ = some (.int .i64 nx) ∧ W.cell? ⟨w.heap.size, 2, none⟩ = some vl ∧ W.cell? ⟨w.heap.size, 3, none⟩ = some vs) ∧ (W.cell? ⟨w4.heap.size, 0, none⟩ = some (.int .i64 tm) ∧ W.cell? ⟨w4.heap.size, 1, none⟩ = some (.int .i64 nx) ∧ W.cell? ⟨w4.heap.size, 2, none⟩ = some (.slice (some ⟨gl, 0, none⟩) ls.length ls.length) ∧ W.cell? ⟨w4.heap.size, 3, none⟩ = some (.slice (some ⟨gs, 0, none⟩) ss.length ss.length))) ∧ (RowL W vl ls ∧ RowS W vs ss) ∧ (RowL W (.slice (some ⟨gl, 0, none⟩) ls.length ls.length) ls ∧ RowS W (.slice (some ⟨gs, 0, none⟩) ss.length ss.length) ss) ∧ Below w4.heap.size w4 W) := fun W hW => by
    have hW2 := B6.out.trans (hW.mono B6.out.size)
    obtain ⟨k1, k2, k3⟩ := HD.out W hW2
    obtain ⟨j1, j2, j3, j4⟩ := HCX.out W (F6.out W (B34.out.trans (k3.mono B34.out.size))).2.2
    exact ⟨⟨j1, k1⟩, ⟨j2, j3⟩, k2, k3⟩
  obtain ⟨⟨⟨x0, x1, x2, x3⟩, ⟨y0, y1, y2, y3⟩⟩, _, _, _⟩ := HSA.out w6 (Below.refl _ _)
  go_region_held (fun W => (W.cell? ⟨w.heap.size, 0, none⟩ = some (.int .i64 tm) ∧ W.cell? ⟨w.heap.size, 1, none⟩ = some (.int .i64 nx) ∧ W.cell? ⟨w.heap.size, 2, none⟩ = some vl ∧ W.cell? ⟨w.heap.size, 3, none⟩ = some vs) ∧ (W.cell? ⟨w4.heap.size, 0, none⟩ = some (.int .i64 tm) ∧ W.cell? ⟨w4.heap.size, 1, none⟩ = some (.int .i64 nx) ∧ W.cell? ⟨w4.heap.size, 2, none⟩ = some (.slice (some ⟨gl, 0, none⟩) ls.length ls.length) ∧ W.cell? ⟨w4.heap.size, 3, none⟩ = some (.slice (some ⟨gs, 0, none⟩) ss.length ss.length))) (first | exact (HSA.out _ Qc.from_drew).1 | exact (HSA.out _ B7.out).1 | exact (HSA.out _ B8.out).1)
    (first | (go_at_call 10; refine (toTable_any tm nx vl vs ls ss _ (HSA.out _ Qc.from_drew).2.1.1 (HSA.out _ Qc.from_drew).2.1.2 hl1 hl2 H4.out).mono ?_; rintro e w7 ⟨ul7, us7, rfl, c1, c2, b7⟩; have B7 : Hid (Below w6.heap.size w6 w7) := Qc.from_drew.trans b7; have R7 : Hid (RowL w7 ul7 ls ∧ RowS w7 us7 ss) := ⟨c1, c2⟩; clear c1 c2 b7; unfold tabV) | (go_at_call 12; refine (eqTable_same tm nx _ _ _ _ ls ss _ (HSA.out _ B7.out).2.2.1.1 (HSA.out _ B7.out).2.2.1.2 R7.out.1 R7.out.2 hl1 hl2 H4.out).mono ?_; rintro e w8 ⟨rfl, b8⟩; have B8 : Hid (Below w6.heap.size w6 w8) := B7.out.trans (b8.mono B7.out.size); clear b8))
  clear x0 x1 x2 x3 y0 y1 y2 y3 B7 R7
  obtain ⟨⟨_, ⟨y0, y1, y2, y3⟩⟩, _, _, _⟩ := HSA.out w8 B8.out
  have B48 : Hid (Below w4.heap.size w4 w8) := (HSA.out w8 B8.out).2.2.2
  have K8 : Hid (Below we.heap.size we w8) := K6.out.trans (B8.out.mono K6.out.size)
  have G8 : Hid (w8.heap[b9]? = some (.cells #[.string A.n, .int .i64 A.t, .int .i64 A.h, .int .i64 A.e, .slice a5 A.ws.length c5] 37 (0, 0)) ∧ Wa.OwnW w8 wd.heap.size (.slice a5 A.ws.length c5) A.ws) := ⟨(K8.out.block b9 (Array.getElem?_eq_some_iff.1 H9.out.2.2.1).1).trans H9.out.2.2.1, H9.out.2.1.below K8.out⟩
  clear B8 HSA HD B6 K6 K8
  go_wp2_with fail
  refine (markTable_any tm nx gl gs ls ss w3b.heap.size w4.heap.size w8 (T4.out.below B48.out) hl1 hl2 H4.out B48.out.size).mono ?_
  rintro e w9 ⟨r9, rfl, m9⟩
  have hr9 : ¬ (r9 : Int) < 0 := by omega
  have G9 : Hid (w9.heap[b9]? = some (.cells #[.string A.n, .int .i64 A.t, .int .i64 A.h, .int .i64 A.e, .slice a5 A.ws.length c5] 37 (0, 0)) ∧ Wa.OwnW w9 wd.heap.size (.slice a5 A.ws.length c5) A.ws) := by
    have h1 := HSD.out
    have h2 := H9.out.2.2.2.1
    exact ⟨(m9.block b9 (Array.getElem?_eq_some_iff.1 G8.out.1).1 (.inr (by omega))).trans G8.out.1, G8.out.2.kept (fun g hg => m9.block g (G8.out.2.lt g hg).2 (.inr (by have := (G8.out.2.lt g hg).1; omega)))⟩
  have B39 : Hid (Below w3b.heap.size w3b w9) := (B34.out.trans (B48.out.mono B34.out.size)).trans (m9.below (Nat.le_trans B34.out.size B48.out.size))
  have HLE : Hid (w3b.heap.size ≤ wd.heap.size) := by have h1 := HSD.out; have h2 := B34.out.size; show _ ≤ _; omega
  clear m9 G8 B48 B34 T4 y0 y1 y2 y3
  obtain ⟨p0, p1, p2, p3, p4⟩ := lk5 (G9.out.1)
  obtain ⟨q0, q1, q2, q3, q4⟩ := lk5 ((F6.out w9 B39.out).1)
  have RR : Hid (RowW w9 (.slice a5 A.ws.length c5) A.ws ∧ RowW w9 (.slice a3 A.ws.length c3) A.ws) := ⟨G9.out.2.row, (F6.out w9 B39.out).2.1⟩
  go_wp2_with fail
  refine (eqLock_same A _ _ _ RR.out.1 RR.out.2 hal).mono ?_
  rintro e w10 ⟨rfl, bq⟩
  have B3x : Hid (Below w3b.heap.size w3b w10) := B39.out.trans (bq.mono B39.out.size)
  have G10 : Hid (w10.heap[b9]? = some (.cells #[.string A.n, .int .i64 A.t, .int .i64 A.h, .int .i64 A.e, .slice a5 A.ws.length c5] 37 (0, 0)) ∧ Wa.OwnW w10 wd.heap.size (.slice a5 A.ws.length c5) A.ws ∧ wd.heap.size ≤ w10.heap.size ∧ b9 < w10.heap.size) := by
    have hk := (Array.getElem?_eq_some_iff.1 G9.out.1).1
    have h2 := H9.out.2.2.2.1
    have h3 := bq.size
    exact ⟨(bq.block b9 hk).trans G9.out.1, G9.out.2.below bq, by omega, by omega⟩
  clear bq p0 p1 p2 p3 p4 q0 q1 q2 q3 q4 RR B39 G9
  obtain ⟨p0, p1, p2, p3, p4⟩ := lk5 G10.out.1
  go_wp2_with fail
  refine (markLock2_any A (.slice a5 A.ws.length c5) wd.heap.size w10 (own_mw G10.out.2.1) G10.out.2.2.1 hal).mono ?_
  rintro e w11 ⟨rfl, hh, b11, k11⟩
  have G11 : Hid (w11.heap[b9]? = some (.cells #[.string A.n, .int .i64 A.t, .int .i64 A.h, .int .i64 A.e, .slice a5 A.ws.length c5] 37 (0, 0)) ∧ HeldW w11 wd.heap.size (.slice a5 A.ws.length c5) 1 A.ws.length ∧ Below w3b.heap.size w3b w11) :=
    ⟨(k11 b9 G10.out.2.2.2 (fun e => absurd (H9.out.2.2.2.2 b9 e.symm) (by omega))).trans G10.out.1, hh, B3x.out.trans (b11.mono HLE.out)⟩
  clear hh b11 k11 G10 B3x p0 p1 p2 p3 p4
  obtain ⟨p0, p1, p2, p3, p4⟩ := lk5 G11.out.1
  go_wp2_with fail
  refine (heldLock_any A (.slice a5 A.ws.length c5) wd.heap.size w11 G11.out.2.1 hal).mono ?_
  rintro e w12 ⟨rfl, b12⟩
  have G12 : Hid (w12.heap[b9]? = some (.cells #[.string A.n, .int .i64 A.t, .int .i64 A.h, .int .i64 A.e, .slice a5 A.ws.length c5] 37 (0, 0)) ∧ HeldW w12 wd.heap.size (.slice a5 A.ws.length c5) 1 A.ws.length ∧ Below w3b.heap.size w3b w12) := ⟨(b12.block b9 (Array.getElem?_eq_some_iff.1 G11.out.1).1).trans G11.out.1, G11.out.2.1.below b12, G11.out.2.2.trans (b12.mono G11.out.2.2.size)⟩
  clear b12 G11 p0 p1 p2 p3 p4
  obtain ⟨⟨x0, x1, x2, x3⟩, r1, r2, _⟩ := HCX.out w12 (F6.out w12 G12.out.2.2).2.2
  have HRC : Hid (RowL w12 vl ls ∧ RowS w12 vs ss) := ⟨r1, r2⟩
  clear r1 r2
  go_wp2_with fail
  refine (toTable_any tm nx vl vs ls ss _ HRC.out.1 HRC.out.2 hl1 hl2 H4.out).mono ?_
  rintro e w13 ⟨ul13, us13, rfl, c1, c2, b13⟩
  have R13 : Hid (RowL w13 ul13 ls ∧ RowS w13 us13 ss) := ⟨c1, c2⟩
  have K13 : Hid (Below w12.heap.size w12 w13) := b13
  clear c1 c2 b13 HRC x0 x1 x2 x3
  go_wp2_with fail
  refine (implLockAt_any tm nx _ _ ls ss n _ R13.out.1 R13.out.2 H3.out hl1 hl2 hn1).mono ?_
  rintro e w14 ⟨u14, rfl, o14, b14⟩
  rw [HAC.out] at o14 ⊢
  dsimp only at o14 ⊢
  obtain ⟨a14, c14, rfl⟩ := Wa.OwnW.slice o14
  have K14 : Hid (Below w12.heap.size w12 w14 ∧ RowW w14 (.slice a14 A.ws.length c14) A.ws) := ⟨K13.out.trans (b14.mono K13.out.size), o14.row⟩
  clear b14 o14 R13 K13
  unfold lkV
  go_upto_region 27 with fail
  have G15 : Hid (Below w12.heap.size w12 (w14.alloc (.cells #[.string A.n, .int .i64 A.t, .int .i64 A.h, .int .i64 A.e, .slice a14 A.ws.length c14] 37)) ∧ RowW (w14.alloc (.cells #[.string A.n, .int .i64 A.t, .int .i64 A.h, .int .i64 A.e, .slice a14 A.ws.length c14] 37)) (.slice a14 A.ws.length c14) A.ws ∧ (w14.alloc (.cells #[.string A.n, .int .i64 A.t, .int .i64 A.h, .int .i64 A.e, .slice a14 A.ws.length c14] 37)).heap[w14.heap.size]? = some (.cells #[.string A.n, .int .i64 A.t, .int .i64 A.h, .int .i64 A.e, .slice a14 A.ws.length c14] 37 (0, 0))) := ⟨K14.out.1.alloc K14.out.1.size _, K14.out.2.below (bel_new _ _), blk_new _ _ _⟩
  clear K14
  generalize w14.alloc (.cells #[.string A.n, .int .i64 A.t, .int .i64 A.h, .int .i64 A.e, .slice a14 A.ws.length c14] 37) = wf at G15 ⊢
  generalize w14.heap.size = b14 at G15 ⊢
  have B3f : Hid (Below w3b.heap.size w3b wf) := G12.out.2.2.trans (G15.out.1.mono G12.out.2.2.size)
  obtain ⟨p0, p1, p2, p3, p4⟩ := lk5 (G15.out.2.2)
  obtain ⟨q0, q1, q2, q3, q4⟩ := lk5 ((F6.out wf B3f.out).1)
  have RR : Hid (RowW wf (.slice a14 A.ws.length c14) A.ws ∧ RowW wf (.slice a3 A.ws.length c3) A.ws) := ⟨G15.out.2.1, (F6.out wf B3f.out).2.1⟩
  go_wp2_with fail
  refine (eqLock_same A _ _ _ RR.out.1 RR.out.2 hal).mono ?_
  rintro e w16 ⟨rfl, bq⟩
  have K16 : Hid (Below w12.heap.size w12 w16) := G15.out.1.trans (bq.mono G15.out.1.size)
  have G16 : Hid (w16.heap[b9]? = some (.cells #[.string A.n, .int .i64 A.t, .int .i64 A.h, .int .i64 A.e, .slice a5 A.ws.length c5] 37 (0, 0)) ∧ HeldW w16 wd.heap.size (.slice a5 A.ws.length c5) 1 A.ws.length ∧ Below w3b.heap.size w3b w16) := ⟨(K16.out.block b9 (Array.getElem?_eq_some_iff.1 G12.out.1).1).trans G12.out.1, G12.out.2.1.below K16.out, G12.out.2.2.trans (K16.out.mono G12.out.2.2.size)⟩
  clear bq K16 G12 G15 B3f RR p0 p1 p2 p3 p4 q0 q1 q2 q3 q4
  obtain ⟨p0, p1, p2, p3, p4⟩ := lk5 G16.out.1
  go_wp2_with fail
  refine (heldLock_any A (.slice a5 A.ws.length c5) wd.heap.size w16 G16.out.2.1 hal).mono ?_
  rintro e w17 ⟨rfl, b17⟩
  have E17 : Hid (Below w.heap.size w w17) := (HCX.out w17 (F6.out w17 (G16.out.2.2.trans (b17.mono G16.out.2.2.size))).2.2).2.2.2
  clear b17 G16 p0 p1 p2 p3 p4
  go_wp2_with fail
  go_ret
  exact ⟨rfl, E17.out⟩

/-! ### THE ROW's STEP -/
set_option maxRecDepth 100000 in
theorem lifted (os : Os) (started : os.Started) (H : Type) (enc : TypeId × Value → H) :
    ReturnsInHanded {} Try.checked os 4 .any (Rows.fnExactLockAtSpec.pre6 enc Try.prog Try.f4 Rows.fnExactLockAtRow.domain false) (Rows.fnExactLockAtSpec.post enc Try.prog Try.f4 false true false false) := by
  refine returnsInHanded_of_change (C := Try.checked) own started (by kernel_rfl) Try.func4
    (ChangeSpec.witness6 (enc := enc) (C := Try.checked) false ⟨#[], #[.agg #[.int .i64 0, .int .i64 0, .slice none 0 0, .slice none 0 0], .string ByteArray.empty], []⟩ 8 (by kernel_rfl) (by kernel_rfl) (by kernel_rfl) (by kernel_rfl)) ?_
  intro W base args ds gs before hval0 hW hcnd _
  have hval : ∀ (j : Nat) t v, Try.f4.params[j]? = some t → args[j]? = some v → Value.okWide Try.prog W .any base t v := hval0
  have hW' := hW
  obtain ⟨p, q, hA0, hV, rfl, hfz, hnd⟩ := hW
  have hA : DataW.TrodAll enc Try.prog W 0 (fun _ => true) true Try.f4.params.toList args.toList ds p := hA0
  rw [Try.params4] at hA hval
  obtain ⟨v0, vs0, d0, ds0, p0, q0, hargs, rfl, rfl, h0, r0⟩ := trodAll_cons hA
  obtain ⟨v1, vs1, d1, ds1, p1, q1, rfl, rfl, rfl, h1, r1⟩ := trodAll_cons r0
  obtain ⟨rfl, rfl, rfl⟩ := trodAll_nil r1
  obtain rfl : args = #[v0, v1] := by cases args; simp_all
  obtain ⟨rfl, rfl⟩ := trodVars_none hV
  have k00 := h0
  have lt0 : ∀ x ∈ p0, x.block < W.heap.size := by obtain ⟨m, hm⟩ := k00; exact DataW.trod_lt m _ _ _ hm
  obtain ⟨t0, vl0, vs0, rfl, wl0, ws0, y0, z0, m0⟩ := Op.open_table (hval 0 25 v0 rfl rfl) h0
  have k10 := h1
  have lt1 : ∀ x ∈ p1, x.block < W.heap.size := by obtain ⟨m, hm⟩ := k10; exact DataW.trod_lt m _ _ _ hm
  obtain ⟨s1, rfl, rfl, rfl, z1⟩ := open_string Try.underlying9 (hval 1 9 v1 rfl rfl) h1
  clear hA0 hval0
  refine (walk t0 vl0 vs0 W wl0 ws0 y0 z0 m0 s1 z1).mono fun e W' ⟨he, bel⟩ => ?_
  subst he
  exact ⟨_, rfl, _, _, _, [], _, [], hW', trodAll_mk1 (shut_bool Try.underlying4 _), (trodAll_cons_mk (Below.trod laidOut (by kernel_rfl) (of_decide_eq_true (by kernel_rfl)) k00 bel lt0) (trodAll_cons_mk (Below.trod laidOut (by kernel_rfl) (of_decide_eq_true (by kernel_rfl)) k10 bel lt1) trodAll_mk0)), rfl, bel.frame _, fun h => by cases h⟩

theorem over : Rows.fnExactLockAtRow.holds Try.pinned (OpenSpec.ofChange Rows.fnExactLockAtSpec) :=
  OpenClaim.holds_of_wide 4 Try.f4 rfl rfl rfl rfl rfl rfl rfl ⟨rfl, rfl, rfl, rfl, rfl⟩ rfl rfl rfl rfl rfl (by kernel_rfl) Try.func4 (by kernel_rfl)
    (of_decide_eq_true (by kernel_rfl)) (by unfold Func.isWrapper; first | (rw [if_pos (by decide +kernel)]; kernel_rfl) | (rw [if_neg (by decide +kernel)]; exact ⟨rfl, rfl⟩))
    (fun os started H enc _ => lifted os started H enc)

end Go.Proofs.Ytkjbdemhpnhagaa.fnExactLockAt
namespace Go.Proofs.Ytkjbdemhpnhagaa
/-- THE STATEMENT. -/
theorem fnExactLockAt_holds : Rows.FnExactLockAtSaid := fnExactLockAt.over
end Go.Proofs.Ytkjbdemhpnhagaa
