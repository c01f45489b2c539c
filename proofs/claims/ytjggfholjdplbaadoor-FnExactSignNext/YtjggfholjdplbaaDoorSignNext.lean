/-
  impl.SignNext answers at every argument just what the specification's SignNext answers; its answer owns its memory, behind another call too.
  Conditions: none beyond the given row's own; the package variable that it reads starts as the program's text lays it (the card ties it).
-/
import Derived.Test.YtjggfholjdplbaaDoorNx2
import Derived.Test.YtjggfholjdplbaaDoorSq
import Derived.Test.YtjggfholjdplbaaDoorOc
import Derived.Test.YtjggfholjdplbaaDoorHashLaid
import Derived.WalkKit
namespace Go.Proofs.YtjggfholjdplbaaDoor.fnExactSignNext
open Go.ChangeShapes Go.WideShapes Go.ChangeAt Go.RowKit
open Go.ChangeMaps (open_string shut_string)
open Go.Proofs.YtjggfholjdplbaaDoor.Hl (own laidOut rowed door_met)

open Go.Proofs.YtjggfholjdplbaaDoor.Sl Go.Proofs.YtjggfholjdplbaaDoor.By Go.Proofs.YtjggfholjdplbaaDoor.Ap Go.Proofs.YtjggfholjdplbaaDoor.Tx Go.Proofs.YtjggfholjdplbaaDoor.Sh Go.Proofs.YtjggfholjdplbaaDoor.Mk Go.Proofs.YtjggfholjdplbaaDoor.Sg Go.Proofs.YtjggfholjdplbaaDoor.Sq Go.Proofs.YtjggfholjdplbaaDoor.Ck Go.Proofs.YtjggfholjdplbaaDoor.Nx
theorem two_new (w : World) (o1 o2 : Obj) : Below w.heap.size w ((w.alloc o1).alloc o2) ∧ ((w.alloc o1).alloc o2).heap.size = w.heap.size + 1 + 1 := ⟨(bel_new w o1).trans ((bel_new _ _).mono (by rw [size_new]; omega)), by rw [size_new, size_new]⟩
theorem two_a (w : World) (cs : Array Value) (t : TypeId) (o2 : Obj) : ((w.alloc (.cells cs t)).alloc o2).heap[w.heap.size]? = some (.cells cs t (0, 0)) := (Below.heap_alloc _ _ _ (by rw [size_new]; omega)).trans (blk_new _ _ _)
theorem two_b (w : World) (o1 : Obj) (cs : Array Value) (t : TypeId) : ((w.alloc o1).alloc (.cells cs t)).heap[w.heap.size + 1]? = some (.cells cs t (0, 0)) := by
  have := blk_new (w.alloc o1) cs t
  rw [size_new] at this
  exact this
theorem two_o (w : World) (o1 o2 : Obj) {k : Nat} {x : Option Obj} (hk : k < w.heap.size) (h : w.heap[k]? = x) : ((w.alloc o1).alloc o2).heap[k]? = x := (Below.heap_alloc _ _ _ (by rw [size_new]; omega)).trans ((Below.heap_alloc _ _ _ hk).trans h)
set_option maxRecDepth 100000 in
set_option maxHeartbeats 3200000 in
/-- THE WALK: both functions answer alike; the answer owns its memory, behind another call too. -/
theorem walk (s0 : ByteArray) (i0 : Int) (z0 : s0.size ≤ maxLen) (_y0 : -9223372036854775808 ≤ i0 ∧ i0 ≤ 9223372036854775807) (s1 : ByteArray) (_z1 : s1.size ≤ maxLen) (w : World) (hK : KTab w) (hp : 0 < w.heap.size) :
    Calls Tryd.prog 9 #[.agg #[.string s0, .int .i64 i0], .string s1] w fun e w' => e = .returned (.bool true) ∧ Below w.heap.size w w' := by
  have GK : Hid (KTab w ∧ 0 < w.heap.size) := ⟨hK, hp⟩
  have T0 : Hid (Below w.heap.size w (w.alloc (.cells #[.string s0, .int .i64 i0] 43)) ∧ (w.alloc (.cells #[.string s0, .int .i64 i0] 43)).heap.size = w.heap.size + 1 ∧ (w.alloc (.cells #[.string s0, .int .i64 i0] 43)).heap[w.heap.size]? = some (.cells #[.string s0, .int .i64 i0] 43 (0, 0))) := ⟨bel_new _ _, size_new _ _, blk_new _ _ _⟩
  have HZ : Hid (s0.size ≤ maxLen) := z0
  clear hK hp z0 _y0
  by_cases hb1 : (1048576 : Int) < (s1.size : Int)
  · go_enter Tryd.func9, Tryd.ntmps9
    go_wp2
    go_ret
    exact ⟨rfl, T0.out.1⟩
  by_cases hb0 : 1048576 < s0.size
  · have HL : Hid (lf s0 = -1) := if_pos hb0
    go_enter Tryd.func9, Tryd.ntmps9
    go_wp2_with fail
    refine (szKeyChain_any s0 i0 _ HZ.out).mono ?_
    rintro e w1 ⟨rfl, b1⟩
    rw [HL.out]
    have g1 := T0.out.1.trans (b1.mono T0.out.1.size)
    clear b1
    go_wp2_with fail
    go_ret
    exact ⟨rfl, g1⟩
  obtain ⟨l0, HL, hl0⟩ : ∃ l0, Hid (lf s0 = l0) ∧ ¬ l0 < 0 := ⟨_, rfl, by unfold lf; rw [if_neg hb0]; omega⟩
  obtain ⟨gs, gn, gi, gc, ta, tb, tc, HSP, HIM, HLN⟩ : ∃ (gs : ByteArray) (gn gi gc : Int) (ta tb tc : List ByteArray),
      Hid (∀ W, Calls Tryd.prog 30 #[.agg #[.string s0, .int .i64 i0], .string s1] W fun e w' => ∃ va vb vc, e = .returned (.tuple #[.agg #[.string gs, .int .i64 gn], .agg #[.int .i64 gi, va, vb, vc], .int .i64 gc]) ∧ SigV w' W.heap.size va vb vc ta tb tc ∧ Below W.heap.size W w') ∧
      Hid (∀ W, KTab W → 0 < W.heap.size → Calls Tryd.prog 32 #[.agg #[.string s0, .int .i64 i0], .string s1] W fun e w' => ∃ va vb vc, e = .returned (.tuple #[.agg #[.string gs, .int .i64 gn], .agg #[.int .i64 gi, va, vb, vc], .int .i64 gc]) ∧ SigV w' W.heap.size va vb vc ta tb tc ∧ Below W.heap.size W w') ∧
      Hid (ta.length ≤ 32 ∧ tb.length ≤ 32 ∧ tc.length ≤ 32) := ⟨_, _, _, _, _, _, _, fun W => specSignNext_any s0 i0 s1 W, fun W h1 h2 => implSignNext_any s0 i0 s1 W h1 h2, ⟨nA_len _ _ _, nB_len _ _ _, nP_len _ _ _⟩⟩
  clear hb0
  go_enter Tryd.func9, Tryd.ntmps9
  go_wp2_with fail
  refine (szKeyChain_any s0 i0 _ HZ.out).mono ?_
  rintro e w0 ⟨rfl, b0⟩
  rw [HL.out]
  have G0 : Hid (Below w.heap.size w w0 ∧ w0.heap[w.heap.size]? = some (.cells #[.string s0, .int .i64 i0] 43 (0, 0)) ∧ w.heap.size + 1 ≤ w0.heap.size) := ⟨T0.out.1.trans (b0.mono T0.out.1.size), (b0.block _ (by rw [T0.out.2.1]; omega)).trans T0.out.2.2, by have := b0.size; rw [T0.out.2.1] at this; exact this⟩
  clear b0
  have tt0 := (blk_cell G0.out.2.1 0 (x := .string s0) rfl).1
  have tt1 := (blk_cell G0.out.2.1 1 (x := .int .i64 i0) rfl).1
  go_wp2_with fail
  refine (toKeyChain_any s0 i0 w0).mono ?_
  rintro e w1 ⟨rfl, b1⟩
  have G1 : Hid (Below w.heap.size w w1 ∧ w1.heap[w.heap.size]? = some (.cells #[.string s0, .int .i64 i0] 43 (0, 0)) ∧ w.heap.size + 1 ≤ w1.heap.size) := ⟨G0.out.1.trans (b1.mono G0.out.1.size), (b1.block _ (by have := G0.out.2.2; omega)).trans G0.out.2.1, by have := b1.size; have := G0.out.2.2; omega⟩
  clear b1 tt0 tt1
  go_wp2_with fail
  refine (HSP.out w1).mono ?_
  rintro e w2 ⟨va, vb, vc, rfl, s2, b2⟩
  obtain ⟨a1, c1, e1⟩ := RowT.form s2.oa.row
  obtain ⟨a2, c2, e2⟩ := RowT.form s2.ob.row
  obtain ⟨a3, c3, e3⟩ := RowT.form s2.oc.row
  subst e1 e2 e3
  have G2 : Hid (Below w.heap.size w w2 ∧ w2.heap[w.heap.size]? = some (.cells #[.string s0, .int .i64 i0] 43 (0, 0)) ∧ w.heap.size + 1 ≤ w2.heap.size ∧ SigV w2 w.heap.size (.slice a1 ta.length c1) (.slice a2 tb.length c2) (.slice a3 tc.length c3) ta tb tc) := ⟨G1.out.1.trans (b2.mono G1.out.1.size), (b2.block _ (by have := G1.out.2.2; omega)).trans G1.out.2.1, by have := b2.size; have := G1.out.2.2; omega, s2.mono (by have := G1.out.2.2; omega)⟩
  have T2 : Hid (Below w2.heap.size w2 ((w2.alloc (.cells #[.string gs, .int .i64 gn] 45)).alloc (.cells #[.int .i64 gi, .slice a1 ta.length c1, .slice a2 tb.length c2, .slice a3 tc.length c3] 31)) ∧ ((w2.alloc (.cells #[.string gs, .int .i64 gn] 45)).alloc (.cells #[.int .i64 gi, .slice a1 ta.length c1, .slice a2 tb.length c2, .slice a3 tc.length c3] 31)).heap.size = w2.heap.size + 1 + 1) := two_new _ _ _
  have HD : Hid (∀ W, Below (w2.heap.size + 1 + 1) ((w2.alloc (.cells #[.string gs, .int .i64 gn] 45)).alloc (.cells #[.int .i64 gi, .slice a1 ta.length c1, .slice a2 tb.length c2, .slice a3 tc.length c3] 31)) W → (W.heap[w.heap.size]? = some (.cells #[.string s0, .int .i64 i0] 43 (0, 0)) ∧ W.heap[w2.heap.size]? = some (.cells #[.string gs, .int .i64 gn] 45 (0, 0)) ∧ W.heap[w2.heap.size + 1]? = some (.cells #[.int .i64 gi, .slice a1 ta.length c1, .slice a2 tb.length c2, .slice a3 tc.length c3] 31 (0, 0)) ∧ SigV W w.heap.size (.slice a1 ta.length c1) (.slice a2 tb.length c2) (.slice a3 tc.length c3) ta tb tc ∧ Below w.heap.size w W ∧ w2.heap.size + 1 + 1 ≤ W.heap.size)) := fun W hW => by
    have hs := hW.size
    rw [T2.out.2] at hs
    have h2 := G2.out.2.2.1
    have hb := T2.out.1.trans (hW.mono (B' := w2.heap.size) (by omega))
    exact ⟨(hW.block _ (by omega)).trans (two_o _ _ _ (by omega) G2.out.2.1), (hW.block _ (by omega)).trans (two_a _ _ _ _), (hW.block _ (by omega)).trans (two_b _ _ _ _), G2.out.2.2.2.below hb, G2.out.1.trans (hb.mono (by omega)), hs⟩
  have H2 : Hid (Below (w2.heap.size + 1 + 1) ((w2.alloc (.cells #[.string gs, .int .i64 gn] 45)).alloc (.cells #[.int .i64 gi, .slice a1 ta.length c1, .slice a2 tb.length c2, .slice a3 tc.length c3] 31)) ((w2.alloc (.cells #[.string gs, .int .i64 gn] 45)).alloc (.cells #[.int .i64 gi, .slice a1 ta.length c1, .slice a2 tb.length c2, .slice a3 tc.length c3] 31))) := Below.refl _ _
  clear s2 b2
  have tt0 : ∀ o1 o2, ((w2.alloc o1).alloc o2).cell? ⟨w.heap.size, 0, none⟩ = some (.string s0) := fun o1 o2 => (blk_cell (two_o _ _ _ (by have := G2.out.2.2.1; omega) G2.out.2.1) 0 rfl).1
  have tt1 : ∀ o1 o2, ((w2.alloc o1).alloc o2).cell? ⟨w.heap.size, 1, none⟩ = some (.int .i64 i0) := fun o1 o2 => (blk_cell (two_o _ _ _ (by have := G2.out.2.2.1; omega) G2.out.2.1) 1 rfl).1
  go_wp2_with fail
  refine (toKeyChain_any s0 i0 _).mono ?_
  rintro e w3 ⟨rfl, b3⟩
  rw [T2.out.2] at b3
  have H3 : Hid (Below (w2.heap.size + 1 + 1) ((w2.alloc (.cells #[.string gs, .int .i64 gn] 45)).alloc (.cells #[.int .i64 gi, .slice a1 ta.length c1, .slice a2 tb.length c2, .slice a3 tc.length c3] 31)) w3) := b3
  clear b3 tt0 tt1
  go_wp2_with fail
  refine (HIM.out w3 (GK.out.1.below (HD.out w3 H3.out).2.2.2.2.1 GK.out.2) (Nat.lt_of_lt_of_le GK.out.2 (HD.out w3 H3.out).2.2.2.2.1.size)).mono ?_
  rintro e w4 ⟨ua, ub, uc, rfl, s4, b4⟩
  obtain ⟨d1, f1, e1⟩ := RowT.form s4.oa.row
  obtain ⟨d2, f2, e2⟩ := RowT.form s4.ob.row
  obtain ⟨d3, f3, e3⟩ := RowT.form s4.oc.row
  subst e1 e2 e3
  have H4 : Hid (Below (w2.heap.size + 1 + 1) ((w2.alloc (.cells #[.string gs, .int .i64 gn] 45)).alloc (.cells #[.int .i64 gi, .slice a1 ta.length c1, .slice a2 tb.length c2, .slice a3 tc.length c3] 31)) w4 ∧ SigV w4 w3.heap.size (.slice d1 ta.length f1) (.slice d2 tb.length f2) (.slice d3 tc.length f3) ta tb tc ∧ w2.heap.size + 1 + 1 ≤ w3.heap.size ∧ w3.heap.size ≤ w4.heap.size) := ⟨H3.out.trans (b4.mono (HD.out w3 H3.out).2.2.2.2.2), s4, (HD.out w3 H3.out).2.2.2.2.2, b4.size⟩
  have T4 : Hid (Below w4.heap.size w4 ((w4.alloc (.cells #[.string gs, .int .i64 gn] 45)).alloc (.cells #[.int .i64 gi, .slice d1 ta.length f1, .slice d2 tb.length f2, .slice d3 tc.length f3] 31)) ∧ ((w4.alloc (.cells #[.string gs, .int .i64 gn] 45)).alloc (.cells #[.int .i64 gi, .slice d1 ta.length f1, .slice d2 tb.length f2, .slice d3 tc.length f3] 31)).heap.size = w4.heap.size + 1 + 1) := two_new _ _ _
  clear s4 b4
  have tt0 : ∀ o1 o2, ((w4.alloc o1).alloc o2).cell? ⟨w2.heap.size, 0, none⟩ = some (.string gs) := fun o1 o2 => (blk_cell (two_o _ _ _ (by have := H4.out; omega) (HD.out w4 H4.out.1).2.1) 0 rfl).1
  have tt1 : ∀ o1 o2, ((w4.alloc o1).alloc o2).cell? ⟨w2.heap.size, 1, none⟩ = some (.int .i64 gn) := fun o1 o2 => (blk_cell (two_o _ _ _ (by have := H4.out; omega) (HD.out w4 H4.out.1).2.1) 1 rfl).1
  go_wp2_with fail
  refine (eqKeyChain_same gs gn _).mono ?_
  rintro e w5 ⟨rfl, b5⟩
  have b5' := b5
  rw [T4.out.2] at b5
  have H5 : Hid (Below (w2.heap.size + 1 + 1) ((w2.alloc (.cells #[.string gs, .int .i64 gn] 45)).alloc (.cells #[.int .i64 gi, .slice a1 ta.length c1, .slice a2 tb.length c2, .slice a3 tc.length c3] 31)) w5 ∧ SigV w5 w3.heap.size (.slice d1 ta.length f1) (.slice d2 tb.length f2) (.slice d3 tc.length f3) ta tb tc ∧ w5.heap[w4.heap.size + 1]? = some (.cells #[.int .i64 gi, .slice d1 ta.length f1, .slice d2 tb.length f2, .slice d3 tc.length f3] 31 (0, 0)) ∧ w4.heap.size + 1 + 1 ≤ w5.heap.size) := ⟨(H4.out.1.trans (T4.out.1.mono (by have := H4.out; omega))).trans (b5.mono (by have := H4.out; omega)), (H4.out.2.1.below T4.out.1).below b5', (b5.block _ (by omega)).trans (two_b _ _ _ _), by have := b5.size; rw [T4.out.2] at this; exact this⟩
  clear b5 b5' tt0 tt1
  have p0 := (blk_cell H5.out.2.2.1 0 (x := .int .i64 gi) rfl).1
  have p1 := (blk_cell H5.out.2.2.1 1 (x := .slice d1 ta.length f1) rfl).1
  have p2 := (blk_cell H5.out.2.2.1 2 (x := .slice d2 tb.length f2) rfl).1
  have p3 := (blk_cell H5.out.2.2.1 3 (x := .slice d3 tc.length f3) rfl).1
  have r0 := (blk_cell (HD.out w5 H5.out.1).2.2.1 0 (x := .int .i64 gi) rfl).1
  have r1 := (blk_cell (HD.out w5 H5.out.1).2.2.1 1 (x := .slice a1 ta.length c1) rfl).1
  have r2 := (blk_cell (HD.out w5 H5.out.1).2.2.1 2 (x := .slice a2 tb.length c2) rfl).1
  have r3 := (blk_cell (HD.out w5 H5.out.1).2.2.1 3 (x := .slice a3 tc.length c3) rfl).1
  go_wp2_with fail
  refine (eqSig_same gi (.slice d1 ta.length f1) (.slice d2 tb.length f2) (.slice d3 tc.length f3) (.slice a1 ta.length c1) (.slice a2 tb.length c2) (.slice a3 tc.length c3) ta tb tc w5 H5.out.2.1.oa.row H5.out.2.1.ob.row H5.out.2.1.oc.row (HD.out w5 H5.out.1).2.2.2.1.oa.row (HD.out w5 H5.out.1).2.2.2.1.ob.row (HD.out w5 H5.out.1).2.2.2.1.oc.row (by have := HLN.out; omega) (by have := HLN.out; omega) (by have := HLN.out; omega)).mono ?_
  rintro e w6 ⟨rfl, b6⟩
  have H6 : Hid (Below (w2.heap.size + 1 + 1) ((w2.alloc (.cells #[.string gs, .int .i64 gn] 45)).alloc (.cells #[.int .i64 gi, .slice a1 ta.length c1, .slice a2 tb.length c2, .slice a3 tc.length c3] 31)) w6 ∧ SigV w6 w3.heap.size (.slice d1 ta.length f1) (.slice d2 tb.length f2) (.slice d3 tc.length f3) ta tb tc ∧ w6.heap[w4.heap.size + 1]? = some (.cells #[.int .i64 gi, .slice d1 ta.length f1, .slice d2 tb.length f2, .slice d3 tc.length f3] 31 (0, 0)) ∧ w4.heap.size + 1 + 1 ≤ w6.heap.size) := ⟨H5.out.1.trans (b6.mono (by have := H4.out; have := H5.out.2.2.2; omega)), H5.out.2.1.below b6, (b6.block _ (by have := H5.out.2.2.2; omega)).trans H5.out.2.2.1, by have := b6.size; have := H5.out.2.2.2; omega⟩
  clear b6 p0 p1 p2 p3 r0 r1 r2 r3
  have hgc : (gc != gc) = false := by simp
  have p0 := (blk_cell H6.out.2.2.1 0 (x := .int .i64 gi) rfl).1
  have p1 := (blk_cell H6.out.2.2.1 1 (x := .slice d1 ta.length f1) rfl).1
  have p2 := (blk_cell H6.out.2.2.1 2 (x := .slice d2 tb.length f2) rfl).1
  have p3 := (blk_cell H6.out.2.2.1 3 (x := .slice d3 tc.length f3) rfl).1
  go_wp2_with fail
  refine (markSig_any gi (.slice d1 ta.length f1) (.slice d2 tb.length f2) (.slice d3 tc.length f3) ta tb tc w3.heap.size w6 H6.out.2.1 (by have := H4.out; have := H6.out.2.2.2; omega) HLN.out.1 HLN.out.2.1 HLN.out.2.2).mono ?_
  rintro e w7 ⟨rfl, m7, b7, k7⟩
  have H7 : Hid (Below (w2.heap.size + 1 + 1) ((w2.alloc (.cells #[.string gs, .int .i64 gn] 45)).alloc (.cells #[.int .i64 gi, .slice a1 ta.length c1, .slice a2 tb.length c2, .slice a3 tc.length c3] 31)) w7 ∧ SigM w7 (.slice d1 ta.length f1) (.slice d2 tb.length f2) (.slice d3 tc.length f3) 1 ta.length tb.length tc.length ∧ w7.heap[w4.heap.size + 1]? = some (.cells #[.int .i64 gi, .slice d1 ta.length f1, .slice d2 tb.length f2, .slice d3 tc.length f3] 31 (0, 0)) ∧ w4.heap.size + 1 + 1 ≤ w7.heap.size) := ⟨H6.out.1.trans (b7.mono (by have := H4.out; omega)), m7, (k7 _ (by have := H6.out.2.2.2; omega) (fun e => by have := (OwnS.lt' H4.out.2.1.oa _ e.symm).2; omega) (fun e => by have := (OwnS.lt' H4.out.2.1.ob _ e.symm).2; omega) (fun e => by have := (OwnS.lt' H4.out.2.1.oc _ e.symm).2; omega)).trans H6.out.2.2.1, by have := b7.size; have := H6.out.2.2.2; omega⟩
  clear m7 b7 k7 p0 p1 p2 p3
  have p0 := (blk_cell H7.out.2.2.1 0 (x := .int .i64 gi) rfl).1
  have p1 := (blk_cell H7.out.2.2.1 1 (x := .slice d1 ta.length f1) rfl).1
  have p2 := (blk_cell H7.out.2.2.1 2 (x := .slice d2 tb.length f2) rfl).1
  have p3 := (blk_cell H7.out.2.2.1 3 (x := .slice d3 tc.length f3) rfl).1
  have n1 : ¬ ((1 + ta.length + tb.length + tc.length : Nat) : Int) < 0 := by omega
  have n2 : (((1 + ta.length + tb.length + tc.length : Nat) : Int) != ((1 + ta.length + tb.length + tc.length : Nat) : Int)) = false := by simp
  obtain ⟨nn, HNN⟩ : ∃ nn : Nat, Hid (1 + ta.length + tb.length + tc.length = nn) := ⟨_, rfl⟩
  rw [HNN.out] at n1 n2 ⊢
  go_wp2_with fail
  refine (heldSig_any gi (.slice d1 ta.length f1) (.slice d2 tb.length f2) (.slice d3 tc.length f3) ta.length tb.length tc.length w7 H7.out.2.1 HLN.out.1 HLN.out.2.1 HLN.out.2.2).mono ?_
  rintro e w8 ⟨rfl, b8⟩
  rw [HNN.out]
  have H8 : Hid (Below (w2.heap.size + 1 + 1) ((w2.alloc (.cells #[.string gs, .int .i64 gn] 45)).alloc (.cells #[.int .i64 gi, .slice a1 ta.length c1, .slice a2 tb.length c2, .slice a3 tc.length c3] 31)) w8 ∧ SigM w8 (.slice d1 ta.length f1) (.slice d2 tb.length f2) (.slice d3 tc.length f3) 1 ta.length tb.length tc.length ∧ w8.heap[w4.heap.size + 1]? = some (.cells #[.int .i64 gi, .slice d1 ta.length f1, .slice d2 tb.length f2, .slice d3 tc.length f3] 31 (0, 0)) ∧ w4.heap.size + 1 + 1 ≤ w8.heap.size) := ⟨H7.out.1.trans (b8.mono (by have := H4.out; have := H7.out.2.2.2; omega)), H7.out.2.1.below b8, (b8.block _ (by have := H7.out.2.2.2; omega)).trans H7.out.2.2.1, by have := b8.size; have := H7.out.2.2.2; omega⟩
  clear b8 p0 p1 p2 p3
  have tt0 := (blk_cell (HD.out w8 H8.out.1).1 0 (x := .string s0) rfl).1
  have tt1 := (blk_cell (HD.out w8 H8.out.1).1 1 (x := .int .i64 i0) rfl).1
  go_wp2_with fail
  refine (toKeyChain_any s0 i0 w8).mono ?_
  rintro e w9 ⟨rfl, b9⟩
  have H9 : Hid (Below (w2.heap.size + 1 + 1) ((w2.alloc (.cells #[.string gs, .int .i64 gn] 45)).alloc (.cells #[.int .i64 gi, .slice a1 ta.length c1, .slice a2 tb.length c2, .slice a3 tc.length c3] 31)) w9 ∧ SigM w9 (.slice d1 ta.length f1) (.slice d2 tb.length f2) (.slice d3 tc.length f3) 1 ta.length tb.length tc.length ∧ w9.heap[w4.heap.size + 1]? = some (.cells #[.int .i64 gi, .slice d1 ta.length f1, .slice d2 tb.length f2, .slice d3 tc.length f3] 31 (0, 0)) ∧ w4.heap.size + 1 + 1 ≤ w9.heap.size) := ⟨H8.out.1.trans (b9.mono (by have := H4.out; have := H8.out.2.2.2; omega)), H8.out.2.1.below b9, (b9.block _ (by have := H8.out.2.2.2; omega)).trans H8.out.2.2.1, by have := b9.size; have := H8.out.2.2.2; omega⟩
  clear b9 tt0 tt1
  go_wp2_with fail
  refine (HIM.out w9 (GK.out.1.below (HD.out w9 H9.out.1).2.2.2.2.1 GK.out.2) (Nat.lt_of_lt_of_le GK.out.2 (HD.out w9 H9.out.1).2.2.2.2.1.size)).mono ?_
  rintro e w10 ⟨ua, ub, uc, rfl, s10, b10⟩
  obtain ⟨x1, y1, e1⟩ := RowT.form s10.oa.row
  obtain ⟨x2, y2, e2⟩ := RowT.form s10.ob.row
  obtain ⟨x3, y3, e3⟩ := RowT.form s10.oc.row
  subst e1 e2 e3
  have H10 : Hid (Below (w2.heap.size + 1 + 1) ((w2.alloc (.cells #[.string gs, .int .i64 gn] 45)).alloc (.cells #[.int .i64 gi, .slice a1 ta.length c1, .slice a2 tb.length c2, .slice a3 tc.length c3] 31)) w10 ∧ SigM w10 (.slice d1 ta.length f1) (.slice d2 tb.length f2) (.slice d3 tc.length f3) 1 ta.length tb.length tc.length ∧ w10.heap[w4.heap.size + 1]? = some (.cells #[.int .i64 gi, .slice d1 ta.length f1, .slice d2 tb.length f2, .slice d3 tc.length f3] 31 (0, 0)) ∧ w4.heap.size + 1 + 1 ≤ w10.heap.size ∧ SigV w10 w9.heap.size (.slice x1 ta.length y1) (.slice x2 tb.length y2) (.slice x3 tc.length y3) ta tb tc) := ⟨H9.out.1.trans (b10.mono (by have := H4.out; have := H9.out.2.2.2; omega)), H9.out.2.1.below b10, (b10.block _ (by have := H9.out.2.2.2; omega)).trans H9.out.2.2.1, by have := b10.size; have := H9.out.2.2.2; omega, s10⟩
  have T10 : Hid (Below w10.heap.size w10 ((w10.alloc (.cells #[.string gs, .int .i64 gn] 45)).alloc (.cells #[.int .i64 gi, .slice x1 ta.length y1, .slice x2 tb.length y2, .slice x3 tc.length y3] 31)) ∧ ((w10.alloc (.cells #[.string gs, .int .i64 gn] 45)).alloc (.cells #[.int .i64 gi, .slice x1 ta.length y1, .slice x2 tb.length y2, .slice x3 tc.length y3] 31)).heap.size = w10.heap.size + 1 + 1) := two_new _ _ _
  clear s10 b10
  have tt0 : ∀ o1 o2, ((w10.alloc o1).alloc o2).cell? ⟨w2.heap.size, 0, none⟩ = some (.string gs) := fun o1 o2 => (blk_cell (two_o _ _ _ (by have := H4.out; have := H10.out.2.2.2.1; omega) (HD.out w10 H10.out.1).2.1) 0 rfl).1
  have tt1 : ∀ o1 o2, ((w10.alloc o1).alloc o2).cell? ⟨w2.heap.size, 1, none⟩ = some (.int .i64 gn) := fun o1 o2 => (blk_cell (two_o _ _ _ (by have := H4.out; have := H10.out.2.2.2.1; omega) (HD.out w10 H10.out.1).2.1) 1 rfl).1
  go_wp2_with fail
  refine (eqKeyChain_same gs gn _).mono ?_
  rintro e w11 ⟨rfl, b11⟩
  have b11' := b11
  rw [T10.out.2] at b11
  have H11 : Hid (Below (w2.heap.size + 1 + 1) ((w2.alloc (.cells #[.string gs, .int .i64 gn] 45)).alloc (.cells #[.int .i64 gi, .slice a1 ta.length c1, .slice a2 tb.length c2, .slice a3 tc.length c3] 31)) w11 ∧ SigM w11 (.slice d1 ta.length f1) (.slice d2 tb.length f2) (.slice d3 tc.length f3) 1 ta.length tb.length tc.length ∧ w11.heap[w4.heap.size + 1]? = some (.cells #[.int .i64 gi, .slice d1 ta.length f1, .slice d2 tb.length f2, .slice d3 tc.length f3] 31 (0, 0)) ∧ w4.heap.size + 1 + 1 ≤ w11.heap.size ∧ SigV w11 w9.heap.size (.slice x1 ta.length y1) (.slice x2 tb.length y2) (.slice x3 tc.length y3) ta tb tc ∧ w11.heap[w10.heap.size + 1]? = some (.cells #[.int .i64 gi, .slice x1 ta.length y1, .slice x2 tb.length y2, .slice x3 tc.length y3] 31 (0, 0))) := ⟨(H10.out.1.trans (T10.out.1.mono (by have := H4.out; have := H10.out.2.2.2.1; omega))).trans (b11.mono (by have := H4.out; have := H10.out.2.2.2.1; omega)), (H10.out.2.1.below T10.out.1).below b11', (b11.block _ (by have := H10.out.2.2.2.1; omega)).trans (two_o _ _ _ (by have := H10.out.2.2.2.1; omega) H10.out.2.2.1), by have := b11.size; rw [T10.out.2] at this; have := H10.out.2.2.2.1; omega, (H10.out.2.2.2.2.below T10.out.1).below b11', (b11.block _ (by omega)).trans (two_b _ _ _ _)⟩
  clear b11 b11' tt0 tt1
  have p0 := (blk_cell H11.out.2.2.2.2.2 0 (x := .int .i64 gi) rfl).1
  have p1 := (blk_cell H11.out.2.2.2.2.2 1 (x := .slice x1 ta.length y1) rfl).1
  have p2 := (blk_cell H11.out.2.2.2.2.2 2 (x := .slice x2 tb.length y2) rfl).1
  have p3 := (blk_cell H11.out.2.2.2.2.2 3 (x := .slice x3 tc.length y3) rfl).1
  have r0 := (blk_cell (HD.out w11 H11.out.1).2.2.1 0 (x := .int .i64 gi) rfl).1
  have r1 := (blk_cell (HD.out w11 H11.out.1).2.2.1 1 (x := .slice a1 ta.length c1) rfl).1
  have r2 := (blk_cell (HD.out w11 H11.out.1).2.2.1 2 (x := .slice a2 tb.length c2) rfl).1
  have r3 := (blk_cell (HD.out w11 H11.out.1).2.2.1 3 (x := .slice a3 tc.length c3) rfl).1
  go_wp2_with fail
  refine (eqSig_same gi (.slice x1 ta.length y1) (.slice x2 tb.length y2) (.slice x3 tc.length y3) (.slice a1 ta.length c1) (.slice a2 tb.length c2) (.slice a3 tc.length c3) ta tb tc w11 H11.out.2.2.2.2.1.oa.row H11.out.2.2.2.2.1.ob.row H11.out.2.2.2.2.1.oc.row (HD.out w11 H11.out.1).2.2.2.1.oa.row (HD.out w11 H11.out.1).2.2.2.1.ob.row (HD.out w11 H11.out.1).2.2.2.1.oc.row (by have := HLN.out; omega) (by have := HLN.out; omega) (by have := HLN.out; omega)).mono ?_
  rintro e w12 ⟨rfl, b12⟩
  have H12 : Hid (Below (w2.heap.size + 1 + 1) ((w2.alloc (.cells #[.string gs, .int .i64 gn] 45)).alloc (.cells #[.int .i64 gi, .slice a1 ta.length c1, .slice a2 tb.length c2, .slice a3 tc.length c3] 31)) w12 ∧ SigM w12 (.slice d1 ta.length f1) (.slice d2 tb.length f2) (.slice d3 tc.length f3) 1 ta.length tb.length tc.length ∧ w12.heap[w4.heap.size + 1]? = some (.cells #[.int .i64 gi, .slice d1 ta.length f1, .slice d2 tb.length f2, .slice d3 tc.length f3] 31 (0, 0))) := ⟨H11.out.1.trans (b12.mono (by have := H4.out; have := H11.out.2.2.2.1; omega)), H11.out.2.1.below b12, (b12.block _ (by have := H11.out.2.2.2.1; omega)).trans H11.out.2.2.1⟩
  clear b12 p0 p1 p2 p3 r0 r1 r2 r3
  have p0 := (blk_cell H12.out.2.2 0 (x := .int .i64 gi) rfl).1
  have p1 := (blk_cell H12.out.2.2 1 (x := .slice d1 ta.length f1) rfl).1
  have p2 := (blk_cell H12.out.2.2 2 (x := .slice d2 tb.length f2) rfl).1
  have p3 := (blk_cell H12.out.2.2 3 (x := .slice d3 tc.length f3) rfl).1
  go_wp2_with fail
  refine (heldSig_any gi (.slice d1 ta.length f1) (.slice d2 tb.length f2) (.slice d3 tc.length f3) ta.length tb.length tc.length w12 H12.out.2.1 HLN.out.1 HLN.out.2.1 HLN.out.2.2).mono ?_
  rintro e w13 ⟨rfl, b13⟩
  rw [HNN.out]
  have b14 := (HD.out w12 H12.out.1).2.2.2.2.1.trans (b13.mono (HD.out w12 H12.out.1).2.2.2.2.1.size)
  clear b13 p0 p1 p2 p3
  go_wp2_with fail
  go_ret
  exact ⟨rfl, b14⟩

set_option maxRecDepth 100000 in
theorem lifted (os : Os) (started : os.Started) (H : Type) (enc : TypeId × Value → H) :
    ReturnsInHanded {} Tryd.checked os 9 .any (fun w args => (Rows.fnExactSignNextSpec.pre enc Tryd.prog Tryd.f9 [] false w args ∧ laidMetH Tryd.prog Rows.fnExactSignNextRow.laid w) ∧ sizedMet enc Tryd.prog Tryd.f9 (OpenSpec.ofChange Rows.fnExactSignNextSpec) false w args)
      (Rows.fnExactSignNextSpec.post enc Tryd.prog Tryd.f9 false true false false) := by
  refine returnsInHanded_of_change_and (C := Tryd.checked) (X := fun w _ => laidMetH Tryd.prog Rows.fnExactSignNextRow.laid w) (fun _ _ _ hh h => h.of_heap hh) own started (by kernel_rfl) Tryd.func9
    (ChangeSpec.witness_shaped (enc := enc) (C := Tryd.checked) (os := os) (X := fun w _ => laidMetH Tryd.prog Rows.fnExactSignNextRow.laid w) false (World.doorLaid Tryd.prog 400 os) #[.agg #[.string ByteArray.empty, .int .i64 0], .string ByteArray.empty] 8 rfl (World.shaped_of_RefB (by kernel_rfl) (by kernel_rfl)) (by kernel_rfl) (by kernel_rfl) (by kernel_rfl) (door_met os _)) ?_
  intro W base args ds gs before hval0 hW _ _ hL _
  have hval : ∀ (j : Nat) t v, Tryd.f9.params[j]? = some t → args[j]? = some v → Value.okWide Tryd.prog W .any base t v := hval0
  have hW' := hW
  obtain ⟨p, q, hA0, hV0, rfl, hfz, hnd⟩ := hW
  have hA : DataW.TrodAll enc Tryd.prog W 0 (fun _ => true) true Tryd.f9.params.toList args.toList ds p := hA0
  have hV : DataW.TrodVars enc Tryd.prog W (fun _ => true) ["loop.example/g00292/impl.roundWords"] gs q := hV0
  rw [Tryd.params9] at hA hval
  obtain ⟨v0, vs0, d0, ds0, p0, q0, hargs, rfl, rfl, h0, r0⟩ := trodAll_cons hA
  obtain ⟨v1, vs1, d1, ds1, p1, q1, rfl, rfl, rfl, h1, r1⟩ := trodAll_cons r0
  obtain ⟨rfl, rfl, rfl⟩ := trodAll_nil r1
  obtain rfl : args = #[v0, v1] := by cases args; simp_all
  obtain ⟨_, _, _, _, dv, _, rfl, _⟩ := trodVars_one hV
  have k00 := h0
  have lt0 : ∀ x ∈ p0, x.block < W.heap.size := by obtain ⟨m, hm⟩ := k00; exact DataW.trod_lt m _ _ _ hm
  obtain ⟨s0, i0, rfl, z0, y0⟩ := Op.open_chain (hval 0 43 v0 rfl rfl) h0
  have k10 := h1
  have lt1 : ∀ x ∈ p1, x.block < W.heap.size := by obtain ⟨m, hm⟩ := k10; exact DataW.trod_lt m _ _ _ hm
  obtain ⟨s1, rfl, rfl, rfl, z1⟩ := open_string Tryd.underlying9 (hval 1 9 v1 rfl rfl) h1
  clear hA0 hval0 hV0
  have hT := Hl.tab_of hL
  refine (walk s0 i0 z0 y0 s1 z1 W hT.1 hT.2).mono fun e W' ⟨he, bel⟩ => ?_
  subst he
  exact ⟨_, rfl, _, _, _, [], _, q, hW', trodAll_mk1 (shut_bool Tryd.underlying4 _), (trodAll_cons_mk (Below.trod laidOut (by kernel_rfl) (of_decide_eq_true (by kernel_rfl)) k00 bel lt0) (trodAll_cons_mk (Below.trod laidOut (by kernel_rfl) (of_decide_eq_true (by kernel_rfl)) k10 bel lt1) trodAll_mk0)), Below.trodVars laidOut bel rowed hV, bel.frame _, fun h => by cases h⟩

theorem said : Rows.FnExactSignNextSaid :=
  OpenClaim.holds_of_wide 9 Tryd.f9 rfl rfl rfl rfl rfl rfl rfl ⟨rfl, rfl, rfl, rfl, rfl⟩ rfl rfl rfl rfl rfl (by kernel_rfl) Tryd.func9 (by kernel_rfl)
    (of_decide_eq_true (by kernel_rfl)) (by unfold Func.isWrapper; first | (rw [if_pos (by decide +kernel)]; kernel_rfl) | (rw [if_neg (by decide +kernel)]; exact ⟨rfl, rfl⟩))
    (fun os started H enc _ => lifted os started H enc)

/-- No parameter wants a stand-in; the program's own looks are off. -/
theorem plain (f : FuncId) (fn : Func) (hf : Tryd.pinned.checked.prog.funcNamed "loop.example/g00292/laws.FnExactSignNext" = some f) (hfn : Tryd.pinned.checked.prog.funcs[f]? = some fn) :
    false = Tryd.pinned.checked.prog.looks [] ∧ ∀ (j : Nat) t, fn.params[j]? = some t → Tryd.pinned.checked.prog.wantsStandIn t = false := by
  obtain rfl : f = 9 := Option.some.inj ((show Tryd.prog.funcNamed "loop.example/g00292/laws.FnExactSignNext" = some 9 by kernel_rfl).symm.trans hf) |>.symm
  obtain rfl : fn = Tryd.f9 := (Option.some.inj (Tryd.func9.symm.trans hfn)).symm
  refine ⟨by kernel_rfl, fun j t ht => ?_⟩
  rw [Tryd.params9] at ht
  have hm := Array.mem_of_getElem? ht
  have hl : t ∈ [43, 9] := by simpa using hm
  have hall : ∀ x ∈ [43, 9], Tryd.prog.wantsStandIn x = false := by
    intro x hx
    simp only [List.mem_cons, List.not_mem_nil, or_false] at hx
    rcases hx with rfl | rfl <;> kernel_rfl
  exact hall t hl
end Go.Proofs.YtjggfholjdplbaaDoor.fnExactSignNext
namespace Go.Proofs.YtjggfholjdplbaaDoor
/-- THE STATEMENT: the card. -/
theorem fnExactSignNext_holds : Rows.FnExactSignNextCardSaid :=
  Claim7.holds_tied_plain_at .later [] _ _ _ _ fnExactSignNext.said (fun _ h => by cases h) (by kernel_rfl) (fun _ h => by cases h) fnExactSignNext_row_tie rfl ⟨rfl, rfl⟩ (by kernel_rfl) rfl fnExactSignNext.plain (by kernel_rfl)
end Go.Proofs.YtjggfholjdplbaaDoor
