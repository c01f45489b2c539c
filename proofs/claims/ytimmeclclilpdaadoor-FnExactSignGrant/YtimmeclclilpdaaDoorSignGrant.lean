/-
  SignGrant answers as the specification does, for all numbers and every grant; its answer owns its memory, behind another call too.
  Conditions: none beyond the given row's own; the package variable that it reads starts as the program's text lays it (the card ties it).
-/
import Derived.Test.YtimmeclclilpdaaDoorLtSignGrant
import Derived.Test.YtimmeclclilpdaaDoorGrh
import Derived.Test.YtimmeclclilpdaaDoorSq
import Derived.WalkKit
namespace Go.Proofs.YtimmeclclilpdaaDoor.fnExactSignGrant
open Go.ChangeShapes Go.WideShapes Go.ChangeAt Go.RowKit
open Go.ChangeMaps (open_string shut_string)
open Go.Proofs.YtimmeclclilpdaaDoor.Hl (own laidOut rowed door_met)

open Go.Proofs.YtimmeclclilpdaaDoor.Sl Go.Proofs.YtimmeclclilpdaaDoor.By Go.Proofs.YtimmeclclilpdaaDoor.Ap Go.Proofs.YtimmeclclilpdaaDoor.Tx Go.Proofs.YtimmeclclilpdaaDoor.Sh Go.Proofs.YtimmeclclilpdaaDoor.Mk Go.Proofs.YtimmeclclilpdaaDoor.Sg Go.Proofs.YtimmeclclilpdaaDoor.Sq Go.Proofs.YtimmeclclilpdaaDoor.Gh
open Go.Proofs.YtimmeclclilpdaaDoor.Gr12 (Gg gV PTab PTab.below szG_any toG_any bel1)
structure KP (W : World) : Prop where
  k : KTab W
  p : PTab W
theorem KP.below {w w' : World} (h : KP w) (hb : Below w.heap.size w w') (hp : 2 < w.heap.size) : KP w' := ⟨h.k.below hb hp, h.p.below hb⟩
set_option maxRecDepth 100000 in
set_option maxHeartbeats 1600000 in
/-- THE WALK: both functions answer alike; the answer owns its memory, behind another call too. -/
theorem walk (id : Int) {q0 : Prop} (_z0 : q0) (ix : Int) {q1 : Prop} (_z1 : q1) (g : Gg) (z : g.nm.size ≤ maxLen) (w : World) (hT : PTab w ∧ (KTab w ∧ 2 < w.heap.size)) :
    Calls Tryd.prog 8 #[.int .i64 id, .int .i64 ix, gV g] w fun e w' => e = .returned (.bool true) ∧ Below w.heap.size w w' := by
  have HX0 : Hid (∀ W, Below (w.alloc (.cells #[.string g.nm, .int .i64 g.hd, .int .i64 g.tk, .int .i64 g.ex] 34)).heap.size (w.alloc (.cells #[.string g.nm, .int .i64 g.hd, .int .i64 g.tk, .int .i64 g.ex] 34)) W → (W.cell? ⟨w.heap.size, 0, none⟩ = some (.string g.nm) ∧ W.cell? ⟨w.heap.size, 1, none⟩ = some (.int .i64 g.hd) ∧ W.cell? ⟨w.heap.size, 2, none⟩ = some (.int .i64 g.tk) ∧ W.cell? ⟨w.heap.size, 3, none⟩ = some (.int .i64 g.ex)) ∧ Below w.heap.size w W) := fun W hW => by
    have h1 := (hW.block w.heap.size (by simp)).trans (heap_alloc_new w _)
    exact ⟨⟨by simp [World.cell?, h1], by simp [World.cell?, h1], by simp [World.cell?, h1], by simp [World.cell?, h1]⟩, (bel1 w _).trans (hW.mono (by simp))⟩
  have HSZ : Hid (∀ W, Calls Tryd.prog 15 #[.agg #[.string g.nm, .int .i64 g.hd, .int .i64 g.tk, .int .i64 g.ex], .int .i64 (1048576 : Nat)] W fun e w' => (∃ r : Int, e = .returned (.int .i64 r) ∧ (r = -1 ∨ ∃ q : Nat, r = q ∧ q ≤ 1048576 ∧ g.nm.size ≤ 1048576)) ∧ Below W.heap.size W w') := fun W => szG_any g 1048576 W (by decide) z
  have HTO : Hid (∀ W, Calls Tryd.prog 16 #[.agg #[.string g.nm, .int .i64 g.hd, .int .i64 g.tk, .int .i64 g.ex]] W fun e w' => e = .returned (.agg #[.string g.nm, .int .i64 g.hd, .int .i64 g.tk, .int .i64 g.ex]) ∧ Below W.heap.size W w') := fun W => toG_any g W
  have GK0 : Hid (KP w ∧ 2 < w.heap.size) := ⟨⟨hT.2.1, hT.1⟩, hT.2.2⟩
  obtain ⟨gi, gc, ta, tb, tc, HSP, HIM, HLN⟩ : ∃ (gi gc : Int) (ta tb tc : List ByteArray),
      Hid (∀ W0 W, Below W0.heap.size W0 W → Calls Tryd.prog 23 #[.int .i64 id, .int .i64 ix, .agg #[.string g.nm, .int .i64 g.hd, .int .i64 g.tk, .int .i64 g.ex]] W fun e w' => ∃ va vb vc, e = .returned (.tuple #[.agg #[.int .i64 gi, va, vb, vc], .int .i64 gc]) ∧ SigV w' W0.heap.size va vb vc ta tb tc ∧ Below W0.heap.size W0 w') ∧
      Hid (∀ W0, KP W0 → 2 < W0.heap.size → ∀ W, Below W0.heap.size W0 W → Calls Tryd.prog 24 #[.int .i64 id, .int .i64 ix, .agg #[.string g.nm, .int .i64 g.hd, .int .i64 g.tk, .int .i64 g.ex]] W fun e w' => ∃ va vb vc, e = .returned (.tuple #[.agg #[.int .i64 gi, va, vb, vc], .int .i64 gc]) ∧ SigV w' W0.heap.size va vb vc ta tb tc ∧ Below W0.heap.size W0 w') ∧
      Hid (ta.length ≤ 32 ∧ tb.length ≤ 32 ∧ tc.length ≤ 32) := ⟨sgI id ix g, sgC id ix g, sgA id ix g, sgB id ix g, sgP id ix g,
        fun W0 W hW => (specSignGrant_any id ix g W z).mono fun e w' ⟨va, vb, vc, h1, h2, h3⟩ => ⟨va, vb, vc, h1, h2.mono hW.size, hW.trans (h3.mono hW.size)⟩,
        fun W0 h1 h2 W hW => (implSignGrant_any id ix g W z (h1.below hW h2).p (h1.below hW h2).k (Nat.lt_of_lt_of_le h2 hW.size)).mono fun e w' ⟨va, vb, vc, h1, h2, h3⟩ => ⟨va, vb, vc, h1, h2.mono hW.size, hW.trans (h3.mono hW.size)⟩, len32 id ix g⟩
  clear z hT
  unfold gV
  go_enter Tryd.func8, Tryd.ntmps8
  go_upto_region 1 with fail
  generalize w.alloc (.cells #[.string g.nm, .int .i64 g.hd, .int .i64 g.tk, .int .i64 g.ex] 34) = wb at HX0 ⊢
  obtain ⟨⟨c0, c1, c2, c3⟩, _⟩ := HX0.out wb (Below.refl _ _)
  go_wp2_with fail
  refine (HSZ.out _).mono ?_
  rintro e wz ⟨⟨r, rfl, hr⟩, b1⟩
  have BZ : Hid (Below wb.heap.size wb wz) := b1
  clear b1 c0 c1 c2 c3
  rcases hr with rfl | ⟨q, rfl, _, _⟩
  · have G1 : Hid (Below w.heap.size w wz) := (HX0.out _ BZ.out).2
    clear HX0
    go_wp2_with fail
    go_ret
    exact ⟨rfl, G1.out⟩
  have hq0 : ¬ (q : Int) < 0 := by omega
  have HX : Hid (∀ W, Below wz.heap.size wz W → (W.cell? ⟨w.heap.size, 0, none⟩ = some (.string g.nm) ∧ W.cell? ⟨w.heap.size, 1, none⟩ = some (.int .i64 g.hd) ∧ W.cell? ⟨w.heap.size, 2, none⟩ = some (.int .i64 g.tk) ∧ W.cell? ⟨w.heap.size, 3, none⟩ = some (.int .i64 g.ex)) ∧ Below w.heap.size w W) := fun W hW => HX0.out W (BZ.out.trans (hW.mono BZ.out.size))
  have GK : Hid (KP wz ∧ 2 < wz.heap.size) := ⟨GK0.out.1.below (HX0.out _ BZ.out).2 GK0.out.2, Nat.lt_of_lt_of_le GK0.out.2 (HX0.out _ BZ.out).2.size⟩
  clear HX0 GK0 BZ HSZ
  obtain ⟨⟨y0, y1, y2, y3⟩, _⟩ := HX.out _ (Below.refl wz.heap.size wz)
  go_wp2_with fail
  refine (HTO.out _).mono ?_
  rintro e wt1 ⟨rfl, bt1⟩
  have BT1 : Hid (Below _ _ wt1) := bt1
  clear bt1 y0 y1 y2 y3
  go_wp2_with fail
  refine (HSP.out wz _ BT1.out).mono ?_
  rintro e w1 ⟨va, vb, vc, rfl, s1, b1⟩
  obtain ⟨a1, c1, e1⟩ := RowT.form s1.oa.row
  obtain ⟨a2, c2, e2⟩ := RowT.form s1.ob.row
  obtain ⟨a3, c3, e3⟩ := RowT.form s1.oc.row
  subst e1 e2 e3
  have S1 : Hid (SigV w1 wz.heap.size (.slice a1 ta.length c1) (.slice a2 tb.length c2) (.slice a3 tc.length c3) ta tb tc ∧ Below wz.heap.size wz w1) := ⟨s1, b1⟩
  have T1 : Hid (Below w1.heap.size w1 (w1.alloc (.cells #[.int .i64 gi, .slice a1 ta.length c1, .slice a2 tb.length c2, .slice a3 tc.length c3] 44)) ∧ (w1.alloc (.cells #[.int .i64 gi, .slice a1 ta.length c1, .slice a2 tb.length c2, .slice a3 tc.length c3] 44)).heap.size = w1.heap.size + 1 ∧ (w1.alloc (.cells #[.int .i64 gi, .slice a1 ta.length c1, .slice a2 tb.length c2, .slice a3 tc.length c3] 44)).heap[w1.heap.size]? = some (.cells #[.int .i64 gi, .slice a1 ta.length c1, .slice a2 tb.length c2, .slice a3 tc.length c3] 44 (0, 0))) := ⟨bel_new _ _, size_new _ _, blk_new _ _ _⟩
  clear s1 b1
  obtain ⟨⟨y0, y1, y2, y3⟩, _⟩ := HX.out _ (S1.out.2.trans (T1.out.1.mono S1.out.2.size))
  go_wp2_with fail
  refine (HTO.out _).mono ?_
  rintro e wt2 ⟨rfl, bt2⟩
  have BT2 : Hid (Below _ _ wt2) := bt2
  clear bt2 y0 y1 y2 y3
  go_wp2_with fail
  refine (HIM.out _ (GK.out.1.below (S1.out.2.trans (T1.out.1.mono S1.out.2.size)) GK.out.2) (Nat.lt_of_lt_of_le GK.out.2 (S1.out.2.trans (T1.out.1.mono S1.out.2.size)).size) _ BT2.out).mono ?_
  rintro e w2 ⟨ua, ub, uc, rfl, s2', b2⟩
  obtain ⟨d1, f1, e1⟩ := RowT.form s2'.oa.row
  obtain ⟨d2, f2, e2⟩ := RowT.form s2'.ob.row
  obtain ⟨d3, f3, e3⟩ := RowT.form s2'.oc.row
  subst e1 e2 e3
  rw [T1.out.2.1] at s2' b2
  have S2 : Hid (SigV w2 (w1.heap.size + 1) (.slice d1 ta.length f1) (.slice d2 tb.length f2) (.slice d3 tc.length f3) ta tb tc ∧ Below (w1.heap.size + 1) (w1.alloc (.cells #[.int .i64 gi, .slice a1 ta.length c1, .slice a2 tb.length c2, .slice a3 tc.length c3] 44)) w2 ∧ Below w1.heap.size w1 w2 ∧ w1.heap.size + 1 ≤ w2.heap.size) := ⟨s2', b2, T1.out.1.trans (b2.mono (by omega)), by have := b2.size; rw [T1.out.2.1] at this; exact this⟩
  have z2 : w2.heap[w1.heap.size]? = some (.cells #[.int .i64 gi, .slice a1 ta.length c1, .slice a2 tb.length c2, .slice a3 tc.length c3] 44 (0, 0)) := (b2.block _ (by omega)).trans T1.out.2.2
  clear s2' b2
  have p0 := (blk_cell z2 0 (x := .int .i64 gi) rfl).1
  have p1 := (blk_cell z2 1 (x := .slice a1 ta.length c1) rfl).1
  have p2 := (blk_cell z2 2 (x := .slice a2 tb.length c2) rfl).1
  have p3 := (blk_cell z2 3 (x := .slice a3 tc.length c3) rfl).1
  have T2 : Hid (Below w2.heap.size w2 (w2.alloc (.cells #[.int .i64 gi, .slice d1 ta.length f1, .slice d2 tb.length f2, .slice d3 tc.length f3] 44)) ∧ (w2.alloc (.cells #[.int .i64 gi, .slice d1 ta.length f1, .slice d2 tb.length f2, .slice d3 tc.length f3] 44)).heap.size = w2.heap.size + 1 ∧ (w2.alloc (.cells #[.int .i64 gi, .slice d1 ta.length f1, .slice d2 tb.length f2, .slice d3 tc.length f3] 44)).heap[w2.heap.size]? = some (.cells #[.int .i64 gi, .slice d1 ta.length f1, .slice d2 tb.length f2, .slice d3 tc.length f3] 44 (0, 0))) := ⟨bel_new _ _, size_new _ _, blk_new _ _ _⟩
  have p0' : ∀ o, (w2.alloc o).cell? ⟨w1.heap.size, 0, none⟩ = some (.int .i64 gi) := fun o => (blk_cell ((Below.heap_alloc w2 o w1.heap.size (by have := S2.out.2.2.2; omega)).trans z2) 0 rfl).1
  have p1' : ∀ o, (w2.alloc o).cell? ⟨w1.heap.size, 1, none⟩ = some (.slice a1 ta.length c1) := fun o => (blk_cell ((Below.heap_alloc w2 o w1.heap.size (by have := S2.out.2.2.2; omega)).trans z2) 1 rfl).1
  have p2' : ∀ o, (w2.alloc o).cell? ⟨w1.heap.size, 2, none⟩ = some (.slice a2 tb.length c2) := fun o => (blk_cell ((Below.heap_alloc w2 o w1.heap.size (by have := S2.out.2.2.2; omega)).trans z2) 2 rfl).1
  have p3' : ∀ o, (w2.alloc o).cell? ⟨w1.heap.size, 3, none⟩ = some (.slice a3 tc.length c3) := fun o => (blk_cell ((Below.heap_alloc w2 o w1.heap.size (by have := S2.out.2.2.2; omega)).trans z2) 3 rfl).1
  have Z2 : Hid (w2.heap[w1.heap.size]? = some (.cells #[.int .i64 gi, .slice a1 ta.length c1, .slice a2 tb.length c2, .slice a3 tc.length c3] 44 (0, 0))) := z2
  clear z2
  go_wp2_with fail
  refine (eqSig_same gi (.slice d1 ta.length f1) (.slice d2 tb.length f2) (.slice d3 tc.length f3) (.slice a1 ta.length c1) (.slice a2 tb.length c2) (.slice a3 tc.length c3) ta tb tc _ (S2.out.1.below T2.out.1).oa.row (S2.out.1.below T2.out.1).ob.row (S2.out.1.below T2.out.1).oc.row ((S1.out.1.below S2.out.2.2.1).below T2.out.1).oa.row ((S1.out.1.below S2.out.2.2.1).below T2.out.1).ob.row ((S1.out.1.below S2.out.2.2.1).below T2.out.1).oc.row (by have := HLN.out; omega) (by have := HLN.out; omega) (by have := HLN.out; omega)).mono ?_
  rintro e w3 ⟨rfl, b3⟩
  rw [T2.out.2.1] at b3
  have S3 : Hid (SigV w3 (w1.heap.size + 1) (.slice d1 ta.length f1) (.slice d2 tb.length f2) (.slice d3 tc.length f3) ta tb tc ∧ SigV w3 wz.heap.size (.slice a1 ta.length c1) (.slice a2 tb.length c2) (.slice a3 tc.length c3) ta tb tc ∧ w3.heap[w1.heap.size]? = some (.cells #[.int .i64 gi, .slice a1 ta.length c1, .slice a2 tb.length c2, .slice a3 tc.length c3] 44 (0, 0)) ∧ w3.heap[w2.heap.size]? = some (.cells #[.int .i64 gi, .slice d1 ta.length f1, .slice d2 tb.length f2, .slice d3 tc.length f3] 44 (0, 0)) ∧ w2.heap.size + 1 ≤ w3.heap.size ∧ Below w1.heap.size w1 w3) := by
    have b3' : Below (w2.alloc (.cells #[.int .i64 gi, .slice d1 ta.length f1, .slice d2 tb.length f2, .slice d3 tc.length f3] 44)).heap.size (w2.alloc (.cells #[.int .i64 gi, .slice d1 ta.length f1, .slice d2 tb.length f2, .slice d3 tc.length f3] 44)) w3 := by rw [T2.out.2.1]; exact b3
    have hs3 := b3.size
    rw [T2.out.2.1] at hs3
    exact ⟨(S2.out.1.below T2.out.1).below b3', ((S1.out.1.below S2.out.2.2.1).below T2.out.1).below b3', (b3.block _ (by have := S2.out.2.2.2; omega)).trans ((Below.heap_alloc w2 _ w1.heap.size (by have := S2.out.2.2.2; omega)).trans Z2.out), (b3.block _ (by omega)).trans T2.out.2.2, hs3, (S2.out.2.2.1.trans (T2.out.1.mono S2.out.2.2.1.size)).trans (b3.mono (by have := S2.out.2.2.2; omega))⟩
  clear b3 p0 p1 p2 p3 p0' p1' p2' p3'
  have hgc : (gc != gc) = false := by simp
  have p0 := (blk_cell S3.out.2.2.2.1 0 (x := .int .i64 gi) rfl).1
  have p1 := (blk_cell S3.out.2.2.2.1 1 (x := .slice d1 ta.length f1) rfl).1
  have p2 := (blk_cell S3.out.2.2.2.1 2 (x := .slice d2 tb.length f2) rfl).1
  have p3 := (blk_cell S3.out.2.2.2.1 3 (x := .slice d3 tc.length f3) rfl).1
  go_wp2_with fail
  refine (markSig_any gi (.slice d1 ta.length f1) (.slice d2 tb.length f2) (.slice d3 tc.length f3) ta tb tc (w1.heap.size + 1) w3 S3.out.1 (by have := S3.out.2.2.2.2.1; have := S2.out.2.2.2; omega) HLN.out.1 HLN.out.2.1 HLN.out.2.2).mono ?_
  rintro e w4 ⟨rfl, m4, b4, k4⟩
  have S4 : Hid (SigM w4 (.slice d1 ta.length f1) (.slice d2 tb.length f2) (.slice d3 tc.length f3) 1 ta.length tb.length tc.length ∧ SigV w4 wz.heap.size (.slice a1 ta.length c1) (.slice a2 tb.length c2) (.slice a3 tc.length c3) ta tb tc ∧ w4.heap[w1.heap.size]? = some (.cells #[.int .i64 gi, .slice a1 ta.length c1, .slice a2 tb.length c2, .slice a3 tc.length c3] 44 (0, 0)) ∧ w4.heap[w2.heap.size]? = some (.cells #[.int .i64 gi, .slice d1 ta.length f1, .slice d2 tb.length f2, .slice d3 tc.length f3] 44 (0, 0)) ∧ w2.heap.size + 1 ≤ w4.heap.size ∧ Below w1.heap.size w1 w4) :=
    ⟨m4, S1.out.1.below (S3.out.2.2.2.2.2.trans (b4.mono (by omega))), (b4.block _ (by omega)).trans S3.out.2.2.1, (k4 _ (by have := S3.out.2.2.2.2.1; omega) (fun e => by have := (OwnS.lt' S2.out.1.oa _ e.symm).2; omega) (fun e => by have := (OwnS.lt' S2.out.1.ob _ e.symm).2; omega) (fun e => by have := (OwnS.lt' S2.out.1.oc _ e.symm).2; omega)).trans S3.out.2.2.2.1, by have := b4.size; have := S3.out.2.2.2.2.1; omega, S3.out.2.2.2.2.2.trans (b4.mono (by omega))⟩
  clear m4 b4 k4 p0 p1 p2 p3 S3
  have p0 := (blk_cell S4.out.2.2.2.1 0 (x := .int .i64 gi) rfl).1
  have p1 := (blk_cell S4.out.2.2.2.1 1 (x := .slice d1 ta.length f1) rfl).1
  have p2 := (blk_cell S4.out.2.2.2.1 2 (x := .slice d2 tb.length f2) rfl).1
  have p3 := (blk_cell S4.out.2.2.2.1 3 (x := .slice d3 tc.length f3) rfl).1
  have n1 : ¬ ((1 + ta.length + tb.length + tc.length : Nat) : Int) < 0 := by omega
  have n2 : (((1 + ta.length + tb.length + tc.length : Nat) : Int) != ((1 + ta.length + tb.length + tc.length : Nat) : Int)) = false := by simp
  obtain ⟨nn, HNN⟩ : ∃ nn : Nat, Hid (1 + ta.length + tb.length + tc.length = nn) := ⟨_, rfl⟩
  rw [HNN.out] at n1 n2 ⊢
  go_wp2_with fail
  refine (heldSig_any gi (.slice d1 ta.length f1) (.slice d2 tb.length f2) (.slice d3 tc.length f3) ta.length tb.length tc.length w4 S4.out.1 HLN.out.1 HLN.out.2.1 HLN.out.2.2).mono ?_
  rintro e w5 ⟨rfl, b5⟩
  rw [HNN.out]
  have S5 : Hid (SigM w5 (.slice d1 ta.length f1) (.slice d2 tb.length f2) (.slice d3 tc.length f3) 1 ta.length tb.length tc.length ∧ SigV w5 wz.heap.size (.slice a1 ta.length c1) (.slice a2 tb.length c2) (.slice a3 tc.length c3) ta tb tc ∧ w5.heap[w1.heap.size]? = some (.cells #[.int .i64 gi, .slice a1 ta.length c1, .slice a2 tb.length c2, .slice a3 tc.length c3] 44 (0, 0)) ∧ w5.heap[w2.heap.size]? = some (.cells #[.int .i64 gi, .slice d1 ta.length f1, .slice d2 tb.length f2, .slice d3 tc.length f3] 44 (0, 0)) ∧ w2.heap.size + 1 ≤ w5.heap.size ∧ Below w1.heap.size w1 w5) :=
    ⟨S4.out.1.below b5, S4.out.2.1.below b5, (b5.block _ (by have := S4.out.2.2.2.2.1; have := S2.out.2.2.2; omega)).trans S4.out.2.2.1, (b5.block _ (by have := S4.out.2.2.2.2.1; omega)).trans S4.out.2.2.2.1, by have := b5.size; have := S4.out.2.2.2.2.1; omega, S4.out.2.2.2.2.2.trans (b5.mono (by have := S4.out.2.2.2.2.2.size; omega))⟩
  clear b5 p0 p1 p2 p3 S4
  obtain ⟨⟨y0, y1, y2, y3⟩, _⟩ := HX.out _ (S1.out.2.trans (S5.out.2.2.2.2.2.mono S1.out.2.size))
  go_wp2_with fail
  refine (HTO.out _).mono ?_
  rintro e wt3 ⟨rfl, bt3⟩
  have BT3 : Hid (Below _ _ wt3) := bt3
  clear bt3 y0 y1 y2 y3
  go_wp2_with fail
  refine (HIM.out w5 (GK.out.1.below (S1.out.2.trans (S5.out.2.2.2.2.2.mono S1.out.2.size)) GK.out.2) (Nat.lt_of_lt_of_le GK.out.2 (S1.out.2.trans (S5.out.2.2.2.2.2.mono S1.out.2.size)).size) _ BT3.out).mono ?_
  rintro e w6 ⟨ua, ub, uc, rfl, s6, b6⟩
  obtain ⟨x1, y1, e1⟩ := RowT.form s6.oa.row
  obtain ⟨x2, y2, e2⟩ := RowT.form s6.ob.row
  obtain ⟨x3, y3, e3⟩ := RowT.form s6.oc.row
  subst e1 e2 e3
  have S6 : Hid (SigM w6 (.slice d1 ta.length f1) (.slice d2 tb.length f2) (.slice d3 tc.length f3) 1 ta.length tb.length tc.length ∧ SigV w6 wz.heap.size (.slice a1 ta.length c1) (.slice a2 tb.length c2) (.slice a3 tc.length c3) ta tb tc ∧ SigV w6 w5.heap.size (.slice x1 ta.length y1) (.slice x2 tb.length y2) (.slice x3 tc.length y3) ta tb tc ∧ w6.heap[w1.heap.size]? = some (.cells #[.int .i64 gi, .slice a1 ta.length c1, .slice a2 tb.length c2, .slice a3 tc.length c3] 44 (0, 0)) ∧ w6.heap[w2.heap.size]? = some (.cells #[.int .i64 gi, .slice d1 ta.length f1, .slice d2 tb.length f2, .slice d3 tc.length f3] 44 (0, 0)) ∧ w2.heap.size + 1 ≤ w6.heap.size ∧ Below w1.heap.size w1 w6) :=
    ⟨S5.out.1.below b6, S5.out.2.1.below b6, s6, (b6.block _ (by have := S5.out.2.2.2.2.1; have := S2.out.2.2.2; omega)).trans S5.out.2.2.1, (b6.block _ (by have := S5.out.2.2.2.2.1; omega)).trans S5.out.2.2.2.1, by have := b6.size; have := S5.out.2.2.2.2.1; omega, S5.out.2.2.2.2.2.trans (b6.mono (by have := S5.out.2.2.2.2.2.size; omega))⟩
  have T6 : Hid (Below w6.heap.size w6 (w6.alloc (.cells #[.int .i64 gi, .slice x1 ta.length y1, .slice x2 tb.length y2, .slice x3 tc.length y3] 44)) ∧ (w6.alloc (.cells #[.int .i64 gi, .slice x1 ta.length y1, .slice x2 tb.length y2, .slice x3 tc.length y3] 44)).heap.size = w6.heap.size + 1) := ⟨bel_new _ _, size_new _ _⟩
  have p0' : ∀ o, (w6.alloc o).cell? ⟨w1.heap.size, 0, none⟩ = some (.int .i64 gi) := fun o => (blk_cell ((Below.heap_alloc w6 o w1.heap.size (by have := S6.out.2.2.2.2.2.1; have := S2.out.2.2.2; omega)).trans S6.out.2.2.2.1) 0 rfl).1
  have p1' : ∀ o, (w6.alloc o).cell? ⟨w1.heap.size, 1, none⟩ = some (.slice a1 ta.length c1) := fun o => (blk_cell ((Below.heap_alloc w6 o w1.heap.size (by have := S6.out.2.2.2.2.2.1; have := S2.out.2.2.2; omega)).trans S6.out.2.2.2.1) 1 rfl).1
  have p2' : ∀ o, (w6.alloc o).cell? ⟨w1.heap.size, 2, none⟩ = some (.slice a2 tb.length c2) := fun o => (blk_cell ((Below.heap_alloc w6 o w1.heap.size (by have := S6.out.2.2.2.2.2.1; have := S2.out.2.2.2; omega)).trans S6.out.2.2.2.1) 2 rfl).1
  have p3' : ∀ o, (w6.alloc o).cell? ⟨w1.heap.size, 3, none⟩ = some (.slice a3 tc.length c3) := fun o => (blk_cell ((Below.heap_alloc w6 o w1.heap.size (by have := S6.out.2.2.2.2.2.1; have := S2.out.2.2.2; omega)).trans S6.out.2.2.2.1) 3 rfl).1
  clear s6 b6 S5
  go_wp2_with fail
  refine (eqSig_same gi (.slice x1 ta.length y1) (.slice x2 tb.length y2) (.slice x3 tc.length y3) (.slice a1 ta.length c1) (.slice a2 tb.length c2) (.slice a3 tc.length c3) ta tb tc _ (S6.out.2.2.1.below T6.out.1).oa.row (S6.out.2.2.1.below T6.out.1).ob.row (S6.out.2.2.1.below T6.out.1).oc.row (S6.out.2.1.below T6.out.1).oa.row (S6.out.2.1.below T6.out.1).ob.row (S6.out.2.1.below T6.out.1).oc.row (by have := HLN.out; omega) (by have := HLN.out; omega) (by have := HLN.out; omega)).mono ?_
  rintro e w7 ⟨rfl, b7⟩
  have S7 : Hid (SigM w7 (.slice d1 ta.length f1) (.slice d2 tb.length f2) (.slice d3 tc.length f3) 1 ta.length tb.length tc.length ∧ w7.heap[w2.heap.size]? = some (.cells #[.int .i64 gi, .slice d1 ta.length f1, .slice d2 tb.length f2, .slice d3 tc.length f3] 44 (0, 0)) ∧ Below w1.heap.size w1 w7) := by
    have hs := S6.out.2.2.2.2.2.1
    have hz := S6.out.2.2.2.2.2.2.size
    refine ⟨(S6.out.1.below T6.out.1).below b7, (b7.block _ (by rw [T6.out.2]; omega)).trans ((Below.heap_alloc w6 _ w2.heap.size (by omega)).trans S6.out.2.2.2.2.1), (S6.out.2.2.2.2.2.2.trans (T6.out.1.mono hz)).trans (b7.mono (by rw [T6.out.2]; omega))⟩
  clear b7 p0' p1' p2' p3'
  have p0 := (blk_cell S7.out.2.1 0 (x := .int .i64 gi) rfl).1
  have p1 := (blk_cell S7.out.2.1 1 (x := .slice d1 ta.length f1) rfl).1
  have p2 := (blk_cell S7.out.2.1 2 (x := .slice d2 tb.length f2) rfl).1
  have p3 := (blk_cell S7.out.2.1 3 (x := .slice d3 tc.length f3) rfl).1
  go_wp2_with fail
  refine (heldSig_any gi (.slice d1 ta.length f1) (.slice d2 tb.length f2) (.slice d3 tc.length f3) ta.length tb.length tc.length w7 S7.out.1 HLN.out.1 HLN.out.2.1 HLN.out.2.2).mono ?_
  rintro e w8 ⟨rfl, b8⟩
  rw [HNN.out]
  have b9 := S1.out.2.trans ((S7.out.2.2.trans (b8.mono S7.out.2.2.size)).mono S1.out.2.size)
  clear b8 p0 p1 p2 p3
  go_wp2_with fail
  go_ret
  exact ⟨rfl, (HX.out _ b9).2⟩

set_option maxRecDepth 100000 in
theorem lifted (os : Os) (started : os.Started) (H : Type) (enc : TypeId × Value → H) :
    ReturnsInHanded {} Tryd.checked os 8 .any (fun w args => (Rows.fnExactSignGrantSpec.pre enc Tryd.prog Tryd.f8 [] false w args ∧ laidMetH Tryd.prog Rows.fnExactSignGrantRow.laid w) ∧ sizedMet enc Tryd.prog Tryd.f8 (OpenSpec.ofChange Rows.fnExactSignGrantSpec) false w args)
      (Rows.fnExactSignGrantSpec.post enc Tryd.prog Tryd.f8 false true false false) := by
  refine returnsInHanded_of_change_and (C := Tryd.checked) (X := fun w _ => laidMetH Tryd.prog Rows.fnExactSignGrantRow.laid w) (fun _ _ _ hh h => h.of_heap hh) own started (by kernel_rfl) Tryd.func8
    (ChangeSpec.witness_shaped (enc := enc) (C := Tryd.checked) (os := os) (X := fun w _ => laidMetH Tryd.prog Rows.fnExactSignGrantRow.laid w) false (World.doorLaid Tryd.prog 400 os) #[.int .i64 0, .int .i64 0, .agg #[.string ByteArray.empty, .int .i64 0, .int .i64 0, .int .i64 0]] 8 rfl (World.shaped_of_RefB (by kernel_rfl) (by kernel_rfl)) (by kernel_rfl) (by kernel_rfl) (by kernel_rfl) (door_met os _)) ?_
  intro W base args ds gs before hval0 hW _ _ hL _
  have hval : ∀ (j : Nat) t v, Tryd.f8.params[j]? = some t → args[j]? = some v → Value.okWide Tryd.prog W .any base t v := hval0
  have hW' := hW
  obtain ⟨p, q, hA0, hV0, rfl, hfz, hnd⟩ := hW
  have hA : DataW.TrodAll enc Tryd.prog W 0 (fun _ => true) true Tryd.f8.params.toList args.toList ds p := hA0
  have hV : DataW.TrodVars enc Tryd.prog W (fun _ => true) ["loop.example/g00292/impl.roundWords"] gs q := hV0
  rw [Tryd.params8] at hA hval
  obtain ⟨v0, vs0, d0, ds0, p0, q0, hargs, rfl, rfl, h0, r0⟩ := trodAll_cons hA
  obtain ⟨v1, vs1, d1, ds1, p1, q1, rfl, rfl, rfl, h1, r1⟩ := trodAll_cons r0
  obtain ⟨v2, vs2, d2, ds2, p2, q2, rfl, rfl, rfl, h2, r2⟩ := trodAll_cons r1
  obtain ⟨rfl, rfl, rfl⟩ := trodAll_nil r2
  obtain rfl : args = #[v0, v1, v2] := by cases args; simp_all
  obtain ⟨_, _, _, _, dv, _, rfl, _⟩ := trodVars_one hV
  have k00 := h0
  have lt0 : ∀ x ∈ p0, x.block < W.heap.size := by obtain ⟨m, hm⟩ := k00; exact DataW.trod_lt m _ _ _ hm
  obtain ⟨i0, rfl, rfl, rfl, z0⟩ := open_int Tryd.underlying3 (hval 0 3 v0 rfl rfl) h0
  have k10 := h1
  have lt1 : ∀ x ∈ p1, x.block < W.heap.size := by obtain ⟨m, hm⟩ := k10; exact DataW.trod_lt m _ _ _ hm
  obtain ⟨i1, rfl, rfl, rfl, z1⟩ := open_int Tryd.underlying3 (hval 1 3 v1 rfl rfl) h1
  have k20 := h2
  have lt2 : ∀ x ∈ p2, x.block < W.heap.size := by obtain ⟨m, hm⟩ := k20; exact DataW.trod_lt m _ _ _ hm
  obtain ⟨g2, rfl, z2⟩ := Op.open_grant (hval 2 34 v2 rfl rfl) h2
  clear hA0 hval0 hV0
  have hT := Hl.tab_of hL
  refine (walk i0 z0 i1 z1 g2 z2 W hT).mono fun e W' ⟨he, bel⟩ => ?_
  subst he
  exact ⟨_, rfl, _, _, _, [], _, q, hW', trodAll_mk1 (shut_bool Tryd.underlying4 _), (trodAll_cons_mk (Below.trod laidOut (by kernel_rfl) (of_decide_eq_true (by kernel_rfl)) k00 bel lt0) (trodAll_cons_mk (Below.trod laidOut (by kernel_rfl) (of_decide_eq_true (by kernel_rfl)) k10 bel lt1) (trodAll_cons_mk (Below.trod laidOut (by kernel_rfl) (of_decide_eq_true (by kernel_rfl)) k20 bel lt2) trodAll_mk0))), Below.trodVars laidOut bel rowed hV, bel.frame _, fun h => by cases h⟩

theorem said : Rows.FnExactSignGrantSaid :=
  OpenClaim.holds_of_wide 8 Tryd.f8 rfl rfl rfl rfl rfl rfl rfl ⟨rfl, rfl, rfl, rfl, rfl⟩ rfl rfl rfl rfl rfl (by kernel_rfl) Tryd.func8 (by kernel_rfl)
    (of_decide_eq_true (by kernel_rfl)) (by unfold Func.isWrapper; first | (rw [if_pos (by decide +kernel)]; kernel_rfl) | (rw [if_neg (by decide +kernel)]; exact ⟨rfl, rfl⟩))
    (fun os started H enc _ => lifted os started H enc)

/-- No parameter wants a stand-in; the program's own looks are off. -/
theorem plain (f : FuncId) (fn : Func) (hf : Tryd.pinned.checked.prog.funcNamed "loop.example/g00292/laws.FnExactSignGrant" = some f) (hfn : Tryd.pinned.checked.prog.funcs[f]? = some fn) :
    false = Tryd.pinned.checked.prog.looks [] ∧ ∀ (j : Nat) t, fn.params[j]? = some t → Tryd.pinned.checked.prog.wantsStandIn t = false := by
  obtain rfl : f = 8 := Option.some.inj ((show Tryd.prog.funcNamed "loop.example/g00292/laws.FnExactSignGrant" = some 8 by kernel_rfl).symm.trans hf) |>.symm
  obtain rfl : fn = Tryd.f8 := (Option.some.inj (Tryd.func8.symm.trans hfn)).symm
  refine ⟨by kernel_rfl, fun j t ht => ?_⟩
  rw [Tryd.params8] at ht
  have hm := Array.mem_of_getElem? ht
  have hl : t ∈ [3, 3, 34] := by simpa using hm
  have hall : ∀ x ∈ [3, 3, 34], Tryd.prog.wantsStandIn x = false := by
    intro x hx
    simp only [List.mem_cons, List.not_mem_nil, or_false] at hx
    rcases hx with rfl | rfl | rfl <;> kernel_rfl
  exact hall t hl
end Go.Proofs.YtimmeclclilpdaaDoor.fnExactSignGrant
namespace Go.Proofs.YtimmeclclilpdaaDoor
/-- THE STATEMENT: the card. -/
theorem fnExactSignGrant_holds : Rows.FnExactSignGrantCardSaid :=
  Claim7.holds_tied_plain_at .later [] _ _ _ _ fnExactSignGrant.said (fun _ h => by cases h) (by kernel_rfl) (fun _ h => by cases h) fnExactSignGrant_row_tie rfl ⟨rfl, rfl⟩ (by kernel_rfl) rfl fnExactSignGrant.plain (by kernel_rfl)
end Go.Proofs.YtimmeclclilpdaaDoor
