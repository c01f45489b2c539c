/-
  impl.SignAt answers at every argument just what the specification's SignAt answers; its answer owns its memory, behind another call too.
  Conditions: none beyond the given row's own; the package variable that it reads starts as the program's text lays it (the card ties it).
-/
import Derived.Test.YtjggfholjdplbaaDoorAt
import Derived.Test.YtjggfholjdplbaaDoorSq
import Derived.Test.YtjggfholjdplbaaDoorHashLaid
import Derived.WalkKit
namespace Go.Proofs.YtjggfholjdplbaaDoor.fnExactSignAt
open Go.ChangeShapes Go.WideShapes Go.ChangeAt Go.RowKit
open Go.ChangeMaps (open_string shut_string)
open Go.Proofs.YtjggfholjdplbaaDoor.Hl (own laidOut rowed door_met)

open Go.Proofs.YtjggfholjdplbaaDoor.Sl Go.Proofs.YtjggfholjdplbaaDoor.By Go.Proofs.YtjggfholjdplbaaDoor.Ap Go.Proofs.YtjggfholjdplbaaDoor.Tx Go.Proofs.YtjggfholjdplbaaDoor.Sh Go.Proofs.YtjggfholjdplbaaDoor.Mk Go.Proofs.YtjggfholjdplbaaDoor.Sg Go.Proofs.YtjggfholjdplbaaDoor.Sq
set_option maxRecDepth 100000 in
set_option maxHeartbeats 1600000 in
/-- THE WALK: both functions answer alike; the answer owns its memory, behind another call too. -/
theorem walk (s0 : ByteArray) (_z0 : s0.size ≤ maxLen) (i1 : Int) {q1 : Prop} (_z1 : q1) (s2 : ByteArray) (_z2 : s2.size ≤ maxLen) (w : World) (hK : KTab w) (hp : 0 < w.heap.size) :
    Calls Tryd.prog 7 #[.string s0, .int .i64 i1, .string s2] w fun e w' => e = .returned (.bool true) ∧ Below w.heap.size w w' := by
  have GK : Hid (KTab w ∧ 0 < w.heap.size) := ⟨hK, hp⟩
  clear hK hp
  by_cases hb0 : (1048576 : Int) < (s0.size : Int)
  · go_enter Tryd.func7, Tryd.ntmps7
    go_wp2
    go_ret
    exact ⟨rfl, Below.refl _ _⟩
  by_cases hb2 : (1048576 : Int) < (s2.size : Int)
  · go_enter Tryd.func7, Tryd.ntmps7
    go_wp2
    go_ret
    exact ⟨rfl, Below.refl _ _⟩
  obtain ⟨gi, gc, ta, tb, tc, HSP, HIM, HLN⟩ : ∃ (gi gc : Int) (ta tb tc : List ByteArray),
      Hid (∀ W, Calls Tryd.prog 20 #[.string s0, .int .i64 i1, .string s2] W fun e w' => ∃ va vb vc, e = .returned (.tuple #[.agg #[.int .i64 gi, va, vb, vc], .int .i64 gc]) ∧ SigV w' W.heap.size va vb vc ta tb tc ∧ Below W.heap.size W w') ∧
      Hid (∀ W, KTab W → 0 < W.heap.size → Calls Tryd.prog 21 #[.string s0, .int .i64 i1, .string s2] W fun e w' => ∃ va vb vc, e = .returned (.tuple #[.agg #[.int .i64 gi, va, vb, vc], .int .i64 gc]) ∧ SigV w' W.heap.size va vb vc ta tb tc ∧ Below W.heap.size W w') ∧
      Hid (ta.length ≤ 32 ∧ tb.length ≤ 32 ∧ tc.length ≤ 32) := ⟨_, _, _, _, _, fun W => specSignAt_any s0 s2 i1 W, fun W h1 h2 => implSignAt_any s0 s2 i1 W h1 h2, ⟨gA_len _ _ _, gB_len _ _ _, gP_len _ _ _⟩⟩
  go_enter Tryd.func7, Tryd.ntmps7
  go_wp2_with fail
  refine (HSP.out w).mono ?_
  rintro e w1 ⟨va, vb, vc, rfl, s1, b1⟩
  obtain ⟨a1, c1, e1⟩ := RowT.form s1.oa.row
  obtain ⟨a2, c2, e2⟩ := RowT.form s1.ob.row
  obtain ⟨a3, c3, e3⟩ := RowT.form s1.oc.row
  subst e1 e2 e3
  have S1 : Hid (SigV w1 w.heap.size (.slice a1 ta.length c1) (.slice a2 tb.length c2) (.slice a3 tc.length c3) ta tb tc ∧ Below w.heap.size w w1) := ⟨s1, b1⟩
  have T1 : Hid (Below w1.heap.size w1 (w1.alloc (.cells #[.int .i64 gi, .slice a1 ta.length c1, .slice a2 tb.length c2, .slice a3 tc.length c3] 31)) ∧ (w1.alloc (.cells #[.int .i64 gi, .slice a1 ta.length c1, .slice a2 tb.length c2, .slice a3 tc.length c3] 31)).heap.size = w1.heap.size + 1 ∧ (w1.alloc (.cells #[.int .i64 gi, .slice a1 ta.length c1, .slice a2 tb.length c2, .slice a3 tc.length c3] 31)).heap[w1.heap.size]? = some (.cells #[.int .i64 gi, .slice a1 ta.length c1, .slice a2 tb.length c2, .slice a3 tc.length c3] 31 (0, 0))) := ⟨bel_new _ _, size_new _ _, blk_new _ _ _⟩
  clear s1 b1
  go_wp2_with fail
  refine (HIM.out _ (GK.out.1.below (S1.out.2.trans (T1.out.1.mono S1.out.2.size)) GK.out.2) (Nat.lt_of_lt_of_le GK.out.2 (S1.out.2.trans (T1.out.1.mono S1.out.2.size)).size)).mono ?_
  rintro e w2 ⟨ua, ub, uc, rfl, s2', b2⟩
  obtain ⟨d1, f1, e1⟩ := RowT.form s2'.oa.row
  obtain ⟨d2, f2, e2⟩ := RowT.form s2'.ob.row
  obtain ⟨d3, f3, e3⟩ := RowT.form s2'.oc.row
  subst e1 e2 e3
  rw [T1.out.2.1] at s2' b2
  have S2 : Hid (SigV w2 (w1.heap.size + 1) (.slice d1 ta.length f1) (.slice d2 tb.length f2) (.slice d3 tc.length f3) ta tb tc ∧ Below (w1.heap.size + 1) (w1.alloc (.cells #[.int .i64 gi, .slice a1 ta.length c1, .slice a2 tb.length c2, .slice a3 tc.length c3] 31)) w2 ∧ Below w1.heap.size w1 w2 ∧ w1.heap.size + 1 ≤ w2.heap.size) := ⟨s2', b2, T1.out.1.trans (b2.mono (by omega)), by have := b2.size; rw [T1.out.2.1] at this; exact this⟩
  have z2 : w2.heap[w1.heap.size]? = some (.cells #[.int .i64 gi, .slice a1 ta.length c1, .slice a2 tb.length c2, .slice a3 tc.length c3] 31 (0, 0)) := (b2.block _ (by omega)).trans T1.out.2.2
  clear s2' b2
  have p0 := (blk_cell z2 0 (x := .int .i64 gi) rfl).1
  have p1 := (blk_cell z2 1 (x := .slice a1 ta.length c1) rfl).1
  have p2 := (blk_cell z2 2 (x := .slice a2 tb.length c2) rfl).1
  have p3 := (blk_cell z2 3 (x := .slice a3 tc.length c3) rfl).1
  have T2 : Hid (Below w2.heap.size w2 (w2.alloc (.cells #[.int .i64 gi, .slice d1 ta.length f1, .slice d2 tb.length f2, .slice d3 tc.length f3] 31)) ∧ (w2.alloc (.cells #[.int .i64 gi, .slice d1 ta.length f1, .slice d2 tb.length f2, .slice d3 tc.length f3] 31)).heap.size = w2.heap.size + 1 ∧ (w2.alloc (.cells #[.int .i64 gi, .slice d1 ta.length f1, .slice d2 tb.length f2, .slice d3 tc.length f3] 31)).heap[w2.heap.size]? = some (.cells #[.int .i64 gi, .slice d1 ta.length f1, .slice d2 tb.length f2, .slice d3 tc.length f3] 31 (0, 0))) := ⟨bel_new _ _, size_new _ _, blk_new _ _ _⟩
  have p0' : ∀ o, (w2.alloc o).cell? ⟨w1.heap.size, 0, none⟩ = some (.int .i64 gi) := fun o => (blk_cell ((Below.heap_alloc w2 o w1.heap.size (by have := S2.out.2.2.2; omega)).trans z2) 0 rfl).1
  have p1' : ∀ o, (w2.alloc o).cell? ⟨w1.heap.size, 1, none⟩ = some (.slice a1 ta.length c1) := fun o => (blk_cell ((Below.heap_alloc w2 o w1.heap.size (by have := S2.out.2.2.2; omega)).trans z2) 1 rfl).1
  have p2' : ∀ o, (w2.alloc o).cell? ⟨w1.heap.size, 2, none⟩ = some (.slice a2 tb.length c2) := fun o => (blk_cell ((Below.heap_alloc w2 o w1.heap.size (by have := S2.out.2.2.2; omega)).trans z2) 2 rfl).1
  have p3' : ∀ o, (w2.alloc o).cell? ⟨w1.heap.size, 3, none⟩ = some (.slice a3 tc.length c3) := fun o => (blk_cell ((Below.heap_alloc w2 o w1.heap.size (by have := S2.out.2.2.2; omega)).trans z2) 3 rfl).1
  have Z2 : Hid (w2.heap[w1.heap.size]? = some (.cells #[.int .i64 gi, .slice a1 ta.length c1, .slice a2 tb.length c2, .slice a3 tc.length c3] 31 (0, 0))) := z2
  clear z2
  go_wp2_with fail
  refine (eqSig_same gi (.slice d1 ta.length f1) (.slice d2 tb.length f2) (.slice d3 tc.length f3) (.slice a1 ta.length c1) (.slice a2 tb.length c2) (.slice a3 tc.length c3) ta tb tc _ (S2.out.1.below T2.out.1).oa.row (S2.out.1.below T2.out.1).ob.row (S2.out.1.below T2.out.1).oc.row ((S1.out.1.below S2.out.2.2.1).below T2.out.1).oa.row ((S1.out.1.below S2.out.2.2.1).below T2.out.1).ob.row ((S1.out.1.below S2.out.2.2.1).below T2.out.1).oc.row (by have := HLN.out; omega) (by have := HLN.out; omega) (by have := HLN.out; omega)).mono ?_
  rintro e w3 ⟨rfl, b3⟩
  rw [T2.out.2.1] at b3
  have S3 : Hid (SigV w3 (w1.heap.size + 1) (.slice d1 ta.length f1) (.slice d2 tb.length f2) (.slice d3 tc.length f3) ta tb tc ∧ SigV w3 w.heap.size (.slice a1 ta.length c1) (.slice a2 tb.length c2) (.slice a3 tc.length c3) ta tb tc ∧ w3.heap[w1.heap.size]? = some (.cells #[.int .i64 gi, .slice a1 ta.length c1, .slice a2 tb.length c2, .slice a3 tc.length c3] 31 (0, 0)) ∧ w3.heap[w2.heap.size]? = some (.cells #[.int .i64 gi, .slice d1 ta.length f1, .slice d2 tb.length f2, .slice d3 tc.length f3] 31 (0, 0)) ∧ w2.heap.size + 1 ≤ w3.heap.size ∧ Below w1.heap.size w1 w3) := by
    have b3' : Below (w2.alloc (.cells #[.int .i64 gi, .slice d1 ta.length f1, .slice d2 tb.length f2, .slice d3 tc.length f3] 31)).heap.size (w2.alloc (.cells #[.int .i64 gi, .slice d1 ta.length f1, .slice d2 tb.length f2, .slice d3 tc.length f3] 31)) w3 := by rw [T2.out.2.1]; exact b3
    have hs3 := b3.size
    rw [T2.out.2.1] at hs3
    exact ⟨(S2.out.1.below T2.out.1).below b3', ((S1.out.1.below S2.out.2.2.1).below T2.out.1).below b3', (b3.block _ (by have := S2.out.2.2.2; omega)).trans ((Below.heap_alloc w2 _ w1.heap.size (by have := S2.out.2.2.2; omega)).trans Z2.out), (b3.block _ (by omega)).trans T2.out.2.2, hs3, (S2.out.2.2.1.trans (T2.out.1.mono S2.out.2.2.1.size)).trans (b3.mono (by have := S2.out.2.2.2; omega))⟩
  clear b3 p0 p1 p2 p3 p0' p1' p2' p3'
  have hgc : (gc != gc) = false := by simp
  have p0 := (blk_cell S3.out.2.2.2.1 0 (x := .int .i64 gi) rfl).1
  have p1 := (blk_cell S3.out.2.2.2.1 1 (x := .slice d1 ta.length f1) rfl).1
  have p2 := (blk_cell S3.out.2.2.2.1 2 (x := .slice d2 tb.length f2) rfl).1
  have p3 := (blk_cell S3.out.2.2.2.1 3 (x := .slice d3 tc.length f3) rfl).1
  go_wp2_with fail
  refine (markSig_any gi (.slice d1 ta.length f1) (.slice d2 tb.length f2) (.slice d3 tc.length f3) ta tb tc (w1.heap.size + 1) w3 S3.out.1 (by have := S3.out.2.2.2.2.1; have := S2.out.2.2.2; omega) HLN.out.1 HLN.out.2.1 HLN.out.2.2).mono ?_
  rintro e w4 ⟨rfl, m4, b4, k4⟩
  have S4 : Hid (SigM w4 (.slice d1 ta.length f1) (.slice d2 tb.length f2) (.slice d3 tc.length f3) 1 ta.length tb.length tc.length ∧ SigV w4 w.heap.size (.slice a1 ta.length c1) (.slice a2 tb.length c2) (.slice a3 tc.length c3) ta tb tc ∧ w4.heap[w1.heap.size]? = some (.cells #[.int .i64 gi, .slice a1 ta.length c1, .slice a2 tb.length c2, .slice a3 tc.length c3] 31 (0, 0)) ∧ w4.heap[w2.heap.size]? = some (.cells #[.int .i64 gi, .slice d1 ta.length f1, .slice d2 tb.length f2, .slice d3 tc.length f3] 31 (0, 0)) ∧ w2.heap.size + 1 ≤ w4.heap.size ∧ Below w1.heap.size w1 w4) :=
    ⟨m4, S1.out.1.below (S3.out.2.2.2.2.2.trans (b4.mono (by omega))), (b4.block _ (by omega)).trans S3.out.2.2.1, (k4 _ (by have := S3.out.2.2.2.2.1; omega) (fun e => by have := (OwnS.lt' S2.out.1.oa _ e.symm).2; omega) (fun e => by have := (OwnS.lt' S2.out.1.ob _ e.symm).2; omega) (fun e => by have := (OwnS.lt' S2.out.1.oc _ e.symm).2; omega)).trans S3.out.2.2.2.1, by have := b4.size; have := S3.out.2.2.2.2.1; omega, S3.out.2.2.2.2.2.trans (b4.mono (by omega))⟩
  clear m4 b4 k4 p0 p1 p2 p3 S3
  have p0 := (blk_cell S4.out.2.2.2.1 0 (x := .int .i64 gi) rfl).1
  have p1 := (blk_cell S4.out.2.2.2.1 1 (x := .slice d1 ta.length f1) rfl).1
  have p2 := (blk_cell S4.out.2.2.2.1 2 (x := .slice d2 tb.length f2) rfl).1
  have p3 := (blk_cell S4.out.2.2.2.1 3 (x := .slice d3 tc.length f3) rfl).1
  have n1 : ¬ ((1 + ta.length + tb.length + tc.length : Nat) : Int) < 0 := by omega
  have n2 : (((1 + ta.length + tb.length + tc.length : Nat) : Int) != ((1 + ta.length + tb.length + tc.length : Nat) : Int)) = false := by simp
  obtain ⟨nn, HNN⟩ : ∃ nn : Nat, Hid (1 + ta.length + tb.length + tc.length = nn) := ⟨_, rfl⟩
  rw [HNN.out] at n1 n2 ⊢
  go_wp2_with fail
  refine (heldSig_any gi (.slice d1 ta.length f1) (.slice d2 tb.length f2) (.slice d3 tc.length f3) ta.length tb.length tc.length w4 S4.out.1 HLN.out.1 HLN.out.2.1 HLN.out.2.2).mono ?_
  rintro e w5 ⟨rfl, b5⟩
  rw [HNN.out]
  have S5 : Hid (SigM w5 (.slice d1 ta.length f1) (.slice d2 tb.length f2) (.slice d3 tc.length f3) 1 ta.length tb.length tc.length ∧ SigV w5 w.heap.size (.slice a1 ta.length c1) (.slice a2 tb.length c2) (.slice a3 tc.length c3) ta tb tc ∧ w5.heap[w1.heap.size]? = some (.cells #[.int .i64 gi, .slice a1 ta.length c1, .slice a2 tb.length c2, .slice a3 tc.length c3] 31 (0, 0)) ∧ w5.heap[w2.heap.size]? = some (.cells #[.int .i64 gi, .slice d1 ta.length f1, .slice d2 tb.length f2, .slice d3 tc.length f3] 31 (0, 0)) ∧ w2.heap.size + 1 ≤ w5.heap.size ∧ Below w1.heap.size w1 w5) :=
    ⟨S4.out.1.below b5, S4.out.2.1.below b5, (b5.block _ (by have := S4.out.2.2.2.2.1; have := S2.out.2.2.2; omega)).trans S4.out.2.2.1, (b5.block _ (by have := S4.out.2.2.2.2.1; omega)).trans S4.out.2.2.2.1, by have := b5.size; have := S4.out.2.2.2.2.1; omega, S4.out.2.2.2.2.2.trans (b5.mono (by have := S4.out.2.2.2.2.2.size; omega))⟩
  clear b5 p0 p1 p2 p3 S4
  go_wp2_with fail
  refine (HIM.out w5 (GK.out.1.below (S1.out.2.trans (S5.out.2.2.2.2.2.mono S1.out.2.size)) GK.out.2) (Nat.lt_of_lt_of_le GK.out.2 (S1.out.2.trans (S5.out.2.2.2.2.2.mono S1.out.2.size)).size)).mono ?_
  rintro e w6 ⟨ua, ub, uc, rfl, s6, b6⟩
  obtain ⟨x1, y1, e1⟩ := RowT.form s6.oa.row
  obtain ⟨x2, y2, e2⟩ := RowT.form s6.ob.row
  obtain ⟨x3, y3, e3⟩ := RowT.form s6.oc.row
  subst e1 e2 e3
  have S6 : Hid (SigM w6 (.slice d1 ta.length f1) (.slice d2 tb.length f2) (.slice d3 tc.length f3) 1 ta.length tb.length tc.length ∧ SigV w6 w.heap.size (.slice a1 ta.length c1) (.slice a2 tb.length c2) (.slice a3 tc.length c3) ta tb tc ∧ SigV w6 w5.heap.size (.slice x1 ta.length y1) (.slice x2 tb.length y2) (.slice x3 tc.length y3) ta tb tc ∧ w6.heap[w1.heap.size]? = some (.cells #[.int .i64 gi, .slice a1 ta.length c1, .slice a2 tb.length c2, .slice a3 tc.length c3] 31 (0, 0)) ∧ w6.heap[w2.heap.size]? = some (.cells #[.int .i64 gi, .slice d1 ta.length f1, .slice d2 tb.length f2, .slice d3 tc.length f3] 31 (0, 0)) ∧ w2.heap.size + 1 ≤ w6.heap.size ∧ Below w1.heap.size w1 w6) :=
    ⟨S5.out.1.below b6, S5.out.2.1.below b6, s6, (b6.block _ (by have := S5.out.2.2.2.2.1; have := S2.out.2.2.2; omega)).trans S5.out.2.2.1, (b6.block _ (by have := S5.out.2.2.2.2.1; omega)).trans S5.out.2.2.2.1, by have := b6.size; have := S5.out.2.2.2.2.1; omega, S5.out.2.2.2.2.2.trans (b6.mono (by have := S5.out.2.2.2.2.2.size; omega))⟩
  have T6 : Hid (Below w6.heap.size w6 (w6.alloc (.cells #[.int .i64 gi, .slice x1 ta.length y1, .slice x2 tb.length y2, .slice x3 tc.length y3] 31)) ∧ (w6.alloc (.cells #[.int .i64 gi, .slice x1 ta.length y1, .slice x2 tb.length y2, .slice x3 tc.length y3] 31)).heap.size = w6.heap.size + 1) := ⟨bel_new _ _, size_new _ _⟩
  have p0' : ∀ o, (w6.alloc o).cell? ⟨w1.heap.size, 0, none⟩ = some (.int .i64 gi) := fun o => (blk_cell ((Below.heap_alloc w6 o w1.heap.size (by have := S6.out.2.2.2.2.2.1; have := S2.out.2.2.2; omega)).trans S6.out.2.2.2.1) 0 rfl).1
  have p1' : ∀ o, (w6.alloc o).cell? ⟨w1.heap.size, 1, none⟩ = some (.slice a1 ta.length c1) := fun o => (blk_cell ((Below.heap_alloc w6 o w1.heap.size (by have := S6.out.2.2.2.2.2.1; have := S2.out.2.2.2; omega)).trans S6.out.2.2.2.1) 1 rfl).1
  have p2' : ∀ o, (w6.alloc o).cell? ⟨w1.heap.size, 2, none⟩ = some (.slice a2 tb.length c2) := fun o => (blk_cell ((Below.heap_alloc w6 o w1.heap.size (by have := S6.out.2.2.2.2.2.1; have := S2.out.2.2.2; omega)).trans S6.out.2.2.2.1) 2 rfl).1
  have p3' : ∀ o, (w6.alloc o).cell? ⟨w1.heap.size, 3, none⟩ = some (.slice a3 tc.length c3) := fun o => (blk_cell ((Below.heap_alloc w6 o w1.heap.size (by have := S6.out.2.2.2.2.2.1; have := S2.out.2.2.2; omega)).trans S6.out.2.2.2.1) 3 rfl).1
  clear s6 b6 S5
  go_wp2_with fail
  refine (eqSig_same gi (.slice x1 ta.length y1) (.slice x2 tb.length y2) (.slice x3 tc.length y3) (.slice a1 ta.length c1) (.slice a2 tb.length c2) (.slice a3 tc.length c3) ta tb tc _ (S6.out.2.2.1.below T6.out.1).oa.row (S6.out.2.2.1.below T6.out.1).ob.row (S6.out.2.2.1.below T6.out.1).oc.row (S6.out.2.1.below T6.out.1).oa.row (S6.out.2.1.below T6.out.1).ob.row (S6.out.2.1.below T6.out.1).oc.row (by have := HLN.out; omega) (by have := HLN.out; omega) (by have := HLN.out; omega)).mono ?_
  rintro e w7 ⟨rfl, b7⟩
  have S7 : Hid (SigM w7 (.slice d1 ta.length f1) (.slice d2 tb.length f2) (.slice d3 tc.length f3) 1 ta.length tb.length tc.length ∧ w7.heap[w2.heap.size]? = some (.cells #[.int .i64 gi, .slice d1 ta.length f1, .slice d2 tb.length f2, .slice d3 tc.length f3] 31 (0, 0)) ∧ Below w1.heap.size w1 w7) := by
    have hs := S6.out.2.2.2.2.2.1
    have hz := S6.out.2.2.2.2.2.2.size
    refine ⟨(S6.out.1.below T6.out.1).below b7, (b7.block _ (by rw [T6.out.2]; omega)).trans ((Below.heap_alloc w6 _ w2.heap.size (by omega)).trans S6.out.2.2.2.2.1), (S6.out.2.2.2.2.2.2.trans (T6.out.1.mono hz)).trans (b7.mono (by rw [T6.out.2]; omega))⟩
  clear b7 p0' p1' p2' p3'
  have p0 := (blk_cell S7.out.2.1 0 (x := .int .i64 gi) rfl).1
  have p1 := (blk_cell S7.out.2.1 1 (x := .slice d1 ta.length f1) rfl).1
  have p2 := (blk_cell S7.out.2.1 2 (x := .slice d2 tb.length f2) rfl).1
  have p3 := (blk_cell S7.out.2.1 3 (x := .slice d3 tc.length f3) rfl).1
  go_wp2_with fail
  refine (heldSig_any gi (.slice d1 ta.length f1) (.slice d2 tb.length f2) (.slice d3 tc.length f3) ta.length tb.length tc.length w7 S7.out.1 HLN.out.1 HLN.out.2.1 HLN.out.2.2).mono ?_
  rintro e w8 ⟨rfl, b8⟩
  rw [HNN.out]
  have b9 := S1.out.2.trans ((S7.out.2.2.trans (b8.mono S7.out.2.2.size)).mono S1.out.2.size)
  clear b8 p0 p1 p2 p3
  go_wp2_with fail
  go_ret
  exact ⟨rfl, b9⟩

set_option maxRecDepth 100000 in
theorem lifted (os : Os) (started : os.Started) (H : Type) (enc : TypeId × Value → H) :
    ReturnsInHanded {} Tryd.checked os 7 .any (fun w args => (Rows.fnExactSignAtSpec.pre enc Tryd.prog Tryd.f7 [] false w args ∧ laidMetH Tryd.prog Rows.fnExactSignAtRow.laid w) ∧ sizedMet enc Tryd.prog Tryd.f7 (OpenSpec.ofChange Rows.fnExactSignAtSpec) false w args)
      (Rows.fnExactSignAtSpec.post enc Tryd.prog Tryd.f7 false true false false) := by
  refine returnsInHanded_of_change_and (C := Tryd.checked) (X := fun w _ => laidMetH Tryd.prog Rows.fnExactSignAtRow.laid w) (fun _ _ _ hh h => h.of_heap hh) own started (by kernel_rfl) Tryd.func7
    (ChangeSpec.witness_shaped (enc := enc) (C := Tryd.checked) (os := os) (X := fun w _ => laidMetH Tryd.prog Rows.fnExactSignAtRow.laid w) false (World.doorLaid Tryd.prog 400 os) #[.string ByteArray.empty, .int .i64 0, .string ByteArray.empty] 8 rfl (World.shaped_of_RefB (by kernel_rfl) (by kernel_rfl)) (by kernel_rfl) (by kernel_rfl) (by kernel_rfl) (door_met os _)) ?_
  intro W base args ds gs before hval0 hW _ _ hL _
  have hval : ∀ (j : Nat) t v, Tryd.f7.params[j]? = some t → args[j]? = some v → Value.okWide Tryd.prog W .any base t v := hval0
  have hW' := hW
  obtain ⟨p, q, hA0, hV0, rfl, hfz, hnd⟩ := hW
  have hA : DataW.TrodAll enc Tryd.prog W 0 (fun _ => true) true Tryd.f7.params.toList args.toList ds p := hA0
  have hV : DataW.TrodVars enc Tryd.prog W (fun _ => true) ["loop.example/g00292/impl.roundWords"] gs q := hV0
  rw [Tryd.params7] at hA hval
  obtain ⟨v0, vs0, d0, ds0, p0, q0, hargs, rfl, rfl, h0, r0⟩ := trodAll_cons hA
  obtain ⟨v1, vs1, d1, ds1, p1, q1, rfl, rfl, rfl, h1, r1⟩ := trodAll_cons r0
  obtain ⟨v2, vs2, d2, ds2, p2, q2, rfl, rfl, rfl, h2, r2⟩ := trodAll_cons r1
  obtain ⟨rfl, rfl, rfl⟩ := trodAll_nil r2
  obtain rfl : args = #[v0, v1, v2] := by cases args; simp_all
  obtain ⟨_, _, _, _, dv, _, rfl, _⟩ := trodVars_one hV
  have k00 := h0
  have lt0 : ∀ x ∈ p0, x.block < W.heap.size := by obtain ⟨m, hm⟩ := k00; exact DataW.trod_lt m _ _ _ hm
  obtain ⟨s0, rfl, rfl, rfl, z0⟩ := open_string Tryd.underlying9 (hval 0 9 v0 rfl rfl) h0
  have k10 := h1
  have lt1 : ∀ x ∈ p1, x.block < W.heap.size := by obtain ⟨m, hm⟩ := k10; exact DataW.trod_lt m _ _ _ hm
  obtain ⟨i1, rfl, rfl, rfl, z1⟩ := open_int Tryd.underlying3 (hval 1 3 v1 rfl rfl) h1
  have k20 := h2
  have lt2 : ∀ x ∈ p2, x.block < W.heap.size := by obtain ⟨m, hm⟩ := k20; exact DataW.trod_lt m _ _ _ hm
  obtain ⟨s2, rfl, rfl, rfl, z2⟩ := open_string Tryd.underlying9 (hval 2 9 v2 rfl rfl) h2
  clear hA0 hval0 hV0
  have hT := Hl.tab_of hL
  refine (walk s0 z0 i1 z1 s2 z2 W hT.1 hT.2).mono fun e W' ⟨he, bel⟩ => ?_
  subst he
  exact ⟨_, rfl, _, _, _, [], _, q, hW', trodAll_mk1 (shut_bool Tryd.underlying4 _), (trodAll_cons_mk (Below.trod laidOut (by kernel_rfl) (of_decide_eq_true (by kernel_rfl)) k00 bel lt0) (trodAll_cons_mk (Below.trod laidOut (by kernel_rfl) (of_decide_eq_true (by kernel_rfl)) k10 bel lt1) (trodAll_cons_mk (Below.trod laidOut (by kernel_rfl) (of_decide_eq_true (by kernel_rfl)) k20 bel lt2) trodAll_mk0))), Below.trodVars laidOut bel rowed hV, bel.frame _, fun h => by cases h⟩

theorem said : Rows.FnExactSignAtSaid :=
  OpenClaim.holds_of_wide 7 Tryd.f7 rfl rfl rfl rfl rfl rfl rfl ⟨rfl, rfl, rfl, rfl, rfl⟩ rfl rfl rfl rfl rfl (by kernel_rfl) Tryd.func7 (by kernel_rfl)
    (of_decide_eq_true (by kernel_rfl)) (by unfold Func.isWrapper; first | (rw [if_pos (by decide +kernel)]; kernel_rfl) | (rw [if_neg (by decide +kernel)]; exact ⟨rfl, rfl⟩))
    (fun os started H enc _ => lifted os started H enc)

/-- No parameter wants a stand-in; the program's own looks are off. -/
theorem plain (f : FuncId) (fn : Func) (hf : Tryd.pinned.checked.prog.funcNamed "loop.example/g00292/laws.FnExactSignAt" = some f) (hfn : Tryd.pinned.checked.prog.funcs[f]? = some fn) :
    false = Tryd.pinned.checked.prog.looks [] ∧ ∀ (j : Nat) t, fn.params[j]? = some t → Tryd.pinned.checked.prog.wantsStandIn t = false := by
  obtain rfl : f = 7 := Option.some.inj ((show Tryd.prog.funcNamed "loop.example/g00292/laws.FnExactSignAt" = some 7 by kernel_rfl).symm.trans hf) |>.symm
  obtain rfl : fn = Tryd.f7 := (Option.some.inj (Tryd.func7.symm.trans hfn)).symm
  refine ⟨by kernel_rfl, fun j t ht => ?_⟩
  rw [Tryd.params7] at ht
  have hm := Array.mem_of_getElem? ht
  have hl : t ∈ [9, 3, 9] := by simpa using hm
  have hall : ∀ x ∈ [9, 3, 9], Tryd.prog.wantsStandIn x = false := by
    intro x hx
    simp only [List.mem_cons, List.not_mem_nil, or_false] at hx
    rcases hx with rfl | rfl | rfl <;> kernel_rfl
  exact hall t hl
end Go.Proofs.YtjggfholjdplbaaDoor.fnExactSignAt
namespace Go.Proofs.YtjggfholjdplbaaDoor
/-- THE STATEMENT: the card. -/
theorem fnExactSignAt_holds : Rows.FnExactSignAtCardSaid :=
  Claim7.holds_tied_plain_at .later [] _ _ _ _ fnExactSignAt.said (fun _ h => by cases h) (by kernel_rfl) (fun _ h => by cases h) fnExactSignAt_row_tie rfl ⟨rfl, rfl⟩ (by kernel_rfl) rfl fnExactSignAt.plain (by kernel_rfl)
end Go.Proofs.YtjggfholjdplbaaDoor
