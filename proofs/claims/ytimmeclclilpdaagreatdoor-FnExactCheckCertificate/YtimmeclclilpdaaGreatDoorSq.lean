/- The laws' helpers on signatures: compared, marked, held. -/
import Derived.Test.YtimmeclclilpdaaGreatDoorSb
import Derived.Test.YtimmeclclilpdaaGreatDoorMq
namespace Go.Proofs.YtimmeclclilpdaaGreatDoor.Sq
open Go.RowKit Go.Proofs.YtimmeclclilpdaaGreatDoor.Sl Go.Proofs.YtimmeclclilpdaaGreatDoor.By Go.Proofs.YtimmeclclilpdaaGreatDoor.Ap Go.Proofs.YtimmeclclilpdaaGreatDoor.Tx Go.Proofs.YtimmeclclilpdaaGreatDoor.Mk Go.Proofs.YtimmeclclilpdaaGreatDoor.Sg

def sigBlk (i : Int) (va vb vc : Value) : Obj := .cells #[.int .i64 i, va, vb, vc] 37
theorem sig_new (w : World) (i : Int) (va vb vc : Value) : (w.alloc (sigBlk i va vb vc)).heap[w.heap.size]? = some (.cells #[.int .i64 i, va, vb, vc] 37 (0, 0)) := blk_new _ _ _
/-- A row's value is a slice. -/
theorem RowT.form {w : World} {v : Value} {ts : List ByteArray} (h : RowT w v ts) : ∃ a c, v = .slice a ts.length c := by obtain ⟨a, c, e, _⟩ := h; exact ⟨a, c, e⟩

set_option maxRecDepth 100000 in
set_option maxHeartbeats 800000 in
theorem eqSig_same (i : Int) (va vb vc ua ub uc : Value) (ta tb tc : List ByteArray) (w : World) (ha : RowT w va ta) (hb : RowT w vb tb) (hc : RowT w vc tc) (ga : RowT w ua ta) (gb : RowT w ub tb) (gc : RowT w uc tc) (la : ta.length ≤ 1000) (lb : tb.length ≤ 1000) (lc : tc.length ≤ 1000) :
    Calls Tryz.prog 84 #[.agg #[.int .i64 i, va, vb, vc], .agg #[.int .i64 i, ua, ub, uc]] w fun e w' => e = .returned (.bool true) ∧ Below w.heap.size w w' := by
  have HR : Hid (RowT w va ta ∧ RowT w vb tb ∧ RowT w vc tc ∧ RowT w ua ta ∧ RowT w ub tb ∧ RowT w uc tc) := ⟨ha, hb, hc, ga, gb, gc⟩
  have HL : Hid (ta.length ≤ 1048576 ∧ tb.length ≤ 1048576 ∧ tc.length ≤ 1048576) := ⟨by omega, by omega, by omega⟩
  have hi : (i != i) = false := by simp
  have X1 := sig_new w i va vb vc
  have X2 := sig_new (w.alloc (sigBlk i va vb vc)) i ua ub uc
  have X1' := (Below.heap_alloc (w.alloc (sigBlk i va vb vc)) (sigBlk i ua ub uc) w.heap.size (by rw [size_new]; omega)).trans X1
  rw [size_new] at X2
  have B0 : Below w.heap.size w ((w.alloc (sigBlk i va vb vc)).alloc (sigBlk i ua ub uc)) := (bel_new w _).trans ((bel_new _ _).mono (by rw [size_new]; omega))
  have HS : ((w.alloc (sigBlk i va vb vc)).alloc (sigBlk i ua ub uc)).heap.size = w.heap.size + 1 + 1 := by rw [size_new, size_new]
  obtain ⟨a1, c1, rfl⟩ := RowT.form ha
  obtain ⟨a2, c2, rfl⟩ := RowT.form hb
  obtain ⟨a3, c3, rfl⟩ := RowT.form hc
  obtain ⟨d1, f1, rfl⟩ := RowT.form ga
  obtain ⟨d2, f2, rfl⟩ := RowT.form gb
  obtain ⟨d3, f3, rfl⟩ := RowT.form gc
  have HX : Hid (∀ W, Below w.heap.size w W → Below (w.heap.size + 1 + 1) ((w.alloc (sigBlk i (.slice a1 ta.length c1) (.slice a2 tb.length c2) (.slice a3 tc.length c3))).alloc (sigBlk i (.slice d1 ta.length f1) (.slice d2 tb.length f2) (.slice d3 tc.length f3))) W →
      (W.heap[w.heap.size]? = some (.cells #[.int .i64 i, .slice a1 ta.length c1, .slice a2 tb.length c2, .slice a3 tc.length c3] 37 (0, 0)) ∧ W.heap[w.heap.size + 1]? = some (.cells #[.int .i64 i, .slice d1 ta.length f1, .slice d2 tb.length f2, .slice d3 tc.length f3] 37 (0, 0)))) := fun W _ hW => ⟨(hW.block _ (by omega)).trans X1', (hW.block _ (by omega)).trans X2⟩
  have HB : Hid (Below w.heap.size w ((w.alloc (sigBlk i (.slice a1 ta.length c1) (.slice a2 tb.length c2) (.slice a3 tc.length c3))).alloc (sigBlk i (.slice d1 ta.length f1) (.slice d2 tb.length f2) (.slice d3 tc.length f3))) ∧ ((w.alloc (sigBlk i (.slice a1 ta.length c1) (.slice a2 tb.length c2) (.slice a3 tc.length c3))).alloc (sigBlk i (.slice d1 ta.length f1) (.slice d2 tb.length f2) (.slice d3 tc.length f3))).heap.size = w.heap.size + 1 + 1) := ⟨B0, HS⟩
  clear X1 X1' X2 B0 HS ha hb hc ga gb gc la lb lc
  unfold sigBlk at HX HB
  go_enter Tryz.func84, Tryz.ntmps84
  go_wp2_with fail
  refine (eqStringS_same _ _ ta _ (HR.out.1.below HB.out.1) (HR.out.2.2.2.1.below HB.out.1) HL.out.1).mono ?_
  rintro e w1 ⟨rfl, b1⟩
  rw [HB.out.2] at b1
  have g1 := HB.out.1.trans (b1.mono (by omega))
  obtain ⟨z1, z2⟩ := HX.out w1 g1 b1
  have p1 := (blk_cell z1 2 (x := .slice a2 tb.length c2) rfl).1
  have p2 := (blk_cell z2 2 (x := .slice d2 tb.length f2) rfl).1
  have p3 := (blk_cell z1 3 (x := .slice a3 tc.length c3) rfl).1
  have p4 := (blk_cell z2 3 (x := .slice d3 tc.length f3) rfl).1
  have B1 : Hid (Below (w.heap.size + 1 + 1) _ w1 ∧ Below w.heap.size w w1 ∧ w.heap.size + 1 + 1 ≤ w1.heap.size) := ⟨b1, g1, by have := b1.size; rw [HB.out.2] at this; exact this⟩
  clear b1 g1 z1 z2
  go_wp2_with fail
  refine (eqStringS_same _ _ tb _ (HR.out.2.1.below B1.out.2.1) (HR.out.2.2.2.2.1.below B1.out.2.1) HL.out.2.1).mono ?_
  rintro e w2 ⟨rfl, b2⟩
  have g2 := B1.out.2.1.trans (b2.mono B1.out.2.1.size)
  have h2 := B1.out.1.trans (b2.mono B1.out.2.2)
  obtain ⟨z1, z2⟩ := HX.out w2 g2 h2
  clear p1 p2 p3 p4
  have p3 := (blk_cell z1 3 (x := .slice a3 tc.length c3) rfl).1
  have p4 := (blk_cell z2 3 (x := .slice d3 tc.length f3) rfl).1
  have B2 : Hid (Below w.heap.size w w2) := g2
  clear b2 g2 h2 z1 z2
  go_wp2_with fail
  refine (eqStringS_same _ _ tc _ (HR.out.2.2.1.below B2.out) (HR.out.2.2.2.2.2.below B2.out) HL.out.2.2).mono ?_
  rintro e w3 ⟨rfl, b3⟩
  have g3 := B2.out.trans (b3.mono B2.out.size)
  clear b3
  go_wp2_with fail
  go_ret
  exact ⟨rfl, g3⟩

/-- What the marks leave: three marked lists. -/
structure SigM (w : World) (va vb vc : Value) (a na nb nc : Nat) : Prop where
  ra : RowT w va (tmarks a na)
  rb : RowT w vb (tmarks (a + na) nb)
  rc : RowT w vc (tmarks (a + na + nb) nc)
theorem SigM.below {w w' : World} {va vb vc : Value} {a na nb nc : Nat} (h : SigM w va vb vc a na nb nc) (hb : Below w.heap.size w w') : SigM w' va vb vc a na nb nc := ⟨h.ra.below hb, h.rb.below hb, h.rc.below hb⟩

theorem held_any (v : Value) (n a : Nat) (w : World) (h : RowT w v (tmarks a n)) (ha : 0 < a) (ha2 : a ≤ 100) (hl : n ≤ 2000000) :
    Calls Tryz.prog 86 #[v, .int .i64 a] w fun e w' => e = .returned (.int .i64 ((a + n : Nat) : Int)) ∧ Below w.heap.size w w' := by
  rw [Int.natCast_add]
  exact heldStringS_any v n a w h ha ha2 hl
end Go.Proofs.YtimmeclclilpdaaGreatDoor.Sq
