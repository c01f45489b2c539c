/- The laws' helpers on signatures: compared, marked, held. -/
import Derived.Test.YtimmeclclilpdaaDoorSb
import Derived.Test.YtimmeclclilpdaaDoorMq
namespace Go.Proofs.YtimmeclclilpdaaDoor.Sq
open Go.RowKit Go.Proofs.YtimmeclclilpdaaDoor.Sl Go.Proofs.YtimmeclclilpdaaDoor.By Go.Proofs.YtimmeclclilpdaaDoor.Ap Go.Proofs.YtimmeclclilpdaaDoor.Tx Go.Proofs.YtimmeclclilpdaaDoor.Mk Go.Proofs.YtimmeclclilpdaaDoor.Sg

def sigBlk (i : Int) (va vb vc : Value) : Obj := .cells #[.int .i64 i, va, vb, vc] 44
theorem sig_new (w : World) (i : Int) (va vb vc : Value) : (w.alloc (sigBlk i va vb vc)).heap[w.heap.size]? = some (.cells #[.int .i64 i, va, vb, vc] 44 (0, 0)) := blk_new _ _ _
/-- A row's value is a slice. -/
theorem RowT.form {w : World} {v : Value} {ts : List ByteArray} (h : RowT w v ts) : ∃ a c, v = .slice a ts.length c := by obtain ⟨a, c, e, _⟩ := h; exact ⟨a, c, e⟩

set_option maxRecDepth 100000 in
set_option maxHeartbeats 800000 in
theorem eqSig_same (i : Int) (va vb vc ua ub uc : Value) (ta tb tc : List ByteArray) (w : World) (ha : RowT w va ta) (hb : RowT w vb tb) (hc : RowT w vc tc) (ga : RowT w ua ta) (gb : RowT w ub tb) (gc : RowT w uc tc) (la : ta.length ≤ 1000) (lb : tb.length ≤ 1000) (lc : tc.length ≤ 1000) :
    Calls Tryd.prog 25 #[.agg #[.int .i64 i, va, vb, vc], .agg #[.int .i64 i, ua, ub, uc]] w fun e w' => e = .returned (.bool true) ∧ Below w.heap.size w w' := by
  have HR : Hid (RowT w va ta ∧ RowT w vb tb ∧ RowT w vc tc ∧ RowT w ua ta ∧ RowT w ub tb ∧ RowT w uc tc) := ⟨ha, hb, hc, ga, gb, gc⟩
  have HL : Hid (ta.length ≤ 1048576 ∧ tb.length ≤ 1048576 ∧ tc.length ≤ 1048576) := ⟨by omega, by omega, by omega⟩
  have hi : (i != i) = false := by simp
  have X1 := sig_new w i va vb vc
  have X2 := sig_new (w.alloc (sigBlk i va vb vc)) i ua ub uc
  have X1' := (Below.heap_alloc (w.alloc (sigBlk i va vb vc)) (sigBlk i ua ub uc) w.heap.size (by rw [size_new]; omega)).trans X1
  rw [size_new] at X2
  have B0 : Below w.heap.size w ((w.alloc (sigBlk i va vb vc)).alloc (sigBlk i ua ub uc)) := (bel_new w _).trans ((bel_new _ _).mono (by rw [size_new]; omega))
  have HS : ((w.alloc (sigBlk i va vb vc)).alloc (sigBlk i ua ub uc)).heap.size = w.heap.size + 1 + 1 := by rw [size_new, size_new]
  obtain ⟨a1, c1, rfl⟩ := RowT.form ha
  obtain ⟨a2, c2, rfl⟩ := RowT.form hb
  obtain ⟨a3, c3, rfl⟩ := RowT.form hc
  obtain ⟨d1, f1, rfl⟩ := RowT.form ga
  obtain ⟨d2, f2, rfl⟩ := RowT.form gb
  obtain ⟨d3, f3, rfl⟩ := RowT.form gc
  have HX : Hid (∀ W, Below w.heap.size w W → Below (w.heap.size + 1 + 1) ((w.alloc (sigBlk i (.slice a1 ta.length c1) (.slice a2 tb.length c2) (.slice a3 tc.length c3))).alloc (sigBlk i (.slice d1 ta.length f1) (.slice d2 tb.length f2) (.slice d3 tc.length f3))) W →
      (W.heap[w.heap.size]? = some (.cells #[.int .i64 i, .slice a1 ta.length c1, .slice a2 tb.length c2, .slice a3 tc.length c3] 44 (0, 0)) ∧ W.heap[w.heap.size + 1]? = some (.cells #[.int .i64 i, .slice d1 ta.length f1, .slice d2 tb.length f2, .slice d3 tc.length f3] 44 (0, 0)))) := fun W _ hW => ⟨(hW.block _ (by omega)).trans X1', (hW.block _ (by omega)).trans X2⟩
  have HB : Hid (Below w.heap.size w ((w.alloc (sigBlk i (.slice a1 ta.length c1) (.slice a2 tb.length c2) (.slice a3 tc.length c3))).alloc (sigBlk i (.slice d1 ta.length f1) (.slice d2 tb.length f2) (.slice d3 tc.length f3))) ∧ ((w.alloc (sigBlk i (.slice a1 ta.length c1) (.slice a2 tb.length c2) (.slice a3 tc.length c3))).alloc (sigBlk i (.slice d1 ta.length f1) (.slice d2 tb.length f2) (.slice d3 tc.length f3))).heap.size = w.heap.size + 1 + 1) := ⟨B0, HS⟩
  clear X1 X1' X2 B0 HS ha hb hc ga gb gc la lb lc
  unfold sigBlk at HX HB
  go_enter Tryd.func25, Tryd.ntmps25
  go_wp2_with fail
  refine (eqStringS_same _ _ ta _ (HR.out.1.below HB.out.1) (HR.out.2.2.2.1.below HB.out.1) HL.out.1).mono ?_
  rintro e w1 ⟨rfl, b1⟩
  rw [HB.out.2] at b1
  have g1 := HB.out.1.trans (b1.mono (by omega))
  obtain ⟨z1, z2⟩ := HX.out w1 g1 b1
  have p1 := (blk_cell z1 2 (x := .slice a2 tb.length c2) rfl).1
  have p2 := (blk_cell z2 2 (x := .slice d2 tb.length f2) rfl).1
  have p3 := (blk_cell z1 3 (x := .slice a3 tc.length c3) rfl).1
  have p4 := (blk_cell z2 3 (x := .slice d3 tc.length f3) rfl).1
  have B1 : Hid (Below (w.heap.size + 1 + 1) _ w1 ∧ Below w.heap.size w w1 ∧ w.heap.size + 1 + 1 ≤ w1.heap.size) := ⟨b1, g1, by have := b1.size; rw [HB.out.2] at this; exact this⟩
  clear b1 g1 z1 z2
  go_wp2_with fail
  refine (eqStringS_same _ _ tb _ (HR.out.2.1.below B1.out.2.1) (HR.out.2.2.2.2.1.below B1.out.2.1) HL.out.2.1).mono ?_
  rintro e w2 ⟨rfl, b2⟩
  have g2 := B1.out.2.1.trans (b2.mono B1.out.2.1.size)
  have h2 := B1.out.1.trans (b2.mono B1.out.2.2)
  obtain ⟨z1, z2⟩ := HX.out w2 g2 h2
  clear p1 p2 p3 p4
  have p3 := (blk_cell z1 3 (x := .slice a3 tc.length c3) rfl).1
  have p4 := (blk_cell z2 3 (x := .slice d3 tc.length f3) rfl).1
  have B2 : Hid (Below w.heap.size w w2) := g2
  clear b2 g2 h2 z1 z2
  go_wp2_with fail
  refine (eqStringS_same _ _ tc _ (HR.out.2.2.1.below B2.out) (HR.out.2.2.2.2.2.below B2.out) HL.out.2.2).mono ?_
  rintro e w3 ⟨rfl, b3⟩
  have g3 := B2.out.trans (b3.mono B2.out.size)
  clear b3
  go_wp2_with fail
  go_ret
  exact ⟨rfl, g3⟩

/-- What the marks leave: three marked lists. -/
structure SigM (w : World) (va vb vc : Value) (a na nb nc : Nat) : Prop where
  ra : RowT w va (tmarks a na)
  rb : RowT w vb (tmarks (a + na) nb)
  rc : RowT w vc (tmarks (a + na + nb) nc)
theorem SigM.below {w w' : World} {va vb vc : Value} {a na nb nc : Nat} (h : SigM w va vb vc a na nb nc) (hb : Below w.heap.size w w') : SigM w' va vb vc a na nb nc := ⟨h.ra.below hb, h.rb.below hb, h.rc.below hb⟩

set_option maxRecDepth 100000 in
set_option maxHeartbeats 800000 in
theorem markSig_any (i : Int) (va vb vc : Value) (ta tb tc : List ByteArray) (B : Nat) (w : World) (h : SigV w B va vb vc ta tb tc) (hB : B ≤ w.heap.size) (la : ta.length ≤ 32) (lb : tb.length ≤ 32) (lc : tc.length ≤ 32) :
    Calls Tryd.prog 26 #[.agg #[.int .i64 i, va, vb, vc], .int .i64 1] w fun e w' => e = .returned (.int .i64 ((1 + ta.length + tb.length + tc.length : Nat) : Int)) ∧ SigM w' va vb vc 1 ta.length tb.length tc.length ∧ Below B w w' ∧ ∀ k, k < w.heap.size → some k ≠ va.ownBlock → some k ≠ vb.ownBlock → some k ≠ vc.ownBlock → w'.heap[k]? = w.heap[k]? := by
  obtain ⟨a1, c1, e1⟩ := RowT.form h.oa.row
  obtain ⟨a2, c2, e2⟩ := RowT.form h.ob.row
  obtain ⟨a3, c3, e3⟩ := RowT.form h.oc.row
  subst e1 e2 e3
  have HS : Hid (SigV (w.alloc (sigBlk i (.slice a1 ta.length c1) (.slice a2 tb.length c2) (.slice a3 tc.length c3))) B (.slice a1 ta.length c1) (.slice a2 tb.length c2) (.slice a3 tc.length c3) ta tb tc) := h.below (bel_new _ _)
  have HX : Hid ((w.alloc (sigBlk i (.slice a1 ta.length c1) (.slice a2 tb.length c2) (.slice a3 tc.length c3))).heap[w.heap.size]? = some (.cells #[.int .i64 i, .slice a1 ta.length c1, .slice a2 tb.length c2, .slice a3 tc.length c3] 44 (0, 0))) := sig_new _ _ _ _ _
  have HB : Hid (Below B w (w.alloc (sigBlk i (.slice a1 ta.length c1) (.slice a2 tb.length c2) (.slice a3 tc.length c3))) ∧ (w.alloc (sigBlk i (.slice a1 ta.length c1) (.slice a2 tb.length c2) (.slice a3 tc.length c3))).heap.size = w.heap.size + 1 ∧ B ≤ w.heap.size) := ⟨(bel_new w _).mono hB, size_new _ _, hB⟩
  have HV : Hid (SigV w B (.slice a1 ta.length c1) (.slice a2 tb.length c2) (.slice a3 tc.length c3) ta tb tc) := h
  have HL : Hid (ta.length ≤ 32 ∧ tb.length ≤ 32 ∧ tc.length ≤ 32) := ⟨la, lb, lc⟩
  clear h hB la lb lc
  unfold sigBlk at HS HX HB
  go_enter Tryd.func26, Tryd.ntmps26
  go_wp2_with fail
  refine (markOwn_any _ ta 1 B ta.length _ HS.out.oa rfl (by decide) (by decide) (by have := HL.out.1; omega)).mono ?_
  rintro e w1 ⟨rfl, r1, k1⟩
  have z1 : w1.heap[w.heap.size]? = some (.cells #[.int .i64 i, .slice a1 ta.length c1, .slice a2 tb.length c2, .slice a3 tc.length c3] 44 (0, 0)) := (k1.block w.heap.size (by rw [HB.out.2.1]; omega) (fun e => by have := (OwnS.lt' HV.out.oa _ e.symm).2; omega)).trans HX.out
  have p2 := (blk_cell z1 2 (x := .slice a2 tb.length c2) rfl).1
  have p3 := (blk_cell z1 3 (x := .slice a3 tc.length c3) rfl).1
  have W1 : Hid (RowT w1 (.slice a1 ta.length c1) (tmarks 1 ta.length) ∧ OwnS w1 B (.slice a2 tb.length c2) tb ∧ OwnS w1 B (.slice a3 tc.length c3) tc ∧ Below B w w1 ∧ w.heap.size + 1 ≤ w1.heap.size ∧ w1.heap[w.heap.size]? = some (.cells #[.int .i64 i, .slice a1 ta.length c1, .slice a2 tb.length c2, .slice a3 tc.length c3] 44 (0, 0)) ∧ ∀ k, k < w.heap.size → some k ≠ (Value.slice a1 ta.length c1).ownBlock → w1.heap[k]? = w.heap[k]?) :=
    ⟨r1, OwnS.kept HS.out.ob (asym HS.out.ab) k1, OwnS.kept HS.out.oc (asym HS.out.ac) k1, HB.out.1.trans (OwnS.kp k1 HS.out.oa (by rw [HB.out.2.1]; have := HB.out.2.2; omega)), by have := k1.size; rw [HB.out.2.1] at this; exact this, z1, fun k hk hn => (k1.block k (by rw [HB.out.2.1]; omega) hn).trans (Below.heap_alloc w _ k hk)⟩
  clear r1 k1 z1
  go_wp2_with fail
  refine (markOwn_any _ tb (1 + ta.length) B tb.length _ W1.out.2.1 rfl (by omega) (by have := HL.out; omega) (by have := HL.out; omega)).mono ?_
  rintro e w2 ⟨rfl, r2, k2⟩
  have z2 : w2.heap[w.heap.size]? = some (.cells #[.int .i64 i, .slice a1 ta.length c1, .slice a2 tb.length c2, .slice a3 tc.length c3] 44 (0, 0)) := (k2.block w.heap.size (by have := W1.out.2.2.2.2.1; omega) (fun e => by have := (OwnS.lt' HV.out.ob _ e.symm).2; omega)).trans W1.out.2.2.2.2.2.1
  clear p2 p3
  have p3 := (blk_cell z2 3 (x := .slice a3 tc.length c3) rfl).1
  have W2 : Hid (RowT w2 (.slice a1 ta.length c1) (tmarks 1 ta.length) ∧ RowT w2 (.slice a2 tb.length c2) (tmarks (1 + ta.length) tb.length) ∧ OwnS w2 B (.slice a3 tc.length c3) tc ∧ Below B w w2 ∧ B ≤ w2.heap.size ∧ w.heap.size ≤ w2.heap.size ∧ ∀ k, k < w.heap.size → some k ≠ (Value.slice a1 ta.length c1).ownBlock → some k ≠ (Value.slice a2 tb.length c2).ownBlock → w2.heap[k]? = w.heap[k]?) :=
    ⟨RowT.kp W1.out.1 HV.out.ab k2, r2, OwnS.kept W1.out.2.2.1 (asym HV.out.bc) k2, W1.out.2.2.2.1.trans (OwnS.kp k2 W1.out.2.1 (by have := W1.out.2.2.2.2.1; have := HB.out.2.2; omega)), by have := k2.size; have := W1.out.2.2.2.2.1; have := HB.out.2.2; omega, by have := k2.size; have := W1.out.2.2.2.2.1; omega, fun k hk h1 h2 => (k2.block k (by have := W1.out.2.2.2.2.1; omega) h2).trans (W1.out.2.2.2.2.2.2 k hk h1)⟩
  clear r2 k2 z2
  go_wp2_with fail
  refine (markOwn_any _ tc (1 + ta.length + tb.length) B tc.length _ W2.out.2.2.1 rfl (by omega) (by have := HL.out; omega) (by have := HL.out; omega)).mono ?_
  rintro e w3 ⟨rfl, r3, k3⟩
  have m3 : SigM w3 (.slice a1 ta.length c1) (.slice a2 tb.length c2) (.slice a3 tc.length c3) 1 ta.length tb.length tc.length := ⟨RowT.kp W2.out.1 HV.out.ac k3, RowT.kp W2.out.2.1 HV.out.bc k3, r3⟩
  have b3 := W2.out.2.2.2.1.trans (OwnS.kp k3 W2.out.2.2.1 W2.out.2.2.2.2.1)
  have q3 : ∀ k, k < w.heap.size → some k ≠ (Value.slice a1 ta.length c1).ownBlock → some k ≠ (Value.slice a2 tb.length c2).ownBlock → some k ≠ (Value.slice a3 tc.length c3).ownBlock → w3.heap[k]? = w.heap[k]? := fun k hk h1 h2 h3 => (k3.block k (by have := W2.out.2.2.2.2.2.1; omega) h3).trans (W2.out.2.2.2.2.2.2 k hk h1 h2)
  have Q3 : Hid _ := q3
  clear q3
  clear r3 k3
  go_wp2_with fail
  go_ret
  exact ⟨rfl, m3, b3, Q3.out⟩

theorem held_any (v : Value) (n a : Nat) (w : World) (h : RowT w v (tmarks a n)) (ha : 0 < a) (ha2 : a ≤ 100) (hl : n ≤ 2000000) :
    Calls Tryd.prog 51 #[v, .int .i64 a] w fun e w' => e = .returned (.int .i64 ((a + n : Nat) : Int)) ∧ Below w.heap.size w w' := by
  rw [Int.natCast_add]
  exact heldStringS_any v n a w h ha ha2 hl
set_option maxRecDepth 100000 in
set_option maxHeartbeats 800000 in
theorem heldSig_any (i : Int) (va vb vc : Value) (na nb nc : Nat) (w : World) (h : SigM w va vb vc 1 na nb nc) (la : na ≤ 32) (lb : nb ≤ 32) (lc : nc ≤ 32) :
    Calls Tryd.prog 27 #[.agg #[.int .i64 i, va, vb, vc], .int .i64 1] w fun e w' => e = .returned (.int .i64 ((1 + na + nb + nc : Nat) : Int)) ∧ Below w.heap.size w w' := by
  have HM : Hid (SigM w va vb vc 1 na nb nc) := h
  obtain ⟨a1, c1, e1⟩ := RowT.form h.ra
  obtain ⟨a2, c2, e2⟩ := RowT.form h.rb
  obtain ⟨a3, c3, e3⟩ := RowT.form h.rc
  subst e1 e2 e3
  rw [tmarks_length, tmarks_length, tmarks_length] at *
  have HX : Hid ((w.alloc (sigBlk i (.slice a1 na c1) (.slice a2 nb c2) (.slice a3 nc c3))).heap[w.heap.size]? = some (.cells #[.int .i64 i, .slice a1 na c1, .slice a2 nb c2, .slice a3 nc c3] 44 (0, 0))) := sig_new _ _ _ _ _
  have HB : Hid (Below w.heap.size w (w.alloc (sigBlk i (.slice a1 na c1) (.slice a2 nb c2) (.slice a3 nc c3))) ∧ (w.alloc (sigBlk i (.slice a1 na c1) (.slice a2 nb c2) (.slice a3 nc c3))).heap.size = w.heap.size + 1) := ⟨bel_new w _, size_new _ _⟩
  have HL : Hid (na ≤ 32 ∧ nb ≤ 32 ∧ nc ≤ 32) := ⟨la, lb, lc⟩
  clear h la lb lc
  unfold sigBlk at HX HB
  go_enter Tryd.func27, Tryd.ntmps27
  go_wp2_with fail
  refine (held_any _ na 1 _ (HM.out.ra.below HB.out.1) (by decide) (by decide) (by have := HL.out; omega)).mono ?_
  rintro e w1 ⟨rfl, b1⟩
  have z1 := (b1.block w.heap.size (by rw [HB.out.2]; omega)).trans HX.out
  have g1 := HB.out.1.trans (b1.mono (by rw [HB.out.2]; omega))
  have W1 : Hid (Below w.heap.size w w1 ∧ w.heap.size + 1 ≤ w1.heap.size ∧ w1.heap[w.heap.size]? = some (.cells #[.int .i64 i, .slice a1 na c1, .slice a2 nb c2, .slice a3 nc c3] 44 (0, 0))) := ⟨g1, by have := b1.size; rw [HB.out.2] at this; exact this, z1⟩
  have p2 := (blk_cell z1 2 (x := .slice a2 nb c2) rfl).1
  have n1 : ¬ ((1 + na : Nat) : Int) < 0 := by omega
  clear b1 g1 z1
  go_wp2_with fail
  refine (held_any _ nb (1 + na) _ (HM.out.rb.below W1.out.1) (by omega) (by have := HL.out; omega) (by have := HL.out; omega)).mono ?_
  rintro e w2 ⟨rfl, b2⟩
  have z2 := (b2.block w.heap.size (by have := W1.out.2.1; omega)).trans W1.out.2.2
  have g2 := W1.out.1.trans (b2.mono (by have := W1.out.2.1; omega))
  have W2 : Hid (Below w.heap.size w w2) := g2
  clear p2
  have p3 := (blk_cell z2 3 (x := .slice a3 nc c3) rfl).1
  have n2 : ¬ ((1 + na + nb : Nat) : Int) < 0 := by omega
  clear b2 g2 z2 n1
  go_wp2_with fail
  refine (held_any _ nc (1 + na + nb) _ (HM.out.rc.below W2.out) (by omega) (by have := HL.out; omega) (by have := HL.out; omega)).mono ?_
  rintro e w3 ⟨rfl, b3⟩
  have g3 := W2.out.trans (b3.mono W2.out.size)
  have n3 : ¬ ((1 + na + nb + nc : Nat) : Int) < 0 := by omega
  clear b3 n2
  go_wp2_with fail
  go_ret
  exact ⟨rfl, g3⟩
end Go.Proofs.YtimmeclclilpdaaDoor.Sq
