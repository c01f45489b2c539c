/- Texts put together: En, Eo, Lo. -/
import Derived.Test.YtakfniknkejgpaaDoorMt28
import Derived.Test.YtakfniknkejgpaaDoorMt22
import Derived.Deep.RegionLaw
import Derived.Deep.RegionHeldLaw
/- l05Do where the lock is there. -/
namespace Go.Proofs.YtakfniknkejgpaaDoor.Ea
open Go.RowKit Go.Proofs.YtakfniknkejgpaaDoor.Sl Go.Proofs.YtakfniknkejgpaaDoor.By Go.Proofs.YtakfniknkejgpaaDoor.Ap Go.Proofs.YtakfniknkejgpaaDoor.Tb Go.Proofs.YtakfniknkejgpaaDoor.Tw Go.Proofs.YtakfniknkejgpaaDoor.Wa Go.Proofs.YtakfniknkejgpaaDoor.Tp Go.Proofs.YtakfniknkejgpaaDoor.Da
open Go.Proofs.YtakfniknkejgpaaDoor.Lo (LkA uV clL OwnL OwnL.kept OwnL.lt OwnL.below OwnL.row OwnL.slice own_block kind_ne Apart lenL atL)
open Go.Proofs.YtakfniknkejgpaaDoor.Tx (blk_cell blk_set blk_far blk_new bel_new)
open Go.Proofs.YtakfniknkejgpaaDoor.Lf (Fnd l05Find_any)
open Go.Proofs.YtakfniknkejgpaaDoor.Lsh
set_option maxRecDepth 100000 in
set_option maxHeartbeats 6400000 in
theorem l05Do_some {w0 w : World} {B x : Nat} {T : Tab} {v2 v3 : Value} {ps : List LkA} (h : TM w0 w B x T v2 v3 ps) (hT : TOK T) (hn : T.nx ≤ 999999) (r : Da.Ask) (hr : AskOK r) (hkd : r.kd ≠ 1) {k : Nat} (hidx : idx T.ls r.nm = some k) {y : Lk} (hy : T.ls[k]? = some y) :
 Calls Tryd.prog 101 #[.pointer (some ⟨x, 0, none⟩), .agg #[.int .i64 r.cl, .int .i64 r.st, .int .i64 r.kd, .int .i64 r.le, .string r.nm]] w fun e w' => DoP w0 w B x (doT T r) e w' := by
 obtain ⟨wi0, hwi0, wz0, wz1, wz2⟩ := info_parts infoW
 obtain ⟨p, hp, hpy⟩ := h.at hy
 have htm := inB_le hT.1
 have hnx := inB_le hT.2.1
 have hrc := inB_le hr.1
 have hkds : r.kd = 2 ∨ r.kd = 3 ∨ r.kd = 4 := by
  rcases hr.2.2.1 with ⟨h, _⟩ | ⟨h, _⟩ <;> omega
 have hle : 0 ≤ r.le ∧ r.le ≤ 1000 := by
  rcases hr.2.2.1 with ⟨_, h⟩ | ⟨_, h⟩
  ·have := inB_le h; omega
  ·omega
 have hl4 : T.ls.length ≤ 4 := hT.2.2.1
 have hh := (hT.2.2.2.1 k y hy).2.2.2
 have HNEG : Hid (p.1.h < 0 → y.h = -1) := fun hC => by
  rcases hh with hh | hh
  ·exact hh.1
  ·have := (inB_le hh.2.1).1; rw [hpy] at hC; omega
 have HWL : Hid (p.1.ws.length ≤ 4 ∧ p.1.ws.length ≤ 1000) := by
  have h5 : y.ws.length ≤ 4 := by
   rcases hh with hh | hh
   ·have := hh.2.2; omega
   ·exact hh.2.2.2.1
  rw [hpy]
  exact ⟨h5, by omega⟩
 have HWP : Hid (∀ z ∈ p.1.ws, 0 ≤ z.l ∧ z.l ≤ 1000) := fun z hz => by
  rw [hpy] at hz
  rcases hh with hh | hh
  ·have := hh.2.2
   have h0 : y.ws = [] := List.length_eq_zero_iff.1 (by omega)
   rw [h0] at hz
   simp at hz
  ·obtain ⟨j, hj⟩ := List.getElem?_of_mem hz
   have := inB_le (hh.2.2.2.2 j z hj).2.1
   omega
 have hadd := add_small htm.1 htm.2 hle.1 (by omega : r.le ≤ 1000000000)
 have HADD : Hid (∀ W, Calls Tryd.prog 118 #[.int .i64 T.tm, .int .i64 r.le] W fun e w' => e = .returned (.int .i64 (T.tm + r.le)) ∧ w' = W) := fun W => by
  have := Tm.specAddTime_any T.tm r.le W (by omega) (by omega)
  rwa [hadd] at this
 have HDO : Hid (doT T r = (⟨T.tm, acN T.nx r y, T.ls.set k (acL T.tm T.nx r y), T.ss⟩, tell (acK r y) (acL T.tm T.nx r y))) := by
  show _ = _
  unfold doT
  rw [hidx]
  simp only [getD_at hy]
 have HF0 : Hid (∀ W, TM w0 W B x T v2 v3 ps → Calls Tryd.prog 115 #[.agg #[.int .i64 T.tm, .int .i64 T.nx, v2, v3], .string r.nm] W fun e w' => e = .returned (.int .i64 (k : Int)) ∧ Below W.heap.size W w') := fun W hW => (l05Find_any T.tm T.nx v2 v3 T.ls r.nm W hW.rows (by omega)).mono fun e w' ⟨q, h1, h2, h3⟩ => ⟨by rw [h1, fnd_idx hidx h2], h3⟩
 have H0 : Hid (TM w0 w B x T v2 v3 ps) := h
 have HX : Hid (∀ W, Below ((w.alloc (.cells #[.int .i64 r.cl, .int .i64 r.st, .int .i64 r.kd, .int .i64 r.le, .string r.nm] 123)).alloc (.cells #[.int .i64 0, .int .i64 0, .int .i64 0, .int .i64 0] 55)).heap.size ((w.alloc (.cells #[.int .i64 r.cl, .int .i64 r.st, .int .i64 r.kd, .int .i64 r.le, .string r.nm] 123)).alloc (.cells #[.int .i64 0, .int .i64 0, .int .i64 0, .int .i64 0] 55)) W → TM w0 W B x T v2 v3 ps ∧ W.heap[w.heap.size]? = some (.cells #[.int .i64 r.cl, .int .i64 r.st, .int .i64 r.kd, .int .i64 r.le, .string r.nm] 123 (0, 0)) ∧ W.heap[w.heap.size + 1]? = some (.cells #[.int .i64 0, .int .i64 0, .int .i64 0, .int .i64 0] 55 (0, 0)) ∧ Oth w W) := fun W hW => by
  have e1 : (w.alloc (.cells #[.int .i64 r.cl, .int .i64 r.st, .int .i64 r.kd, .int .i64 r.le, .string r.nm] 123)).heap.size = w.heap.size + 1 := by simp
  have b2 : Below w.heap.size w ((w.alloc (.cells #[.int .i64 r.cl, .int .i64 r.st, .int .i64 r.kd, .int .i64 r.le, .string r.nm] 123)).alloc (.cells #[.int .i64 0, .int .i64 0, .int .i64 0, .int .i64 0] 55)) := (bel_new w _).trans ((bel_new _ _).mono (bel_new w _).size)
  have bb := b2.trans (hW.mono b2.size)
  refine ⟨H0.out.up bb, ?_, ?_, Oth.of_below bb⟩
  ·rw [hW.block _ (by simp; omega), (bel_new (w.alloc (.cells #[.int .i64 r.cl, .int .i64 r.st, .int .i64 r.kd, .int .i64 r.le, .string r.nm] 123)) (.cells #[.int .i64 0, .int .i64 0, .int .i64 0, .int .i64 0] 55)).block _ (by simp)]; exact blk_new _ _ _
  ·rw [hW.block _ (by simp), ← e1]; exact blk_new _ _ _
 obtain ⟨g, cap, hv, hgB, _, _, _⟩ := h.row hp
 subst hv
 have hpl : ps.length = T.ls.length := h.len
 have hkl : k < ps.length := (List.getElem?_eq_some_iff.1 hp).1
 have hkI : (k : Int) < (ps.length : Int) := by omega
 have hk0 : ¬ (k : Int) < 0 := by omega
 have hk00 : (0 : Int) ≤ (k : Int) := by omega
 have hsB : Hid (B ≤ w.heap.size) := h.size
 have HP : Hid (ps[k]? = some p ∧ p.1 = y ∧ T.ls[k]? = some y ∧ B ≤ g) := ⟨hp, hpy, hy, hgB⟩
 have hk1 : (r.kd == 1) = false := by simp [hkd]
 clear h hy hp hpy hpl hT hidx hkd hh hadd
 go_enter Tryd.func101, Tryd.ntmps101
 go_upto_region 1 with fail
 generalize (w.alloc (.cells #[.int .i64 r.cl, .int .i64 r.st, .int .i64 r.kd, .int .i64 r.le, .string r.nm] 123)).alloc (.cells #[.int .i64 0, .int .i64 0, .int .i64 0, .int .i64 0] 55) = w2 at HX ⊢
 have c2 := (blk_cell (HX.out w2 (Below.refl _ _)).2.1 2 (x := .int .i64 r.kd) rfl).1
 go_upto_region 3 with fail
 clear c2
 obtain ⟨X, hX, W, QI0, QO0⟩ := Qc.klass w2
 have QI : Hid (∀ w', Below w2.heap.size w2 w' → ∃ x, w' = W x) := QI0
 have QO : Hid (∀ x, Below w2.heap.size w2 (W x)) := QO0
 clear QI0 QO0
 have HF : Hid (∀ q, Calls Tryd.prog 115 #[.agg #[.int .i64 T.tm, .int .i64 T.nx, .slice (some ⟨g, 0, none⟩) ps.length cap, v3], .string r.nm] (W q) fun e w' => e = .returned (.int .i64 (k : Int)) ∧ Below (W q).heap.size (W q) w') := fun q => HF0.out _ (HX.out _ (QO.out q)).1
 have y0 := fun q => (blk_cell (HX.out _ (QO.out q)).1.hx 0 (x := .int .i64 T.tm) rfl).1
 have y1 := fun q => (blk_cell (HX.out _ (QO.out q)).1.hx 1 (x := .int .i64 T.nx) rfl).1
 have y2 := fun q => (blk_cell (HX.out _ (QO.out q)).1.hx 2 (x := .slice (some ⟨g, 0, none⟩) ps.length cap) rfl).1
 have y3 := fun q => (blk_cell (HX.out _ (QO.out q)).1.hx 3 (x := v3) rfl).1
 have z4 := fun q => (blk_cell (HX.out _ (QO.out q)).2.1 4 (x := .string r.nm) rfl).1
 refine Qc.region_class (W := W) (by kernel_rfl) (by kernel_rfl) (QI.out _ Qc.from_drew) ?_
 repeat (go_big_quiet_step (first | (go_at_call 115; refine (HF.out _).mono ?_; rintro e w2 ⟨rfl, b2⟩; exact ⟨rfl, Qc.back QI.out QO.out b2⟩)))
 refine wpQuiet_nil ?_
 rintro _ ⟨xq, rfl⟩
 have G3 : Hid (Below w2.heap.size w2 (W xq)) := QO.out xq
 clear y0 y1 y2 y3 z4 HF HF0 QO QI
 generalize W xq = w3 at G3 ⊢
 obtain ⟨tq, qq, _, _⟩ := HX.out _ G3.out
 have HM : Hid (∀ j u, (clL p)[j]? = some u → w3.cell? ⟨g, k * 5 + j, none⟩ = some u) := fun j u hj => by
  obtain ⟨g', cap', e, _, _, _, hc⟩ := tq.row HP.out.1
  cases e
  exact (hc j u hj).1
 have m0 : w3.cell? ⟨g, k * 5, none⟩ = some (.string p.1.n) := HM.out 0 (.string p.1.n) rfl
 have m1 := HM.out 1 (.int .i64 p.1.t) rfl
 have m2 := HM.out 2 (.int .i64 p.1.h) rfl
 have m3 := HM.out 3 (.int .i64 p.1.e) rfl
 have m4 := HM.out 4 (.slice p.2.1 p.1.ws.length p.2.2) rfl
 have c0 := (blk_cell qq 0 (x := .int .i64 r.cl) rfl).1
 have c2 := (blk_cell qq 2 (x := .int .i64 r.kd) rfl).1
 have c3 := (blk_cell qq 3 (x := .int .i64 r.le) rfl).1
 have x0 := (blk_cell tq.hx 0 (x := .int .i64 T.tm) rfl).1
 have x2 := (blk_cell tq.hx 2 (x := .slice (some ⟨g, 0, none⟩) ps.length cap) rfl).1
 clear tq qq HM
 have HRW := ((HX.out _ G3.out).1.ow p (List.mem_of_getElem? HP.out.1)).row
 go_upto_region 7 with fail
 by_cases k4 : r.kd = 4
 ·have HKD : Hid (r.kd = 4) := k4
  have hk4 : (r.kd == 4) = true := by simp [k4]
  clear k4 HRW
  by_cases hC : p.1.h < 0
  ·have hyh : y.h = -1 := HNEG.out hC
   have HAC : Hid (acN T.nx r y = T.nx ∧ acL T.tm T.nx r y = y ∧ acK r y = 4) := by
    unfold acN acL acK stK
    rw [HKD.out]
    simp only [show ¬ (4 : Int) = 1 by decide, show ¬ (4 : Int) = 2 by decide, show ¬ (4 : Int) = 3 by decide, if_false, hyh, if_true]
    exact ⟨trivial, trivial, trivial⟩
   have HTL : Hid (∀ W, Calls Tryd.prog 116 #[.int .i64 4, .agg #[.string p.1.n, .int .i64 p.1.t, .int .i64 p.1.h, .int .i64 p.1.e, .slice p.2.1 p.1.ws.length p.2.2]] W fun e w' => e = .returned (.agg #[.int .i64 4, .int .i64 p.1.t, .int .i64 p.1.h, .int .i64 p.1.e]) ∧ Below W.heap.size W w') := fun W => l05Tell_any 4 p.1 (uV p) W
   go_wp2_with fail
   refine (HTL.out _).mono ?_
   rintro e w5 ⟨rfl, b5⟩
   have G5 : Hid (Below w2.heap.size w2 w5) := G3.out.trans (b5.mono G3.out.size)
   clear b5 m0 m1 m2 m3 m4 c0 c2 c3 x0 x2 HTL
   have AX : Hid (w5.heap[w.heap.size + 1]? = some (.cells #[.int .i64 0, .int .i64 0, .int .i64 0, .int .i64 0] 55 (0, 0))) := (HX.out _ G5.out).2.2.1
   have RFH : Hid _ := ans_put AX.out (HX.out _ G5.out).1 (HX.out _ G5.out).2.2.2 (by omega) (Nat.le_succ_of_le hsB.out) (.int .i64 4) (.int .i64 p.1.t) (.int .i64 p.1.h) (.int .i64 p.1.e)
   obtain ⟨n0, f0⟩ := blk_cell AX.out 0 (x := .int .i64 0) rfl
   obtain ⟨n1, f1⟩ := blk_cell AX.out 1 (x := .int .i64 0) rfl
   obtain ⟨n2, f2⟩ := blk_cell AX.out 2 (x := .int .i64 0) rfl
   obtain ⟨n3, f3⟩ := blk_cell AX.out 3 (x := .int .i64 0) rfl
   go_wp2_with fail
   generalize ((((w5.setCell ⟨w.heap.size + 1, 0, none⟩ (.int .i64 4)).setCell ⟨w.heap.size + 1, 1, none⟩ (.int .i64 p.1.t)).setCell ⟨w.heap.size + 1, 2, none⟩ (.int .i64 p.1.h)).setCell ⟨w.heap.size + 1, 3, none⟩ (.int .i64 p.1.e)) = wf at RFH ⊢
   have d0 := (blk_cell RFH.out.1 0 (x := .int .i64 4) rfl).1
   have d1 := (blk_cell RFH.out.1 1 (x := .int .i64 p.1.t) rfl).1
   have d2 := (blk_cell RFH.out.1 2 (x := .int .i64 p.1.h) rfl).1
   have d3 := (blk_cell RFH.out.1 3 (x := .int .i64 p.1.e) rfl).1
   refine bodyPost_ret (v := .agg #[.int .i64 4, .int .i64 p.1.t, .int .i64 p.1.h, .int .i64 p.1.e]) (by simp [results, Tryd.results101, go_sem, d0, d1, d2, d3]) rfl ?_
   refine ⟨?_, ⟨.slice (some ⟨g, 0, none⟩) ps.length cap, v3, ps, ?_⟩, RFH.out.2.2⟩
   ·rw [HDO.out, HAC.out.1, HAC.out.2.1, HAC.out.2.2, ← HP.out.2.1]; rfl
   ·rw [HDO.out, HAC.out.1, HAC.out.2.1, set_same HP.out.2.2.1]; exact RFH.out.2.1
  ·have hyh : ¬ y.h = -1 := fun e => hC (by rw [HP.out.2.1, e]; decide)
   have HAC : Hid (acN T.nx r y = T.nx ∧ acL T.tm T.nx r y = y ∧ acK r y = 5) := by
    unfold acN acL acK stK
    rw [HKD.out]
    simp only [show ¬ (4 : Int) = 1 by decide, show ¬ (4 : Int) = 2 by decide, show ¬ (4 : Int) = 3 by decide, if_false, hyh, if_false]
    exact ⟨trivial, trivial, trivial⟩
   have HTL : Hid (∀ W, Calls Tryd.prog 116 #[.int .i64 5, .agg #[.string p.1.n, .int .i64 p.1.t, .int .i64 p.1.h, .int .i64 p.1.e, .slice p.2.1 p.1.ws.length p.2.2]] W fun e w' => e = .returned (.agg #[.int .i64 5, .int .i64 p.1.t, .int .i64 p.1.h, .int .i64 p.1.e]) ∧ Below W.heap.size W w') := fun W => l05Tell_any 5 p.1 (uV p) W
   go_wp2_with fail
   refine (HTL.out _).mono ?_
   rintro e w5 ⟨rfl, b5⟩
   have G5 : Hid (Below w2.heap.size w2 w5) := G3.out.trans (b5.mono G3.out.size)
   clear b5 m0 m1 m2 m3 m4 c0 c2 c3 x0 x2 HTL
   have AX : Hid (w5.heap[w.heap.size + 1]? = some (.cells #[.int .i64 0, .int .i64 0, .int .i64 0, .int .i64 0] 55 (0, 0))) := (HX.out _ G5.out).2.2.1
   have RFH : Hid _ := ans_put AX.out (HX.out _ G5.out).1 (HX.out _ G5.out).2.2.2 (by omega) (Nat.le_succ_of_le hsB.out) (.int .i64 5) (.int .i64 p.1.t) (.int .i64 p.1.h) (.int .i64 p.1.e)
   obtain ⟨n0, f0⟩ := blk_cell AX.out 0 (x := .int .i64 0) rfl
   obtain ⟨n1, f1⟩ := blk_cell AX.out 1 (x := .int .i64 0) rfl
   obtain ⟨n2, f2⟩ := blk_cell AX.out 2 (x := .int .i64 0) rfl
   obtain ⟨n3, f3⟩ := blk_cell AX.out 3 (x := .int .i64 0) rfl
   go_wp2_with fail
   generalize ((((w5.setCell ⟨w.heap.size + 1, 0, none⟩ (.int .i64 5)).setCell ⟨w.heap.size + 1, 1, none⟩ (.int .i64 p.1.t)).setCell ⟨w.heap.size + 1, 2, none⟩ (.int .i64 p.1.h)).setCell ⟨w.heap.size + 1, 3, none⟩ (.int .i64 p.1.e)) = wf at RFH ⊢
   have d0 := (blk_cell RFH.out.1 0 (x := .int .i64 5) rfl).1
   have d1 := (blk_cell RFH.out.1 1 (x := .int .i64 p.1.t) rfl).1
   have d2 := (blk_cell RFH.out.1 2 (x := .int .i64 p.1.h) rfl).1
   have d3 := (blk_cell RFH.out.1 3 (x := .int .i64 p.1.e) rfl).1
   refine bodyPost_ret (v := .agg #[.int .i64 5, .int .i64 p.1.t, .int .i64 p.1.h, .int .i64 p.1.e]) (by simp [results, Tryd.results101, go_sem, d0, d1, d2, d3]) rfl ?_
   refine ⟨?_, ⟨.slice (some ⟨g, 0, none⟩) ps.length cap, v3, ps, ?_⟩, RFH.out.2.2⟩
   ·rw [HDO.out, HAC.out.1, HAC.out.2.1, HAC.out.2.2, ← HP.out.2.1]; rfl
   ·rw [HDO.out, HAC.out.1, HAC.out.2.1, set_same HP.out.2.2.1]; exact RFH.out.2.1
 ·have hk4 : (r.kd == 4) = false := by simp [k4]
  by_cases k2 : r.kd = 2
  ·have HKD : Hid (r.kd = 2) := k2
   have hk2 : (r.kd == 2) = true := by simp [k2]
   have hk3 : (r.kd == 3) = false := by simp [k2]
   clear k4 k2
   obtain ⟨ix, HIX⟩ : ∃ ix, Hid (wIx p.1.ws r.cl = ix) := ⟨_, rfl⟩
   go_upto_region 12 with fail
   obtain ⟨X, hX, W, QI0, QO0⟩ := Qc.klass w3
   have QI : Hid (∀ w', Below w3.heap.size w3 w' → ∃ x, w' = W x) := QI0
   have QO : Hid (∀ x, Below w3.heap.size w3 (W x)) := QO0
   clear QI0 QO0
   have y0 := Qc.cell_all QO.out m0
   have y1 := Qc.cell_all QO.out m1
   have y2 := Qc.cell_all QO.out m2
   have y3 := Qc.cell_all QO.out m3
   have y4 := Qc.cell_all QO.out m4
   have z0 := Qc.cell_all QO.out c0
   have HW : Hid (∀ q, Calls Tryd.prog 117 #[.agg #[.string p.1.n, .int .i64 p.1.t, .int .i64 p.1.h, .int .i64 p.1.e, .slice p.2.1 p.1.ws.length p.2.2], .int .i64 r.cl] (W q) fun e w' => e = .returned (.int .i64 ix) ∧ Below (W q).heap.size (W q) w') := fun q => by
    rw [← HIX.out]
    exact l05Waits_any p.1 (uV p) r.cl (W q) (RowW.below HRW (QO.out q)) HWL.out.2
   refine Qc.region_class (W := W) (by kernel_rfl) (by kernel_rfl) (QI.out _ Qc.from_drew) ?_
   repeat (go_big_quiet_step (first | (go_at_call 117; refine (HW.out _).mono ?_; rintro e w2 ⟨rfl, b2⟩; exact ⟨rfl, Qc.back QI.out QO.out b2⟩)))
   refine wpQuiet_nil ?_
   rintro _ ⟨xq, rfl⟩
   have G4 : Hid (Below w2.heap.size w2 (W xq)) := G3.out.trans ((QO.out xq).mono G3.out.size)
   clear y0 y1 y2 y3 y4 z0 QO QI m0 m1 m2 m3 m4 c0 c2 c3 x0 x2 G3 HW
   generalize W xq = w4 at G4 ⊢
   clear HRW
   cases hB : wtB p.1.ws r.cl with
   | true =>
     obtain ⟨jx, hjx, hjl⟩ : ∃ jx : Nat, ix = (jx : Int) ∧ jx < p.1.ws.length ∧ (p.1.ws.findIdx fun w => w.c == r.cl) = jx := by
      refine ⟨_, by rw [← HIX.out]; unfold wIx; rw [if_pos hB], ?_, rfl⟩
      rw [List.findIdx_lt_length]
      unfold wtB at hB
      rw [List.any_eq_true] at hB
      exact hB
     subst hjx
     have hyb : wtB y.ws r.cl = true := by rw [← HP.out.2.1]; exact hB
     have HJX : Hid ((y.ws.findIdx fun w => w.c == r.cl) = jx ∧ jx < p.1.ws.length) := ⟨by rw [← HP.out.2.1]; exact hjl.2, hjl.1⟩
     clear hjl
     have HAC : Hid (acN T.nx r y = T.nx ∧ acL T.tm T.nx r y = { y with ws := y.ws.eraseIdx jx } ∧ acK r y = 1) := by
      unfold acN acL acK stK
      rw [HKD.out]
      simp only [show ¬ (2 : Int) = 1 by decide, if_false, if_true, hyb, HJX.out.1]
      exact ⟨trivial, trivial, trivial⟩
     clear hyb hB HIX
     obtain ⟨pa, HPA⟩ : ∃ pa, Hid (p.2.1 = pa) := ⟨_, rfl⟩
     obtain ⟨pc, HPC⟩ : ∃ pc, Hid (p.2.2 = pc) := ⟨_, rfl⟩
     have hix : (0 : Int) ≤ (jx : Int) := by omega
     have hjw := HJX.out.2
     have hjc : jx + 1 ≤ pc := by
      have hw4 := (HX.out _ G4.out).1.ow p (List.mem_of_getElem? HP.out.1)
      rw [← HPC.out]
      rcases hw4.2 with ⟨e, h1⟩ | ⟨g', cap, cur, e, _, _, hc, _⟩
      ·omega
      ·have : p.2.2 = cap := by injection e
       omega
     have hjI : (jx : Int) ≤ (pc : Int) := by omega
     have hjI1 : (jx : Int) + 1 ≤ (pc : Int) := by omega
     have hjN : (jx : Int) ≤ (p.1.ws.length : Int) := by omega
     have hjN1 : (jx : Int) + 1 ≤ (p.1.ws.length : Int) := by omega
     have hpl4 := HWL.out.1
     have hwr : IntKind.i64.wrap ((jx : Int) + 1) = (jx : Int) + 1 := by rw [IntKind.wrap_i64]; omega
     have hj1n : ¬ (jx : Int) + 1 < 0 := by omega
     have hj0n : ¬ (jx : Int) < 0 := by omega
     have HX4 : Hid (∀ W, Below w4.heap.size w4 W → TM w0 W B x T (.slice (some ⟨g, 0, none⟩) ps.length cap) v3 ps ∧ W.heap[w.heap.size]? = some (.cells #[.int .i64 r.cl, .int .i64 r.st, .int .i64 r.kd, .int .i64 r.le, .string r.nm] 123 (0, 0)) ∧ W.heap[w.heap.size + 1]? = some (.cells #[.int .i64 0, .int .i64 0, .int .i64 0, .int .i64 0] 55 (0, 0)) ∧ Oth w W) := fun W hW => HX.out W (G4.out.trans (hW.mono G4.out.size))
     have HS4 : Hid (∀ W, Below w4.heap.size w4 W → W.cell? ⟨g, k * 5 + 4, none⟩ = some (.slice pa p.1.ws.length pc)) := fun W hW => by
      obtain ⟨g', cap', e, _, _, _, hc⟩ := (HX4.out W hW).1.row HP.out.1
      cases e
      rw [← HPA.out, ← HPC.out]
      exact (hc 4 (uV p) rfl).1
     have HOW : Hid (∀ W, Below w4.heap.size w4 W → Wa.OwnW W B (.slice pa p.1.ws.length pc) p.1.ws) := fun W hW => by
      have := (HX4.out W hW).1.ow p (List.mem_of_getElem? HP.out.1)
      rw [← HPA.out, ← HPC.out]
      exact this
     clear HX
     go_upto_region 14 with fail
     refine wp_region_noPanic ?_
     refine wp_region_Z 19 (S := fun W => W.cell? ⟨g, k * 5 + 4, none⟩ = some (.slice pa p.1.ws.length pc)) (by kernel_rfl) (HS4.out _ (Below.refl w4.heap.size w4).drew) (fun hHeld => ?_)
     refine wpZ_take (i := 0) 2 (oi := ⟨some 56, .move (.tmp 6), 158, "l05_locks.go:165", #[], none⟩) (v := ?v1) rfl (by kernel_rfl) (by kernel_rfl) (by kernel_rfl) (by kernel_rfl) (fun _ _ _ h => h) (by kernel_rfl) (Or.inl ⟨by rfl, ?h1⟩) hHeld ?r1
     case h1 => (intro wz hz; (try dsimp only at hz); have y4 := hz; go_simp; try (with_reducible rfl))
     simp only [Act.put, List.setIfInBounds_toArray, List.set_cons_zero, List.set_cons_succ]
     refine wpZ_take (i := 2) 2 (oi := ⟨some 58, .move (.tmp 6), 158, "l05_locks.go:165", #[], none⟩) (v := ?v2) rfl (by kernel_rfl) (by kernel_rfl) (by kernel_rfl) (by kernel_rfl) (fun _ _ _ h => h) (by kernel_rfl) (Or.inl ⟨by rfl, ?h2⟩) hHeld ?r2
     case h2 => (intro wz hz; (try dsimp only at hz); have y4 := hz; go_simp; try (with_reducible rfl))
     simp only [Act.put, List.setIfInBounds_toArray, List.set_cons_zero, List.set_cons_succ]
     refine wpZ_take (i := 3) 2 (oi := ⟨some 59, .nilCheck (.tmp 58), 0, "l05_locks.go:165", #[⟨2, .data⟩], none⟩) (v := ?v3) rfl (by kernel_rfl) (by kernel_rfl) (by kernel_rfl) (by kernel_rfl) (fun _ _ _ h => h) (by kernel_rfl) (Or.inl ⟨by rfl, ?h3⟩) hHeld ?r3
     case h3 => (intro wz hz; (try dsimp only at hz); have y4 := hz; go_simp; try (with_reducible rfl))
     simp only [Act.put, List.setIfInBounds_toArray, List.set_cons_zero, List.set_cons_succ]
     refine wpZ_take (i := 4) 2 (oi := ⟨some 60, .fieldAddr 52 (.tmp 59) 4, 0, "l05_locks.go:165", #[⟨3, .data⟩], none⟩) (v := ?v4) rfl (by kernel_rfl) (by kernel_rfl) (by kernel_rfl) (by kernel_rfl) (fun _ _ _ h => h) (by kernel_rfl) (Or.inl ⟨by rfl, ?h4⟩) hHeld ?r4
     case h4 => (intro wz hz; (try dsimp only at hz); have y4 := hz; go_simp; try (with_reducible rfl))
     simp only [Act.put, List.setIfInBounds_toArray, List.set_cons_zero, List.set_cons_succ]
     refine wpZ_take (i := 5) 2 (oi := ⟨some 61, .load 50 (.tmp 60), 50, "l05_locks.go:165", #[⟨4, .data⟩], none⟩) (v := ?v5) rfl (by kernel_rfl) (by kernel_rfl) (by kernel_rfl) (by kernel_rfl) (fun _ _ _ h => h) (by kernel_rfl) (Or.inl ⟨by rfl, ?h5⟩) hHeld ?r5
     case h5 => (intro wz hz; (try dsimp only at hz); have y4 := hz; go_simp; try (with_reducible rfl))
     simp only [Act.put, List.setIfInBounds_toArray, List.set_cons_zero, List.set_cons_succ]
     refine wpZ_take (i := 6) 2 (oi := ⟨some 62, .move (.tmp 7), 3, "l05_locks.go:165", #[], none⟩) (v := ?v6) rfl (by kernel_rfl) (by kernel_rfl) (by kernel_rfl) (by kernel_rfl) (fun _ _ _ h => h) (by kernel_rfl) (Or.inl ⟨by rfl, ?h6⟩) hHeld ?r6
     case h6 => (intro wz hz; (try dsimp only at hz); have y4 := hz; go_simp; try (with_reducible rfl))
     simp only [Act.put, List.setIfInBounds_toArray, List.set_cons_zero, List.set_cons_succ]
     refine wpZ_take (i := 7) 2 (oi := ⟨some 63, .slice 50 (.tmp 61) none (some (.tmp 62)) none, 50, "l05_locks.go:165", #[⟨5, .data⟩, ⟨6, .data⟩], none⟩) (v := ?v7) rfl (by kernel_rfl) (by kernel_rfl) (by kernel_rfl) (by kernel_rfl) (fun _ _ _ h => h) (by kernel_rfl) (Or.inl ⟨by rfl, ?h7⟩) hHeld ?r7
     case h7 => (intro wz hz; (try dsimp only at hz); have y4 := hz; go_simp; try (with_reducible rfl))
     simp only [Act.put, List.setIfInBounds_toArray, List.set_cons_zero, List.set_cons_succ]
     refine wpZ_take (i := 9) 2 (oi := ⟨some 65, .move (.tmp 6), 158, "l05_locks.go:165", #[], none⟩) (v := ?v8) rfl (by kernel_rfl) (by kernel_rfl) (by kernel_rfl) (by kernel_rfl) (fun _ _ _ h => h) (by kernel_rfl) (Or.inl ⟨by rfl, ?h8⟩) hHeld ?r8
     case h8 => (intro wz hz; (try dsimp only at hz); have y4 := hz; go_simp; try (with_reducible rfl))
     simp only [Act.put, List.setIfInBounds_toArray, List.set_cons_zero, List.set_cons_succ]
     refine wpZ_take (i := 10) 2 (oi := ⟨some 66, .nilCheck (.tmp 65), 0, "l05_locks.go:165", #[⟨9, .data⟩], none⟩) (v := ?v9) rfl (by kernel_rfl) (by kernel_rfl) (by kernel_rfl) (by kernel_rfl) (fun _ _ _ h => h) (by kernel_rfl) (Or.inl ⟨by rfl, ?h9⟩) hHeld ?r9
     case h9 => (intro wz hz; (try dsimp only at hz); have y4 := hz; go_simp; try (with_reducible rfl))
     simp only [Act.put, List.setIfInBounds_toArray, List.set_cons_zero, List.set_cons_succ]
     refine wpZ_take (i := 11) 2 (oi := ⟨some 67, .fieldAddr 52 (.tmp 66) 4, 0, "l05_locks.go:165", #[⟨10, .data⟩], none⟩) (v := ?v10) rfl (by kernel_rfl) (by kernel_rfl) (by kernel_rfl) (by kernel_rfl) (fun _ _ _ h => h) (by kernel_rfl) (Or.inl ⟨by rfl, ?h10⟩) hHeld ?r10
     case h10 => (intro wz hz; (try dsimp only at hz); have y4 := hz; go_simp; try (with_reducible rfl))
     simp only [Act.put, List.setIfInBounds_toArray, List.set_cons_zero, List.set_cons_succ]
     refine wpZ_take (i := 12) 2 (oi := ⟨some 68, .load 50 (.tmp 67), 50, "l05_locks.go:165", #[⟨11, .data⟩], none⟩) (v := ?v11) rfl (by kernel_rfl) (by kernel_rfl) (by kernel_rfl) (by kernel_rfl) (fun _ _ _ h => h) (by kernel_rfl) (Or.inl ⟨by rfl, ?h11⟩) hHeld ?r11
     case h11 => (intro wz hz; (try dsimp only at hz); have y4 := hz; go_simp; try (with_reducible rfl))
     simp only [Act.put, List.setIfInBounds_toArray, List.set_cons_zero, List.set_cons_succ]
     refine wpZ_take (i := 13) 2 (oi := ⟨some 69, .move (.tmp 7), 3, "l05_locks.go:165", #[], none⟩) (v := ?v12) rfl (by kernel_rfl) (by kernel_rfl) (by kernel_rfl) (by kernel_rfl) (fun _ _ _ h => h) (by kernel_rfl) (Or.inl ⟨by rfl, ?h12⟩) hHeld ?r12
     case h12 => (intro wz hz; (try dsimp only at hz); have y4 := hz; go_simp; try (with_reducible rfl))
     simp only [Act.put, List.setIfInBounds_toArray, List.set_cons_zero, List.set_cons_succ]
     refine wpZ_take (i := 14) 2 (oi := ⟨some 70, .binOp BinOp.add 3 (.tmp 69) (Operand.const (Value.int IntKind.i64 1)) 3, 3, "l05_locks.go:165", #[⟨13, .data⟩], none⟩) (v := ?v13) rfl (by kernel_rfl) (by kernel_rfl) (by kernel_rfl) (by kernel_rfl) (fun _ _ _ h => h) (by kernel_rfl) (Or.inl ⟨by rfl, ?h13⟩) hHeld ?r13
     case h13 => (intro wz hz; (try dsimp only at hz); have y4 := hz; go_simp; try (with_reducible rfl))
     simp only [Act.put, List.setIfInBounds_toArray, List.set_cons_zero, List.set_cons_succ]
     refine wpZ_take (i := 15) 2 (oi := ⟨some 71, .slice 50 (.tmp 68) (some (.tmp 70)) none none, 50, "l05_locks.go:165", #[⟨12, .data⟩, ⟨14, .data⟩], none⟩) (v := .slice (behindW pa pc (jx + 1)) (p.1.ws.length - (jx + 1)) (pc - (jx + 1))) rfl (by kernel_rfl) (by kernel_rfl) (by kernel_rfl) (by kernel_rfl) (fun _ _ _ h => h) (by kernel_rfl) (Or.inl ⟨by rfl, ?h14⟩) hHeld ?r14
     case h14 => (intro wz hz; (try dsimp only at hz); have y4 := hz; unfold behindW; go_simp; try (with_reducible rfl))
     simp only [Act.put, List.setIfInBounds_toArray, List.set_cons_zero, List.set_cons_succ]
     refine wpZ_ready (rs := [1]) (by kernel_rfl) (by simp) ?_
     refine (ReadyZ.cons (o := ⟨some 57, .buildSlice 50 0 #[], 50, "l05_locks.go:165", #[], none⟩) rfl (fun K hK => ?_) ReadyZ.nil)
     go_simp
     refine hK.out _ _ ?_ (fun hHeld => ?_)
     ·exact HS4.out _ ((Below.refl w4.heap.size w4).drew.alloc (Below.refl w4.heap.size w4).drew.size _)
     clear hK K
     (try simp only [Act.put, List.setIfInBounds_toArray, List.set_cons_zero, List.set_cons_succ])
     have oE : Wa.OwnW (w4.drew.alloc (.cells #[] 93)) w4.heap.size (.slice (some ⟨w4.heap.size, 0, none⟩) 0 0) [] := OwnW.made w4.drew w4.heap.size (Below.refl w4.heap.size w4).drew.size
     have bE : Below w4.heap.size w4 (w4.drew.alloc (.cells #[] 93)) := (Below.refl w4.heap.size w4).drew.alloc (Below.refl w4.heap.size w4).drew.size _
     refine wpZ_ready (rs := [8]) (by kernel_rfl) (by simp) ?_
     refine (ReadyZ.cons (o := ⟨some 64, .call { callee := Callee.builtin Builtin.append, args := #[Operand.tmp 57, Operand.tmp 63], argTypes := #[50, 50] }, 50, "l05_locks.go:165", #[⟨1, .data⟩, ⟨7, .data⟩], none⟩) rfl (fun K hK => ?_) ReadyZ.nil)
     refine step_wk (by rfl) _ _ 50 (by rfl) Tryd.underlying50 hwi0 wz0 wz1 wz2 _ oE (src_take2W (HOW.out _ bE) (k := jx) (by omega)) bE.size (by simp; omega) (by rfl) (by rfl) ?_
     intro v57 w57 o57 b57 f57
     have c57 : Below w4.heap.size w4 w57 := bE.trans b57
     refine hK.out _ _ ?_ (fun hHeld => ?_)
     ·exact HS4.out _ c57
     clear hK K
     (try simp only [Act.put, List.setIfInBounds_toArray, List.set_cons_zero, List.set_cons_succ])
     refine wpZ_ready (rs := [16]) (by kernel_rfl) (by simp) ?_
     refine (ReadyZ.cons (o := ⟨some 72, .call { callee := Callee.builtin Builtin.append, args := #[Operand.tmp 64, Operand.tmp 71], argTypes := #[50, 50] }, 50, "l05_locks.go:165", #[⟨8, .data⟩, ⟨15, .data⟩, ⟨8, .chain⟩], none⟩) rfl (fun K hK => ?_) ReadyZ.nil)
     refine step_wk (by rfl) _ _ 50 (by rfl) Tryd.underlying50 hwi0 wz0 wz1 wz2 _ o57 (src_drop2W (HOW.out _ c57) (k := jx + 1) (by omega)) c57.size (by simp; omega) (by rfl) (by rfl) ?_
     intro v67 w67 o67 b67 f67
     replace o67 : Wa.OwnW w67 w4.heap.size v67 (p.1.ws.eraseIdx jx) := (by rw [List.eraseIdx_eq_take_drop_succ]; simpa using o67)
     obtain ⟨a67, k67, rfl⟩ := OwnW.slice o67
     have c67 : Below w4.heap.size w4 w67 := c57.trans b67
     refine hK.out _ _ ?_ (fun hHeld => ?_)
     ·exact HS4.out _ c67
     clear hK K
     (try simp only [Act.put, List.setIfInBounds_toArray, List.set_cons_zero, List.set_cons_succ])
     refine wpZ_take (i := 17) 2 (oi := ⟨some 73, .nilCheck (.tmp 56), 0, "l05_locks.go:165", #[⟨0, .data⟩, ⟨0, .phase⟩, ⟨1, .phase⟩, ⟨2, .phase⟩, ⟨3, .phase⟩, ⟨4, .phase⟩, ⟨5, .phase⟩, ⟨6, .phase⟩, ⟨7, .phase⟩, ⟨8, .phase⟩, ⟨9, .phase⟩, ⟨10, .phase⟩, ⟨11, .phase⟩, ⟨12, .phase⟩, ⟨13, .phase⟩, ⟨14, .phase⟩, ⟨15, .phase⟩, ⟨16, .phase⟩], none⟩) (v := ?v15) rfl (by kernel_rfl) (by kernel_rfl) (by kernel_rfl) (by kernel_rfl) (fun _ _ _ h => h) (by kernel_rfl) (Or.inl ⟨by rfl, ?h15⟩) hHeld ?r15
     case h15 => (intro wz hz; (try dsimp only at hz); have y4 := hz; go_simp; try (with_reducible rfl))
     simp only [Act.put, List.setIfInBounds_toArray, List.set_cons_zero, List.set_cons_succ]
     refine wpZ_take (i := 18) 2 (oi := ⟨some 74, .fieldAddr 52 (.tmp 73) 4, 0, "l05_locks.go:165", #[⟨17, .data⟩, ⟨0, .phase⟩, ⟨1, .phase⟩, ⟨2, .phase⟩, ⟨3, .phase⟩, ⟨4, .phase⟩, ⟨5, .phase⟩, ⟨6, .phase⟩, ⟨7, .phase⟩, ⟨8, .phase⟩, ⟨9, .phase⟩, ⟨10, .phase⟩, ⟨11, .phase⟩, ⟨12, .phase⟩, ⟨13, .phase⟩, ⟨14, .phase⟩, ⟨15, .phase⟩, ⟨16, .phase⟩], none⟩) (v := ?v16) rfl (by kernel_rfl) (by kernel_rfl) (by kernel_rfl) (by kernel_rfl) (fun _ _ _ h => h) (by kernel_rfl) (Or.inl ⟨by rfl, ?h16⟩) hHeld ?r16
     case h16 => (intro wz hz; (try dsimp only at hz); have y4 := hz; go_simp; try (with_reducible rfl))
     simp only [Act.put, List.setIfInBounds_toArray, List.set_cons_zero, List.set_cons_succ]
     refine wpZ_ready (rs := [19]) (by kernel_rfl) (by simp) ?_
     refine ReadyZ.last (o := ⟨none, .store 50 (.tmp 74) (.tmp 72), 0, "l05_locks.go:165", #[⟨18, .data⟩, ⟨16, .data⟩, ⟨16, .chain⟩, ⟨0, .phase⟩, ⟨1, .phase⟩, ⟨2, .phase⟩, ⟨3, .phase⟩, ⟨4, .phase⟩, ⟨5, .phase⟩, ⟨6, .phase⟩, ⟨7, .phase⟩, ⟨8, .phase⟩, ⟨9, .phase⟩, ⟨10, .phase⟩, ⟨11, .phase⟩, ⟨12, .phase⟩, ⟨13, .phase⟩, ⟨14, .phase⟩, ⟨15, .phase⟩, ⟨16, .phase⟩], none⟩) rfl (fun K hK => ?_)
     have s67 := (HX4.out _ c67).1
     obtain ⟨g', cap', e, _, _, _, hc⟩ := s67.row HP.out.1
     obtain ⟨z2, f2⟩ := hc 4 (uV p) rfl
     cases e
     have z2' : w67.cell? ⟨g, k * 5 + 4, none⟩ = some (.slice pa p.1.ws.length pc) := HS4.out _ c67
     clear z2 hc
     go_simp
     refine hK.out _ _ ?_
     clear hK K
     (try simp only [Act.put, List.setIfInBounds_toArray, List.set_cons_zero, List.set_cons_succ])
     refine wpZ_done (by kernel_rfl) ?_ _
     refine NoPanic.normal ?_
     have hx67 := HX4.out _ c67
     have T7 : Hid (TM w0 (w67.setCell ⟨g, k * 5 + 4, none⟩ (.slice a67 (p.1.ws.eraseIdx jx).length k67)) B x { T with ls := T.ls.set k { p.1 with ws := p.1.ws.eraseIdx jx } } (.slice (some ⟨g, 0, none⟩) ps.length cap) v3 (ps.set k ({ p.1 with ws := p.1.ws.eraseIdx jx }, a67, k67)) ∧ (w67.setCell ⟨g, k * 5 + 4, none⟩ (.slice a67 (p.1.ws.eraseIdx jx).length k67)).heap[w.heap.size + 1]? = some (.cells #[.int .i64 0, .int .i64 0, .int .i64 0, .int .i64 0] 55 (0, 0)) ∧ Oth w (w67.setCell ⟨g, k * 5 + 4, none⟩ (.slice a67 (p.1.ws.eraseIdx jx).length k67))) := by
      obtain ⟨cl, hcl⟩ := own_block hx67.1.ol (g := g) rfl
      exact ⟨(HX4.out w4 (Below.refl _ _)).1.wnew HP.out.1 HP.out.2.2.2 c67 o67, (blk_far (kind_ne hx67.2.2.1 hcl (by decide)) _ _).trans hx67.2.2.1, hx67.2.2.2.trans (hx67.1.othL _ _)⟩
     clear hx67 s67 c67 o67 c57 o57 bE oE hHeld HX4 HS4 HOW z2' f2 b67 b57 f57 f67
     generalize w67.setCell ⟨g, k * 5 + 4, none⟩ (.slice a67 (p.1.ws.eraseIdx jx).length k67) = w7 at T7 ⊢
     have HM5 : Hid (∀ j u, (clL (({ p.1 with ws := p.1.ws.eraseIdx jx } : Lk), a67, k67))[j]? = some u → w7.cell? ⟨g, k * 5 + j, none⟩ = some u) := fun j u hj => by
      obtain ⟨g', cap', e, _, _, _, hc⟩ := T7.out.1.row (set_at HP.out.1)
      rw [List.length_set] at e
      cases e
      exact (hc j u hj).1
     have m0 : w7.cell? ⟨g, k * 5, none⟩ = some (.string p.1.n) := HM5.out 0 _ rfl
     have m1 := HM5.out 1 (.int .i64 p.1.t) rfl
     have m2 := HM5.out 2 (.int .i64 p.1.h) rfl
     have m3 := HM5.out 3 (.int .i64 p.1.e) rfl
     have m4 := HM5.out 4 (.slice a67 (p.1.ws.eraseIdx jx).length k67) rfl
     have x2 := (blk_cell T7.out.1.hx 2 (x := .slice (some ⟨g, 0, none⟩) ps.length cap) rfl).1
     have HTL : Hid (∀ W, Calls Tryd.prog 116 #[.int .i64 1, .agg #[.string p.1.n, .int .i64 p.1.t, .int .i64 p.1.h, .int .i64 p.1.e, .slice a67 (p.1.ws.eraseIdx jx).length k67]] W fun e w' => e = .returned (.agg #[.int .i64 1, .int .i64 p.1.t, .int .i64 p.1.h, .int .i64 p.1.e]) ∧ Below W.heap.size W w') := fun W => l05Tell_any 1 ((({ p.1 with ws := p.1.ws.eraseIdx jx } : Lk), a67, k67)).1 (uV (({ p.1 with ws := p.1.ws.eraseIdx jx } : Lk), a67, k67)) W
     clear HM5
     go_wp2_with fail
     refine (HTL.out _).mono ?_
     rintro e w8 ⟨rfl, b8⟩
     have T8 : Hid (TM w0 w8 B x { T with ls := T.ls.set k { p.1 with ws := p.1.ws.eraseIdx jx } } (.slice (some ⟨g, 0, none⟩) ps.length cap) v3 (ps.set k (({ p.1 with ws := p.1.ws.eraseIdx jx } : Lk), a67, k67)) ∧ w8.heap[w.heap.size + 1]? = some (.cells #[.int .i64 0, .int .i64 0, .int .i64 0, .int .i64 0] 55 (0, 0)) ∧ Oth w w8) := ⟨T7.out.1.up b8, (b8.block _ (Array.getElem?_eq_some_iff.1 T7.out.2.1).1).trans T7.out.2.1, T7.out.2.2.trans (Oth.of_below b8)⟩
     clear b8 m0 m1 m2 m3 m4 x2 HTL
     have AX : Hid (w8.heap[w.heap.size + 1]? = some (.cells #[.int .i64 0, .int .i64 0, .int .i64 0, .int .i64 0] 55 (0, 0))) := T8.out.2.1
     have RFH : Hid _ := ans_put AX.out T8.out.1 T8.out.2.2 (by omega) (Nat.le_succ_of_le hsB.out) (.int .i64 1) (.int .i64 p.1.t) (.int .i64 p.1.h) (.int .i64 p.1.e)
     clear T8
     obtain ⟨n0, f0⟩ := blk_cell AX.out 0 (x := .int .i64 0) rfl
     obtain ⟨n1, f1⟩ := blk_cell AX.out 1 (x := .int .i64 0) rfl
     obtain ⟨n2, f2⟩ := blk_cell AX.out 2 (x := .int .i64 0) rfl
     obtain ⟨n3, f3⟩ := blk_cell AX.out 3 (x := .int .i64 0) rfl
     go_wp2_with fail
     generalize ((((w8.setCell ⟨w.heap.size + 1, 0, none⟩ (.int .i64 1)).setCell ⟨w.heap.size + 1, 1, none⟩ (.int .i64 p.1.t)).setCell ⟨w.heap.size + 1, 2, none⟩ (.int .i64 p.1.h)).setCell ⟨w.heap.size + 1, 3, none⟩ (.int .i64 p.1.e)) = wf at RFH ⊢
     have d0 := (blk_cell RFH.out.1 0 (x := .int .i64 1) rfl).1
     have d1 := (blk_cell RFH.out.1 1 (x := .int .i64 p.1.t) rfl).1
     have d2 := (blk_cell RFH.out.1 2 (x := .int .i64 p.1.h) rfl).1
     have d3 := (blk_cell RFH.out.1 3 (x := .int .i64 p.1.e) rfl).1
     refine bodyPost_ret (v := .agg #[.int .i64 1, .int .i64 p.1.t, .int .i64 p.1.h, .int .i64 p.1.e]) (by simp [results, Tryd.results101, go_sem, d0, d1, d2, d3]) rfl ?_
     refine ⟨?_, ⟨.slice (some ⟨g, 0, none⟩) ps.length cap, v3, ps.set k (({ p.1 with ws := p.1.ws.eraseIdx jx } : Lk), a67, k67), ?_⟩, RFH.out.2.2⟩
     ·rw [HDO.out, HAC.out.1, HAC.out.2.1, HAC.out.2.2, ← HP.out.2.1]; rfl
     ·rw [HDO.out, HAC.out.1, HAC.out.2.1, ← HP.out.2.1]; exact RFH.out.2.1
   | false =>
     have hix : ¬ (0 : Int) ≤ ix := by rw [← HIX.out]; unfold wIx; rw [if_neg (by rw [hB]; decide)]; decide
     have hyb : wtB y.ws r.cl = false := by rw [← HP.out.2.1]; exact hB
     clear hB HIX
     obtain ⟨tq, qq, _, _⟩ := HX.out _ G4.out
     have HM : Hid (∀ j u, (clL p)[j]? = some u → w4.cell? ⟨g, k * 5 + j, none⟩ = some u) := fun j u hj => by
      obtain ⟨g', cap', e, _, _, _, hc⟩ := tq.row HP.out.1
      cases e
      exact (hc j u hj).1
     have m0 : w4.cell? ⟨g, k * 5, none⟩ = some (.string p.1.n) := HM.out 0 (.string p.1.n) rfl
     have m1 := HM.out 1 (.int .i64 p.1.t) rfl
     have m2 := HM.out 2 (.int .i64 p.1.h) rfl
     have m3 := HM.out 3 (.int .i64 p.1.e) rfl
     have m4 := HM.out 4 (.slice p.2.1 p.1.ws.length p.2.2) rfl
     have c0 := (blk_cell qq 0 (x := .int .i64 r.cl) rfl).1
     have c2 := (blk_cell qq 2 (x := .int .i64 r.kd) rfl).1
     have c3 := (blk_cell qq 3 (x := .int .i64 r.le) rfl).1
     have x0 := (blk_cell tq.hx 0 (x := .int .i64 T.tm) rfl).1
     have x2 := (blk_cell tq.hx 2 (x := .slice (some ⟨g, 0, none⟩) ps.length cap) rfl).1
     clear tq qq HM
     go_upto_region 16 with fail
     by_cases hA : p.1.h = r.cl
     ·have hyc : y.h = r.cl := by rw [← HP.out.2.1]; exact hA
      have hA' : (p.1.h != r.cl) = false := by simp [hA]
      clear hA
      have HAC : Hid (acN T.nx r y = frN T.nx y ∧ acL T.tm T.nx r y = frL T.tm T.nx y ∧ acK r y = 1) := by
       unfold acN acL acK stK
       rw [HKD.out]
       simp only [show ¬ (2 : Int) = 1 by decide, if_false, if_true, hyb, Bool.false_eq_true, hyc]
       exact ⟨trivial, trivial, trivial⟩
      obtain ⟨X, hX, W, QI0, QO0⟩ := Qc.klass w4
      have QI : Hid (∀ w', Below w4.heap.size w4 w' → ∃ x, w' = W x) := QI0
      have QO : Hid (∀ x, Below w4.heap.size w4 (W x)) := QO0
      clear QI0 QO0
      have y0 := Qc.cell_all QO.out m0
      have y1 := Qc.cell_all QO.out m1
      have y2 := Qc.cell_all QO.out m2
      have y3 := Qc.cell_all QO.out m3
      have y4 := Qc.cell_all QO.out m4
      have z0 := Qc.cell_all QO.out c0
      refine Qc.region_class (W := W) (by kernel_rfl) (by kernel_rfl) (QI.out _ Qc.from_drew) ?_
      repeat (go_big_quiet_step (fail))
      refine wpQuiet_nil ?_
      rintro _ ⟨xq, rfl⟩
      have G6 : Hid (Below w2.heap.size w2 (W xq)) := G4.out.trans ((QO.out xq).mono G4.out.size)
      clear y0 y1 y2 y3 y4 z0 QO QI m0 m1 m2 m3 m4 c0 c2 c3 x0 x2 G4
      generalize W xq = w6 at G6 ⊢
      obtain ⟨t6, q6, z6, o6⟩ := HX.out _ G6.out
      have c2 := (blk_cell q6 2 (x := .int .i64 r.kd) rfl).1
      have HF := l05Free_any t6 HP.out.1 htm.1 htm.2 hnx.1 hn HWL.out.2 HWP.out
      have Z6 : Hid (w6.heap[w.heap.size + 1]? = some (.cells #[.int .i64 0, .int .i64 0, .int .i64 0, .int .i64 0] 55 (0, 0)) ∧ Oth w w6) := ⟨z6, o6⟩
      clear t6 q6 z6 o6
      go_wp2_with fail
      refine HF.mono ?_
      rintro e w7 ⟨rfl, ⟨qq, hqq, t7⟩, o7⟩
      have T7 : Hid (TM w0 w7 B x { T with nx := frN T.nx p.1, ls := T.ls.set k qq.1 } (.slice (some ⟨g, 0, none⟩) ps.length cap) v3 (ps.set k qq) ∧ w7.heap[w.heap.size + 1]? = some (.cells #[.int .i64 0, .int .i64 0, .int .i64 0, .int .i64 0] 55 (0, 0)) ∧ Oth w w7) := ⟨t7, o7 _ _ _ Z6.out.1 (by decide) (by decide) (by decide) (by decide), Z6.out.2.trans o7⟩
      have HQQ : Hid (qq.1 = frL T.tm T.nx p.1) := hqq
      clear t7 o7 hqq HF Z6 c2
      have HM5 : Hid (∀ j u, (clL qq)[j]? = some u → w7.cell? ⟨g, k * 5 + j, none⟩ = some u) := fun j u hj => by
       obtain ⟨g', cap', e, _, _, _, hc⟩ := T7.out.1.row (set_at HP.out.1)
       rw [List.length_set] at e
       cases e
       exact (hc j u hj).1
      have m0 : w7.cell? ⟨g, k * 5, none⟩ = some (.string qq.1.n) := HM5.out 0 _ rfl
      have m1 := HM5.out 1 (.int .i64 qq.1.t) rfl
      have m2 := HM5.out 2 (.int .i64 qq.1.h) rfl
      have m3 := HM5.out 3 (.int .i64 qq.1.e) rfl
      have m4 := HM5.out 4 (.slice qq.2.1 qq.1.ws.length qq.2.2) rfl
      have x2 := (blk_cell T7.out.1.hx 2 (x := .slice (some ⟨g, 0, none⟩) ps.length cap) rfl).1
      have HTL : Hid (∀ W, Calls Tryd.prog 116 #[.int .i64 1, .agg #[.string qq.1.n, .int .i64 qq.1.t, .int .i64 qq.1.h, .int .i64 qq.1.e, .slice qq.2.1 qq.1.ws.length qq.2.2]] W fun e w' => e = .returned (.agg #[.int .i64 1, .int .i64 qq.1.t, .int .i64 qq.1.h, .int .i64 qq.1.e]) ∧ Below W.heap.size W w') := fun W => l05Tell_any 1 (qq).1 (uV qq) W
      clear HM5
      go_wp2_with fail
      refine (HTL.out _).mono ?_
      rintro e w8 ⟨rfl, b8⟩
      have T8 : Hid (TM w0 w8 B x { T with nx := frN T.nx p.1, ls := T.ls.set k qq.1 } (.slice (some ⟨g, 0, none⟩) ps.length cap) v3 (ps.set k qq) ∧ w8.heap[w.heap.size + 1]? = some (.cells #[.int .i64 0, .int .i64 0, .int .i64 0, .int .i64 0] 55 (0, 0)) ∧ Oth w w8) := ⟨T7.out.1.up b8, (b8.block _ (Array.getElem?_eq_some_iff.1 T7.out.2.1).1).trans T7.out.2.1, T7.out.2.2.trans (Oth.of_below b8)⟩
      clear b8 m0 m1 m2 m3 m4 x2 HTL
      have AX : Hid (w8.heap[w.heap.size + 1]? = some (.cells #[.int .i64 0, .int .i64 0, .int .i64 0, .int .i64 0] 55 (0, 0))) := T8.out.2.1
      have RFH : Hid _ := ans_put AX.out T8.out.1 T8.out.2.2 (by omega) (Nat.le_succ_of_le hsB.out) (.int .i64 1) (.int .i64 qq.1.t) (.int .i64 qq.1.h) (.int .i64 qq.1.e)
      clear T8
      obtain ⟨n0, f0⟩ := blk_cell AX.out 0 (x := .int .i64 0) rfl
      obtain ⟨n1, f1⟩ := blk_cell AX.out 1 (x := .int .i64 0) rfl
      obtain ⟨n2, f2⟩ := blk_cell AX.out 2 (x := .int .i64 0) rfl
      obtain ⟨n3, f3⟩ := blk_cell AX.out 3 (x := .int .i64 0) rfl
      go_wp2_with fail
      generalize ((((w8.setCell ⟨w.heap.size + 1, 0, none⟩ (.int .i64 1)).setCell ⟨w.heap.size + 1, 1, none⟩ (.int .i64 qq.1.t)).setCell ⟨w.heap.size + 1, 2, none⟩ (.int .i64 qq.1.h)).setCell ⟨w.heap.size + 1, 3, none⟩ (.int .i64 qq.1.e)) = wf at RFH ⊢
      have d0 := (blk_cell RFH.out.1 0 (x := .int .i64 1) rfl).1
      have d1 := (blk_cell RFH.out.1 1 (x := .int .i64 qq.1.t) rfl).1
      have d2 := (blk_cell RFH.out.1 2 (x := .int .i64 qq.1.h) rfl).1
      have d3 := (blk_cell RFH.out.1 3 (x := .int .i64 qq.1.e) rfl).1
      refine bodyPost_ret (v := .agg #[.int .i64 1, .int .i64 qq.1.t, .int .i64 qq.1.h, .int .i64 qq.1.e]) (by simp [results, Tryd.results101, go_sem, d0, d1, d2, d3]) rfl ?_
      refine ⟨?_, ⟨.slice (some ⟨g, 0, none⟩) ps.length cap, v3, ps.set k qq, ?_⟩, RFH.out.2.2⟩
      ·rw [HDO.out, HAC.out.1, HAC.out.2.1, HAC.out.2.2, ← HP.out.2.1, ← HQQ.out]; rfl
      ·rw [HDO.out, HAC.out.1, HAC.out.2.1, ← HP.out.2.1]; rw [← HQQ.out]; exact RFH.out.2.1
     ·have hyc : ¬ y.h = r.cl := by rw [← HP.out.2.1]; exact hA
      have hA' : (p.1.h != r.cl) = true := by simp [hA]
      clear hA
      obtain ⟨X, hX, W, QI0, QO0⟩ := Qc.klass w4
      have QI : Hid (∀ w', Below w4.heap.size w4 w' → ∃ x, w' = W x) := QI0
      have QO : Hid (∀ x, Below w4.heap.size w4 (W x)) := QO0
      clear QI0 QO0
      have y0 := Qc.cell_all QO.out m0
      have y1 := Qc.cell_all QO.out m1
      have y2 := Qc.cell_all QO.out m2
      have y3 := Qc.cell_all QO.out m3
      have y4 := Qc.cell_all QO.out m4
      have z0 := Qc.cell_all QO.out c0
      refine Qc.region_class (W := W) (by kernel_rfl) (by kernel_rfl) (QI.out _ Qc.from_drew) ?_
      repeat (go_big_quiet_step (fail))
      refine wpQuiet_nil ?_
      rintro _ ⟨xq, rfl⟩
      have G6 : Hid (Below w2.heap.size w2 (W xq)) := G4.out.trans ((QO.out xq).mono G4.out.size)
      clear y0 y1 y2 y3 y4 z0 QO QI m0 m1 m2 m3 m4 c0 c2 c3 x0 x2 G4
      generalize W xq = w6 at G6 ⊢
      by_cases hC : p.1.h < 0
      ·have hyh : y.h = -1 := HNEG.out hC
       have hyx : ¬ (-1 : Int) = r.cl := by omega
       have HAC : Hid (acN T.nx r y = T.nx ∧ acL T.tm T.nx r y = y ∧ acK r y = 4) := by
        unfold acN acL acK stK
        rw [HKD.out]
        simp only [show ¬ (2 : Int) = 1 by decide, if_false, if_true, hyb, Bool.false_eq_true, hyx, hyh]
        exact ⟨trivial, trivial, trivial⟩
       obtain ⟨tq, qq, _, _⟩ := HX.out _ G6.out
       have HM : Hid (∀ j u, (clL p)[j]? = some u → w6.cell? ⟨g, k * 5 + j, none⟩ = some u) := fun j u hj => by
        obtain ⟨g', cap', e, _, _, _, hc⟩ := tq.row HP.out.1
        cases e
        exact (hc j u hj).1
       have m0 : w6.cell? ⟨g, k * 5, none⟩ = some (.string p.1.n) := HM.out 0 (.string p.1.n) rfl
       have m1 := HM.out 1 (.int .i64 p.1.t) rfl
       have m2 := HM.out 2 (.int .i64 p.1.h) rfl
       have m3 := HM.out 3 (.int .i64 p.1.e) rfl
       have m4 := HM.out 4 (.slice p.2.1 p.1.ws.length p.2.2) rfl
       have c0 := (blk_cell qq 0 (x := .int .i64 r.cl) rfl).1
       have c2 := (blk_cell qq 2 (x := .int .i64 r.kd) rfl).1
       have c3 := (blk_cell qq 3 (x := .int .i64 r.le) rfl).1
       have x0 := (blk_cell tq.hx 0 (x := .int .i64 T.tm) rfl).1
       have x2 := (blk_cell tq.hx 2 (x := .slice (some ⟨g, 0, none⟩) ps.length cap) rfl).1
       clear tq qq HM
       have HTL : Hid (∀ W, Calls Tryd.prog 116 #[.int .i64 4, .agg #[.string p.1.n, .int .i64 p.1.t, .int .i64 p.1.h, .int .i64 p.1.e, .slice p.2.1 p.1.ws.length p.2.2]] W fun e w' => e = .returned (.agg #[.int .i64 4, .int .i64 p.1.t, .int .i64 p.1.h, .int .i64 p.1.e]) ∧ Below W.heap.size W w') := fun W => l05Tell_any 4 p.1 (uV p) W
       go_wp2_with fail
       refine (HTL.out _).mono ?_
       rintro e w5 ⟨rfl, b5⟩
       have G5 : Hid (Below w2.heap.size w2 w5) := G6.out.trans (b5.mono G6.out.size)
       clear b5 m0 m1 m2 m3 m4 c0 c2 c3 x0 x2 HTL
       have AX : Hid (w5.heap[w.heap.size + 1]? = some (.cells #[.int .i64 0, .int .i64 0, .int .i64 0, .int .i64 0] 55 (0, 0))) := (HX.out _ G5.out).2.2.1
       have RFH : Hid _ := ans_put AX.out (HX.out _ G5.out).1 (HX.out _ G5.out).2.2.2 (by omega) (Nat.le_succ_of_le hsB.out) (.int .i64 4) (.int .i64 p.1.t) (.int .i64 p.1.h) (.int .i64 p.1.e)
       obtain ⟨n0, f0⟩ := blk_cell AX.out 0 (x := .int .i64 0) rfl
       obtain ⟨n1, f1⟩ := blk_cell AX.out 1 (x := .int .i64 0) rfl
       obtain ⟨n2, f2⟩ := blk_cell AX.out 2 (x := .int .i64 0) rfl
       obtain ⟨n3, f3⟩ := blk_cell AX.out 3 (x := .int .i64 0) rfl
       go_wp2_with fail
       generalize ((((w5.setCell ⟨w.heap.size + 1, 0, none⟩ (.int .i64 4)).setCell ⟨w.heap.size + 1, 1, none⟩ (.int .i64 p.1.t)).setCell ⟨w.heap.size + 1, 2, none⟩ (.int .i64 p.1.h)).setCell ⟨w.heap.size + 1, 3, none⟩ (.int .i64 p.1.e)) = wf at RFH ⊢
       have d0 := (blk_cell RFH.out.1 0 (x := .int .i64 4) rfl).1
       have d1 := (blk_cell RFH.out.1 1 (x := .int .i64 p.1.t) rfl).1
       have d2 := (blk_cell RFH.out.1 2 (x := .int .i64 p.1.h) rfl).1
       have d3 := (blk_cell RFH.out.1 3 (x := .int .i64 p.1.e) rfl).1
       refine bodyPost_ret (v := .agg #[.int .i64 4, .int .i64 p.1.t, .int .i64 p.1.h, .int .i64 p.1.e]) (by simp [results, Tryd.results101, go_sem, d0, d1, d2, d3]) rfl ?_
       refine ⟨?_, ⟨.slice (some ⟨g, 0, none⟩) ps.length cap, v3, ps, ?_⟩, RFH.out.2.2⟩
       ·rw [HDO.out, HAC.out.1, HAC.out.2.1, HAC.out.2.2, ← HP.out.2.1]; rfl
       ·rw [HDO.out, HAC.out.1, HAC.out.2.1, set_same HP.out.2.2.1]; exact RFH.out.2.1
      ·have hyh : ¬ y.h = -1 := fun e => hC (by rw [HP.out.2.1, e]; decide)
       have HAC : Hid (acN T.nx r y = T.nx ∧ acL T.tm T.nx r y = y ∧ acK r y = 5) := by
        unfold acN acL acK stK
        rw [HKD.out]
        simp only [show ¬ (2 : Int) = 1 by decide, if_false, if_true, hyb, Bool.false_eq_true, hyc, hyh, if_false]
        exact ⟨trivial, trivial, trivial⟩
       obtain ⟨tq, qq, _, _⟩ := HX.out _ G6.out
       have HM : Hid (∀ j u, (clL p)[j]? = some u → w6.cell? ⟨g, k * 5 + j, none⟩ = some u) := fun j u hj => by
        obtain ⟨g', cap', e, _, _, _, hc⟩ := tq.row HP.out.1
        cases e
        exact (hc j u hj).1
       have m0 : w6.cell? ⟨g, k * 5, none⟩ = some (.string p.1.n) := HM.out 0 (.string p.1.n) rfl
       have m1 := HM.out 1 (.int .i64 p.1.t) rfl
       have m2 := HM.out 2 (.int .i64 p.1.h) rfl
       have m3 := HM.out 3 (.int .i64 p.1.e) rfl
       have m4 := HM.out 4 (.slice p.2.1 p.1.ws.length p.2.2) rfl
       have c0 := (blk_cell qq 0 (x := .int .i64 r.cl) rfl).1
       have c2 := (blk_cell qq 2 (x := .int .i64 r.kd) rfl).1
       have c3 := (blk_cell qq 3 (x := .int .i64 r.le) rfl).1
       have x0 := (blk_cell tq.hx 0 (x := .int .i64 T.tm) rfl).1
       have x2 := (blk_cell tq.hx 2 (x := .slice (some ⟨g, 0, none⟩) ps.length cap) rfl).1
       clear tq qq HM
       have HTL : Hid (∀ W, Calls Tryd.prog 116 #[.int .i64 5, .agg #[.string p.1.n, .int .i64 p.1.t, .int .i64 p.1.h, .int .i64 p.1.e, .slice p.2.1 p.1.ws.length p.2.2]] W fun e w' => e = .returned (.agg #[.int .i64 5, .int .i64 p.1.t, .int .i64 p.1.h, .int .i64 p.1.e]) ∧ Below W.heap.size W w') := fun W => l05Tell_any 5 p.1 (uV p) W
       go_wp2_with fail
       refine (HTL.out _).mono ?_
       rintro e w5 ⟨rfl, b5⟩
       have G5 : Hid (Below w2.heap.size w2 w5) := G6.out.trans (b5.mono G6.out.size)
       clear b5 m0 m1 m2 m3 m4 c0 c2 c3 x0 x2 HTL
       have AX : Hid (w5.heap[w.heap.size + 1]? = some (.cells #[.int .i64 0, .int .i64 0, .int .i64 0, .int .i64 0] 55 (0, 0))) := (HX.out _ G5.out).2.2.1
       have RFH : Hid _ := ans_put AX.out (HX.out _ G5.out).1 (HX.out _ G5.out).2.2.2 (by omega) (Nat.le_succ_of_le hsB.out) (.int .i64 5) (.int .i64 p.1.t) (.int .i64 p.1.h) (.int .i64 p.1.e)
       obtain ⟨n0, f0⟩ := blk_cell AX.out 0 (x := .int .i64 0) rfl
       obtain ⟨n1, f1⟩ := blk_cell AX.out 1 (x := .int .i64 0) rfl
       obtain ⟨n2, f2⟩ := blk_cell AX.out 2 (x := .int .i64 0) rfl
       obtain ⟨n3, f3⟩ := blk_cell AX.out 3 (x := .int .i64 0) rfl
       go_wp2_with fail
       generalize ((((w5.setCell ⟨w.heap.size + 1, 0, none⟩ (.int .i64 5)).setCell ⟨w.heap.size + 1, 1, none⟩ (.int .i64 p.1.t)).setCell ⟨w.heap.size + 1, 2, none⟩ (.int .i64 p.1.h)).setCell ⟨w.heap.size + 1, 3, none⟩ (.int .i64 p.1.e)) = wf at RFH ⊢
       have d0 := (blk_cell RFH.out.1 0 (x := .int .i64 5) rfl).1
       have d1 := (blk_cell RFH.out.1 1 (x := .int .i64 p.1.t) rfl).1
       have d2 := (blk_cell RFH.out.1 2 (x := .int .i64 p.1.h) rfl).1
       have d3 := (blk_cell RFH.out.1 3 (x := .int .i64 p.1.e) rfl).1
       refine bodyPost_ret (v := .agg #[.int .i64 5, .int .i64 p.1.t, .int .i64 p.1.h, .int .i64 p.1.e]) (by simp [results, Tryd.results101, go_sem, d0, d1, d2, d3]) rfl ?_
       refine ⟨?_, ⟨.slice (some ⟨g, 0, none⟩) ps.length cap, v3, ps, ?_⟩, RFH.out.2.2⟩
       ·rw [HDO.out, HAC.out.1, HAC.out.2.1, HAC.out.2.2, ← HP.out.2.1]; rfl
       ·rw [HDO.out, HAC.out.1, HAC.out.2.1, set_same HP.out.2.2.1]; exact RFH.out.2.1
  ·have k3 : r.kd = 3 := by omega
   have HKD : Hid (r.kd = 3) := k3
   have hk2 : (r.kd == 2) = false := by simp [k3]
   have hk3 : (r.kd == 3) = true := by simp [k3]
   clear k4 k2 k3 HRW
   go_upto_region 16 with fail
   by_cases hA : p.1.h = r.cl
   ·have hyc : y.h = r.cl := by rw [← HP.out.2.1]; exact hA
    have hA' : (p.1.h != r.cl) = false := by simp [hA]
    clear hA
    have HAC : Hid (acN T.nx r y = T.nx ∧ acL T.tm T.nx r y = { y with e := T.tm + r.le } ∧ acK r y = 1) := by
     unfold acN acL acK stK
     rw [HKD.out]
     simp only [show ¬ (3 : Int) = 1 by decide, show ¬ (3 : Int) = 2 by decide, if_false, if_true, hyc]
     exact ⟨trivial, trivial, trivial⟩
    obtain ⟨X, hX, W, QI0, QO0⟩ := Qc.klass w3
    have QI : Hid (∀ w', Below w3.heap.size w3 w' → ∃ x, w' = W x) := QI0
    have QO : Hid (∀ x, Below w3.heap.size w3 (W x)) := QO0
    clear QI0 QO0
    have y0 := Qc.cell_all QO.out m0
    have y1 := Qc.cell_all QO.out m1
    have y2 := Qc.cell_all QO.out m2
    have y3 := Qc.cell_all QO.out m3
    have y4 := Qc.cell_all QO.out m4
    have z0 := Qc.cell_all QO.out c0
    refine Qc.region_class (W := W) (by kernel_rfl) (by kernel_rfl) (QI.out _ Qc.from_drew) ?_
    repeat (go_big_quiet_step (fail))
    refine wpQuiet_nil ?_
    rintro _ ⟨xq, rfl⟩
    have G6 : Hid (Below w2.heap.size w2 (W xq)) := G3.out.trans ((QO.out xq).mono G3.out.size)
    clear y0 y1 y2 y3 y4 z0 QO QI m0 m1 m2 m3 m4 c0 c2 c3 x0 x2 G3
    generalize W xq = w6 at G6 ⊢
    have HX6 : Hid (∀ W, Below w6.heap.size w6 W → TM w0 W B x T (.slice (some ⟨g, 0, none⟩) ps.length cap) v3 ps ∧ W.heap[w.heap.size]? = some (.cells #[.int .i64 r.cl, .int .i64 r.st, .int .i64 r.kd, .int .i64 r.le, .string r.nm] 123 (0, 0)) ∧ W.heap[w.heap.size + 1]? = some (.cells #[.int .i64 0, .int .i64 0, .int .i64 0, .int .i64 0] 55 (0, 0)) ∧ Oth w W) := fun W hW => HX.out W (G6.out.trans (hW.mono G6.out.size))
    have HAD : Hid (∀ W, Calls Tryd.prog 118 #[.int .i64 T.tm, .int .i64 r.le] W fun e w' => e = .returned (.int .i64 (T.tm + r.le)) ∧ w' = W) := fun W => HADD.out W
    have c2 := (blk_cell (HX6.out w6 (Below.refl _ _)).2.1 2 (x := .int .i64 r.kd) rfl).1
    have HS6 : Hid (∀ W, Below w6.heap.size w6 W → W.cell? ⟨x, 0, none⟩ = some (.int .i64 T.tm) ∧ W.cell? ⟨w.heap.size, 3, none⟩ = some (.int .i64 r.le)) := fun W hW => ⟨(blk_cell (HX6.out W hW).1.hx 0 rfl).1, (blk_cell (HX6.out W hW).2.1 3 rfl).1⟩
    go_upto_region 21 with fail
    clear c2
    refine wp_region_noPanic ?_
    refine wp_region_Z 10 (S := fun W => W.cell? ⟨x, 0, none⟩ = some (.int .i64 T.tm) ∧ W.cell? ⟨w.heap.size, 3, none⟩ = some (.int .i64 r.le)) (by kernel_rfl) (HS6.out _ (Below.refl w6.heap.size w6).drew) (fun hHeld => ?_)
    refine wpZ_take (i := 0) 4 (oi := ⟨some 102, .move (.tmp 6), 158, "l05_locks.go:176", #[], none⟩) (v := ?v17) rfl (by kernel_rfl) (by kernel_rfl) (by kernel_rfl) (by kernel_rfl) (fun _ _ _ h => h) (by kernel_rfl) (Or.inl ⟨by rfl, ?h17⟩) hHeld ?r17
    case h17 => (intro wz hz; (try dsimp only at hz); obtain ⟨y0, y3⟩ := hz; go_simp; try (with_reducible rfl))
    simp only [Act.put, List.setIfInBounds_toArray, List.set_cons_zero, List.set_cons_succ]
    refine wpZ_take (i := 1) 4 (oi := ⟨some 103, .move (.tmp 0), 147, "l05_locks.go:176", #[], none⟩) (v := ?v18) rfl (by kernel_rfl) (by kernel_rfl) (by kernel_rfl) (by kernel_rfl) (fun _ _ _ h => h) (by kernel_rfl) (Or.inl ⟨by rfl, ?h18⟩) hHeld ?r18
    case h18 => (intro wz hz; (try dsimp only at hz); obtain ⟨y0, y3⟩ := hz; go_simp; try (with_reducible rfl))
    simp only [Act.put, List.setIfInBounds_toArray, List.set_cons_zero, List.set_cons_succ]
    refine wpZ_take (i := 2) 4 (oi := ⟨some 104, .nilCheck (.tmp 103), 0, "l05_locks.go:176", #[⟨1, .data⟩], none⟩) (v := ?v19) rfl (by kernel_rfl) (by kernel_rfl) (by kernel_rfl) (by kernel_rfl) (fun _ _ _ h => h) (by kernel_rfl) (Or.inl ⟨by rfl, ?h19⟩) hHeld ?r19
    case h19 => (intro wz hz; (try dsimp only at hz); obtain ⟨y0, y3⟩ := hz; go_simp; try (with_reducible rfl))
    simp only [Act.put, List.setIfInBounds_toArray, List.set_cons_zero, List.set_cons_succ]
    refine wpZ_take (i := 3) 4 (oi := ⟨some 105, .fieldAddr 26 (.tmp 104) 0, 0, "l05_locks.go:176", #[⟨2, .data⟩], none⟩) (v := ?v20) rfl (by kernel_rfl) (by kernel_rfl) (by kernel_rfl) (by kernel_rfl) (fun _ _ _ h => h) (by kernel_rfl) (Or.inl ⟨by rfl, ?h20⟩) hHeld ?r20
    case h20 => (intro wz hz; (try dsimp only at hz); obtain ⟨y0, y3⟩ := hz; go_simp; try (with_reducible rfl))
    simp only [Act.put, List.setIfInBounds_toArray, List.set_cons_zero, List.set_cons_succ]
    refine wpZ_take (i := 4) 4 (oi := ⟨some 106, .load 3 (.tmp 105), 3, "l05_locks.go:176", #[⟨3, .data⟩], none⟩) (v := ?v21) rfl (by kernel_rfl) (by kernel_rfl) (by kernel_rfl) (by kernel_rfl) (fun _ _ _ h => h) (by kernel_rfl) (Or.inl ⟨by rfl, ?h21⟩) hHeld ?r21
    case h21 => (intro wz hz; (try dsimp only at hz); obtain ⟨y0, y3⟩ := hz; go_simp; try (with_reducible rfl))
    simp only [Act.put, List.setIfInBounds_toArray, List.set_cons_zero, List.set_cons_succ]
    refine wpZ_take (i := 5) 4 (oi := ⟨some 107, .fieldAddr 123 (.tmp 3) 3, 0, "l05_locks.go:176", #[], none⟩) (v := ?v22) rfl (by kernel_rfl) (by kernel_rfl) (by kernel_rfl) (by kernel_rfl) (fun _ _ _ h => h) (by kernel_rfl) (Or.inl ⟨by rfl, ?h22⟩) hHeld ?r22
    case h22 => (intro wz hz; (try dsimp only at hz); obtain ⟨y0, y3⟩ := hz; go_simp; try (with_reducible rfl))
    simp only [Act.put, List.setIfInBounds_toArray, List.set_cons_zero, List.set_cons_succ]
    refine wpZ_take (i := 6) 4 (oi := ⟨some 108, .load 3 (.tmp 107), 3, "l05_locks.go:176", #[⟨5, .data⟩], none⟩) (v := ?v23) rfl (by kernel_rfl) (by kernel_rfl) (by kernel_rfl) (by kernel_rfl) (fun _ _ _ h => h) (by kernel_rfl) (Or.inl ⟨by rfl, ?h23⟩) hHeld ?r23
    case h23 => (intro wz hz; (try dsimp only at hz); obtain ⟨y0, y3⟩ := hz; go_simp; try (with_reducible rfl))
    simp only [Act.put, List.setIfInBounds_toArray, List.set_cons_zero, List.set_cons_succ]
    refine wpZ_ready (rs := [7]) (by kernel_rfl) (by simp) ?_
    refine (ReadyZ.cons (o := ⟨some 109, .call { callee := Callee.value (Operand.func 118), args := #[Operand.tmp 106, Operand.tmp 108], argTypes := #[3, 3] }, 3, "l05_locks.go:176", #[⟨4, .data⟩, ⟨6, .data⟩], none⟩) rfl (fun K hK => ?_) ReadyZ.nil)
    go_simp
    go_at_call 118
    refine (HAD.out _).mono ?_
    rintro e w7 ⟨rfl, hw7⟩
    subst hw7
    try go_simp
    refine hK.out _ _ ?_ (fun hHeld => ?_)
    ·exact HS6.out _ (Below.refl w6.heap.size w6).drew
    clear hK K
    (try simp only [Act.put, List.setIfInBounds_toArray, List.set_cons_zero, List.set_cons_succ])
    refine wpZ_take (i := 8) 4 (oi := ⟨some 110, .nilCheck (.tmp 102), 0, "l05_locks.go:176", #[⟨0, .data⟩, ⟨0, .phase⟩, ⟨1, .phase⟩, ⟨2, .phase⟩, ⟨3, .phase⟩, ⟨4, .phase⟩, ⟨5, .phase⟩, ⟨6, .phase⟩, ⟨7, .phase⟩], none⟩) (v := ?v24) rfl (by kernel_rfl) (by kernel_rfl) (by kernel_rfl) (by kernel_rfl) (fun _ _ _ h => h) (by kernel_rfl) (Or.inl ⟨by rfl, ?h24⟩) hHeld ?r24
    case h24 => (intro wz hz; (try dsimp only at hz); obtain ⟨y0, y3⟩ := hz; go_simp; try (with_reducible rfl))
    simp only [Act.put, List.setIfInBounds_toArray, List.set_cons_zero, List.set_cons_succ]
    refine wpZ_take (i := 9) 4 (oi := ⟨some 111, .fieldAddr 52 (.tmp 110) 3, 0, "l05_locks.go:176", #[⟨8, .data⟩, ⟨0, .phase⟩, ⟨1, .phase⟩, ⟨2, .phase⟩, ⟨3, .phase⟩, ⟨4, .phase⟩, ⟨5, .phase⟩, ⟨6, .phase⟩, ⟨7, .phase⟩], none⟩) (v := ?v25) rfl (by kernel_rfl) (by kernel_rfl) (by kernel_rfl) (by kernel_rfl) (fun _ _ _ h => h) (by kernel_rfl) (Or.inl ⟨by rfl, ?h25⟩) hHeld ?r25
    case h25 => (intro wz hz; (try dsimp only at hz); obtain ⟨y0, y3⟩ := hz; go_simp; try (with_reducible rfl))
    simp only [Act.put, List.setIfInBounds_toArray, List.set_cons_zero, List.set_cons_succ]
    refine wpZ_ready (rs := [10]) (by kernel_rfl) (by simp) ?_
    refine ReadyZ.last (o := ⟨none, .store 3 (.tmp 111) (.tmp 109), 0, "l05_locks.go:176", #[⟨9, .data⟩, ⟨7, .data⟩, ⟨7, .chain⟩, ⟨0, .phase⟩, ⟨1, .phase⟩, ⟨2, .phase⟩, ⟨3, .phase⟩, ⟨4, .phase⟩, ⟨5, .phase⟩, ⟨6, .phase⟩, ⟨7, .phase⟩], none⟩) rfl (fun K hK => ?_)
    have s67 := HX6.out _ (Below.refl w6.heap.size w6).drew
    obtain ⟨g', cap', e, _, _, _, hc⟩ := s67.1.row HP.out.1
    cases e
    obtain ⟨z2, f2⟩ := hc 3 (.int .i64 p.1.e) rfl
    clear hc
    go_simp
    refine hK.out _ _ ?_
    clear hK K
    (try simp only [Act.put, List.setIfInBounds_toArray, List.set_cons_zero, List.set_cons_succ])
    refine wpZ_done (by kernel_rfl) ?_ _
    refine NoPanic.normal ?_
    have T7 : Hid (TM w0 (w6.setCell ⟨g, k * 5 + 3, none⟩ (.int .i64 (T.tm + r.le))).drew B x { T with ls := T.ls.set k { p.1 with e := T.tm + r.le } } (.slice (some ⟨g, 0, none⟩) ps.length cap) v3 (ps.set k ({ p.1 with e := T.tm + r.le }, p.2)) ∧ (w6.setCell ⟨g, k * 5 + 3, none⟩ (.int .i64 (T.tm + r.le))).drew.heap[w.heap.size + 1]? = some (.cells #[.int .i64 0, .int .i64 0, .int .i64 0, .int .i64 0] 55 (0, 0)) ∧ Oth w (w6.setCell ⟨g, k * 5 + 3, none⟩ (.int .i64 (T.tm + r.le))).drew) := by
     have s68 := HX6.out w6 (Below.refl _ _)
     obtain ⟨cl, hcl⟩ := own_block s68.1.ol (g := g) rfl
     exact ⟨(s68.1.put (q := ({ p.1 with e := T.tm + r.le }, p.2)) HP.out.1 rfl (by decide) (s68.1.ow p (List.mem_of_getElem? HP.out.1)) (s68.1.ap.set HP.out.1 rfl) HP.out.2.2.2).up (Below.refl _ _).drew, (blk_far (kind_ne s68.2.2.1 hcl (by decide)) _ _).trans s68.2.2.1, (s68.2.2.2.trans (s68.1.othL _ _)).drew⟩
    clear s67 z2 f2 hHeld HX6 HS6 HAD
    try simp only [Nat.add_zero]
    generalize (w6.setCell ⟨g, k * 5 + 3, none⟩ (.int .i64 (T.tm + r.le))).drew = w7 at T7 ⊢
    have HM5 : Hid (∀ j u, (clL (({ p.1 with e := T.tm + r.le } : Lk), p.2))[j]? = some u → w7.cell? ⟨g, k * 5 + j, none⟩ = some u) := fun j u hj => by
     obtain ⟨g', cap', e, _, _, _, hc⟩ := T7.out.1.row (set_at HP.out.1)
     rw [List.length_set] at e
     cases e
     exact (hc j u hj).1
    have m0 : w7.cell? ⟨g, k * 5, none⟩ = some (.string p.1.n) := HM5.out 0 _ rfl
    have m1 := HM5.out 1 (.int .i64 p.1.t) rfl
    have m2 := HM5.out 2 (.int .i64 p.1.h) rfl
    have m3 := HM5.out 3 (.int .i64 (T.tm + r.le)) rfl
    have m4 := HM5.out 4 (.slice p.2.1 p.1.ws.length p.2.2) rfl
    have x2 := (blk_cell T7.out.1.hx 2 (x := .slice (some ⟨g, 0, none⟩) ps.length cap) rfl).1
    have HTL : Hid (∀ W, Calls Tryd.prog 116 #[.int .i64 1, .agg #[.string p.1.n, .int .i64 p.1.t, .int .i64 p.1.h, .int .i64 (T.tm + r.le), .slice p.2.1 p.1.ws.length p.2.2]] W fun e w' => e = .returned (.agg #[.int .i64 1, .int .i64 p.1.t, .int .i64 p.1.h, .int .i64 (T.tm + r.le)]) ∧ Below W.heap.size W w') := fun W => l05Tell_any 1 ((({ p.1 with e := T.tm + r.le } : Lk), p.2)).1 (uV (({ p.1 with e := T.tm + r.le } : Lk), p.2)) W
    clear HM5
    go_wp2_with fail
    refine (HTL.out _).mono ?_
    rintro e w8 ⟨rfl, b8⟩
    have T8 : Hid (TM w0 w8 B x { T with ls := T.ls.set k { p.1 with e := T.tm + r.le } } (.slice (some ⟨g, 0, none⟩) ps.length cap) v3 (ps.set k (({ p.1 with e := T.tm + r.le } : Lk), p.2)) ∧ w8.heap[w.heap.size + 1]? = some (.cells #[.int .i64 0, .int .i64 0, .int .i64 0, .int .i64 0] 55 (0, 0)) ∧ Oth w w8) := ⟨T7.out.1.up b8, (b8.block _ (Array.getElem?_eq_some_iff.1 T7.out.2.1).1).trans T7.out.2.1, T7.out.2.2.trans (Oth.of_below b8)⟩
    clear b8 m0 m1 m2 m3 m4 x2 HTL
    have AX : Hid (w8.heap[w.heap.size + 1]? = some (.cells #[.int .i64 0, .int .i64 0, .int .i64 0, .int .i64 0] 55 (0, 0))) := T8.out.2.1
    have RFH : Hid _ := ans_put AX.out T8.out.1 T8.out.2.2 (by omega) (Nat.le_succ_of_le hsB.out) (.int .i64 1) (.int .i64 p.1.t) (.int .i64 p.1.h) (.int .i64 (T.tm + r.le))
    clear T8
    obtain ⟨n0, f0⟩ := blk_cell AX.out 0 (x := .int .i64 0) rfl
    obtain ⟨n1, f1⟩ := blk_cell AX.out 1 (x := .int .i64 0) rfl
    obtain ⟨n2, f2⟩ := blk_cell AX.out 2 (x := .int .i64 0) rfl
    obtain ⟨n3, f3⟩ := blk_cell AX.out 3 (x := .int .i64 0) rfl
    go_wp2_with fail
    generalize ((((w8.setCell ⟨w.heap.size + 1, 0, none⟩ (.int .i64 1)).setCell ⟨w.heap.size + 1, 1, none⟩ (.int .i64 p.1.t)).setCell ⟨w.heap.size + 1, 2, none⟩ (.int .i64 p.1.h)).setCell ⟨w.heap.size + 1, 3, none⟩ (.int .i64 (T.tm + r.le))) = wf at RFH ⊢
    have d0 := (blk_cell RFH.out.1 0 (x := .int .i64 1) rfl).1
    have d1 := (blk_cell RFH.out.1 1 (x := .int .i64 p.1.t) rfl).1
    have d2 := (blk_cell RFH.out.1 2 (x := .int .i64 p.1.h) rfl).1
    have d3 := (blk_cell RFH.out.1 3 (x := .int .i64 (T.tm + r.le)) rfl).1
    refine bodyPost_ret (v := .agg #[.int .i64 1, .int .i64 p.1.t, .int .i64 p.1.h, .int .i64 (T.tm + r.le)]) (by simp [results, Tryd.results101, go_sem, d0, d1, d2, d3]) rfl ?_
    refine ⟨?_, ⟨.slice (some ⟨g, 0, none⟩) ps.length cap, v3, ps.set k (({ p.1 with e := T.tm + r.le } : Lk), p.2), ?_⟩, RFH.out.2.2⟩
    ·rw [HDO.out, HAC.out.1, HAC.out.2.1, HAC.out.2.2, ← HP.out.2.1]; rfl
    ·rw [HDO.out, HAC.out.1, HAC.out.2.1, ← HP.out.2.1]; exact RFH.out.2.1
   ·have hyc : ¬ y.h = r.cl := by rw [← HP.out.2.1]; exact hA
    have hA' : (p.1.h != r.cl) = true := by simp [hA]
    clear hA
    obtain ⟨X, hX, W, QI0, QO0⟩ := Qc.klass w3
    have QI : Hid (∀ w', Below w3.heap.size w3 w' → ∃ x, w' = W x) := QI0
    have QO : Hid (∀ x, Below w3.heap.size w3 (W x)) := QO0
    clear QI0 QO0
    have y0 := Qc.cell_all QO.out m0
    have y1 := Qc.cell_all QO.out m1
    have y2 := Qc.cell_all QO.out m2
    have y3 := Qc.cell_all QO.out m3
    have y4 := Qc.cell_all QO.out m4
    have z0 := Qc.cell_all QO.out c0
    refine Qc.region_class (W := W) (by kernel_rfl) (by kernel_rfl) (QI.out _ Qc.from_drew) ?_
    repeat (go_big_quiet_step (fail))
    refine wpQuiet_nil ?_
    rintro _ ⟨xq, rfl⟩
    have G6 : Hid (Below w2.heap.size w2 (W xq)) := G3.out.trans ((QO.out xq).mono G3.out.size)
    clear y0 y1 y2 y3 y4 z0 QO QI m0 m1 m2 m3 m4 c0 c2 c3 x0 x2 G3
    generalize W xq = w6 at G6 ⊢
    by_cases hC : p.1.h < 0
    ·have hyh : y.h = -1 := HNEG.out hC
     have hyx : ¬ (-1 : Int) = r.cl := by omega
     have HAC : Hid (acN T.nx r y = T.nx ∧ acL T.tm T.nx r y = y ∧ acK r y = 4) := by
      unfold acN acL acK stK
      rw [HKD.out]
      simp only [show ¬ (3 : Int) = 1 by decide, show ¬ (3 : Int) = 2 by decide, if_false, if_true, hyx, hyh]
      exact ⟨trivial, trivial, trivial⟩
     obtain ⟨tq, qq, _, _⟩ := HX.out _ G6.out
     have HM : Hid (∀ j u, (clL p)[j]? = some u → w6.cell? ⟨g, k * 5 + j, none⟩ = some u) := fun j u hj => by
      obtain ⟨g', cap', e, _, _, _, hc⟩ := tq.row HP.out.1
      cases e
      exact (hc j u hj).1
     have m0 : w6.cell? ⟨g, k * 5, none⟩ = some (.string p.1.n) := HM.out 0 (.string p.1.n) rfl
     have m1 := HM.out 1 (.int .i64 p.1.t) rfl
     have m2 := HM.out 2 (.int .i64 p.1.h) rfl
     have m3 := HM.out 3 (.int .i64 p.1.e) rfl
     have m4 := HM.out 4 (.slice p.2.1 p.1.ws.length p.2.2) rfl
     have c0 := (blk_cell qq 0 (x := .int .i64 r.cl) rfl).1
     have c2 := (blk_cell qq 2 (x := .int .i64 r.kd) rfl).1
     have c3 := (blk_cell qq 3 (x := .int .i64 r.le) rfl).1
     have x0 := (blk_cell tq.hx 0 (x := .int .i64 T.tm) rfl).1
     have x2 := (blk_cell tq.hx 2 (x := .slice (some ⟨g, 0, none⟩) ps.length cap) rfl).1
     clear tq qq HM
     have HTL : Hid (∀ W, Calls Tryd.prog 116 #[.int .i64 4, .agg #[.string p.1.n, .int .i64 p.1.t, .int .i64 p.1.h, .int .i64 p.1.e, .slice p.2.1 p.1.ws.length p.2.2]] W fun e w' => e = .returned (.agg #[.int .i64 4, .int .i64 p.1.t, .int .i64 p.1.h, .int .i64 p.1.e]) ∧ Below W.heap.size W w') := fun W => l05Tell_any 4 p.1 (uV p) W
     go_wp2_with fail
     refine (HTL.out _).mono ?_
     rintro e w5 ⟨rfl, b5⟩
     have G5 : Hid (Below w2.heap.size w2 w5) := G6.out.trans (b5.mono G6.out.size)
     clear b5 m0 m1 m2 m3 m4 c0 c2 c3 x0 x2 HTL
     have AX : Hid (w5.heap[w.heap.size + 1]? = some (.cells #[.int .i64 0, .int .i64 0, .int .i64 0, .int .i64 0] 55 (0, 0))) := (HX.out _ G5.out).2.2.1
     have RFH : Hid _ := ans_put AX.out (HX.out _ G5.out).1 (HX.out _ G5.out).2.2.2 (by omega) (Nat.le_succ_of_le hsB.out) (.int .i64 4) (.int .i64 p.1.t) (.int .i64 p.1.h) (.int .i64 p.1.e)
     obtain ⟨n0, f0⟩ := blk_cell AX.out 0 (x := .int .i64 0) rfl
     obtain ⟨n1, f1⟩ := blk_cell AX.out 1 (x := .int .i64 0) rfl
     obtain ⟨n2, f2⟩ := blk_cell AX.out 2 (x := .int .i64 0) rfl
     obtain ⟨n3, f3⟩ := blk_cell AX.out 3 (x := .int .i64 0) rfl
     go_wp2_with fail
     generalize ((((w5.setCell ⟨w.heap.size + 1, 0, none⟩ (.int .i64 4)).setCell ⟨w.heap.size + 1, 1, none⟩ (.int .i64 p.1.t)).setCell ⟨w.heap.size + 1, 2, none⟩ (.int .i64 p.1.h)).setCell ⟨w.heap.size + 1, 3, none⟩ (.int .i64 p.1.e)) = wf at RFH ⊢
     have d0 := (blk_cell RFH.out.1 0 (x := .int .i64 4) rfl).1
     have d1 := (blk_cell RFH.out.1 1 (x := .int .i64 p.1.t) rfl).1
     have d2 := (blk_cell RFH.out.1 2 (x := .int .i64 p.1.h) rfl).1
     have d3 := (blk_cell RFH.out.1 3 (x := .int .i64 p.1.e) rfl).1
     refine bodyPost_ret (v := .agg #[.int .i64 4, .int .i64 p.1.t, .int .i64 p.1.h, .int .i64 p.1.e]) (by simp [results, Tryd.results101, go_sem, d0, d1, d2, d3]) rfl ?_
     refine ⟨?_, ⟨.slice (some ⟨g, 0, none⟩) ps.length cap, v3, ps, ?_⟩, RFH.out.2.2⟩
     ·rw [HDO.out, HAC.out.1, HAC.out.2.1, HAC.out.2.2, ← HP.out.2.1]; rfl
     ·rw [HDO.out, HAC.out.1, HAC.out.2.1, set_same HP.out.2.2.1]; exact RFH.out.2.1
    ·have hyh : ¬ y.h = -1 := fun e => hC (by rw [HP.out.2.1, e]; decide)
     have HAC : Hid (acN T.nx r y = T.nx ∧ acL T.tm T.nx r y = y ∧ acK r y = 5) := by
      unfold acN acL acK stK
      rw [HKD.out]
      simp only [show ¬ (3 : Int) = 1 by decide, show ¬ (3 : Int) = 2 by decide, if_false, if_true, hyc, hyh, if_false]
      exact ⟨trivial, trivial, trivial⟩
     obtain ⟨tq, qq, _, _⟩ := HX.out _ G6.out
     have HM : Hid (∀ j u, (clL p)[j]? = some u → w6.cell? ⟨g, k * 5 + j, none⟩ = some u) := fun j u hj => by
      obtain ⟨g', cap', e, _, _, _, hc⟩ := tq.row HP.out.1
      cases e
      exact (hc j u hj).1
     have m0 : w6.cell? ⟨g, k * 5, none⟩ = some (.string p.1.n) := HM.out 0 (.string p.1.n) rfl
     have m1 := HM.out 1 (.int .i64 p.1.t) rfl
     have m2 := HM.out 2 (.int .i64 p.1.h) rfl
     have m3 := HM.out 3 (.int .i64 p.1.e) rfl
     have m4 := HM.out 4 (.slice p.2.1 p.1.ws.length p.2.2) rfl
     have c0 := (blk_cell qq 0 (x := .int .i64 r.cl) rfl).1
     have c2 := (blk_cell qq 2 (x := .int .i64 r.kd) rfl).1
     have c3 := (blk_cell qq 3 (x := .int .i64 r.le) rfl).1
     have x0 := (blk_cell tq.hx 0 (x := .int .i64 T.tm) rfl).1
     have x2 := (blk_cell tq.hx 2 (x := .slice (some ⟨g, 0, none⟩) ps.length cap) rfl).1
     clear tq qq HM
     have HTL : Hid (∀ W, Calls Tryd.prog 116 #[.int .i64 5, .agg #[.string p.1.n, .int .i64 p.1.t, .int .i64 p.1.h, .int .i64 p.1.e, .slice p.2.1 p.1.ws.length p.2.2]] W fun e w' => e = .returned (.agg #[.int .i64 5, .int .i64 p.1.t, .int .i64 p.1.h, .int .i64 p.1.e]) ∧ Below W.heap.size W w') := fun W => l05Tell_any 5 p.1 (uV p) W
     go_wp2_with fail
     refine (HTL.out _).mono ?_
     rintro e w5 ⟨rfl, b5⟩
     have G5 : Hid (Below w2.heap.size w2 w5) := G6.out.trans (b5.mono G6.out.size)
     clear b5 m0 m1 m2 m3 m4 c0 c2 c3 x0 x2 HTL
     have AX : Hid (w5.heap[w.heap.size + 1]? = some (.cells #[.int .i64 0, .int .i64 0, .int .i64 0, .int .i64 0] 55 (0, 0))) := (HX.out _ G5.out).2.2.1
     have RFH : Hid _ := ans_put AX.out (HX.out _ G5.out).1 (HX.out _ G5.out).2.2.2 (by omega) (Nat.le_succ_of_le hsB.out) (.int .i64 5) (.int .i64 p.1.t) (.int .i64 p.1.h) (.int .i64 p.1.e)
     obtain ⟨n0, f0⟩ := blk_cell AX.out 0 (x := .int .i64 0) rfl
     obtain ⟨n1, f1⟩ := blk_cell AX.out 1 (x := .int .i64 0) rfl
     obtain ⟨n2, f2⟩ := blk_cell AX.out 2 (x := .int .i64 0) rfl
     obtain ⟨n3, f3⟩ := blk_cell AX.out 3 (x := .int .i64 0) rfl
     go_wp2_with fail
     generalize ((((w5.setCell ⟨w.heap.size + 1, 0, none⟩ (.int .i64 5)).setCell ⟨w.heap.size + 1, 1, none⟩ (.int .i64 p.1.t)).setCell ⟨w.heap.size + 1, 2, none⟩ (.int .i64 p.1.h)).setCell ⟨w.heap.size + 1, 3, none⟩ (.int .i64 p.1.e)) = wf at RFH ⊢
     have d0 := (blk_cell RFH.out.1 0 (x := .int .i64 5) rfl).1
     have d1 := (blk_cell RFH.out.1 1 (x := .int .i64 p.1.t) rfl).1
     have d2 := (blk_cell RFH.out.1 2 (x := .int .i64 p.1.h) rfl).1
     have d3 := (blk_cell RFH.out.1 3 (x := .int .i64 p.1.e) rfl).1
     refine bodyPost_ret (v := .agg #[.int .i64 5, .int .i64 p.1.t, .int .i64 p.1.h, .int .i64 p.1.e]) (by simp [results, Tryd.results101, go_sem, d0, d1, d2, d3]) rfl ?_
     refine ⟨?_, ⟨.slice (some ⟨g, 0, none⟩) ps.length cap, v3, ps, ?_⟩, RFH.out.2.2⟩
     ·rw [HDO.out, HAC.out.1, HAC.out.2.1, HAC.out.2.2, ← HP.out.2.1]; rfl
     ·rw [HDO.out, HAC.out.1, HAC.out.2.1, set_same HP.out.2.2.1]; exact RFH.out.2.1
end Go.Proofs.YtakfniknkejgpaaDoor.Ea

/- Plain facts for l05Apply: where a Seen is; a table's memory behind stores elsewhere. -/
namespace Go.Proofs.YtakfniknkejgpaaDoor.Ea
open Go.RowKit Go.Proofs.YtakfniknkejgpaaDoor.Sl Go.Proofs.YtakfniknkejgpaaDoor.By Go.Proofs.YtakfniknkejgpaaDoor.Ap Go.Proofs.YtakfniknkejgpaaDoor.Tb Go.Proofs.YtakfniknkejgpaaDoor.Tw Go.Proofs.YtakfniknkejgpaaDoor.Wa Go.Proofs.YtakfniknkejgpaaDoor.Tp Go.Proofs.YtakfniknkejgpaaDoor.Da
open Go.Proofs.YtakfniknkejgpaaDoor.Lo (LkA uV clL OwnL OwnL.kept OwnL.lt OwnL.below OwnL.row OwnL.slice own_block kind_ne Apart lenL atL)
open Go.Proofs.YtakfniknkejgpaaDoor.Tx (blk_cell blk_set blk_far blk_new bel_new)
open Go.Proofs.YtakfniknkejgpaaDoor.Lf (Fnd l05Find_any)
open Go.Proofs.YtakfniknkejgpaaDoor.Lsh
theorem plP_eq {α : Type} {p : α → Bool} : ∀ (xs : List α) (k : Nat), k ≤ xs.length → (∀ (j : Nat) (x : α), j < k → xs[j]? = some x → p x = true) → (∀ x, xs[k]? = some x → p x = false) → plP p xs = k
 | [], k, hk, _, _ => by simp [plP]; simp at hk; omega
 | y :: r, 0, _, _, h2 => by unfold plP; rw [if_neg (by rw [h2 y rfl]; decide)]
 | y :: r, k + 1, hk, h1, h2 => by
   unfold plP
   rw [if_pos (h1 0 y (by omega) rfl), plP_eq r k (by simpa using hk) (fun j x hj hx => h1 (j + 1) x (by omega) (by simpa using hx)) (fun x hx => h2 x (by simpa using hx))]
theorem seen_lt {ss : List Sn} (h : SsOK ss) : ∀ (k j : Nat) (a b : Sn), j < k → ss[j]? = some a → ss[k]? = some b → a.c < b.c
 | 0, j, _, _, hj, _, _ => by omega
 | k + 1, j, a, b, hj, ha, hb => by
   have h1 := (inB_le (h (k + 1) b hb).1).1
   unfold pc at h1
   rw [if_neg (by omega), Nat.add_sub_cancel] at h1
   have hk : k < ss.length := by have := (List.getElem?_eq_some_iff.1 hb).1; omega
   obtain ⟨c, hc⟩ : ∃ c, ss[k]? = some c := ⟨_, List.getElem?_eq_getElem hk⟩
   rw [List.getD_eq_getElem?_getD, hc] at h1
   simp only [Option.getD_some] at h1
   by_cases e : j = k
   ·subst e
    rw [ha] at hc
    cases hc
    omega
   ·have := seen_lt h k j a c (by omega) ha hc
    omega
theorem seen_place {ss : List Sn} (h : SsOK ss) {c : Int} {k : Nat} {s : Sn} (hs : ss[k]? = some s) (hc : s.c = c) : splc ss c = k ∧ sidx ss c = some k := by
 have hk := (List.getElem?_eq_some_iff.1 hs).1
 constructor
 ·unfold splc
  refine plP_eq ss k (by omega) (fun j x hj hx => ?_) (fun x hx => ?_)
  ·have := seen_lt h k j x s hj hx hs
   simp; omega
  ·rw [hs] at hx; cases hx; simp; omega
 ·unfold sidx
  have key : ∀ (xs : List Sn) (k : Nat) (s : Sn), xs[k]? = some s → s.c = c → (∀ (j : Nat) (x : Sn), j < k → xs[j]? = some x → x.c ≠ c) → fiP (fun s : Sn => s.c == c) xs = some k := by
   intro xs
   induction xs with
   | nil => intro k s hs; simp at hs
   | cons y r ih =>
     intro k s hs hc hb
     unfold fiP
     cases k with
     | zero => simp at hs; subst hs; rw [if_pos (by simpa using hc)]
     | succ k =>
       rw [if_neg (by simpa using hb 0 y (by omega) rfl), ih k s (by simpa using hs) hc (fun j x hj hx => hb (j + 1) x (by omega) (by simpa using hx))]
       rfl
  exact key ss k s hs hc (fun j x hj hx e => by have := seen_lt h k j x s hj hx hs; omega)
theorem seen_none {ss : List Sn} {c : Int} {k : Nat} (hk : splc ss c = k) (hle : SsOK ss) (h : ∀ s, ss[k]? = some s → s.c ≠ c) : sidx ss c = none := by
 cases hi : sidx ss c with
 | none => rfl
 | some j =>
   obtain ⟨s, hs, hc⟩ := fiP_some ss j hi
   have hc' : s.c = c := by simpa using hc
   have := (seen_place hle hs hc').1
   rw [hk] at this
   subst this
   exact absurd hc' (h s hs)
theorem splc_le (ss : List Sn) (c : Int) : splc ss c ≤ ss.length := plP_le _
theorem splc_at {ss : List Sn} {c : Int} {j : Nat} {s : Sn} (hs : ss[j]? = some s) (hj : j ≤ splc ss c) : (j < splc ss c ↔ s.c < c) := by
 unfold splc at hj ⊢
 constructor
 ·intro h
  have := plP_before (p := fun s : Sn => decide (s.c < c)) ss j s h hs
  simpa using this
 ·intro h
  rcases Nat.lt_or_ge j (plP (fun s : Sn => decide (s.c < c)) ss) with h1 | h1
  ·exact h1
  ·have e : j = plP (fun s : Sn => decide (s.c < c)) ss := by omega
   subst e
   have := plP_here (p := fun s : Sn => decide (s.c < c)) ss s hs
   simp at this
   omega
theorem OwnL.mono {w : World} {B B' : Nat} {v : Value} {ps : List LkA} (h : OwnL w B v ps) (hb : B' ≤ B) : OwnL w B' v ps := by
 obtain ⟨hl, h⟩ := h
 refine ⟨hl, ?_⟩
 rcases h with h | ⟨g, cap, cur, rfl, h1, h2⟩
 ·exact .inl h
 ·exact .inr ⟨g, cap, cur, rfl, Nat.le_trans hb h1, h2⟩
theorem TM.fin {w0 W wf : World} {B x n : Nat} {X : Tab} {v2 v3 : Value} {ps : List LkA} (h : TM w0 W B x X v2 v3 ps) (hn : n ≤ B) (hk : ∀ j, B ≤ j → wf.heap[j]? = W.heap[j]?) : OwnL wf n v2 ps ∧ (∀ p ∈ ps, OwnW wf n (uV p) p.1.ws) ∧ OwnS wf n v3 X.ss ∧ ps.map (·.1) = X.ls ∧ Apart ps :=
 ⟨OwnL.mono (h.ol.kept fun g hg => hk g (h.ol.lt g hg).1) hn, fun p hp => OwnW.mono ((h.ow p hp).kept fun g hg => hk g ((h.ow p hp).lt g hg).1) hn, OwnS.mono (h.os.kept fun g hg => hk g (h.os.lt g hg).1) hn, h.eq, h.ap⟩
theorem OwnS.atk {w : World} {B : Nat} {v : Value} {ss : List Sn} (h : OwnS w B v ss) {k : Nat} {s : Sn} (hk : ss[k]? = some s) : ∃ g cap, v = .slice (some ⟨g, 0, none⟩) ss.length cap ∧ B ≤ g ∧ ss.length ≤ cap ∧ (∃ cl, w.heap[g]? = some (.cells cl 57 (0, 0))) ∧ ∀ j u, (clS s)[j]? = some u → w.cell? ⟨g, k * 6 + j, none⟩ = some u ∧ w.frozen? ⟨g, k * 6 + j, none⟩ = false := by
 have hlt : k < ss.length := (List.getElem?_eq_some_iff.1 hk).1
 obtain ⟨hl, h1 | ⟨g, cap, cur, e, hB, hg, hc, hm, hs, htk⟩⟩ := h
 ·rw [h1.2] at hlt; exact absurd hlt (by omega)
 refine ⟨g, cap, e, hB, hc, ⟨cur, hg⟩, fun j u hj => ?_⟩
 have hj6 : j < 6 := (List.getElem?_eq_some_iff.1 hj).1
 have h1 := atS ss k s j hk hj6
 rw [← htk, List.getElem?_take, if_pos (by omega), hj] at h1
 refine ⟨by rw [Joins.cell_of_block hg, ← Array.getElem?_toList]; exact h1, by simp [World.frozen?, hg]⟩
theorem flat_setS : ∀ (ps : List Sn) (k j : Nat) (p q : Sn) (z : Value), ps[k]? = some p → clS q = (clS p).set j z → j < 6 → (ps.flatMap clS).set (k * 6 + j) z = (ps.set k q).flatMap clS
 | [], k, j, p, q, z, h, _, _ => by simp at h
 | a :: r, 0, j, p, q, z, h, hq, hj => by
   simp at h; subst h
   rw [List.flatMap_cons, List.set_cons_zero, List.flatMap_cons, hq, Nat.zero_mul, Nat.zero_add, List.set_append_left _ _ (by show _ < 6; omega)]
 | a :: r, k + 1, j, p, q, z, h, hq, hj => by
   have h' : r[k]? = some p := by simpa using h
   rw [List.flatMap_cons, List.set_cons_succ, List.flatMap_cons, List.set_append_right _ _ (by show 6 ≤ _; omega)]
   rw [show (k + 1) * 6 + j - (clS a).length = k * 6 + j by show _ - 6 = _; omega, flat_setS r k j p q z h' hq hj]
theorem OwnS.setk {w : World} {B : Nat} {g cap n : Nat} {ps : List Sn} (h : OwnS w B (.slice (some ⟨g, 0, none⟩) n cap) ps) {k j : Nat} {p q : Sn} {z : Value} (hk : ps[k]? = some p) (hq : clS q = (clS p).set j z) (hj : j < 6) :
 OwnS (w.setCell ⟨g, k * 6 + j, none⟩ z) B (.slice (some ⟨g, 0, none⟩) n cap) (ps.set k q) := by
 have hlt : k < ps.length := (List.getElem?_eq_some_iff.1 hk).1
 obtain ⟨hl, h1 | ⟨g', cap', cur, e, hB, hg, hc, hm, hs, htk⟩⟩ := h
 ·exact absurd h1.1 (by simp)
 cases e
 refine ⟨by rw [← flat_setS ps k j p q z hk hq hj, List.length_set, List.length_set]; exact hl, .inr ⟨g, cap, cur.setIfInBounds (k * 6 + j) z, by rw [List.length_set], hB, blk_set hg _ _, by rw [List.length_set]; exact hc, hm, by simpa using hs, ?_⟩⟩
 rw [List.length_set, ← flat_setS ps k j p q z hk hq hj, ← htk, Array.toList_setIfInBounds, List.take_set]
theorem TM.sput {w0 w : World} {B x : Nat} {T : Tab} {v2 : Value} {ps : List LkA} {g cap n : Nat} (h : TM w0 w B x T v2 (.slice (some ⟨g, 0, none⟩) n cap) ps) {k j : Nat} {s s' : Sn} {z : Value} (hk : T.ss[k]? = some s) (hq : clS s' = (clS s).set j z) (hj : j < 6) :
 TM w0 (w.setCell ⟨g, k * 6 + j, none⟩ z) B x { T with ss := T.ss.set k s' } v2 (.slice (some ⟨g, 0, none⟩) n cap) ps := by
 obtain ⟨cl, hcl⟩ := own_block h.os (g := g) rfl
 refine ⟨(blk_far (kind_ne h.hx hcl (by decide)) _ _).trans h.hx, h.ol.kept (fun g' hg' => ?_), OwnS.setk h.os hk hq hj, fun p hp => (h.ow p hp).kept (fun g' hg' => ?_), h.ap, h.eq, Below.setCell h.bel (p := ⟨g, _, none⟩) (h.os.lt g rfl).1 z, h.b0, h.le⟩
 ·obtain ⟨c1, h1⟩ := own_block h.ol hg'
  exact blk_far (kind_ne h1 hcl (by decide)) _ _
 ·obtain ⟨c1, h1⟩ := own_block (h.ow p hp) hg'
  exact blk_far (kind_ne h1 hcl (by decide)) _ _
theorem TM.sput6 {w0 w : World} {B x : Nat} {T : Tab} {v2 : Value} {ps : List LkA} {g cap n : Nat} (h : TM w0 w B x T v2 (.slice (some ⟨g, 0, none⟩) n cap) ps) {k : Nat} {s s' : Sn} (hk : T.ss[k]? = some s) :
 TM w0 ((((((w.setCell ⟨g, k * 6, none⟩ (.int .i64 s'.c)).setCell ⟨g, k * 6 + 1, none⟩ (.int .i64 s'.s)).setCell ⟨g, k * 6 + 2, none⟩ (.int .i64 s'.k)).setCell ⟨g, k * 6 + 3, none⟩ (.int .i64 s'.t)).setCell ⟨g, k * 6 + 4, none⟩ (.int .i64 s'.h)).setCell ⟨g, k * 6 + 5, none⟩ (.int .i64 s'.e)) B x { T with ss := T.ss.set k s' } v2 (.slice (some ⟨g, 0, none⟩) n cap) ps := by
 have hlt : k < T.ss.length := (List.getElem?_eq_some_iff.1 hk).1
 have at_set : ∀ (T : Tab) (z : Sn), k < T.ss.length → (T.ss.set k z)[k]? = some z := fun T z h => by rw [List.getElem?_set_self h]
 have s0 := h.sput (j := 0) (s' := { s with c := s'.c }) (z := .int .i64 s'.c) hk rfl (by decide)
 have s1 := s0.sput (j := 1) (k := k) (s := { s with c := s'.c }) (s' := { s with c := s'.c, s := s'.s }) (z := .int .i64 s'.s) (at_set T _ hlt) rfl (by decide)
 have s2 := s1.sput (j := 2) (k := k) (s := { s with c := s'.c, s := s'.s }) (s' := { s with c := s'.c, s := s'.s, k := s'.k }) (z := .int .i64 s'.k) (by simp [hlt]) rfl (by decide)
 have s3 := s2.sput (j := 3) (k := k) (s := { s with c := s'.c, s := s'.s, k := s'.k }) (s' := { s with c := s'.c, s := s'.s, k := s'.k, t := s'.t }) (z := .int .i64 s'.t) (by simp [hlt]) rfl (by decide)
 have s4 := s3.sput (j := 4) (k := k) (s := { s with c := s'.c, s := s'.s, k := s'.k, t := s'.t }) (s' := { s with c := s'.c, s := s'.s, k := s'.k, t := s'.t, h := s'.h }) (z := .int .i64 s'.h) (by simp [hlt]) rfl (by decide)
 have s5 := s4.sput (j := 5) (k := k) (s := { s with c := s'.c, s := s'.s, k := s'.k, t := s'.t, h := s'.h }) (s' := s') (z := .int .i64 s'.e) (by simp [hlt]) rfl (by decide)
 simpa only [List.set_set, Nat.add_zero] using s5
def ApP (w : World) (R : Tab × Da.An) (e : Ending) (w' : World) : Prop := (∃ ul us ps, e = .returned (.tuple #[.agg #[.int .i64 R.1.tm, .int .i64 R.1.nx, ul, us], .agg #[.int .i64 R.2.k, .int .i64 R.2.t, .int .i64 R.2.h, .int .i64 R.2.e]]) ∧ OwnL w' w.heap.size ul ps ∧ (∀ p ∈ ps, OwnW w' w.heap.size (uV p) p.1.ws) ∧ OwnS w' w.heap.size us R.1.ss ∧ ps.map (·.1) = R.1.ls ∧ Apart ps) ∧ Below w.heap.size w w'
theorem l05Do_any {w0 w : World} {B x : Nat} {T : Tab} {v2 v3 : Value} {ps : List LkA} (h : TM w0 w B x T v2 v3 ps) (hT : TOK T) (hn : T.nx ≤ 999999) (r : Da.Ask) (hr : AskOK r) :
 Calls Tryd.prog 101 #[.pointer (some ⟨x, 0, none⟩), .agg #[.int .i64 r.cl, .int .i64 r.st, .int .i64 r.kd, .int .i64 r.le, .string r.nm]] w fun e w' => DoP w0 w B x (doT T r) e w' := by
 by_cases hkd : r.kd = 1
 ·exact l05Do_acq h hT hn r hr hkd
 ·cases hidx : idx T.ls r.nm with
  | none => exact l05Do_none h hT r hkd hidx
  | some k =>
    obtain ⟨y, hy, _⟩ := fiP_some T.ls k hidx
    exact l05Do_some h hT hn r hr hkd hidx hy
theorem Rg_far {w : World} {b k : Nat} (h : k ≠ b) (i : Nat) (v : Value) : (w.setCell ⟨b, i, none⟩ v).heap[k]? = w.heap[k]? := blk_far h i v
theorem far4 {w : World} {a k : Nat} (h : k ≠ a) (v0 v1 v2 v3 : Value) : ((((w.setCell ⟨a, 0, none⟩ v0).setCell ⟨a, 1, none⟩ v1).setCell ⟨a, 2, none⟩ v2).setCell ⟨a, 3, none⟩ v3).heap[k]? = w.heap[k]? := (Rg_far h 3 v3).trans ((Rg_far h 2 v2).trans ((Rg_far h 1 v1).trans (Rg_far h 0 v0)))
theorem set44 {w : World} {a b : Nat} {ta tb : TypeId} (z0 z1 z2 z3 y0 y1 y2 y3 a0 a1 a2 a3 b0 b1 b2 b3 : Value) (hab : a ≠ b) (ha : w.heap[a]? = some (.cells #[z0, z1, z2, z3] ta (0, 0))) (hb : w.heap[b]? = some (.cells #[y0, y1, y2, y3] tb (0, 0))) :
 (((((((((w.setCell ⟨a, 0, none⟩ a0).setCell ⟨a, 1, none⟩ a1).setCell ⟨a, 2, none⟩ a2).setCell ⟨a, 3, none⟩ a3).setCell ⟨b, 0, none⟩ b0).setCell ⟨b, 1, none⟩ b1).setCell ⟨b, 2, none⟩ b2).setCell ⟨b, 3, none⟩ b3).heap[a]? = some (.cells #[a0, a1, a2, a3] ta (0, 0)) ∧ ((((((((w.setCell ⟨a, 0, none⟩ a0).setCell ⟨a, 1, none⟩ a1).setCell ⟨a, 2, none⟩ a2).setCell ⟨a, 3, none⟩ a3).setCell ⟨b, 0, none⟩ b0).setCell ⟨b, 1, none⟩ b1).setCell ⟨b, 2, none⟩ b2).setCell ⟨b, 3, none⟩ b3).heap[b]? = some (.cells #[b0, b1, b2, b3] tb (0, 0)) ∧ (∀ k, k ≠ a → k ≠ b → ((((((((w.setCell ⟨a, 0, none⟩ a0).setCell ⟨a, 1, none⟩ a1).setCell ⟨a, 2, none⟩ a2).setCell ⟨a, 3, none⟩ a3).setCell ⟨b, 0, none⟩ b0).setCell ⟨b, 1, none⟩ b1).setCell ⟨b, 2, none⟩ b2).setCell ⟨b, 3, none⟩ b3).heap[k]? = w.heap[k]?) ∧ ∀ {B : Nat} {w0 : World}, Below B w0 w → B ≤ a → B ≤ b → Below B w0 ((((((((w.setCell ⟨a, 0, none⟩ a0).setCell ⟨a, 1, none⟩ a1).setCell ⟨a, 2, none⟩ a2).setCell ⟨a, 3, none⟩ a3).setCell ⟨b, 0, none⟩ b0).setCell ⟨b, 1, none⟩ b1).setCell ⟨b, 2, none⟩ b2).setCell ⟨b, 3, none⟩ b3)) ∧
 (((((((((w.setCell ⟨b, 0, none⟩ b0).setCell ⟨b, 1, none⟩ b1).setCell ⟨b, 2, none⟩ b2).setCell ⟨b, 3, none⟩ b3).setCell ⟨a, 0, none⟩ a0).setCell ⟨a, 1, none⟩ a1).setCell ⟨a, 2, none⟩ a2).setCell ⟨a, 3, none⟩ a3).heap[a]? = some (.cells #[a0, a1, a2, a3] ta (0, 0)) ∧ ((((((((w.setCell ⟨b, 0, none⟩ b0).setCell ⟨b, 1, none⟩ b1).setCell ⟨b, 2, none⟩ b2).setCell ⟨b, 3, none⟩ b3).setCell ⟨a, 0, none⟩ a0).setCell ⟨a, 1, none⟩ a1).setCell ⟨a, 2, none⟩ a2).setCell ⟨a, 3, none⟩ a3).heap[b]? = some (.cells #[b0, b1, b2, b3] tb (0, 0)) ∧ (∀ k, k ≠ a → k ≠ b → ((((((((w.setCell ⟨b, 0, none⟩ b0).setCell ⟨b, 1, none⟩ b1).setCell ⟨b, 2, none⟩ b2).setCell ⟨b, 3, none⟩ b3).setCell ⟨a, 0, none⟩ a0).setCell ⟨a, 1, none⟩ a1).setCell ⟨a, 2, none⟩ a2).setCell ⟨a, 3, none⟩ a3).heap[k]? = w.heap[k]?) ∧ ∀ {B : Nat} {w0 : World}, Below B w0 w → B ≤ a → B ≤ b → Below B w0 ((((((((w.setCell ⟨b, 0, none⟩ b0).setCell ⟨b, 1, none⟩ b1).setCell ⟨b, 2, none⟩ b2).setCell ⟨b, 3, none⟩ b3).setCell ⟨a, 0, none⟩ a0).setCell ⟨a, 1, none⟩ a1).setCell ⟨a, 2, none⟩ a2).setCell ⟨a, 3, none⟩ a3)) := by
 have sa : ∀ (w : World), w.heap[a]? = some (.cells #[z0, z1, z2, z3] ta (0, 0)) → ((((w.setCell ⟨a, 0, none⟩ a0).setCell ⟨a, 1, none⟩ a1).setCell ⟨a, 2, none⟩ a2).setCell ⟨a, 3, none⟩ a3).heap[a]? = some (.cells #[a0, a1, a2, a3] ta (0, 0)) := fun w h => by
  have := blk_set (blk_set (blk_set (blk_set h 0 a0) 1 a1) 2 a2) 3 a3
  simpa only [List.setIfInBounds_toArray, List.set_cons_zero, List.set_cons_succ] using this
 have sb : ∀ (w : World), w.heap[b]? = some (.cells #[y0, y1, y2, y3] tb (0, 0)) → ((((w.setCell ⟨b, 0, none⟩ b0).setCell ⟨b, 1, none⟩ b1).setCell ⟨b, 2, none⟩ b2).setCell ⟨b, 3, none⟩ b3).heap[b]? = some (.cells #[b0, b1, b2, b3] tb (0, 0)) := fun w h => by
  have := blk_set (blk_set (blk_set (blk_set h 0 b0) 1 b1) 2 b2) 3 b3
  simpa only [List.setIfInBounds_toArray, List.set_cons_zero, List.set_cons_succ] using this
 have fa : ∀ (w : World) (k : Nat), k ≠ a → ((((w.setCell ⟨a, 0, none⟩ a0).setCell ⟨a, 1, none⟩ a1).setCell ⟨a, 2, none⟩ a2).setCell ⟨a, 3, none⟩ a3).heap[k]? = w.heap[k]? := fun w k h => (Rg_far h 3 a3).trans ((Rg_far h 2 a2).trans ((Rg_far h 1 a1).trans (Rg_far h 0 a0)))
 have fb : ∀ (w : World) (k : Nat), k ≠ b → ((((w.setCell ⟨b, 0, none⟩ b0).setCell ⟨b, 1, none⟩ b1).setCell ⟨b, 2, none⟩ b2).setCell ⟨b, 3, none⟩ b3).heap[k]? = w.heap[k]? := fun w k h => (Rg_far h 3 b3).trans ((Rg_far h 2 b2).trans ((Rg_far h 1 b1).trans (Rg_far h 0 b0)))
 have ba : ∀ (w : World) {B : Nat} {w0 : World}, Below B w0 w → B ≤ a → Below B w0 ((((w.setCell ⟨a, 0, none⟩ a0).setCell ⟨a, 1, none⟩ a1).setCell ⟨a, 2, none⟩ a2).setCell ⟨a, 3, none⟩ a3) := fun w B w0 hb h => Below.setCell (Below.setCell (Below.setCell (Below.setCell hb (p := ⟨a, 0, none⟩) h a0) (p := ⟨a, 1, none⟩) h a1) (p := ⟨a, 2, none⟩) h a2) (p := ⟨a, 3, none⟩) h a3
 have bb : ∀ (w : World) {B : Nat} {w0 : World}, Below B w0 w → B ≤ b → Below B w0 ((((w.setCell ⟨b, 0, none⟩ b0).setCell ⟨b, 1, none⟩ b1).setCell ⟨b, 2, none⟩ b2).setCell ⟨b, 3, none⟩ b3) := fun w B w0 hb h => Below.setCell (Below.setCell (Below.setCell (Below.setCell hb (p := ⟨b, 0, none⟩) h b0) (p := ⟨b, 1, none⟩) h b1) (p := ⟨b, 2, none⟩) h b2) (p := ⟨b, 3, none⟩) h b3
 exact ⟨⟨(fb _ a hab).trans (sa w ha), sb _ ((fa w b (Ne.symm hab)).trans hb), fun k h1 h2 => (fb _ k h2).trans (fa w k h1), fun h h1 h2 => bb _ (ba w h h1) h2⟩, ⟨sa _ ((fb w a hab).trans ha), (fa _ b (Ne.symm hab)).trans (sb w hb), fun k h1 h2 => (fa _ k h1).trans (fb w k h2), fun h h1 h2 => ba _ (bb w h h2) h1⟩⟩
end Go.Proofs.YtakfniknkejgpaaDoor.Ea

/- l05Own: a table in memory of its own. -/
namespace Go.Proofs.YtakfniknkejgpaaDoor.Lo
open Go.RowKit Go.Proofs.YtakfniknkejgpaaDoor.Sl Go.Proofs.YtakfniknkejgpaaDoor.By Go.Proofs.YtakfniknkejgpaaDoor.Ap Go.Proofs.YtakfniknkejgpaaDoor.Tb Go.Proofs.YtakfniknkejgpaaDoor.Tw Go.Proofs.YtakfniknkejgpaaDoor.Mw Go.Proofs.YtakfniknkejgpaaDoor.Wa Go.Proofs.YtakfniknkejgpaaDoor.Bk Go.Proofs.YtakfniknkejgpaaDoor.Tp
open Go.Proofs.YtakfniknkejgpaaDoor.Tx (blk_cell blk_set blk_far blk_new bel_new)

set_option maxRecDepth 100000 in
set_option maxHeartbeats 6400000 in
theorem l05Own_all (tm nx : Int) (vl vs : Value) (ls : List Lk) (ss : List Sn) (w : World) (hl : RowL w vl ls) (hs : RowS w vs ss) (hw : ∀ x ∈ ls, x.ws.length ≤ 1000) (hy1 : ls.length ≤ 1000) (hy2 : ss.length ≤ 1000) :
 Calls Tryd.prog 82 #[tabV tm nx vl vs] w fun e w' => ∃ ul us ps, e = .returned (tabV tm nx ul us) ∧ (OwnL w' w.heap.size ul ps ∧ (∀ p ∈ ps, OwnW w' w.heap.size (uV p) p.1.ws) ∧ ps.map (·.1) = ls ∧ Apart ps) ∧ OwnS w' w.heap.size us ss ∧ Below w.heap.size w w' := by
 obtain ⟨la, lc, rfl⟩ := RowG.slice hl
 obtain ⟨sa, sc, rfl⟩ := RowG.slice hs
 unfold tabV
 go_enter Tryd.func82, Tryd.ntmps82
 go_upto_region 1 with fail
 have HX : Hid ((∀ W, Below ((w.alloc (.cells #[.int .i64 tm, .int .i64 nx, .slice la ls.length lc, .slice sa ss.length sc] 26)).alloc (.cells #[.int .i64 0, .int .i64 0, .slice none 0 0, .slice none 0 0] 26)).heap.size ((w.alloc (.cells #[.int .i64 tm, .int .i64 nx, .slice la ls.length lc, .slice sa ss.length sc] 26)).alloc (.cells #[.int .i64 0, .int .i64 0, .slice none 0 0, .slice none 0 0] 26)) W → W.heap[w.heap.size]? = some (.cells #[.int .i64 tm, .int .i64 nx, .slice la ls.length lc, .slice sa ss.length sc] 26 (0, 0)) ∧ W.heap[w.heap.size + 1]? = some (.cells #[.int .i64 0, .int .i64 0, .slice none 0 0, .slice none 0 0] 26 (0, 0)) ∧ RowL W (.slice la ls.length lc) ls ∧ RowS W (.slice sa ss.length sc) ss ∧ Below w.heap.size w W)) := by
  intro W hW
  have k1 := size_new w (.cells #[.int .i64 tm, .int .i64 nx, .slice la ls.length lc, .slice sa ss.length sc] 26)
  have k2 := size_new (w.alloc (.cells #[.int .i64 tm, .int .i64 nx, .slice la ls.length lc, .slice sa ss.length sc] 26)) (.cells #[.int .i64 0, .int .i64 0, .slice none 0 0, .slice none 0 0] 26)
  have hb2 := (bel_new w (.cells #[.int .i64 tm, .int .i64 nx, .slice la ls.length lc, .slice sa ss.length sc] 26)).alloc (by rw [k1]; omega) (.cells #[.int .i64 0, .int .i64 0, .slice none 0 0, .slice none 0 0] 26)
  refine ⟨(hW.block _ (by omega)).trans ((Below.heap_alloc _ _ _ (by omega)).trans (blk_new _ _ _)), (hW.block _ (by omega)).trans ?_, (hl.below hb2).below hW, (hs.below hb2).below hW, hb2.trans (hW.mono (by omega))⟩
  have := blk_new (w.alloc (.cells #[.int .i64 tm, .int .i64 nx, .slice la ls.length lc, .slice sa ss.length sc] 26)) #[.int .i64 0, .int .i64 0, .slice none 0 0, .slice none 0 0] 26
  rw [k1] at this
  exact this
 have HS1 : Hid (((w.alloc (.cells #[.int .i64 tm, .int .i64 nx, .slice la ls.length lc, .slice sa ss.length sc] 26)).alloc (.cells #[.int .i64 0, .int .i64 0, .slice none 0 0, .slice none 0 0] 26)).heap.size = w.heap.size + 2) := by
  show _ = _
  rw [size_new, size_new]
 generalize (w.alloc (.cells #[.int .i64 tm, .int .i64 nx, .slice la ls.length lc, .slice sa ss.length sc] 26)).alloc (.cells #[.int .i64 0, .int .i64 0, .slice none 0 0, .slice none 0 0] 26) = w1 at HX HS1 ⊢
 have HL : Hid (RowL w (.slice la ls.length lc) ls ∧ RowS w (.slice sa ss.length sc) ss) := ⟨hl, hs⟩
 have HW : Hid (∀ x ∈ ls, x.ws.length ≤ 1000) := hw
 clear hl hs hw
 obtain ⟨i0, hi0, hz0, hz1, hz2⟩ := info_parts infoS
 have x0 := (blk_cell (HX.out w1 (Below.refl _ _)).1 0 (x := .int .i64 tm) rfl).1
 have x1 := (blk_cell (HX.out w1 (Below.refl _ _)).1 1 (x := .int .i64 nx) rfl).1
 have x3 := (blk_cell (HX.out w1 (Below.refl _ _)).1 3 (x := .slice sa ss.length sc) rfl).1
 have hbl : w.heap.size < w1.heap.size := by rw [HS1.out]; omega
 have hxs : ∀ W, Below w1.heap.size w1 W → RowS W (.slice sa ss.length sc) ss := fun W hW => (HX.out W hW).2.2.2.1
 have HK : Hid (∀ W, Below w1.heap.size w1 W → (W.cell? ⟨w.heap.size, 0, none⟩ = some (.int .i64 tm) ∧ W.cell? ⟨w.heap.size, 1, none⟩ = some (.int .i64 nx) ∧ W.cell? ⟨w.heap.size, 3, none⟩ = some (.slice sa ss.length sc))) := fun W hW => ⟨(blk_cell (HX.out W hW).1 0 rfl).1, (blk_cell (HX.out W hW).1 1 rfl).1, (blk_cell (HX.out W hW).1 3 rfl).1⟩
 go_cut [3] (fun px wx => Fin w1 tm nx ss px wx)
 case first =>
  go_region_held_law (fun W => W.cell? ⟨w.heap.size, 0, none⟩ = some (.int .i64 tm) ∧ W.cell? ⟨w.heap.size, 1, none⟩ = some (.int .i64 nx) ∧ W.cell? ⟨w.heap.size, 3, none⟩ = some (.slice sa ss.length sc)) ((refine HK.out _ ?_; repeat (first | with_reducible exact B5.out | with_reducible exact Below.refl _ _ | with_reducible refine Below.drew ?_ | with_reducible refine belA ?_ _ | (with_reducible refine belS ?_ _ _ _ (by first | omega | (have := B5.out.size; omega))))))
   ((refine step_appS (by rfl) _ _ 24 (by rfl) Tryd.underlying24 hi0 hz0 hz1 hz2 w1 _ (.slice sa ss.length sc) ss _ (by rfl) (by rfl) (by first | exact nest1 _ _ | exact (nest2 _ _ _).1 | exact (nest2 _ _ _).2 | exact (nest3 _ _ _ _).1 | exact (nest3 _ _ _ _).2.1 | exact (nest3 _ _ _ _).2.2) (by omega) (by repeat (first | with_reducible exact Below.refl _ _ | with_reducible refine Below.drew ?_ | with_reducible refine belA ?_ _)) hxs hy2 ?_; intro v5 w5 o5 b5 q5; obtain ⟨a5, k5, rfl⟩ := OwnS.slice o5; (try (have hX := q5 (w1.heap.size) (.cells #[.int .i64 0, .int .i64 0, .slice none 0 0, .slice none 0 0] 26) (by first | exact nest1 _ _ | exact (nest2 _ _ _).1 | exact (nest2 _ _ _).2 | exact (nest3 _ _ _ _).1 | exact (nest3 _ _ _ _).2.1 | exact (nest3 _ _ _ _).2.2) (by omega); obtain ⟨cX0, fX0⟩ := blk_cell hX 0 (x := .int .i64 0) rfl; obtain ⟨cX1, fX1⟩ := blk_cell hX 1 (x := .int .i64 0) rfl; obtain ⟨cX2, fX2⟩ := blk_cell hX 2 (x := .slice none 0 0) rfl; obtain ⟨cX3, fX3⟩ := blk_cell hX 3 (x := .slice none 0 0) rfl; have hXo := fun o => (Below.heap_alloc w5 o _ (Array.getElem?_eq_some_iff.1 hX).1).trans hX; have dX0 := fun o => blk_cell (hXo o) 0 (x := .int .i64 0) rfl; have dX1 := fun o => blk_cell (hXo o) 1 (x := .int .i64 0) rfl; have dX2 := fun o => blk_cell (hXo o) 2 (x := .slice none 0 0) rfl; have dX3 := fun o => blk_cell (hXo o) 3 (x := .slice none 0 0) rfl)); (try (have hX := q5 (w1.heap.size + 1) (.cells #[.int .i64 0, .int .i64 0, .slice none 0 0, .slice none 0 0] 26) (by first | exact nest1 _ _ | exact (nest2 _ _ _).1 | exact (nest2 _ _ _).2 | exact (nest3 _ _ _ _).1 | exact (nest3 _ _ _ _).2.1 | exact (nest3 _ _ _ _).2.2) (by omega); obtain ⟨cX0, fX0⟩ := blk_cell hX 0 (x := .int .i64 0) rfl; obtain ⟨cX1, fX1⟩ := blk_cell hX 1 (x := .int .i64 0) rfl; obtain ⟨cX2, fX2⟩ := blk_cell hX 2 (x := .slice none 0 0) rfl; obtain ⟨cX3, fX3⟩ := blk_cell hX 3 (x := .slice none 0 0) rfl; have hXo := fun o => (Below.heap_alloc w5 o _ (Array.getElem?_eq_some_iff.1 hX).1).trans hX; have dX0 := fun o => blk_cell (hXo o) 0 (x := .int .i64 0) rfl; have dX1 := fun o => blk_cell (hXo o) 1 (x := .int .i64 0) rfl; have dX2 := fun o => blk_cell (hXo o) 2 (x := .slice none 0 0) rfl; have dX3 := fun o => blk_cell (hXo o) 3 (x := .slice none 0 0) rfl)); (try (have hX := q5 (w1.heap.size + 1 + 1) (.cells #[.int .i64 0, .int .i64 0, .slice none 0 0, .slice none 0 0] 26) (by first | exact nest1 _ _ | exact (nest2 _ _ _).1 | exact (nest2 _ _ _).2 | exact (nest3 _ _ _ _).1 | exact (nest3 _ _ _ _).2.1 | exact (nest3 _ _ _ _).2.2) (by omega); obtain ⟨cX0, fX0⟩ := blk_cell hX 0 (x := .int .i64 0) rfl; obtain ⟨cX1, fX1⟩ := blk_cell hX 1 (x := .int .i64 0) rfl; obtain ⟨cX2, fX2⟩ := blk_cell hX 2 (x := .slice none 0 0) rfl; obtain ⟨cX3, fX3⟩ := blk_cell hX 3 (x := .slice none 0 0) rfl; have hXo := fun o => (Below.heap_alloc w5 o _ (Array.getElem?_eq_some_iff.1 hX).1).trans hX; have dX0 := fun o => blk_cell (hXo o) 0 (x := .int .i64 0) rfl; have dX1 := fun o => blk_cell (hXo o) 1 (x := .int .i64 0) rfl; have dX2 := fun o => blk_cell (hXo o) 2 (x := .slice none 0 0) rfl; have dX3 := fun o => blk_cell (hXo o) 3 (x := .slice none 0 0) rfl)); (try (have hA := q5 (w1.heap.size) (.cells #[] 52) (by first | exact nest1 _ _ | exact (nest2 _ _ _).1 | exact (nest2 _ _ _).2 | exact (nest3 _ _ _ _).1 | exact (nest3 _ _ _ _).2.1 | exact (nest3 _ _ _ _).2.2) (by omega))); (try (have hA := q5 (w1.heap.size + 1) (.cells #[] 52) (by first | exact nest1 _ _ | exact (nest2 _ _ _).1 | exact (nest2 _ _ _).2 | exact (nest3 _ _ _ _).1 | exact (nest3 _ _ _ _).2.1 | exact (nest3 _ _ _ _).2.2) (by omega))); (try (have hA := q5 (w1.heap.size + 1 + 1) (.cells #[] 52) (by first | exact nest1 _ _ | exact (nest2 _ _ _).1 | exact (nest2 _ _ _).2 | exact (nest3 _ _ _ _).1 | exact (nest3 _ _ _ _).2.1 | exact (nest3 _ _ _ _).2.2) (by omega))); have B5 : Hid (Below w1.heap.size w1 w5) := b5; clear q5; try go_simp))
  all_goals go_wp2_with fail
  all_goals go_meet
  all_goals first | with_reducible exact fin1 hA o5 B5.out (by omega) | with_reducible exact fin2 hX hA o5 B5.out (by omega) (by omega) | with_reducible exact fin3 o5 B5.out | with_reducible exact fin4 o5 B5.out | with_reducible exact fin5 hX o5 B5.out (by omega)
 case rest =>
  obtain ⟨x, a2, c2, a3, c3, rfl, hiv⟩ := hcut.iv
  have HI : Hid (Iv w1 wc tm nx x (.slice a2 0 c2) (.slice a3 ss.length c3) [] ss) := hiv
  obtain ⟨j0, hj0, hjz, hj1, hj2⟩ := info_parts infoW
  obtain ⟨l0, hl0, hlz, hl1, hl2⟩ := info_parts infoL
  clear hiv hcut x0 x1 x3 hxs HK hi0 hz0 hz1 hz2
  go_wp2_with fail
  go_loopw [4] (fun i wr => ∃ (k : Nat) (a2 : Option Addr) (c2 : Nat) (ps : List LkA), k ≤ ls.length ∧ i = .int .i64 k ∧ Hid (Iv w1 wr tm nx x (.slice a2 k c2) (.slice a3 ss.length c3) ps ss ∧ ps.map (·.1) = ls.take k)) (fun i _ => ls.length - (intOf i).toNat)
  case atStart => exact ⟨0, a2, c2, [], by omega, rfl, HI.out, rfl⟩
  case round =>
   clear HI a2 c2
   obtain ⟨k, a2, c2, ps, hk, rfl, HO⟩ := hrel
   have x2 := (blk_cell (HX.out wr HO.out.1.bel).1 2 (x := .slice la ls.length lc) rfl).1
   by_cases hlt : k < ls.length
   ·obtain ⟨z, hz⟩ := Tw.get_at hlt
    have hr := (HX.out wr HO.out.1.bel).2.2.1
    obtain ⟨lb, off, rfl, _, u, e0, e1, e2, e3, e4, e5⟩ := RowG.at hr rfl hz
    obtain ⟨ua, uc, rfl⟩ := RowG.slice e5
    have HU : Hid (RowW wr (.slice ua z.ws.length uc) z.ws) := e5
    have HZZ : Hid (ls[k]? = some z) := hz
    have HZ : Hid (z.ws.length ≤ 1000) := HW.out z (Tw.mem_at hz)
    clear hr hz e5
    go_upto_region 6 with fail
    have H4 : Hid ((wr.alloc (.cells #[.string z.n, .int .i64 z.t, .int .i64 z.h, .int .i64 z.e, .slice ua z.ws.length uc] 52)).heap[wr.heap.size]? = some (.cells #[.string z.n, .int .i64 z.t, .int .i64 z.h, .int .i64 z.e, .slice ua z.ws.length uc] 52 (0, 0)) ∧ Iv w1 (wr.alloc (.cells #[.string z.n, .int .i64 z.t, .int .i64 z.h, .int .i64 z.e, .slice ua z.ws.length uc] 52)) tm nx x (.slice a2 k c2) (.slice a3 ss.length c3) ps ss ∧ RowW (wr.alloc (.cells #[.string z.n, .int .i64 z.t, .int .i64 z.h, .int .i64 z.e, .slice ua z.ws.length uc] 52)) (.slice ua z.ws.length uc) z.ws ∧ wr.heap.size < (wr.alloc (.cells #[.string z.n, .int .i64 z.t, .int .i64 z.h, .int .i64 z.e, .slice ua z.ws.length uc] 52)).heap.size ∧ w1.heap.size ≤ wr.heap.size ∧ x ≠ wr.heap.size ∧ (Value.slice a2 k c2).ownBlock ≠ some wr.heap.size ∧ (Value.slice a3 ss.length c3).ownBlock ≠ some wr.heap.size ∧ ∀ p ∈ ps, (uV p).ownBlock ≠ some wr.heap.size) :=
     ⟨blk_new _ _ _, HO.out.1.up (bel_new _ _), HU.out.below (bel_new _ _), by rw [size_new]; omega, HO.out.1.bel.size, by have := (Array.getElem?_eq_some_iff.1 HO.out.1.hx).1; omega, fun e => absurd (HO.out.1.ol.lt _ e).2 (by omega), fun e => absurd (HO.out.1.os.lt _ e).2 (by omega), fun p hp e => absurd ((HO.out.1.ow p hp).lt _ e).2 (by omega)⟩
    have HT : Hid (ps.map (·.1) = ls.take k ∧ ps.length = k) := ⟨HO.out.2, by rw [← List.length_map (f := (·.1)), HO.out.2, List.length_take]; omega⟩
    clear HO HU e0 e1 e2 e3 e4 x2
    generalize wr.alloc (.cells #[.string z.n, .int .i64 z.t, .int .i64 z.h, .int .i64 z.e, .slice ua z.ws.length uc] 52) = w4 at H4 ⊢
    generalize wr.heap.size = y at H4 ⊢
    have c4 := (blk_cell H4.out.1 4 (x := .slice ua z.ws.length uc) rfl).1
    have d4 := fun o => (blk_cell ((Below.heap_alloc w4 o y H4.out.2.2.2.1).trans H4.out.1) 4 (x := .slice ua z.ws.length uc) rfl).1
    go_upto_region 7 with (at_builtin; go_must (refine appW (by rfl) _ _ 50 (by rfl) j0 Tryd.underlying50 hj0 hjz hj1 hj2 w4.heap.size w4 (w4.alloc (.cells #[] 93)) (.slice (some ⟨w4.heap.size, 0, none⟩) 0 0) (.slice ua z.ws.length uc) [] z.ws (by rfl) (OwnW.made _ _ (Nat.le_refl _)) (bel_new _ _) (by rw [size_new]; omega) (by rfl) (H4.out.2.2.1.below (bel_new _ _)) (by have := HZ.out; simp; omega) ?_; intro v6 w6 o6 b6 _; rw [List.nil_append] at o6; obtain ⟨a6, k6, rfl⟩ := OwnW.slice o6; have H5 : Hid (OwnW w6 w4.heap.size (.slice a6 z.ws.length k6) z.ws ∧ Below w4.heap.size w4 w6 ∧ w6.heap[y]? = some (.cells #[.string z.n, .int .i64 z.t, .int .i64 z.h, .int .i64 z.e, .slice ua z.ws.length uc] 52 (0, 0))) := ⟨o6, b6, (b6.block y H4.out.2.2.2.1).trans H4.out.1⟩; obtain ⟨d4', f4⟩ := blk_cell H5.out.2.2 4 (x := .slice ua z.ws.length uc) rfl; clear o6 b6 c4 d4))
    have H7 : Hid (OwnW (w6.setCell ⟨y, 4, none⟩ (.slice a6 z.ws.length k6)) w1.heap.size (uV (z, a6, k6)) z.ws ∧ Iv w1 (w6.setCell ⟨y, 4, none⟩ (.slice a6 z.ws.length k6)) tm nx x (.slice a2 k c2) (.slice a3 ss.length c3) ps ss ∧ (w6.setCell ⟨y, 4, none⟩ (.slice a6 z.ws.length k6)).heap[y]? = some (.cells #[.string z.n, .int .i64 z.t, .int .i64 z.h, .int .i64 z.e, .slice a6 z.ws.length k6] 52 (0, 0))) := by
     obtain ⟨_, q2, _, q4, q5, q6, q7, q8, q9⟩ := H4.out
     have h5 := H5.out
     exact ⟨(h5.1.kept (fun g hg => blk_far (by have := (h5.1.lt g hg).1; omega) _ _)).mono (by omega), (q2.up h5.2.1).far y 4 _ q5 q6 q7 q8 q9, blk_set h5.2.2 4 _⟩
    have HAP : Hid (Apart (ps ++ [(z, a6, k6)])) := Apart.push H4.out.2.1.ap (G := w4.heap.size) (fun g hg => (H5.out.1.lt g hg).1) (fun p hp g hg => ((H4.out.2.1.ow p hp).lt g hg).2)
    clear H4 H5 d4' f4
    generalize w6.setCell ⟨y, 4, none⟩ (.slice a6 z.ws.length k6) = w7 at H7 ⊢
    have g0 := (blk_cell H7.out.2.2 0 (x := .string z.n) rfl).1
    have g1 := (blk_cell H7.out.2.2 1 (x := .int .i64 z.t) rfl).1
    have g2 := (blk_cell H7.out.2.2 2 (x := .int .i64 z.h) rfl).1
    have g3 := (blk_cell H7.out.2.2 3 (x := .int .i64 z.e) rfl).1
    have g4 := (blk_cell H7.out.2.2 4 (x := .slice a6 z.ws.length k6) rfl).1
    have gx := (blk_cell H7.out.2.1.hx 2 (x := .slice a2 k c2) rfl).1
    have HLN : Hid ((ps ++ [(z, a6, k6)]).length = k + 1) := by show _ = _; rw [List.length_append, HT.out.2]; rfl
    go_wp2_with (at_builtin; go_must (refine list_lk (by rfl) _ _ 23 (by rfl) l0 Tryd.underlying23 hl0 hlz hl1 hl2 w1.heap.size w1 w7 (.slice a2 k c2) ps (z, a6, k6) (by rfl) H7.out.2.1.ol H7.out.2.1.bel H7.out.2.1.bel.size w7.heap.size (by rfl) rfl (by have := HT.out.2; omega) ?_; intro v8 w8 o8 b8 k8; obtain ⟨a8, c8, rfl⟩ := OwnL.slice' o8 HLN.out; have I8 : Hid (Iv w1 (w8.setCell ⟨x, 2, none⟩ (.slice a8 (k + 1) c8)) tm nx x (.slice a8 (k + 1) c8) (.slice a3 ss.length c3) (ps ++ [(z, a6, k6)]) ss) := H7.out.2.1.put (z, a6, k6) H7.out.1 o8 b8 k8 HAP.out; obtain ⟨d8, f8⟩ := blk_cell (H7.out.2.1.kx k8) 2 (x := .slice a2 k c2) rfl; clear o8 b8 k8))
    exact ⟨⟨k + 1, a8, c8, ps ++ [(z, a6, k6)], by omega, by go_num, I8.out, by rw [List.map_append, HT.out.1, take_at HZZ.out]; rfl⟩, by simp [intOf]; omega⟩
   ·obtain rfl : k = ls.length := by omega
    have H1 : Hid (Iv w1 wr tm nx x (.slice a2 ls.length c2) (.slice a3 ss.length c3) ps ss ∧ ps.map (·.1) = ls) := ⟨HO.out.1, by rw [HO.out.2, List.take_length]⟩
    have AX : Hid (wr.heap[w.heap.size + 1]? = some (.cells #[.int .i64 0, .int .i64 0, .slice none 0 0, .slice none 0 0] 26 (0, 0))) := (HX.out wr HO.out.1.bel).2.1
    have BW : Hid (Below w.heap.size w wr) := (HX.out wr HO.out.1.bel).2.2.2.2
    have HAF : Hid (Apart ps) := HO.out.1.ap
    clear HO
    have p0 := (blk_cell H1.out.1.hx 0 (x := .int .i64 tm) rfl).1
    have p1 := (blk_cell H1.out.1.hx 1 (x := .int .i64 nx) rfl).1
    have p2 := (blk_cell H1.out.1.hx 2 (x := .slice a2 ls.length c2) rfl).1
    have p3 := (blk_cell H1.out.1.hx 3 (x := .slice a3 ss.length c3) rfl).1
    obtain ⟨m0, n0⟩ := blk_cell AX.out 0 (x := .int .i64 0) rfl
    obtain ⟨m1, n1⟩ := blk_cell AX.out 1 (x := .int .i64 0) rfl
    obtain ⟨m2, n2⟩ := blk_cell AX.out 2 (x := .slice none 0 0) rfl
    obtain ⟨m3, n3⟩ := blk_cell AX.out 3 (x := .slice none 0 0) rfl
    have AF : ((((wr.setCell ⟨w.heap.size + 1, 0, none⟩ (.int .i64 tm)).setCell ⟨w.heap.size + 1, 1, none⟩ (.int .i64 nx)).setCell ⟨w.heap.size + 1, 2, none⟩ (.slice a2 ls.length c2)).setCell ⟨w.heap.size + 1, 3, none⟩ (.slice a3 ss.length c3)).heap[w.heap.size + 1]? = some (.cells #[.int .i64 tm, .int .i64 nx, .slice a2 ls.length c2, .slice a3 ss.length c3] 26 (0, 0)) := set4 AX.out _ _ _ _
    have RF : Hid (OwnL ((((wr.setCell ⟨w.heap.size + 1, 0, none⟩ (.int .i64 tm)).setCell ⟨w.heap.size + 1, 1, none⟩ (.int .i64 nx)).setCell ⟨w.heap.size + 1, 2, none⟩ (.slice a2 ls.length c2)).setCell ⟨w.heap.size + 1, 3, none⟩ (.slice a3 ss.length c3)) w.heap.size (.slice a2 ls.length c2) ps ∧ (∀ p ∈ ps, OwnW ((((wr.setCell ⟨w.heap.size + 1, 0, none⟩ (.int .i64 tm)).setCell ⟨w.heap.size + 1, 1, none⟩ (.int .i64 nx)).setCell ⟨w.heap.size + 1, 2, none⟩ (.slice a2 ls.length c2)).setCell ⟨w.heap.size + 1, 3, none⟩ (.slice a3 ss.length c3)) w.heap.size (uV p) p.1.ws) ∧ OwnS ((((wr.setCell ⟨w.heap.size + 1, 0, none⟩ (.int .i64 tm)).setCell ⟨w.heap.size + 1, 1, none⟩ (.int .i64 nx)).setCell ⟨w.heap.size + 1, 2, none⟩ (.slice a2 ls.length c2)).setCell ⟨w.heap.size + 1, 3, none⟩ (.slice a3 ss.length c3)) w.heap.size (.slice a3 ss.length c3) ss) := H1.out.1.done w.heap.size (w.heap.size + 1) (by rw [HS1.out]; omega) (by rw [HS1.out]; omega) (.int .i64 tm) (.int .i64 nx) (.slice a2 ls.length c2) (.slice a3 ss.length c3)
    have GF : Below w.heap.size w ((((wr.setCell ⟨w.heap.size + 1, 0, none⟩ (.int .i64 tm)).setCell ⟨w.heap.size + 1, 1, none⟩ (.int .i64 nx)).setCell ⟨w.heap.size + 1, 2, none⟩ (.slice a2 ls.length c2)).setCell ⟨w.heap.size + 1, 3, none⟩ (.slice a3 ss.length c3)) := Below.setCell (Below.setCell (Below.setCell (Below.setCell BW.out (p := ⟨w.heap.size + 1, 0, none⟩) (Nat.le_succ _) _) (p := ⟨w.heap.size + 1, 1, none⟩) (Nat.le_succ _) _) (p := ⟨w.heap.size + 1, 2, none⟩) (Nat.le_succ _) _) (p := ⟨w.heap.size + 1, 3, none⟩) (Nat.le_succ _) _
    go_wp2_with fail
    generalize (((wr.setCell ⟨w.heap.size + 1, 0, none⟩ (.int .i64 tm)).setCell ⟨w.heap.size + 1, 1, none⟩ (.int .i64 nx)).setCell ⟨w.heap.size + 1, 2, none⟩ (.slice a2 ls.length c2)).setCell ⟨w.heap.size + 1, 3, none⟩ (.slice a3 ss.length c3) = wf at AF RF GF ⊢
    have d0 := (blk_cell AF 0 (x := .int .i64 tm) rfl).1
    have d1 := (blk_cell AF 1 (x := .int .i64 nx) rfl).1
    have d2 := (blk_cell AF 2 (x := .slice a2 ls.length c2) rfl).1
    have d3 := (blk_cell AF 3 (x := .slice a3 ss.length c3) rfl).1
    exact bodyPost_ret (v := tabV tm nx (.slice a2 ls.length c2) (.slice a3 ss.length c3)) (by simp [tabV, results, Tryd.results82, go_sem, d0, d1, d2, d3]) rfl ⟨_, _, ps, rfl, ⟨RF.out.1, RF.out.2.1, H1.out.2, HAF.out⟩, RF.out.2.2, GF⟩
end Go.Proofs.YtakfniknkejgpaaDoor.Lo
