/- Texts put together: Ef, Eh, Ei. -/
import Derived.Test.YtakfniknkejgpaaDoorMt24
import Derived.Test.YtakfniknkejgpaaDoorMt25
import Derived.Test.YtakfniknkejgpaaDoorMt22
import Derived.BigQuiet
import Derived.Deep.RegionHeldLaw
/- l05Acquire where the lock is there. -/
namespace Go.Proofs.YtakfniknkejgpaaDoor.Ea
open Go.RowKit Go.Proofs.YtakfniknkejgpaaDoor.Sl Go.Proofs.YtakfniknkejgpaaDoor.By Go.Proofs.YtakfniknkejgpaaDoor.Ap Go.Proofs.YtakfniknkejgpaaDoor.Tb Go.Proofs.YtakfniknkejgpaaDoor.Tw Go.Proofs.YtakfniknkejgpaaDoor.Mw Go.Proofs.YtakfniknkejgpaaDoor.Wa Go.Proofs.YtakfniknkejgpaaDoor.Tp Go.Proofs.YtakfniknkejgpaaDoor.Da
open Go.Proofs.YtakfniknkejgpaaDoor.Lo (LkA uV clL OwnL OwnL.kept OwnL.lt OwnL.below OwnL.row OwnL.slice own_block kind_ne Apart)
open Go.Proofs.YtakfniknkejgpaaDoor.Lf (Fnd l05Find_any)
open Go.Proofs.YtakfniknkejgpaaDoor.Tx (blk_cell blk_set blk_far blk_new bel_new)

theorem fiP_first {α : Type} {p : α → Bool} : ∀ (xs : List α) (k : Nat), fiP p xs = some k → ∀ (j : Nat) (z : α), j < k → xs[j]? = some z → p z = false
 | [], k, h, _, _, _, _ => by simp [fiP] at h
 | y :: r, k, h, j, z, hj, hz => by
   unfold fiP at h
   split at h
   ·cases h; omega
   ·rename_i hy
    obtain ⟨m, hm, rfl⟩ := Option.map_eq_some_iff.1 h
    cases j with
    | zero => simp at hz; subst hz; simpa using hy
    | succ j => exact fiP_first r m hm j z (by omega) (by simpa using hz)
theorem fnd_idx {ls : List Lk} {nm : ByteArray} {k : Nat} {r : Int} (h : idx ls nm = some k) (hf : Fnd ls nm r) : r = k := by
 obtain ⟨y, hy, hn⟩ := fiP_some ls k h
 have hn' : y.n = nm := toList_inj (by simpa using hn)
 rcases hf with ⟨m, z, rfl, hz, hzn, hb⟩ | ⟨_, hb⟩
 ·by_cases e : m = k
  ·rw [e]
  ·rcases Nat.lt_or_gt_of_ne e with hlt | hgt
   ·have := fiP_first ls k h m z hlt hz
    rw [hzn] at this
    simp at this
   ·exact absurd hn' (hb k y hgt hy)
 ·exact absurd hn' (hb k y hy)
def DoP (w0 w : World) (B x : Nat) (R : Tab × Da.An) (e : Ending) (w' : World) : Prop := e = .returned (.agg #[.int .i64 R.2.k, .int .i64 R.2.t, .int .i64 R.2.h, .int .i64 R.2.e]) ∧ (∃ v2 v3 ps, TM w0 w' B x R.1 v2 v3 ps) ∧ Oth w w'
theorem TM.rows {w0 w : World} {B x : Nat} {T : Tab} {v2 v3 : Value} {ps : List LkA} (h : TM w0 w B x T v2 v3 ps) : RowL w v2 T.ls := by
 have := h.ol.row (fun p hp => (h.ow p hp).row)
 rwa [h.eq] at this
theorem set_same {ls : List Lk} {k : Nat} {y : Lk} (h : ls[k]? = some y) : ls.set k y = ls := by
 apply List.ext_getElem? fun i => ?_
 rw [List.getElem?_set]
 by_cases e : k = i
 ·subst e; rw [if_pos rfl, h, if_pos (List.getElem?_eq_some_iff.1 h).1]
 ·rw [if_neg e]
theorem ans_put {w0 w w1 : World} {B x r : Nat} {T : Tab} {v2 v3 : Value} {ps : List LkA} (hr : w1.heap[r]? = some (.cells #[.int .i64 0, .int .i64 0, .int .i64 0, .int .i64 0] 55 (0, 0))) (h : TM w0 w1 B x T v2 v3 ps) (ho : Oth w w1) (hn : ¬ r < w.heap.size) (hB : B ≤ r) (a b c d : Value) :
 ((((w1.setCell ⟨r, 0, none⟩ a).setCell ⟨r, 1, none⟩ b).setCell ⟨r, 2, none⟩ c).setCell ⟨r, 3, none⟩ d).heap[r]? = some (.cells #[a, b, c, d] 55 (0, 0)) ∧ TM w0 ((((w1.setCell ⟨r, 0, none⟩ a).setCell ⟨r, 1, none⟩ b).setCell ⟨r, 2, none⟩ c).setCell ⟨r, 3, none⟩ d) B x T v2 v3 ps ∧ Oth w ((((w1.setCell ⟨r, 0, none⟩ a).setCell ⟨r, 1, none⟩ b).setCell ⟨r, 2, none⟩ c).setCell ⟨r, 3, none⟩ d) := by
 have h1 := blk_set hr 0 a
 have h2 := blk_set h1 1 b
 have h3 := blk_set h2 2 c
 have h4 := blk_set h3 3 d
 refine ⟨h4, (((h.far hr (by decide) (by decide) (by decide) (by decide) hB 0 a).far h1 (by decide) (by decide) (by decide) (by decide) hB 1 b).far h2 (by decide) (by decide) (by decide) (by decide) hB 2 c).far h3 (by decide) (by decide) (by decide) (by decide) hB 3 d, fun z cs e hz e1 e2 e3 e4 => ?_⟩
 have hne : z ≠ r := fun e5 => hn (by rw [← e5]; exact (Array.getElem?_eq_some_iff.1 hz).1)
 rw [blk_far hne, blk_far hne, blk_far hne, blk_far hne]
 exact ho z cs e hz e1 e2 e3 e4
theorem getD_at {ls : List Lk} {k : Nat} {y : Lk} (h : ls[k]? = some y) : ls.getD k default = y := by rw [List.getD_eq_getElem?_getD, h]; rfl
set_option maxRecDepth 100000 in
set_option maxHeartbeats 6400000 in
theorem l05Acquire_still {w0 w : World} {B x : Nat} {T : Tab} {v2 v3 : Value} {ps : List LkA} (h : TM w0 w B x T v2 v3 ps) (hT : TOK T) (hn : T.nx ≤ 999999) (r : Da.Ask) (hr : AskOK r) (hkd : r.kd = 1) {k : Nat} (hidx : idx T.ls r.nm = some k) {y : Lk} (hy : T.ls[k]? = some y) (hq : y.h = r.cl ∨ wtB y.ws r.cl = true ∨ y.h = -1 ∨ 4 ≤ y.ws.length) :
 Calls Tryd.prog 114 #[.pointer (some ⟨x, 0, none⟩), .agg #[.int .i64 r.cl, .int .i64 r.st, .int .i64 r.kd, .int .i64 r.le, .string r.nm]] w fun e w' => DoP w0 w B x (doT T r) e w' := by
 obtain ⟨p, hp, hpy⟩ := h.at hy
 have htm := inB_le hT.1
 have hnx := inB_le hT.2.1
 have hle : 0 ≤ r.le ∧ r.le ≤ 1000 := by
  rcases hr.2.2.1 with ⟨_, h⟩ | ⟨h, _⟩
  ·have := inB_le h; omega
  ·omega
 have hl4 : T.ls.length ≤ 4 := hT.2.2.1
 have HDO : Hid (doT T r = (⟨T.tm, acN T.nx r y, T.ls.set k (acL T.tm T.nx r y), T.ss⟩, tell (acK r y) (acL T.tm T.nx r y))) := by
  show _ = _
  unfold doT
  rw [hidx]
  simp only [getD_at hy]
 have HF0 : Hid (∀ W, TM w0 W B x T v2 v3 ps → Calls Tryd.prog 115 #[.agg #[.int .i64 T.tm, .int .i64 T.nx, v2, v3], .string r.nm] W fun e w' => e = .returned (.int .i64 (k : Int)) ∧ Below W.heap.size W w') := fun W hW => (l05Find_any T.tm T.nx v2 v3 T.ls r.nm W hW.rows (by omega)).mono fun e w' ⟨q, h1, h2, h3⟩ => ⟨by rw [h1, fnd_idx hidx h2], h3⟩
 have H0 : Hid (TM w0 w B x T v2 v3 ps) := h
 have HX : Hid (∀ W, Below ((w.alloc (.cells #[.int .i64 r.cl, .int .i64 r.st, .int .i64 r.kd, .int .i64 r.le, .string r.nm] 123)).alloc (.cells #[.int .i64 0, .int .i64 0, .int .i64 0, .int .i64 0] 55)).heap.size ((w.alloc (.cells #[.int .i64 r.cl, .int .i64 r.st, .int .i64 r.kd, .int .i64 r.le, .string r.nm] 123)).alloc (.cells #[.int .i64 0, .int .i64 0, .int .i64 0, .int .i64 0] 55)) W → TM w0 W B x T v2 v3 ps ∧ W.heap[w.heap.size]? = some (.cells #[.int .i64 r.cl, .int .i64 r.st, .int .i64 r.kd, .int .i64 r.le, .string r.nm] 123 (0, 0)) ∧ W.heap[w.heap.size + 1]? = some (.cells #[.int .i64 0, .int .i64 0, .int .i64 0, .int .i64 0] 55 (0, 0)) ∧ Oth w W) := fun W hW => by
  have e1 : (w.alloc (.cells #[.int .i64 r.cl, .int .i64 r.st, .int .i64 r.kd, .int .i64 r.le, .string r.nm] 123)).heap.size = w.heap.size + 1 := by simp
  have b2 : Below w.heap.size w ((w.alloc (.cells #[.int .i64 r.cl, .int .i64 r.st, .int .i64 r.kd, .int .i64 r.le, .string r.nm] 123)).alloc (.cells #[.int .i64 0, .int .i64 0, .int .i64 0, .int .i64 0] 55)) := (bel_new w _).trans ((bel_new _ _).mono (bel_new w _).size)
  have bb := b2.trans (hW.mono b2.size)
  refine ⟨H0.out.up bb, ?_, ?_, Oth.of_below bb⟩
  ·rw [hW.block _ (by simp; omega), (bel_new (w.alloc (.cells #[.int .i64 r.cl, .int .i64 r.st, .int .i64 r.kd, .int .i64 r.le, .string r.nm] 123)) (.cells #[.int .i64 0, .int .i64 0, .int .i64 0, .int .i64 0] 55)).block _ (by simp)]; exact blk_new _ _ _
  ·rw [hW.block _ (by simp), ← e1]; exact blk_new _ _ _
 obtain ⟨g, cap, hv, hgB, _, _, _⟩ := h.row hp
 subst hv
 have hpl : ps.length = T.ls.length := h.len
 have hkl : k < ps.length := (List.getElem?_eq_some_iff.1 hp).1
 have hkI : (k : Int) < (ps.length : Int) := by omega
 have hk0 : ¬ (k : Int) < 0 := by omega
 have hsB : Hid (B ≤ w.heap.size) := h.size
 have HP : Hid (ps[k]? = some p ∧ p.1 = y ∧ T.ls[k]? = some y ∧ B ≤ g) := ⟨hp, hpy, hy, hgB⟩
 have HLN : Hid (ps.length = T.ls.length) := hpl
 have HTK : Hid (TOK T) := hT
 have HKD : Hid (r.kd = 1) := hkd
 clear h hy hp hpy hpl hT hidx hkd
 go_enter Tryd.func114, Tryd.ntmps114
 go_upto_region 1 with fail
 generalize (w.alloc (.cells #[.int .i64 r.cl, .int .i64 r.st, .int .i64 r.kd, .int .i64 r.le, .string r.nm] 123)).alloc (.cells #[.int .i64 0, .int .i64 0, .int .i64 0, .int .i64 0] 55) = w2 at HX ⊢
 obtain ⟨X, hX, W, QI0, QO0⟩ := Qc.klass w2
 have QI : Hid (∀ w', Below w2.heap.size w2 w' → ∃ x, w' = W x) := QI0
 have QO : Hid (∀ x, Below w2.heap.size w2 (W x)) := QO0
 clear QI0 QO0
 have HF : Hid (∀ q, Calls Tryd.prog 115 #[.agg #[.int .i64 T.tm, .int .i64 T.nx, .slice (some ⟨g, 0, none⟩) ps.length cap, v3], .string r.nm] (W q) fun e w' => e = .returned (.int .i64 (k : Int)) ∧ Below (W q).heap.size (W q) w') := fun q => HF0.out _ (HX.out _ (QO.out q)).1
 have y0 := fun q => (blk_cell (HX.out _ (QO.out q)).1.hx 0 (x := .int .i64 T.tm) rfl).1
 have y1 := fun q => (blk_cell (HX.out _ (QO.out q)).1.hx 1 (x := .int .i64 T.nx) rfl).1
 have y2 := fun q => (blk_cell (HX.out _ (QO.out q)).1.hx 2 (x := .slice (some ⟨g, 0, none⟩) ps.length cap) rfl).1
 have y3 := fun q => (blk_cell (HX.out _ (QO.out q)).1.hx 3 (x := v3) rfl).1
 have z4 := fun q => (blk_cell (HX.out _ (QO.out q)).2.1 4 (x := .string r.nm) rfl).1
 refine Qc.region_class (W := W) (by kernel_rfl) (by kernel_rfl) (QI.out _ Qc.from_drew) ?_
 repeat (go_big_quiet_step (first | (go_at_call 115; refine (HF.out _).mono ?_; rintro e w2 ⟨rfl, b2⟩; exact ⟨rfl, Qc.back QI.out QO.out b2⟩)))
 refine wpQuiet_nil ?_
 rintro _ ⟨xq, rfl⟩
 have G3 : Hid (Below w2.heap.size w2 (W xq)) := QO.out xq
 clear y0 y1 y2 y3 z4 HF HF0 QO QI
 generalize W xq = w3 at G3 ⊢
 obtain ⟨t3, q3, _, _⟩ := HX.out _ G3.out
 have x2 := (blk_cell t3.hx 2 (x := .slice (some ⟨g, 0, none⟩) ps.length cap) rfl).1
 have c0 := (blk_cell q3 0 (x := .int .i64 r.cl) rfl).1
 have HM3 : Hid (∀ j u, (clL p)[j]? = some u → w3.cell? ⟨g, k * 5 + j, none⟩ = some u) := fun j u hj => by
  obtain ⟨g', cap', e, _, _, _, hc⟩ := t3.row HP.out.1
  cases e
  exact (hc j u hj).1
 have HRW : Hid (RowW w3 (uV p) p.1.ws) := (t3.ow p (List.mem_of_getElem? HP.out.1)).row
 have HWL : Hid (p.1.ws.length ≤ 4 ∧ p.1.ws.length ≤ 1000) := by
  have hh := (HTK.out.2.2.2.1 k y HP.out.2.2.1).2.2.2
  have h5 : y.ws.length ≤ 4 := by
   rcases hh with hh | hh
   ·have := hh.2.2; omega
   ·exact hh.2.2.2.1
  rw [HP.out.2.1]
  exact ⟨h5, by omega⟩
 clear t3 q3
 go_upto_region 11 with fail
 clear x2
 have m0 : w3.cell? ⟨g, k * 5, none⟩ = some (.string p.1.n) := HM3.out 0 (.string p.1.n) rfl
 have m1 := HM3.out 1 (.int .i64 p.1.t) rfl
 have m2 := HM3.out 2 (.int .i64 p.1.h) rfl
 have m3 := HM3.out 3 (.int .i64 p.1.e) rfl
 have m4 := HM3.out 4 (.slice p.2.1 p.1.ws.length p.2.2) rfl
 clear HM3
 by_cases hA : p.1.h = r.cl
 ·have HAC : Hid (acN T.nx r y = T.nx ∧ acL T.tm T.nx r y = y ∧ acK r y = 8) := by
   rw [HP.out.2.1] at hA
   have hor : y.h = r.cl ∨ wtB y.ws r.cl = true := .inl hA
   unfold acN acL acK
   rw [HKD.out]
   simp only [if_true, hor]
   exact ⟨trivial, trivial, trivial⟩
  have hA' : (p.1.h == r.cl) = true := by simpa using hA
  clear hA
  obtain ⟨X, hX, W, QI0, QO0⟩ := Qc.klass w3
  have QI : Hid (∀ w', Below w3.heap.size w3 w' → ∃ x, w' = W x) := QI0
  have QO : Hid (∀ x, Below w3.heap.size w3 (W x)) := QO0
  clear QI0 QO0
  have y0 := Qc.cell_all QO.out m0
  have y1 := Qc.cell_all QO.out m1
  have y2 := Qc.cell_all QO.out m2
  have y3 := Qc.cell_all QO.out m3
  have y4 := Qc.cell_all QO.out m4
  have z0 := Qc.cell_all QO.out c0
  refine Qc.region_class (W := W) (by kernel_rfl) (by kernel_rfl) (QI.out _ Qc.from_drew) ?_
  repeat (go_big_quiet_step (fail))
  refine wpQuiet_nil ?_
  rintro _ ⟨xq, rfl⟩
  have G4 : Hid (Below w2.heap.size w2 (W xq)) := G3.out.trans ((QO.out xq).mono G3.out.size)
  clear y0 y1 y2 y3 y4 z0 QO QI m0 m1 m2 m3 m4 c0 G3
  generalize W xq = w4 at G4 ⊢
  obtain ⟨t4, q4, z4, _⟩ := HX.out _ G4.out
  have HM : Hid (∀ j u, (clL p)[j]? = some u → w4.cell? ⟨g, k * 5 + j, none⟩ = some u) := fun j u hj => by
   obtain ⟨g', cap', e, _, _, _, hc⟩ := t4.row HP.out.1
   cases e
   exact (hc j u hj).1
  have m0 : w4.cell? ⟨g, k * 5, none⟩ = some (.string p.1.n) := HM.out 0 (.string p.1.n) rfl
  have m1 := HM.out 1 (.int .i64 p.1.t) rfl
  have m2 := HM.out 2 (.int .i64 p.1.h) rfl
  have m3 := HM.out 3 (.int .i64 p.1.e) rfl
  have m4 := HM.out 4 (.slice p.2.1 p.1.ws.length p.2.2) rfl
  clear t4 q4 z4 HM
  have HTL : Hid (∀ W, Calls Tryd.prog 116 #[.int .i64 8, .agg #[.string p.1.n, .int .i64 p.1.t, .int .i64 p.1.h, .int .i64 p.1.e, .slice p.2.1 p.1.ws.length p.2.2]] W fun e w' => e = .returned (.agg #[.int .i64 8, .int .i64 p.1.t, .int .i64 p.1.h, .int .i64 p.1.e]) ∧ Below W.heap.size W w') := fun W => l05Tell_any 8 p.1 (uV p) W
  go_wp2_with fail
  refine (HTL.out _).mono ?_
  rintro e w5 ⟨rfl, b5⟩
  have G5 : Hid (Below w2.heap.size w2 w5) := G4.out.trans (b5.mono G4.out.size)
  clear b5 m0 m1 m2 m3 m4
  have AX : Hid (w5.heap[w.heap.size + 1]? = some (.cells #[.int .i64 0, .int .i64 0, .int .i64 0, .int .i64 0] 55 (0, 0))) := (HX.out _ G5.out).2.2.1
  have RF := ans_put AX.out (HX.out _ G5.out).1 (HX.out _ G5.out).2.2.2 (by omega) (Nat.le_succ_of_le hsB.out) (.int .i64 8) (.int .i64 p.1.t) (.int .i64 p.1.h) (.int .i64 p.1.e)
  obtain ⟨n0, f0⟩ := blk_cell AX.out 0 (x := .int .i64 0) rfl
  obtain ⟨n1, f1⟩ := blk_cell AX.out 1 (x := .int .i64 0) rfl
  obtain ⟨n2, f2⟩ := blk_cell AX.out 2 (x := .int .i64 0) rfl
  obtain ⟨n3, f3⟩ := blk_cell AX.out 3 (x := .int .i64 0) rfl
  have RFH : Hid _ := RF
  clear RF
  go_wp2_with fail
  generalize ((((w5.setCell ⟨w.heap.size + 1, 0, none⟩ (.int .i64 8)).setCell ⟨w.heap.size + 1, 1, none⟩ (.int .i64 p.1.t)).setCell ⟨w.heap.size + 1, 2, none⟩ (.int .i64 p.1.h)).setCell ⟨w.heap.size + 1, 3, none⟩ (.int .i64 p.1.e)) = wf at RFH ⊢
  have d0 := (blk_cell RFH.out.1 0 (x := .int .i64 8) rfl).1
  have d1 := (blk_cell RFH.out.1 1 (x := .int .i64 p.1.t) rfl).1
  have d2 := (blk_cell RFH.out.1 2 (x := .int .i64 p.1.h) rfl).1
  have d3 := (blk_cell RFH.out.1 3 (x := .int .i64 p.1.e) rfl).1
  refine bodyPost_ret (v := .agg #[.int .i64 8, .int .i64 p.1.t, .int .i64 p.1.h, .int .i64 p.1.e]) (by simp [results, Tryd.results114, go_sem, d0, d1, d2, d3]) rfl ?_
  refine ⟨?_, ⟨.slice (some ⟨g, 0, none⟩) ps.length cap, v3, ps, ?_⟩, RFH.out.2.2⟩
  ·rw [HDO.out, HAC.out.1, HAC.out.2.1, HAC.out.2.2, ← HP.out.2.1]; rfl
  ·rw [HDO.out, HAC.out.1, HAC.out.2.1, set_same HP.out.2.2.1]; exact RFH.out.2.1
 ·have hA' : (p.1.h == r.cl) = false := by simpa using hA
  have HNA : Hid (¬ y.h = r.cl) := by rw [← HP.out.2.1]; exact hA
  clear hA
  obtain ⟨ix, HIX⟩ : ∃ ix, Hid (wIx p.1.ws r.cl = ix) := ⟨_, rfl⟩
  cases hB : wtB p.1.ws r.cl with
  | true =>
    have hix : (0 : Int) ≤ ix := by rw [← HIX.out]; unfold wIx; rw [if_pos hB]; omega
    have HAC : Hid (acN T.nx r y = T.nx ∧ acL T.tm T.nx r y = y ∧ acK r y = 8) := by
     have hor : y.h = r.cl ∨ wtB y.ws r.cl = true := .inr (by rw [← HP.out.2.1]; exact hB)
     unfold acN acL acK
     rw [HKD.out]
     simp only [if_true, hor]
     exact ⟨trivial, trivial, trivial⟩
    clear hB
    obtain ⟨X, hX, W, QI0, QO0⟩ := Qc.klass w3
    have QI : Hid (∀ w', Below w3.heap.size w3 w' → ∃ x, w' = W x) := QI0
    have QO : Hid (∀ x, Below w3.heap.size w3 (W x)) := QO0
    clear QI0 QO0
    have y0 := Qc.cell_all QO.out m0
    have y1 := Qc.cell_all QO.out m1
    have y2 := Qc.cell_all QO.out m2
    have y3 := Qc.cell_all QO.out m3
    have y4 := Qc.cell_all QO.out m4
    have z0 := Qc.cell_all QO.out c0
    have HW : Hid (∀ q, Calls Tryd.prog 117 #[.agg #[.string p.1.n, .int .i64 p.1.t, .int .i64 p.1.h, .int .i64 p.1.e, .slice p.2.1 p.1.ws.length p.2.2], .int .i64 r.cl] (W q) fun e w' => e = .returned (.int .i64 ix) ∧ Below (W q).heap.size (W q) w') := fun q => by
     rw [← HIX.out]
     exact l05Waits_any p.1 (uV p) r.cl (W q) (RowW.below HRW.out (QO.out q)) HWL.out.2
    refine Qc.region_class (W := W) (by kernel_rfl) (by kernel_rfl) (QI.out _ Qc.from_drew) ?_
    repeat (go_big_quiet_step (first | (go_at_call 117; refine (HW.out _).mono ?_; rintro e w2 ⟨rfl, b2⟩; exact ⟨rfl, Qc.back QI.out QO.out b2⟩)))
    refine wpQuiet_nil ?_
    rintro _ ⟨xq, rfl⟩
    have G4 : Hid (Below w2.heap.size w2 (W xq)) := G3.out.trans ((QO.out xq).mono G3.out.size)
    clear y0 y1 y2 y3 y4 z0 QO QI HW m0 m1 m2 m3 m4 c0 G3
    generalize W xq = w4 at G4 ⊢
    obtain ⟨t4, q4, z4, _⟩ := HX.out _ G4.out
    have HM : Hid (∀ j u, (clL p)[j]? = some u → w4.cell? ⟨g, k * 5 + j, none⟩ = some u) := fun j u hj => by
     obtain ⟨g', cap', e, _, _, _, hc⟩ := t4.row HP.out.1
     cases e
     exact (hc j u hj).1
    have m0 : w4.cell? ⟨g, k * 5, none⟩ = some (.string p.1.n) := HM.out 0 (.string p.1.n) rfl
    have m1 := HM.out 1 (.int .i64 p.1.t) rfl
    have m2 := HM.out 2 (.int .i64 p.1.h) rfl
    have m3 := HM.out 3 (.int .i64 p.1.e) rfl
    have m4 := HM.out 4 (.slice p.2.1 p.1.ws.length p.2.2) rfl
    clear t4 q4 z4 HM
    have HTL : Hid (∀ W, Calls Tryd.prog 116 #[.int .i64 8, .agg #[.string p.1.n, .int .i64 p.1.t, .int .i64 p.1.h, .int .i64 p.1.e, .slice p.2.1 p.1.ws.length p.2.2]] W fun e w' => e = .returned (.agg #[.int .i64 8, .int .i64 p.1.t, .int .i64 p.1.h, .int .i64 p.1.e]) ∧ Below W.heap.size W w') := fun W => l05Tell_any 8 p.1 (uV p) W
    go_wp2_with fail
    refine (HTL.out _).mono ?_
    rintro e w5 ⟨rfl, b5⟩
    have G5 : Hid (Below w2.heap.size w2 w5) := G4.out.trans (b5.mono G4.out.size)
    clear b5 m0 m1 m2 m3 m4
    have AX : Hid (w5.heap[w.heap.size + 1]? = some (.cells #[.int .i64 0, .int .i64 0, .int .i64 0, .int .i64 0] 55 (0, 0))) := (HX.out _ G5.out).2.2.1
    have RF := ans_put AX.out (HX.out _ G5.out).1 (HX.out _ G5.out).2.2.2 (by omega) (Nat.le_succ_of_le hsB.out) (.int .i64 8) (.int .i64 p.1.t) (.int .i64 p.1.h) (.int .i64 p.1.e)
    obtain ⟨n0, f0⟩ := blk_cell AX.out 0 (x := .int .i64 0) rfl
    obtain ⟨n1, f1⟩ := blk_cell AX.out 1 (x := .int .i64 0) rfl
    obtain ⟨n2, f2⟩ := blk_cell AX.out 2 (x := .int .i64 0) rfl
    obtain ⟨n3, f3⟩ := blk_cell AX.out 3 (x := .int .i64 0) rfl
    have RFH : Hid _ := RF
    clear RF
    go_wp2_with fail
    generalize ((((w5.setCell ⟨w.heap.size + 1, 0, none⟩ (.int .i64 8)).setCell ⟨w.heap.size + 1, 1, none⟩ (.int .i64 p.1.t)).setCell ⟨w.heap.size + 1, 2, none⟩ (.int .i64 p.1.h)).setCell ⟨w.heap.size + 1, 3, none⟩ (.int .i64 p.1.e)) = wf at RFH ⊢
    have d0 := (blk_cell RFH.out.1 0 (x := .int .i64 8) rfl).1
    have d1 := (blk_cell RFH.out.1 1 (x := .int .i64 p.1.t) rfl).1
    have d2 := (blk_cell RFH.out.1 2 (x := .int .i64 p.1.h) rfl).1
    have d3 := (blk_cell RFH.out.1 3 (x := .int .i64 p.1.e) rfl).1
    refine bodyPost_ret (v := .agg #[.int .i64 8, .int .i64 p.1.t, .int .i64 p.1.h, .int .i64 p.1.e]) (by simp [results, Tryd.results114, go_sem, d0, d1, d2, d3]) rfl ?_
    refine ⟨?_, ⟨.slice (some ⟨g, 0, none⟩) ps.length cap, v3, ps, ?_⟩, RFH.out.2.2⟩
    ·rw [HDO.out, HAC.out.1, HAC.out.2.1, HAC.out.2.2, ← HP.out.2.1]; rfl
    ·rw [HDO.out, HAC.out.1, HAC.out.2.1, set_same HP.out.2.2.1]; exact RFH.out.2.1
  | false =>
    have hix : ¬ (0 : Int) ≤ ix := by rw [← HIX.out]; unfold wIx; rw [if_neg (by rw [hB]; decide)]; decide
    have HNO : Hid (¬ (y.h = r.cl ∨ wtB y.ws r.cl = true)) := fun h => by
     rcases h with h | h
     ·exact HNA.out h
     ·rw [← HP.out.2.1, hB] at h; cases h
    clear hB
    by_cases hC : p.1.h < 0
    ·have hy1 : y.h = -1 := by
      have hh := (HTK.out.2.2.2.1 k y HP.out.2.2.1).2.2.2
      rcases hh with hh | hh
      ·exact hh.1
      ·have := (inB_le hh.2.1).1; rw [HP.out.2.1] at hC; omega
     have HAC : Hid (acN T.nx r y = T.nx + 1 ∧ acL T.tm T.nx r y = grL T.tm T.nx y r.cl r.le ∧ acK r y = 1) := by
      unfold acN acL acK
      rw [HKD.out]
      refine ⟨?_, ?_, ?_⟩
      ·rw [if_pos rfl, if_neg HNO.out, if_pos hy1]
      ·rw [if_pos rfl, if_neg HNO.out, if_pos hy1]
      ·rw [if_pos rfl, if_neg HNO.out, if_pos hy1]
     clear hy1
     obtain ⟨X, hX, W, QI0, QO0⟩ := Qc.klass w3
     have QI : Hid (∀ w', Below w3.heap.size w3 w' → ∃ x, w' = W x) := QI0
     have QO : Hid (∀ x, Below w3.heap.size w3 (W x)) := QO0
     clear QI0 QO0
     have y0 := Qc.cell_all QO.out m0
     have y1 := Qc.cell_all QO.out m1
     have y2 := Qc.cell_all QO.out m2
     have y3 := Qc.cell_all QO.out m3
     have y4 := Qc.cell_all QO.out m4
     have z0 := Qc.cell_all QO.out c0
     have HW : Hid (∀ q, Calls Tryd.prog 117 #[.agg #[.string p.1.n, .int .i64 p.1.t, .int .i64 p.1.h, .int .i64 p.1.e, .slice p.2.1 p.1.ws.length p.2.2], .int .i64 r.cl] (W q) fun e w' => e = .returned (.int .i64 ix) ∧ Below (W q).heap.size (W q) w') := fun q => by
      rw [← HIX.out]
      exact l05Waits_any p.1 (uV p) r.cl (W q) (RowW.below HRW.out (QO.out q)) HWL.out.2
     refine Qc.region_class (W := W) (by kernel_rfl) (by kernel_rfl) (QI.out _ Qc.from_drew) ?_
     repeat (go_big_quiet_step (first | (go_at_call 117; refine (HW.out _).mono ?_; rintro e w2 ⟨rfl, b2⟩; exact ⟨rfl, Qc.back QI.out QO.out b2⟩)))
     refine wpQuiet_nil ?_
     rintro _ ⟨xq, rfl⟩
     have G4 : Hid (Below w2.heap.size w2 (W xq)) := G3.out.trans ((QO.out xq).mono G3.out.size)
     clear y0 y1 y2 y3 y4 z0 QO QI HW m0 m1 m2 m3 m4 c0 G3
     generalize W xq = w4 at G4 ⊢
     obtain ⟨t4, q4, z4, ot4⟩ := HX.out _ G4.out
     have m2 : w4.cell? ⟨g, k * 5 + 2, none⟩ = some (.int .i64 p.1.h) := by
      obtain ⟨g', cap', e, _, _, _, hc⟩ := t4.row HP.out.1
      cases e
      exact (hc 2 _ rfl).1
     have c0 := (blk_cell q4 0 (x := .int .i64 r.cl) rfl).1
     have c3 := (blk_cell q4 3 (x := .int .i64 r.le) rfl).1
     have HG := l05Grant_any t4 HP.out.1 r.cl r.le htm.1 htm.2 hnx.1 hn hle.1 hle.2
     have Z4 : Hid (w4.heap[w.heap.size + 1]? = some (.cells #[.int .i64 0, .int .i64 0, .int .i64 0, .int .i64 0] 55 (0, 0)) ∧ Oth w w4) := ⟨z4, ot4⟩
     clear t4 q4 z4 ot4
     go_wp2_with fail
     refine HG.mono ?_
     rintro e w5 ⟨rfl, t5, o5⟩
     have T5 : Hid (TM w0 w5 B x { T with nx := T.nx + 1, ls := T.ls.set k (grL T.tm T.nx p.1 r.cl r.le) } (.slice (some ⟨g, 0, none⟩) ps.length cap) v3 (ps.set k ((grL T.tm T.nx p.1 r.cl r.le), p.2)) ∧ w5.heap[w.heap.size + 1]? = some (.cells #[.int .i64 0, .int .i64 0, .int .i64 0, .int .i64 0] 55 (0, 0)) ∧ Oth w w5) := ⟨t5, o5 _ _ _ Z4.out.1 (by decide) (by decide) (by decide) (by decide), Z4.out.2.trans o5⟩
     clear t5 o5 HG m2 c0 c3
     have HM5 : Hid (∀ j u, (clL ((grL T.tm T.nx p.1 r.cl r.le), p.2))[j]? = some u → w5.cell? ⟨g, k * 5 + j, none⟩ = some u) := fun j u hj => by
      obtain ⟨g', cap', e, _, _, _, hc⟩ := T5.out.1.row (set_at HP.out.1)
      rw [List.length_set] at e
      cases e
      exact (hc j u hj).1
     have m0 : w5.cell? ⟨g, k * 5, none⟩ = some (.string p.1.n) := HM5.out 0 _ rfl
     have m1 := HM5.out 1 (.int .i64 T.nx) rfl
     have m2 := HM5.out 2 (.int .i64 r.cl) rfl
     have m3 := HM5.out 3 (.int .i64 (T.tm + r.le)) rfl
     have m4 := HM5.out 4 (.slice p.2.1 p.1.ws.length p.2.2) rfl
     have x2 := (blk_cell T5.out.1.hx 2 (x := .slice (some ⟨g, 0, none⟩) ps.length cap) rfl).1
     have HTL : Hid (∀ W, Calls Tryd.prog 116 #[.int .i64 1, .agg #[.string p.1.n, .int .i64 T.nx, .int .i64 r.cl, .int .i64 (T.tm + r.le), .slice p.2.1 p.1.ws.length p.2.2]] W fun e w' => e = .returned (.agg #[.int .i64 1, .int .i64 T.nx, .int .i64 r.cl, .int .i64 (T.tm + r.le)]) ∧ Below W.heap.size W w') := fun W => l05Tell_any 1 (grL T.tm T.nx p.1 r.cl r.le) (uV p) W
     clear HM5
     go_wp2_with fail
     refine (HTL.out _).mono ?_
     rintro e w6 ⟨rfl, b6⟩
     have T6 : Hid (TM w0 w6 B x { T with nx := T.nx + 1, ls := T.ls.set k (grL T.tm T.nx p.1 r.cl r.le) } (.slice (some ⟨g, 0, none⟩) ps.length cap) v3 (ps.set k ((grL T.tm T.nx p.1 r.cl r.le), p.2)) ∧ w6.heap[w.heap.size + 1]? = some (.cells #[.int .i64 0, .int .i64 0, .int .i64 0, .int .i64 0] 55 (0, 0)) ∧ Oth w w6) := ⟨T5.out.1.up b6, (b6.block _ (Array.getElem?_eq_some_iff.1 T5.out.2.1).1).trans T5.out.2.1, T5.out.2.2.trans (Oth.of_below b6)⟩
     clear b6 m0 m1 m2 m3 m4 x2 T5
     have RFH : Hid _ := ans_put T6.out.2.1 T6.out.1 T6.out.2.2 (by omega) (Nat.le_succ_of_le hsB.out) (.int .i64 1) (.int .i64 T.nx) (.int .i64 r.cl) (.int .i64 (T.tm + r.le))
     obtain ⟨n0, f0⟩ := blk_cell T6.out.2.1 0 (x := .int .i64 0) rfl
     obtain ⟨n1, f1⟩ := blk_cell T6.out.2.1 1 (x := .int .i64 0) rfl
     obtain ⟨n2, f2⟩ := blk_cell T6.out.2.1 2 (x := .int .i64 0) rfl
     obtain ⟨n3, f3⟩ := blk_cell T6.out.2.1 3 (x := .int .i64 0) rfl
     clear T6
     go_wp2_with fail
     generalize ((((w6.setCell ⟨w.heap.size + 1, 0, none⟩ (.int .i64 1)).setCell ⟨w.heap.size + 1, 1, none⟩ (.int .i64 T.nx)).setCell ⟨w.heap.size + 1, 2, none⟩ (.int .i64 r.cl)).setCell ⟨w.heap.size + 1, 3, none⟩ (.int .i64 (T.tm + r.le))) = wf at RFH ⊢
     have d0 := (blk_cell RFH.out.1 0 (x := .int .i64 1) rfl).1
     have d1 := (blk_cell RFH.out.1 1 (x := .int .i64 T.nx) rfl).1
     have d2 := (blk_cell RFH.out.1 2 (x := .int .i64 r.cl) rfl).1
     have d3 := (blk_cell RFH.out.1 3 (x := .int .i64 (T.tm + r.le)) rfl).1
     refine bodyPost_ret (v := .agg #[.int .i64 1, .int .i64 T.nx, .int .i64 r.cl, .int .i64 (T.tm + r.le)]) (by simp [results, Tryd.results114, go_sem, d0, d1, d2, d3]) rfl ?_
     refine ⟨?_, ⟨.slice (some ⟨g, 0, none⟩) ps.length cap, v3, ps.set k ((grL T.tm T.nx p.1 r.cl r.le), p.2), ?_⟩, RFH.out.2.2⟩
     ·rw [HDO.out, HAC.out.1, HAC.out.2.1, HAC.out.2.2]; rfl
     ·rw [HDO.out, HAC.out.1, HAC.out.2.1]; rw [← HP.out.2.1]; exact RFH.out.2.1
    ·have hyn : ¬ y.h = -1 := by rw [← HP.out.2.1]; omega
     by_cases hD : 4 ≤ p.1.ws.length
     ·have HAC : Hid (acN T.nx r y = T.nx ∧ acL T.tm T.nx r y = y ∧ acK r y = 6) := by
       rw [HP.out.2.1] at hD
       unfold acN acL acK
       rw [HKD.out]
       simp only [if_true, HNO.out, hyn, hD, if_false]
       exact ⟨trivial, trivial, trivial⟩
      have hD4 : ((p.1.ws.length : Int) == 4) = true := by have := HWL.out.1; simp; omega
      clear hyn hD
      obtain ⟨X, hX, W, QI0, QO0⟩ := Qc.klass w3
      have QI : Hid (∀ w', Below w3.heap.size w3 w' → ∃ x, w' = W x) := QI0
      have QO : Hid (∀ x, Below w3.heap.size w3 (W x)) := QO0
      clear QI0 QO0
      have y0 := Qc.cell_all QO.out m0
      have y1 := Qc.cell_all QO.out m1
      have y2 := Qc.cell_all QO.out m2
      have y3 := Qc.cell_all QO.out m3
      have y4 := Qc.cell_all QO.out m4
      have z0 := Qc.cell_all QO.out c0
      have HW : Hid (∀ q, Calls Tryd.prog 117 #[.agg #[.string p.1.n, .int .i64 p.1.t, .int .i64 p.1.h, .int .i64 p.1.e, .slice p.2.1 p.1.ws.length p.2.2], .int .i64 r.cl] (W q) fun e w' => e = .returned (.int .i64 ix) ∧ Below (W q).heap.size (W q) w') := fun q => by
       rw [← HIX.out]
       exact l05Waits_any p.1 (uV p) r.cl (W q) (RowW.below HRW.out (QO.out q)) HWL.out.2
      refine Qc.region_class (W := W) (by kernel_rfl) (by kernel_rfl) (QI.out _ Qc.from_drew) ?_
      repeat (go_big_quiet_step (first | (go_at_call 117; refine (HW.out _).mono ?_; rintro e w2 ⟨rfl, b2⟩; exact ⟨rfl, Qc.back QI.out QO.out b2⟩)))
      refine wpQuiet_nil ?_
      rintro _ ⟨xq, rfl⟩
      have G4 : Hid (Below w2.heap.size w2 (W xq)) := G3.out.trans ((QO.out xq).mono G3.out.size)
      clear y0 y1 y2 y3 y4 z0 QO QI HW m0 m1 m2 m3 m4 c0 G3
      generalize W xq = w4 at G4 ⊢
      obtain ⟨t4, q4, z4, _⟩ := HX.out _ G4.out
      have HM : Hid (∀ j u, (clL p)[j]? = some u → w4.cell? ⟨g, k * 5 + j, none⟩ = some u) := fun j u hj => by
       obtain ⟨g', cap', e, _, _, _, hc⟩ := t4.row HP.out.1
       cases e
       exact (hc j u hj).1
      have m0 : w4.cell? ⟨g, k * 5, none⟩ = some (.string p.1.n) := HM.out 0 (.string p.1.n) rfl
      have m1 := HM.out 1 (.int .i64 p.1.t) rfl
      have m2 := HM.out 2 (.int .i64 p.1.h) rfl
      have m3 := HM.out 3 (.int .i64 p.1.e) rfl
      have m4 := HM.out 4 (.slice p.2.1 p.1.ws.length p.2.2) rfl
      clear t4 q4 z4 HM
      have HTL : Hid (∀ W, Calls Tryd.prog 116 #[.int .i64 6, .agg #[.string p.1.n, .int .i64 p.1.t, .int .i64 p.1.h, .int .i64 p.1.e, .slice p.2.1 p.1.ws.length p.2.2]] W fun e w' => e = .returned (.agg #[.int .i64 6, .int .i64 p.1.t, .int .i64 p.1.h, .int .i64 p.1.e]) ∧ Below W.heap.size W w') := fun W => l05Tell_any 6 p.1 (uV p) W
      go_wp2_with fail
      refine (HTL.out _).mono ?_
      rintro e w5 ⟨rfl, b5⟩
      have G5 : Hid (Below w2.heap.size w2 w5) := G4.out.trans (b5.mono G4.out.size)
      clear b5 m0 m1 m2 m3 m4
      have AX : Hid (w5.heap[w.heap.size + 1]? = some (.cells #[.int .i64 0, .int .i64 0, .int .i64 0, .int .i64 0] 55 (0, 0))) := (HX.out _ G5.out).2.2.1
      have RF := ans_put AX.out (HX.out _ G5.out).1 (HX.out _ G5.out).2.2.2 (by omega) (Nat.le_succ_of_le hsB.out) (.int .i64 6) (.int .i64 p.1.t) (.int .i64 p.1.h) (.int .i64 p.1.e)
      obtain ⟨n0, f0⟩ := blk_cell AX.out 0 (x := .int .i64 0) rfl
      obtain ⟨n1, f1⟩ := blk_cell AX.out 1 (x := .int .i64 0) rfl
      obtain ⟨n2, f2⟩ := blk_cell AX.out 2 (x := .int .i64 0) rfl
      obtain ⟨n3, f3⟩ := blk_cell AX.out 3 (x := .int .i64 0) rfl
      have RFH : Hid _ := RF
      clear RF
      go_wp2_with fail
      generalize ((((w5.setCell ⟨w.heap.size + 1, 0, none⟩ (.int .i64 6)).setCell ⟨w.heap.size + 1, 1, none⟩ (.int .i64 p.1.t)).setCell ⟨w.heap.size + 1, 2, none⟩ (.int .i64 p.1.h)).setCell ⟨w.heap.size + 1, 3, none⟩ (.int .i64 p.1.e)) = wf at RFH ⊢
      have d0 := (blk_cell RFH.out.1 0 (x := .int .i64 6) rfl).1
      have d1 := (blk_cell RFH.out.1 1 (x := .int .i64 p.1.t) rfl).1
      have d2 := (blk_cell RFH.out.1 2 (x := .int .i64 p.1.h) rfl).1
      have d3 := (blk_cell RFH.out.1 3 (x := .int .i64 p.1.e) rfl).1
      refine bodyPost_ret (v := .agg #[.int .i64 6, .int .i64 p.1.t, .int .i64 p.1.h, .int .i64 p.1.e]) (by simp [results, Tryd.results114, go_sem, d0, d1, d2, d3]) rfl ?_
      refine ⟨?_, ⟨.slice (some ⟨g, 0, none⟩) ps.length cap, v3, ps, ?_⟩, RFH.out.2.2⟩
      ·rw [HDO.out, HAC.out.1, HAC.out.2.1, HAC.out.2.2, ← HP.out.2.1]; rfl
      ·rw [HDO.out, HAC.out.1, HAC.out.2.1, set_same HP.out.2.2.1]; exact RFH.out.2.1
     ·exfalso
      rcases hq with hq | hq | hq | hq
      ·exact HNO.out (.inl hq)
      ·exact HNO.out (.inr hq)
      ·exact hyn hq
      ·rw [HP.out.2.1] at hD; exact hD hq
end Go.Proofs.YtakfniknkejgpaaDoor.Ea

/- l05Acquire where the lock is not there: four are there already. -/
namespace Go.Proofs.YtakfniknkejgpaaDoor.Ea
open Go.RowKit Go.Proofs.YtakfniknkejgpaaDoor.Sl Go.Proofs.YtakfniknkejgpaaDoor.By Go.Proofs.YtakfniknkejgpaaDoor.Ap Go.Proofs.YtakfniknkejgpaaDoor.Tb Go.Proofs.YtakfniknkejgpaaDoor.Tw Go.Proofs.YtakfniknkejgpaaDoor.Mw Go.Proofs.YtakfniknkejgpaaDoor.Wa Go.Proofs.YtakfniknkejgpaaDoor.Tp Go.Proofs.YtakfniknkejgpaaDoor.Da
open Go.Proofs.YtakfniknkejgpaaDoor.Lo (LkA uV clL OwnL OwnL.kept OwnL.lt OwnL.below OwnL.row OwnL.slice own_block kind_ne Apart)
open Go.Proofs.YtakfniknkejgpaaDoor.Lf (Fnd l05Find_any)
open Go.Proofs.YtakfniknkejgpaaDoor.Tx (blk_cell blk_set blk_far blk_new bel_new)
theorem fnd_none {ls : List Lk} {nm : ByteArray} {r : Int} (h : idx ls nm = none) (hf : Fnd ls nm r) : r = -1 := by
 rcases hf with ⟨m, z, rfl, hz, hzn, _⟩ | ⟨e, _⟩
 ·have := fiP_none ls h m z hz
  rw [hzn] at this
  simp at this
 ·exact e
set_option maxRecDepth 100000 in
set_option maxHeartbeats 6400000 in
theorem l05Acquire_full {w0 w : World} {B x : Nat} {T : Tab} {v2 v3 : Value} {ps : List LkA} (h : TM w0 w B x T v2 v3 ps) (hT : TOK T) (r : Da.Ask) (hkd : r.kd = 1) (hidx : idx T.ls r.nm = none) (h4 : 4 ≤ T.ls.length) :
 Calls Tryd.prog 114 #[.pointer (some ⟨x, 0, none⟩), .agg #[.int .i64 r.cl, .int .i64 r.st, .int .i64 r.kd, .int .i64 r.le, .string r.nm]] w fun e w' => DoP w0 w B x (doT T r) e w' := by
 have hl4 : T.ls.length = 4 := by have := hT.2.2.1; omega
 have HDO : Hid (doT T r = (T, bare 6)) := by
  show _ = _
  unfold doT
  rw [hidx]
  simp only [hkd, ne_eq, not_true_eq_false, if_false, if_pos h4]
 have HF0 : Hid (∀ W, TM w0 W B x T v2 v3 ps → Calls Tryd.prog 115 #[.agg #[.int .i64 T.tm, .int .i64 T.nx, v2, v3], .string r.nm] W fun e w' => e = .returned (.int .i64 (-1)) ∧ Below W.heap.size W w') := fun W hW => (l05Find_any T.tm T.nx v2 v3 T.ls r.nm W hW.rows (by omega)).mono fun e w' ⟨q, h1, h2, h3⟩ => ⟨by rw [h1, fnd_none hidx h2], h3⟩
 have H0 : Hid (TM w0 w B x T v2 v3 ps) := h
 have HX : Hid (∀ W, Below ((w.alloc (.cells #[.int .i64 r.cl, .int .i64 r.st, .int .i64 r.kd, .int .i64 r.le, .string r.nm] 123)).alloc (.cells #[.int .i64 0, .int .i64 0, .int .i64 0, .int .i64 0] 55)).heap.size ((w.alloc (.cells #[.int .i64 r.cl, .int .i64 r.st, .int .i64 r.kd, .int .i64 r.le, .string r.nm] 123)).alloc (.cells #[.int .i64 0, .int .i64 0, .int .i64 0, .int .i64 0] 55)) W → TM w0 W B x T v2 v3 ps ∧ W.heap[w.heap.size]? = some (.cells #[.int .i64 r.cl, .int .i64 r.st, .int .i64 r.kd, .int .i64 r.le, .string r.nm] 123 (0, 0)) ∧ W.heap[w.heap.size + 1]? = some (.cells #[.int .i64 0, .int .i64 0, .int .i64 0, .int .i64 0] 55 (0, 0)) ∧ Oth w W) := fun W hW => by
  have e1 : (w.alloc (.cells #[.int .i64 r.cl, .int .i64 r.st, .int .i64 r.kd, .int .i64 r.le, .string r.nm] 123)).heap.size = w.heap.size + 1 := by simp
  have b2 : Below w.heap.size w ((w.alloc (.cells #[.int .i64 r.cl, .int .i64 r.st, .int .i64 r.kd, .int .i64 r.le, .string r.nm] 123)).alloc (.cells #[.int .i64 0, .int .i64 0, .int .i64 0, .int .i64 0] 55)) := (bel_new w _).trans ((bel_new _ _).mono (bel_new w _).size)
  have bb := b2.trans (hW.mono b2.size)
  refine ⟨H0.out.up bb, ?_, ?_, Oth.of_below bb⟩
  ·rw [hW.block _ (by simp; omega), (bel_new (w.alloc (.cells #[.int .i64 r.cl, .int .i64 r.st, .int .i64 r.kd, .int .i64 r.le, .string r.nm] 123)) (.cells #[.int .i64 0, .int .i64 0, .int .i64 0, .int .i64 0] 55)).block _ (by simp)]; exact blk_new _ _ _
  ·rw [hW.block _ (by simp), ← e1]; exact blk_new _ _ _
 obtain ⟨la, lc, rfl⟩ : ∃ a c, v2 = .slice a 4 c := by
  obtain ⟨a, c, e⟩ := h.ol.slice
  rw [h.len, hl4] at e
  exact ⟨a, c, e⟩
 have hsB : Hid (B ≤ w.heap.size) := h.size
 clear h hT hidx hkd h4 hl4
 go_enter Tryd.func114, Tryd.ntmps114
 go_upto_region 1 with fail
 generalize (w.alloc (.cells #[.int .i64 r.cl, .int .i64 r.st, .int .i64 r.kd, .int .i64 r.le, .string r.nm] 123)).alloc (.cells #[.int .i64 0, .int .i64 0, .int .i64 0, .int .i64 0] 55) = w2 at HX ⊢
 obtain ⟨X, hX, W, QI0, QO0⟩ := Qc.klass w2
 have QI : Hid (∀ w', Below w2.heap.size w2 w' → ∃ x, w' = W x) := QI0
 have QO : Hid (∀ x, Below w2.heap.size w2 (W x)) := QO0
 clear QI0 QO0
 have HF : Hid (∀ q, Calls Tryd.prog 115 #[.agg #[.int .i64 T.tm, .int .i64 T.nx, .slice la 4 lc, v3], .string r.nm] (W q) fun e w' => e = .returned (.int .i64 (-1)) ∧ Below (W q).heap.size (W q) w') := fun q => HF0.out _ (HX.out _ (QO.out q)).1
 have y0 := fun q => (blk_cell (HX.out _ (QO.out q)).1.hx 0 (x := .int .i64 T.tm) rfl).1
 have y1 := fun q => (blk_cell (HX.out _ (QO.out q)).1.hx 1 (x := .int .i64 T.nx) rfl).1
 have y2 := fun q => (blk_cell (HX.out _ (QO.out q)).1.hx 2 (x := .slice la 4 lc) rfl).1
 have y3 := fun q => (blk_cell (HX.out _ (QO.out q)).1.hx 3 (x := v3) rfl).1
 have z4 := fun q => (blk_cell (HX.out _ (QO.out q)).2.1 4 (x := .string r.nm) rfl).1
 refine Qc.region_class (W := W) (by kernel_rfl) (by kernel_rfl) (QI.out _ Qc.from_drew) ?_
 repeat (go_big_quiet_step (first | (go_at_call 115; refine (HF.out _).mono ?_; rintro e w2 ⟨rfl, b2⟩; exact ⟨rfl, Qc.back QI.out QO.out b2⟩)))
 refine wpQuiet_nil ?_
 rintro _ ⟨xq, rfl⟩
 have G3 : Hid (Below w2.heap.size w2 (W xq)) := QO.out xq
 clear y0 y1 y2 y3 z4 HF HF0 QO QI
 generalize W xq = w3 at G3 ⊢
 have x2 := (blk_cell (HX.out _ G3.out).1.hx 2 (x := .slice la 4 lc) rfl).1
 have AX : Hid (w3.heap[w.heap.size + 1]? = some (.cells #[.int .i64 0, .int .i64 0, .int .i64 0, .int .i64 0] 55 (0, 0))) := (HX.out _ G3.out).2.2.1
 have RF := ans_put AX.out (HX.out _ G3.out).1 (HX.out _ G3.out).2.2.2 (by omega) (Nat.le_succ_of_le hsB.out) (.int .i64 6) (.int .i64 0) (.int .i64 (-1)) (.int .i64 0)
 obtain ⟨n0, f0⟩ := blk_cell AX.out 0 (x := .int .i64 0) rfl
 obtain ⟨n1, f1⟩ := blk_cell AX.out 1 (x := .int .i64 0) rfl
 obtain ⟨n2, f2⟩ := blk_cell AX.out 2 (x := .int .i64 0) rfl
 obtain ⟨n3, f3⟩ := blk_cell AX.out 3 (x := .int .i64 0) rfl
 have RFH : Hid _ := RF
 clear RF
 go_wp2_with fail
 generalize ((((w3.setCell ⟨w.heap.size + 1, 0, none⟩ (.int .i64 6)).setCell ⟨w.heap.size + 1, 1, none⟩ (.int .i64 0)).setCell ⟨w.heap.size + 1, 2, none⟩ (.int .i64 (-1))).setCell ⟨w.heap.size + 1, 3, none⟩ (.int .i64 0)) = wf at RFH ⊢
 have d0 := (blk_cell RFH.out.1 0 (x := .int .i64 6) rfl).1
 have d1 := (blk_cell RFH.out.1 1 (x := .int .i64 0) rfl).1
 have d2 := (blk_cell RFH.out.1 2 (x := .int .i64 (-1)) rfl).1
 have d3 := (blk_cell RFH.out.1 3 (x := .int .i64 0) rfl).1
 refine bodyPost_ret (v := .agg #[.int .i64 6, .int .i64 0, .int .i64 (-1), .int .i64 0]) (by simp [results, Tryd.results114, go_sem, d0, d1, d2, d3]) rfl ?_
 refine ⟨?_, ⟨.slice la 4 lc, v3, ps, ?_⟩, RFH.out.2.2⟩
 ·rw [HDO.out]; rfl
 ·rw [HDO.out]; exact RFH.out.2.1
end Go.Proofs.YtakfniknkejgpaaDoor.Ea

/- Rows of locks appended to a row of one's own; a lock's place. -/
namespace Go.Proofs.YtakfniknkejgpaaDoor.Ea
open Go.RowKit Go.Proofs.YtakfniknkejgpaaDoor.Sl Go.Proofs.YtakfniknkejgpaaDoor.By Go.Proofs.YtakfniknkejgpaaDoor.Ap Go.Proofs.YtakfniknkejgpaaDoor.Tb Go.Proofs.YtakfniknkejgpaaDoor.Tw Go.Proofs.YtakfniknkejgpaaDoor.Mw Go.Proofs.YtakfniknkejgpaaDoor.Wa Go.Proofs.YtakfniknkejgpaaDoor.Tp Go.Proofs.YtakfniknkejgpaaDoor.Da
open Go.Proofs.YtakfniknkejgpaaDoor.Lo (LkA uV clL OwnL OwnL.kept OwnL.lt OwnL.below OwnL.row OwnL.slice own_block kind_ne Apart lenL atL)
open Go.Proofs.YtakfniknkejgpaaDoor.Tx (blk_cell blk_set blk_far blk_new bel_new)
def SrcL (W : World) (u : Value) (qs : List LkA) : Prop := ∃ a c, u = .slice a qs.length c ∧ (qs = [] ∨ ∃ b off, a = some ⟨b, off, none⟩ ∧ ∀ j z, (qs.flatMap clL)[j]? = some z → W.cell? ⟨b, off + j, none⟩ = some z)
theorem memL (ms : List LkA) : ∀ u ∈ ms.flatMap clL, u.oneCell' = true := by
 intro u hu
 obtain ⟨x, _, hx⟩ := List.mem_flatMap.1 hu
 unfold clL at hx
 simp only [List.mem_cons, List.not_mem_nil, or_false] at hx
 rcases hx with h | h | h | h | h <;> (rw [h]; rfl)
theorem runL {P : Program} {i : TypeInfo} (W : World) (B : Nat) (t ty : TypeId) (ht : P.underlying t = some (.slice 52)) (hi : P.info? 52 = some i) (hz : i.zero = some (.agg #[.string ⟨#[]⟩, .int .i64 0, .int .i64 0, .int .i64 0, .slice none 0 0])) (hsize : i.size = 5) (hby : i.bytes = 64)
 (v u : Value) (zs xs : List LkA) (hown : OwnL W B v zs) (hu : SrcL W u xs) (hB : B ≤ W.heap.size) (hlen : zs.length + xs.length ≤ 1000000) :
 ∃ v' w', (Builtin.append_ #[t, t] ty #[v, u]).run P W = .ok v' w' ∧ OwnL w' B v' (zs ++ xs) ∧ W.grownBy w' v.ownBlock ∧ (v'.ownBlock = v.ownBlock ∨ v'.ownBlock = some W.heap.size) := by
 have key : ∀ (ad : Addr) (cap : Nat), (∀ j z, (xs.flatMap clL)[j]? = some z → W.cell? (ad.add j) = some z) → u = .slice (some ad) xs.length cap → ∃ v' w', (Builtin.append_ #[t, t] ty #[v, u]).run P W = .ok v' w' ∧ OwnL w' B v' (zs ++ xs) ∧ W.grownBy w' v.ownBlock ∧ (v'.ownBlock = v.ownBlock ∨ v'.ownBlock = some W.heap.size) := fun ad cap hs hu => by
  obtain ⟨v', w', hr, h2, h3, _, h5⟩ := run_append_own_at (P := P) W B t ty 52 i _ 5 64 ht hi hz hsize hby rfl (by decide) v zs.length _ hown ad xs.length cap (xs.flatMap clL) (lenL xs) hs (memL xs) (by unfold maxLen; omega) (by omega) hB
  subst hu
  exact ⟨v', w', hr, by unfold OwnL; rw [List.flatMap_append, List.length_append]; exact h2, h3, h5⟩
 obtain ⟨a, cap, rfl, h⟩ := hu
 rcases h with rfl | ⟨b, off, rfl, h⟩
 ·cases a with
  | none =>
    have hr : (Builtin.append_ #[t, t] ty #[v, .slice none 0 cap]).run P W = .ok v W := by
     rcases hown.2 with ⟨rfl, _⟩ | ⟨g, cap', cur, rfl, _, _, hnc, _⟩
     ·simp [Builtin.append_, run_underlying ht, sizeOf, typeInfo, hi, Builtin.lenOf, Builtin.firstCells]
     ·simp [Builtin.append_, run_underlying ht, sizeOf, typeInfo, hi, Builtin.lenOf, Builtin.firstCells, hnc, storeCells]
    exact ⟨v, W, hr, by rw [List.append_nil]; exact hown, ⟨rfl, rfl, rfl, Nat.le_refl _, fun k _ _ => rfl⟩, .inl rfl⟩
  | some ad => exact key ad cap (fun j u hj => by simp at hj) rfl
 ·refine key _ cap (fun j z hj => ?_) rfl
  have h2 : (⟨b, off, none⟩ : Addr).add j = ⟨b, off + j, none⟩ := by unfold Addr.add; split <;> simp_all
  rw [h2]
  exact h j z hj
theorem flat_take (ps : List LkA) (k j : Nat) (z : Value) (h : ((ps.take k).flatMap clL)[j]? = some z) : (ps.flatMap clL)[j]? = some z := by
 have hj := (List.getElem?_eq_some_iff.1 h).1
 have e : ps.flatMap clL = (ps.take k).flatMap clL ++ (ps.drop k).flatMap clL := by rw [← List.flatMap_append, List.take_append_drop]
 rw [e, List.getElem?_append_left hj]
 exact h
theorem flat_drop (ps : List LkA) (k j : Nat) (hk : k ≤ ps.length) (z : Value) (h : ((ps.drop k).flatMap clL)[j]? = some z) : (ps.flatMap clL)[k * 5 + j]? = some z := by
 have e : ps.flatMap clL = (ps.take k).flatMap clL ++ (ps.drop k).flatMap clL := by rw [← List.flatMap_append, List.take_append_drop]
 have hl : ((ps.take k).flatMap clL).length = k * 5 := by rw [lenL, List.length_take, Nat.min_eq_left hk]
 rw [e, List.getElem?_append_right (by omega), hl, show k * 5 + j - k * 5 = j by omega]
 exact h
theorem src_take {W : World} {B g n c : Nat} {ps : List LkA} (h : OwnL W B (.slice (some ⟨g, 0, none⟩) n c) ps) {k : Nat} (hk : k ≤ ps.length) : SrcL W (.slice (some ⟨g, 0, none⟩) k c) (ps.take k) := by
 refine ⟨_, c, by rw [List.length_take, Nat.min_eq_left hk], ?_⟩
 rcases h.2 with ⟨e, _⟩ | ⟨g', cap, cur, e, _, hg, _, _, _, htk⟩
 ·cases e
 ·cases e
  refine .inr ⟨g, 0, rfl, fun j z hj => ?_⟩
  have h1 := flat_take ps k j z hj
  have hjl : j < ps.length * 5 := by have := (List.getElem?_eq_some_iff.1 h1).1; rw [lenL] at this; exact this
  rw [← htk, List.getElem?_take, if_pos hjl, Array.getElem?_toList] at h1
  rw [Nat.zero_add, Joins.cell_of_block hg]
  exact h1
theorem src_drop {W : World} {B g n c d : Nat} {ps : List LkA} (h : OwnL W B (.slice (some ⟨g, 0, none⟩) n c) ps) {k : Nat} (hk : k ≤ ps.length) : SrcL W (.slice (some ⟨g, k * 5, none⟩) (ps.length - k) d) (ps.drop k) := by
 refine ⟨_, d, by rw [List.length_drop], ?_⟩
 rcases h.2 with ⟨e, _⟩ | ⟨g', cap, cur, e, _, hg, _, _, _, htk⟩
 ·cases e
 ·cases e
  refine .inr ⟨g, k * 5, rfl, fun j z hj => ?_⟩
  have h1 := flat_drop ps k j hk z hj
  have hjl : k * 5 + j < ps.length * 5 := by have := (List.getElem?_eq_some_iff.1 h1).1; rw [lenL] at this; exact this
  rw [← htk, List.getElem?_take, if_pos hjl, Array.getElem?_toList] at h1
  rw [Joins.cell_of_block hg]
  exact h1
theorem src_one {W : World} (q : LkA) : SrcL (W.alloc (.cells #[.string q.1.n, .int .i64 q.1.t, .int .i64 q.1.h, .int .i64 q.1.e, .slice q.2.1 q.1.ws.length q.2.2] 52)) (.slice (some ⟨W.heap.size, 0, none⟩) 1 1) [q] := by
 refine ⟨_, 1, rfl, .inr ⟨W.heap.size, 0, rfl, fun j z hj => ?_⟩⟩
 rw [Nat.zero_add, Joins.cell_of_block (heap_alloc_new W _), ← hj]
 simp [clL, uV]
theorem SrcL.kept {W W' : World} {u : Value} {qs : List LkA} (h : SrcL W u qs) (hk : ∀ b, u.ownBlock = some b → W'.heap[b]? = W.heap[b]?) : SrcL W' u qs := by
 obtain ⟨a, c, rfl, h⟩ := h
 refine ⟨a, c, rfl, ?_⟩
 rcases h with h | ⟨b, off, rfl, h⟩
 ·exact .inl h
 ·exact .inr ⟨b, off, rfl, fun j z hj => by rw [← h j z hj]; simp only [World.cell?, hk b (by rfl)]⟩
end Go.Proofs.YtakfniknkejgpaaDoor.Ea
