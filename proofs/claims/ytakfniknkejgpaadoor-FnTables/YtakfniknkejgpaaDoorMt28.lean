/- Texts put together: Eg, El, Em. -/
import Derived.Test.YtakfniknkejgpaaDoorMt26
import Derived.Test.YtakfniknkejgpaaDoorMt27
/- l05Acquire where one that waits is added. -/
namespace Go.Proofs.YtakfniknkejgpaaDoor.Ea
open Go.RowKit Go.Proofs.YtakfniknkejgpaaDoor.Sl Go.Proofs.YtakfniknkejgpaaDoor.By Go.Proofs.YtakfniknkejgpaaDoor.Ap Go.Proofs.YtakfniknkejgpaaDoor.Tb Go.Proofs.YtakfniknkejgpaaDoor.Tw Go.Proofs.YtakfniknkejgpaaDoor.Mw Go.Proofs.YtakfniknkejgpaaDoor.Wa Go.Proofs.YtakfniknkejgpaaDoor.Tp Go.Proofs.YtakfniknkejgpaaDoor.Da
open Go.Proofs.YtakfniknkejgpaaDoor.Lo (LkA uV clL OwnL OwnL.kept OwnL.lt OwnL.below OwnL.row OwnL.slice own_block kind_ne Apart)
open Go.Proofs.YtakfniknkejgpaaDoor.Lf (Fnd l05Find_any)
open Go.Proofs.YtakfniknkejgpaaDoor.Tx (blk_cell blk_set blk_far blk_new bel_new)

theorem step_wt {P : Program} {ops : Array Oper} {o : Oper} {a : Act} {K : Act → World → Prop} {Q : Exit → Act → World → Prop} {E : Prop} {i : TypeInfo} (hgd : o.guard = none) (s z : Operand) (t : TypeId) (ho : o.op = .call { callee := .builtin .append, args := #[s, z], argTypes := #[t, t] }) (ht : P.underlying t = some (.slice 93)) (hi : P.info? 93 = some i) (hz : i.zero = some (.agg #[.int .i64 0, .int .i64 0]))
 (hsize : i.size = 2) (hby : i.bytes = 16) {w0 : World} (W : World) {B x : Nat} {T : Tab} {v3 : Value} {ps : List LkA} {g cap n : Nat} (h : TM w0 W B x T (.slice (some ⟨g, 0, none⟩) n cap) v3 ps) {k : Nat} {p : LkA} (hk : ps[k]? = some p) (hg : B ≤ g) (m : Wt) (hs : a.eval s = .slice p.2.1 p.1.ws.length p.2.2) (gx : Nat) (hx : a.eval z = .slice (some ⟨gx, 0, none⟩) 1 1) (hbx : W.heap[gx]? = some (.cells #[.int .i64 m.c, .int .i64 m.l] 93 (0, 0))) (hlen : p.1.ws.length ≤ 1000)
 (hK : ∀ a' c' w', w'.cell? ⟨g, k * 5 + 4, none⟩ = some (.slice p.2.1 p.1.ws.length p.2.2) → w'.frozen? ⟨g, k * 5 + 4, none⟩ = false → Hid (TM w0 (w'.setCell ⟨g, k * 5 + 4, none⟩ (.slice a' (p.1.ws.length + 1) c')) B x { T with ls := T.ls.set k { p.1 with ws := p.1.ws ++ [m] } } (.slice (some ⟨g, 0, none⟩) n cap) v3 (ps.set k ({ p.1 with ws := p.1.ws ++ [m] }, a', c')) ∧ Oth W (w'.setCell ⟨g, k * 5 + 4, none⟩ (.slice a' (p.1.ws.length + 1) c'))) → K (a.put o.dst (.slice a' (p.1.ws.length + 1) c')) w') : if Region.wanted o (yielded ops a.tmps) = true then Oper.wp P o a W K Q else E := by
 have hw : Region.wanted o (yielded ops a.tmps) = true := by simp [Region.wanted, hgd]
 rw [if_pos hw]
 have hpw := h.ow p (List.mem_of_getElem? hk)
 obtain ⟨v', w', hr, h2, h3, _, h5⟩ := run_append_own_at (P := P) W B t o.type 93 i _ 2 16 ht hi hz hsize hby rfl (by decide) (uV p) p.1.ws.length _ hpw ⟨gx, 0, none⟩ 1 1 (clW m) rfl (by
  intro j u hj
  have e2 : (⟨gx, 0, none⟩ : Addr).add j = ⟨gx, j, none⟩ := by unfold Addr.add; split <;> simp_all
  rw [e2, Joins.cell_of_block hbx, ← hj]
  simp [clW]) (oneW m) (by unfold maxLen; omega) (by omega) h.size
 have ho2 : Wa.OwnW w' B v' (p.1.ws ++ [m]) := by unfold Wa.OwnW; rw [List.flatMap_append, List.length_append]; simpa using h2
 obtain ⟨a', c', rfl⟩ := ho2.slice
 have hl : (p.1.ws ++ [m]).length = p.1.ws.length + 1 := by simp
 obtain ⟨cl, hcl⟩ := own_block h.ol (g := g) rfl
 have kx : ∀ (b : Nat) (cs : Array Value) (e : TypeId), W.heap[b]? = some (.cells cs e (0, 0)) → e ≠ 93 → w'.heap[b]? = W.heap[b]? := fun b cs e hb he => h3.block b (Array.getElem?_eq_some_iff.1 hb).1 (fun e2 => by
  obtain ⟨c2, h2⟩ := own_block hpw e2.symm
  exact kind_ne hb h2 he rfl)
 have hcl' : w'.heap[g]? = some (.cells cl 52 (0, 0)) := (kx g cl _ hcl (by decide)).trans hcl
 have hcell : cl[k * 5 + 4]? = some (.slice p.2.1 p.1.ws.length p.2.2) := by
  obtain ⟨g', cap', e, _, _, _, hc⟩ := h.row hk
  cases e
  rw [← Joins.cell_of_block hcl]
  exact (hc 4 (uV p) rfl).1
 have h6 := h.wadd hk hg ho2 h3 h5
 rw [hl] at h6 hr
 refine wp_app ho hs hx hr (hK a' c' w' (blk_cell hcl' _ hcell).1 (blk_cell hcl' _ hcell).2 ⟨h6, fun b cs e hb _ e2 e3 _ => ?_⟩)
 rw [blk_far (kind_ne hb hcl e2), kx b cs e hb e3]
 exact hb
set_option maxRecDepth 100000 in
set_option maxHeartbeats 6400000 in
theorem l05Acquire_add {w0 w : World} {B x : Nat} {T : Tab} {v2 v3 : Value} {ps : List LkA} (h : TM w0 w B x T v2 v3 ps) (hT : TOK T) (r : Da.Ask) (hr : AskOK r) (hkd : r.kd = 1) {k : Nat} (hidx : idx T.ls r.nm = some k) {y : Lk} (hy : T.ls[k]? = some y) (hnh : ¬ y.h = r.cl) (hnw : wtB y.ws r.cl = false) (hh1 : ¬ y.h = -1) (hD : ¬ 4 ≤ y.ws.length) :
 Calls Tryd.prog 114 #[.pointer (some ⟨x, 0, none⟩), .agg #[.int .i64 r.cl, .int .i64 r.st, .int .i64 r.kd, .int .i64 r.le, .string r.nm]] w fun e w' => DoP w0 w B x (doT T r) e w' := by
 obtain ⟨p, hp, hpy⟩ := h.at hy
 have htm := inB_le hT.1
 have hnx := inB_le hT.2.1
 have hle : 0 ≤ r.le ∧ r.le ≤ 1000 := by
  rcases hr.2.2.1 with ⟨_, h⟩ | ⟨h, _⟩
  ·have := inB_le h; omega
  ·omega
 have hl4 : T.ls.length ≤ 4 := hT.2.2.1
 have HDO : Hid (doT T r = (⟨T.tm, acN T.nx r y, T.ls.set k (acL T.tm T.nx r y), T.ss⟩, tell (acK r y) (acL T.tm T.nx r y))) := by
  show _ = _
  unfold doT
  rw [hidx]
  simp only [getD_at hy]
 have HF0 : Hid (∀ W, TM w0 W B x T v2 v3 ps → Calls Tryd.prog 115 #[.agg #[.int .i64 T.tm, .int .i64 T.nx, v2, v3], .string r.nm] W fun e w' => e = .returned (.int .i64 (k : Int)) ∧ Below W.heap.size W w') := fun W hW => (l05Find_any T.tm T.nx v2 v3 T.ls r.nm W hW.rows (by omega)).mono fun e w' ⟨q, h1, h2, h3⟩ => ⟨by rw [h1, fnd_idx hidx h2], h3⟩
 have H0 : Hid (TM w0 w B x T v2 v3 ps) := h
 have HX : Hid (∀ W, Below ((w.alloc (.cells #[.int .i64 r.cl, .int .i64 r.st, .int .i64 r.kd, .int .i64 r.le, .string r.nm] 123)).alloc (.cells #[.int .i64 0, .int .i64 0, .int .i64 0, .int .i64 0] 55)).heap.size ((w.alloc (.cells #[.int .i64 r.cl, .int .i64 r.st, .int .i64 r.kd, .int .i64 r.le, .string r.nm] 123)).alloc (.cells #[.int .i64 0, .int .i64 0, .int .i64 0, .int .i64 0] 55)) W → TM w0 W B x T v2 v3 ps ∧ W.heap[w.heap.size]? = some (.cells #[.int .i64 r.cl, .int .i64 r.st, .int .i64 r.kd, .int .i64 r.le, .string r.nm] 123 (0, 0)) ∧ W.heap[w.heap.size + 1]? = some (.cells #[.int .i64 0, .int .i64 0, .int .i64 0, .int .i64 0] 55 (0, 0)) ∧ Oth w W) := fun W hW => by
  have e1 : (w.alloc (.cells #[.int .i64 r.cl, .int .i64 r.st, .int .i64 r.kd, .int .i64 r.le, .string r.nm] 123)).heap.size = w.heap.size + 1 := by simp
  have b2 : Below w.heap.size w ((w.alloc (.cells #[.int .i64 r.cl, .int .i64 r.st, .int .i64 r.kd, .int .i64 r.le, .string r.nm] 123)).alloc (.cells #[.int .i64 0, .int .i64 0, .int .i64 0, .int .i64 0] 55)) := (bel_new w _).trans ((bel_new _ _).mono (bel_new w _).size)
  have bb := b2.trans (hW.mono b2.size)
  refine ⟨H0.out.up bb, ?_, ?_, Oth.of_below bb⟩
  ·rw [hW.block _ (by simp; omega), (bel_new (w.alloc (.cells #[.int .i64 r.cl, .int .i64 r.st, .int .i64 r.kd, .int .i64 r.le, .string r.nm] 123)) (.cells #[.int .i64 0, .int .i64 0, .int .i64 0, .int .i64 0] 55)).block _ (by simp)]; exact blk_new _ _ _
  ·rw [hW.block _ (by simp), ← e1]; exact blk_new _ _ _
 obtain ⟨g, cap, hv, hgB, _, _, _⟩ := h.row hp
 subst hv
 have hpl : ps.length = T.ls.length := h.len
 have hkl : k < ps.length := (List.getElem?_eq_some_iff.1 hp).1
 have hkI : (k : Int) < (ps.length : Int) := by omega
 have hk0 : ¬ (k : Int) < 0 := by omega
 have hsB : Hid (B ≤ w.heap.size) := h.size
 have HP : Hid (ps[k]? = some p ∧ p.1 = y ∧ T.ls[k]? = some y ∧ B ≤ g) := ⟨hp, hpy, hy, hgB⟩
 have HLN : Hid (ps.length = T.ls.length) := hpl
 have HTK : Hid (TOK T) := hT
 have HKD : Hid (r.kd = 1) := hkd
 clear h hy hp hpy hpl hT hidx hkd
 go_enter Tryd.func114, Tryd.ntmps114
 go_upto_region 1 with fail
 generalize (w.alloc (.cells #[.int .i64 r.cl, .int .i64 r.st, .int .i64 r.kd, .int .i64 r.le, .string r.nm] 123)).alloc (.cells #[.int .i64 0, .int .i64 0, .int .i64 0, .int .i64 0] 55) = w2 at HX ⊢
 obtain ⟨X, hX, W, QI0, QO0⟩ := Qc.klass w2
 have QI : Hid (∀ w', Below w2.heap.size w2 w' → ∃ x, w' = W x) := QI0
 have QO : Hid (∀ x, Below w2.heap.size w2 (W x)) := QO0
 clear QI0 QO0
 have HF : Hid (∀ q, Calls Tryd.prog 115 #[.agg #[.int .i64 T.tm, .int .i64 T.nx, .slice (some ⟨g, 0, none⟩) ps.length cap, v3], .string r.nm] (W q) fun e w' => e = .returned (.int .i64 (k : Int)) ∧ Below (W q).heap.size (W q) w') := fun q => HF0.out _ (HX.out _ (QO.out q)).1
 have y0 := fun q => (blk_cell (HX.out _ (QO.out q)).1.hx 0 (x := .int .i64 T.tm) rfl).1
 have y1 := fun q => (blk_cell (HX.out _ (QO.out q)).1.hx 1 (x := .int .i64 T.nx) rfl).1
 have y2 := fun q => (blk_cell (HX.out _ (QO.out q)).1.hx 2 (x := .slice (some ⟨g, 0, none⟩) ps.length cap) rfl).1
 have y3 := fun q => (blk_cell (HX.out _ (QO.out q)).1.hx 3 (x := v3) rfl).1
 have z4 := fun q => (blk_cell (HX.out _ (QO.out q)).2.1 4 (x := .string r.nm) rfl).1
 refine Qc.region_class (W := W) (by kernel_rfl) (by kernel_rfl) (QI.out _ Qc.from_drew) ?_
 repeat (go_big_quiet_step (first | (go_at_call 115; refine (HF.out _).mono ?_; rintro e w2 ⟨rfl, b2⟩; exact ⟨rfl, Qc.back QI.out QO.out b2⟩)))
 refine wpQuiet_nil ?_
 rintro _ ⟨xq, rfl⟩
 have G3 : Hid (Below w2.heap.size w2 (W xq)) := QO.out xq
 clear y0 y1 y2 y3 z4 HF HF0 QO QI
 generalize W xq = w3 at G3 ⊢
 obtain ⟨t3, q3, _, _⟩ := HX.out _ G3.out
 have x2 := (blk_cell t3.hx 2 (x := .slice (some ⟨g, 0, none⟩) ps.length cap) rfl).1
 have c0 := (blk_cell q3 0 (x := .int .i64 r.cl) rfl).1
 have HM3 : Hid (∀ j u, (clL p)[j]? = some u → w3.cell? ⟨g, k * 5 + j, none⟩ = some u) := fun j u hj => by
  obtain ⟨g', cap', e, _, _, _, hc⟩ := t3.row HP.out.1
  cases e
  exact (hc j u hj).1
 have HRW : Hid (RowW w3 (uV p) p.1.ws) := (t3.ow p (List.mem_of_getElem? HP.out.1)).row
 have HWL : Hid (p.1.ws.length ≤ 4 ∧ p.1.ws.length ≤ 1000) := by
  have hh := (HTK.out.2.2.2.1 k y HP.out.2.2.1).2.2.2
  have h5 : y.ws.length ≤ 4 := by
   rcases hh with hh | hh
   ·have := hh.2.2; omega
   ·exact hh.2.2.2.1
  rw [HP.out.2.1]
  exact ⟨h5, by omega⟩
 clear t3 q3
 go_upto_region 11 with fail
 clear x2
 have m0 : w3.cell? ⟨g, k * 5, none⟩ = some (.string p.1.n) := HM3.out 0 (.string p.1.n) rfl
 have m1 := HM3.out 1 (.int .i64 p.1.t) rfl
 have m2 := HM3.out 2 (.int .i64 p.1.h) rfl
 have m3 := HM3.out 3 (.int .i64 p.1.e) rfl
 have m4 := HM3.out 4 (.slice p.2.1 p.1.ws.length p.2.2) rfl
 clear HM3
 have hA' : (p.1.h == r.cl) = false := by have := hnh; rw [← HP.out.2.1] at this; simpa using this
 obtain ⟨ix, HIX⟩ : ∃ ix, Hid (wIx p.1.ws r.cl = ix) := ⟨_, rfl⟩
 have hB : wtB p.1.ws r.cl = false := by rw [HP.out.2.1]; exact hnw
 have hix : ¬ (0 : Int) ≤ ix := by rw [← HIX.out]; unfold wIx; rw [if_neg (by rw [hB]; decide)]; decide
 clear hB
 have HNO : Hid (¬ (y.h = r.cl ∨ wtB y.ws r.cl = true)) := fun h => by
  rcases h with h | h
  ·exact hnh h
  ·rw [hnw] at h; cases h
 have hC : ¬ p.1.h < 0 := by
  have hh := (HTK.out.2.2.2.1 k y HP.out.2.2.1).2.2.2
  rw [HP.out.2.1]
  rcases hh with hh | hh
  ·exact absurd hh.1 hh1
  ·have := (inB_le hh.2.1).1; omega
 have HAC : Hid (acN T.nx r y = T.nx ∧ acL T.tm T.nx r y = { y with ws := y.ws ++ [⟨r.cl, r.le⟩] } ∧ acK r y = 2) := by
  unfold acN acL acK
  rw [HKD.out]
  simp only [if_true, HNO.out, hh1, hD, if_false]
  exact ⟨trivial, trivial, trivial⟩
 have hD4 : ((p.1.ws.length : Int) == 4) = false := by rw [HP.out.2.1]; simp; omega
 have HD : Hid (p.1.ws.length < 4) := by rw [HP.out.2.1]; show _ < _; omega
 clear hnh hnw hh1 hD
 have c3 : w3.cell? ⟨w.heap.size, 3, none⟩ = some (.int .i64 r.le) := (blk_cell (HX.out _ G3.out).2.1 3 (x := .int .i64 r.le) rfl).1
 obtain ⟨X, hX, W, QI0, QO0⟩ := Qc.klass w3
 have QI : Hid (∀ w', Below w3.heap.size w3 w' → ∃ x, w' = W x) := QI0
 have QO : Hid (∀ x, Below w3.heap.size w3 (W x)) := QO0
 clear QI0 QO0
 have y0 := Qc.cell_all QO.out m0
 have y1 := Qc.cell_all QO.out m1
 have y2 := Qc.cell_all QO.out m2
 have y3 := Qc.cell_all QO.out m3
 have y4 := Qc.cell_all QO.out m4
 have z0 := Qc.cell_all QO.out c0
 have HW : Hid (∀ q, Calls Tryd.prog 117 #[.agg #[.string p.1.n, .int .i64 p.1.t, .int .i64 p.1.h, .int .i64 p.1.e, .slice p.2.1 p.1.ws.length p.2.2], .int .i64 r.cl] (W q) fun e w' => e = .returned (.int .i64 ix) ∧ Below (W q).heap.size (W q) w') := fun q => by
  rw [← HIX.out]
  exact l05Waits_any p.1 (uV p) r.cl (W q) (RowW.below HRW.out (QO.out q)) HWL.out.2
 refine Qc.region_class (W := W) (by kernel_rfl) (by kernel_rfl) (QI.out _ Qc.from_drew) ?_
 repeat (go_big_quiet_step (first | (go_at_call 117; refine (HW.out _).mono ?_; rintro e w2 ⟨rfl, b2⟩; exact ⟨rfl, Qc.back QI.out QO.out b2⟩)))
 refine wpQuiet_nil ?_
 rintro _ ⟨xq, rfl⟩
 have G4 : Hid (Below w2.heap.size w2 (W xq)) := G3.out.trans ((QO.out xq).mono G3.out.size)
 clear y0 y1 y2 y3 y4 z0 QO QI HW m0 m1 m2 m3 m4 c0 c3 G3
 generalize W xq = w4 at G4 ⊢
 obtain ⟨t4, q4, z4, _⟩ := HX.out _ G4.out
 have HM : Hid (∀ j u, (clL p)[j]? = some u → w4.cell? ⟨g, k * 5 + j, none⟩ = some u) := fun j u hj => by
  obtain ⟨g', cap', e, _, _, _, hc⟩ := t4.row HP.out.1
  cases e
  exact (hc j u hj).1
 have c0 := (blk_cell q4 0 (x := .int .i64 r.cl) rfl).1
 have c3 := (blk_cell q4 3 (x := .int .i64 r.le) rfl).1
 have m0 : w4.cell? ⟨g, k * 5, none⟩ = some (.string p.1.n) := HM.out 0 (.string p.1.n) rfl
 have m1 := HM.out 1 (.int .i64 p.1.t) rfl
 have m2 := HM.out 2 (.int .i64 p.1.h) rfl
 have m3 := HM.out 3 (.int .i64 p.1.e) rfl
 have m4 := HM.out 4 (.slice p.2.1 p.1.ws.length p.2.2) rfl
 clear t4 q4 z4
 go_upto_region 18 with fail
 have HB : Hid (∀ W, Below w4.heap.size w4 W → TM w0 W B x T (.slice (some ⟨g, 0, none⟩) ps.length cap) v3 ps ∧ W.heap[w.heap.size + 1]? = some (.cells #[.int .i64 0, .int .i64 0, .int .i64 0, .int .i64 0] 55 (0, 0)) ∧ Oth w W) := fun W hW => by
  have hh := HX.out W (G4.out.trans (hW.mono G4.out.size))
  exact ⟨hh.1, hh.2.2.1, hh.2.2.2⟩
 obtain ⟨j0, hj0, hjz, hj1, hj2⟩ := info_parts infoW
 have hl1 : p.1.ws.length ≤ 1000 := HWL.out.2
 clear m0 m1 m2 m3 HM
 have m4d : w4.drew.cell? ⟨g, k * 5 + 4, none⟩ = some (.slice p.2.1 p.1.ws.length p.2.2) := m4
 have m4a : ∀ o, (w4.alloc o).cell? ⟨g, k * 5 + 4, none⟩ = some (.slice p.2.1 p.1.ws.length p.2.2) := fun o => by
  rw [(bel_new w4 o).cell (p := ⟨g, k * 5 + 4, none⟩) (World.block_lt_of_cell? w4 _ m4)]
  exact m4
 have c0d : w4.drew.cell? ⟨w.heap.size, 0, none⟩ = some (.int .i64 r.cl) := c0
 have c3d : w4.drew.cell? ⟨w.heap.size, 3, none⟩ = some (.int .i64 r.le) := c3
 have HC : Hid (∀ o, Below w4.heap.size w4 (w4.alloc o)) := fun o => bel_new w4 o
 have HCD : Hid (∀ o, Below w4.heap.size w4 (w4.alloc o).drew) := fun o => (bel_new w4 o).drew
 go_region_law
  (first
    | (refine step_wt (by rfl) _ _ 50 (by rfl) Tryd.underlying50 hj0 hjz hj1 hj2 _ (HB.out _ (by first | exact HC.out _ | exact HCD.out _)).1 HP.out.1 HP.out.2.2.2 ⟨r.cl, r.le⟩ (by rfl) _ (by rfl) (by first | exact heap_alloc_new _ _ | exact (heap_alloc_new _ _ : (World.alloc _ _).drew.heap[_]? = _)) hl1 ?_; intro a5 c5 w5 e5 f5 T5; try go_simp))
 all_goals
  have H6 : Hid (TM w0 (w5.setCell ⟨g, k * 5 + 4, none⟩ (.slice a5 (p.1.ws.length + 1) c5)) B x { T with ls := T.ls.set k (⟨p.1.n, p.1.t, p.1.h, p.1.e, p.1.ws ++ [⟨r.cl, r.le⟩]⟩ : Lk) } (.slice (some ⟨g, 0, none⟩) ps.length cap) v3 (ps.set k ((⟨p.1.n, p.1.t, p.1.h, p.1.e, p.1.ws ++ [⟨r.cl, r.le⟩]⟩ : Lk), a5, c5)) ∧ (w5.setCell ⟨g, k * 5 + 4, none⟩ (.slice a5 (p.1.ws.length + 1) c5)).heap[w.heap.size + 1]? = some (.cells #[.int .i64 0, .int .i64 0, .int .i64 0, .int .i64 0] 55 (0, 0)) ∧ Oth w (w5.setCell ⟨g, k * 5 + 4, none⟩ (.slice a5 (p.1.ws.length + 1) c5))) := by
   have hh := HB.out _ (HCD.out (.cells #[.int .i64 r.cl, .int .i64 r.le] 93))
   exact ⟨T5.out.1, T5.out.2 _ _ _ hh.2.1 (by decide) (by decide) (by decide) (by decide), hh.2.2.trans T5.out.2⟩
  clear T5 e5 f5 HB HC HCD m4 m4d m4a c0 c3 c0d c3d HRW HX G4
  generalize (w5.setCell ⟨g, k * 5 + 4, none⟩ (.slice a5 (p.1.ws.length + 1) c5)) = w6 at H6 ⊢
  have HM6 : Hid (∀ j u, (clL ((⟨p.1.n, p.1.t, p.1.h, p.1.e, p.1.ws ++ [⟨r.cl, r.le⟩]⟩ : Lk), a5, c5))[j]? = some u → w6.cell? ⟨g, k * 5 + j, none⟩ = some u) := fun j u hj => by
   obtain ⟨g', cap', e, _, _, _, hc⟩ := H6.out.1.row (set_at HP.out.1)
   rw [List.length_set] at e
   cases e
   exact (hc j u hj).1
  have hl5 : (p.1.ws ++ [(⟨r.cl, r.le⟩ : Wt)]).length = p.1.ws.length + 1 := by simp
  have m0 : w6.cell? ⟨g, k * 5, none⟩ = some (.string p.1.n) := HM6.out 0 _ rfl
  have m1 := HM6.out 1 (.int .i64 p.1.t) rfl
  have m2 := HM6.out 2 (.int .i64 p.1.h) rfl
  have m3 := HM6.out 3 (.int .i64 p.1.e) rfl
  have m4 := HM6.out 4 (.slice a5 (p.1.ws.length + 1) c5) (by rw [← hl5]; rfl)
  have HTL : Hid (∀ W, Calls Tryd.prog 116 #[.int .i64 2, .agg #[.string p.1.n, .int .i64 p.1.t, .int .i64 p.1.h, .int .i64 p.1.e, .slice a5 (p.1.ws.length + 1) c5]] W fun e w' => e = .returned (.agg #[.int .i64 2, .int .i64 p.1.t, .int .i64 p.1.h, .int .i64 p.1.e]) ∧ Below W.heap.size W w') := fun W => by
   have := l05Tell_any 2 (⟨p.1.n, p.1.t, p.1.h, p.1.e, p.1.ws ++ [⟨r.cl, r.le⟩]⟩ : Lk) (.slice a5 (p.1.ws.length + 1) c5) W
   exact this
  clear HM6 hl5
  go_wp2_with fail
  refine (HTL.out _).mono ?_
  rintro e w7 ⟨rfl, b7⟩
  have T7 : Hid (TM w0 w7 B x { T with ls := T.ls.set k (⟨p.1.n, p.1.t, p.1.h, p.1.e, p.1.ws ++ [⟨r.cl, r.le⟩]⟩ : Lk) } (.slice (some ⟨g, 0, none⟩) ps.length cap) v3 (ps.set k ((⟨p.1.n, p.1.t, p.1.h, p.1.e, p.1.ws ++ [⟨r.cl, r.le⟩]⟩ : Lk), a5, c5)) ∧ w7.heap[w.heap.size + 1]? = some (.cells #[.int .i64 0, .int .i64 0, .int .i64 0, .int .i64 0] 55 (0, 0)) ∧ Oth w w7) := ⟨H6.out.1.up b7, (b7.block _ (Array.getElem?_eq_some_iff.1 H6.out.2.1).1).trans H6.out.2.1, H6.out.2.2.trans (Oth.of_below b7)⟩
  clear b7 m0 m1 m2 m3 m4 H6
  have RFH : Hid _ := ans_put T7.out.2.1 T7.out.1 T7.out.2.2 (by omega) (Nat.le_succ_of_le hsB.out) (.int .i64 2) (.int .i64 p.1.t) (.int .i64 p.1.h) (.int .i64 p.1.e)
  obtain ⟨n0, f0⟩ := blk_cell T7.out.2.1 0 (x := .int .i64 0) rfl
  obtain ⟨n1, f1⟩ := blk_cell T7.out.2.1 1 (x := .int .i64 0) rfl
  obtain ⟨n2, f2⟩ := blk_cell T7.out.2.1 2 (x := .int .i64 0) rfl
  obtain ⟨n3, f3⟩ := blk_cell T7.out.2.1 3 (x := .int .i64 0) rfl
  clear T7
  go_wp2_with fail
  generalize ((((w7.setCell ⟨w.heap.size + 1, 0, none⟩ (.int .i64 2)).setCell ⟨w.heap.size + 1, 1, none⟩ (.int .i64 p.1.t)).setCell ⟨w.heap.size + 1, 2, none⟩ (.int .i64 p.1.h)).setCell ⟨w.heap.size + 1, 3, none⟩ (.int .i64 p.1.e)) = wf at RFH ⊢
  have d0 := (blk_cell RFH.out.1 0 (x := .int .i64 2) rfl).1
  have d1 := (blk_cell RFH.out.1 1 (x := .int .i64 p.1.t) rfl).1
  have d2 := (blk_cell RFH.out.1 2 (x := .int .i64 p.1.h) rfl).1
  have d3 := (blk_cell RFH.out.1 3 (x := .int .i64 p.1.e) rfl).1
  refine bodyPost_ret (v := .agg #[.int .i64 2, .int .i64 p.1.t, .int .i64 p.1.h, .int .i64 p.1.e]) (by simp [results, Tryd.results114, go_sem, d0, d1, d2, d3]) rfl ?_
  refine ⟨?_, ⟨.slice (some ⟨g, 0, none⟩) ps.length cap, v3, ps.set k ((⟨p.1.n, p.1.t, p.1.h, p.1.e, p.1.ws ++ [⟨r.cl, r.le⟩]⟩ : Lk), a5, c5), ?_⟩, RFH.out.2.2⟩
  ·rw [HDO.out, HAC.out.1, HAC.out.2.1, HAC.out.2.2, ← HP.out.2.1]; rfl
  ·rw [HDO.out, HAC.out.1, HAC.out.2.1, ← HP.out.2.1]; exact RFH.out.2.1
end Go.Proofs.YtakfniknkejgpaaDoor.Ea

/- Rows of waiters and of Seens appended to rows of one's own; l05Acquire. -/
namespace Go.Proofs.YtakfniknkejgpaaDoor.Ea
open Go.RowKit Go.Proofs.YtakfniknkejgpaaDoor.Sl Go.Proofs.YtakfniknkejgpaaDoor.By Go.Proofs.YtakfniknkejgpaaDoor.Ap Go.Proofs.YtakfniknkejgpaaDoor.Tb Go.Proofs.YtakfniknkejgpaaDoor.Tw Go.Proofs.YtakfniknkejgpaaDoor.Wa Go.Proofs.YtakfniknkejgpaaDoor.Tp Go.Proofs.YtakfniknkejgpaaDoor.Da
open Go.Proofs.YtakfniknkejgpaaDoor.Lo (LkA uV clL OwnL OwnL.kept OwnL.lt OwnL.below OwnL.row OwnL.slice own_block kind_ne Apart lenL atL)
open Go.Proofs.YtakfniknkejgpaaDoor.Tx (blk_cell blk_set blk_far blk_new bel_new)
def SrcW (W : World) (u : Value) (qs : List Wt) : Prop := ∃ a c, u = .slice a qs.length c ∧ (qs = [] ∨ ∃ b off, a = some ⟨b, off, none⟩ ∧ ∀ j z, (qs.flatMap clW)[j]? = some z → W.cell? ⟨b, off + j, none⟩ = some z)
theorem runW {P : Program} {i : TypeInfo} (W : World) (B : Nat) (t ty : TypeId) (ht : P.underlying t = some (.slice 93)) (hi : P.info? 93 = some i) (hz : i.zero = some (.agg #[.int .i64 0, .int .i64 0])) (hsize : i.size = 2) (hby : i.bytes = 16)
 (v u : Value) (zs xs : List Wt) (hown : OwnW W B v zs) (hu : SrcW W u xs) (hB : B ≤ W.heap.size) (hlen : zs.length + xs.length ≤ 1000000) :
 ∃ v' w', (Builtin.append_ #[t, t] ty #[v, u]).run P W = .ok v' w' ∧ OwnW w' B v' (zs ++ xs) ∧ W.grownBy w' v.ownBlock ∧ (v'.ownBlock = v.ownBlock ∨ v'.ownBlock = some W.heap.size) := by
 have key : ∀ (ad : Addr) (cap : Nat), (∀ j z, (xs.flatMap clW)[j]? = some z → W.cell? (ad.add j) = some z) → u = .slice (some ad) xs.length cap → ∃ v' w', (Builtin.append_ #[t, t] ty #[v, u]).run P W = .ok v' w' ∧ OwnW w' B v' (zs ++ xs) ∧ W.grownBy w' v.ownBlock ∧ (v'.ownBlock = v.ownBlock ∨ v'.ownBlock = some W.heap.size) := fun ad cap hs hu => by
  obtain ⟨v', w', hr, h2, h3, _, h5⟩ := run_append_own_at (P := P) W B t ty 93 i _ 2 16 ht hi hz hsize hby rfl (by decide) v zs.length _ hown ad xs.length cap (xs.flatMap clW) (lenW xs) hs (memW xs) (by unfold maxLen; omega) (by omega) hB
  subst hu
  exact ⟨v', w', hr, by unfold OwnW; rw [List.flatMap_append, List.length_append]; exact h2, h3, h5⟩
 obtain ⟨a, cap, rfl, h⟩ := hu
 rcases h with rfl | ⟨b, off, rfl, h⟩
 ·cases a with
  | none =>
    have hr : (Builtin.append_ #[t, t] ty #[v, .slice none 0 cap]).run P W = .ok v W := by
     rcases hown.2 with ⟨rfl, _⟩ | ⟨g, cap', cur, rfl, _, _, hnc, _⟩
     ·simp [Builtin.append_, run_underlying ht, sizeOf, typeInfo, hi, Builtin.lenOf, Builtin.firstCells]
     ·simp [Builtin.append_, run_underlying ht, sizeOf, typeInfo, hi, Builtin.lenOf, Builtin.firstCells, hnc, storeCells]
    exact ⟨v, W, hr, by rw [List.append_nil]; exact hown, ⟨rfl, rfl, rfl, Nat.le_refl _, fun k _ _ => rfl⟩, .inl rfl⟩
  | some ad => exact key ad cap (fun j u hj => by simp at hj) rfl
 ·refine key _ cap (fun j z hj => ?_) rfl
  have h2 : (⟨b, off, none⟩ : Addr).add j = ⟨b, off + j, none⟩ := by unfold Addr.add; split <;> simp_all
  rw [h2]
  exact h j z hj
theorem flat_takeW (ps : List Wt) (k j : Nat) (z : Value) (h : ((ps.take k).flatMap clW)[j]? = some z) : (ps.flatMap clW)[j]? = some z := by
 have hj := (List.getElem?_eq_some_iff.1 h).1
 have e : ps.flatMap clW = (ps.take k).flatMap clW ++ (ps.drop k).flatMap clW := by rw [← List.flatMap_append, List.take_append_drop]
 rw [e, List.getElem?_append_left hj]
 exact h
theorem flat_dropW (ps : List Wt) (k j : Nat) (hk : k ≤ ps.length) (z : Value) (h : ((ps.drop k).flatMap clW)[j]? = some z) : (ps.flatMap clW)[k * 2 + j]? = some z := by
 have e : ps.flatMap clW = (ps.take k).flatMap clW ++ (ps.drop k).flatMap clW := by rw [← List.flatMap_append, List.take_append_drop]
 have hl : ((ps.take k).flatMap clW).length = k * 2 := by rw [lenW, List.length_take, Nat.min_eq_left hk]
 rw [e, List.getElem?_append_right (by omega), hl, show k * 2 + j - k * 2 = j by omega]
 exact h
theorem src_takeW {W : World} {B g n c : Nat} {ps : List Wt} (h : OwnW W B (.slice (some ⟨g, 0, none⟩) n c) ps) {k : Nat} (hk : k ≤ ps.length) : SrcW W (.slice (some ⟨g, 0, none⟩) k c) (ps.take k) := by
 refine ⟨_, c, by rw [List.length_take, Nat.min_eq_left hk], ?_⟩
 rcases h.2 with ⟨e, _⟩ | ⟨g', cap, cur, e, _, hg, _, _, _, htk⟩
 ·cases e
 ·cases e
  refine .inr ⟨g, 0, rfl, fun j z hj => ?_⟩
  have h1 := flat_takeW ps k j z hj
  have hjl : j < ps.length * 2 := by have := (List.getElem?_eq_some_iff.1 h1).1; rw [lenW] at this; exact this
  rw [← htk, List.getElem?_take, if_pos hjl, Array.getElem?_toList] at h1
  rw [Nat.zero_add, Joins.cell_of_block hg]
  exact h1
theorem src_dropW {W : World} {B g n c d : Nat} {ps : List Wt} (h : OwnW W B (.slice (some ⟨g, 0, none⟩) n c) ps) {k : Nat} (hk : k ≤ ps.length) : SrcW W (.slice (some ⟨g, k * 2, none⟩) (ps.length - k) d) (ps.drop k) := by
 refine ⟨_, d, by rw [List.length_drop], ?_⟩
 rcases h.2 with ⟨e, _⟩ | ⟨g', cap, cur, e, _, hg, _, _, _, htk⟩
 ·cases e
 ·cases e
  refine .inr ⟨g, k * 2, rfl, fun j z hj => ?_⟩
  have h1 := flat_dropW ps k j hk z hj
  have hjl : k * 2 + j < ps.length * 2 := by have := (List.getElem?_eq_some_iff.1 h1).1; rw [lenW] at this; exact this
  rw [← htk, List.getElem?_take, if_pos hjl, Array.getElem?_toList] at h1
  rw [Joins.cell_of_block hg]
  exact h1
theorem SrcW.kept {W W' : World} {u : Value} {qs : List Wt} (h : SrcW W u qs) (hk : ∀ b, u.ownBlock = some b → W'.heap[b]? = W.heap[b]?) : SrcW W' u qs := by
 obtain ⟨a, c, rfl, h⟩ := h
 refine ⟨a, c, rfl, ?_⟩
 rcases h with h | ⟨b, off, rfl, h⟩
 ·exact .inl h
 ·exact .inr ⟨b, off, rfl, fun j z hj => by rw [← h j z hj]; simp only [World.cell?, hk b (by rfl)]⟩
theorem src_take2W {W : World} {B n c : Nat} {la : Option Addr} {ps : List Wt} (h : OwnW W B (.slice la n c) ps) {k : Nat} (hk : k ≤ ps.length) : SrcW W (.slice la k c) (ps.take k) := by
 cases la with
 | none =>
   rcases h.2 with ⟨e, h0⟩ | ⟨g', cap, cur, e, _⟩
   ·obtain rfl : k = 0 := by omega
    exact ⟨none, c, by simp, .inl (by simp)⟩
   ·cases e
 | some a =>
   rcases h.2 with ⟨e, h0⟩ | ⟨g', cap, cur, e, _⟩
   ·cases e
   ·cases e
    exact src_takeW h hk
def behindW (la : Option Addr) (c k : Nat) : Option Addr := if c = k then la else la.map (·.add (k * 2))
theorem src_drop2W {W : World} {B n c d : Nat} {la : Option Addr} {ps : List Wt} (h : OwnW W B (.slice la n c) ps) {k : Nat} (hk : k ≤ ps.length) : SrcW W (.slice (behindW la c k) (ps.length - k) d) (ps.drop k) := by
 have h0 := h
 rcases h.2 with ⟨e, h1⟩ | ⟨g', cap, cur, e, _, hg, hc, _⟩
 ·cases e
  exact ⟨_, d, by rw [List.length_drop], .inl (List.drop_eq_nil_of_le (by omega))⟩
 ·cases e
  unfold behindW
  by_cases ek : c = k
  ·rw [if_pos ek]
   exact ⟨_, d, by rw [List.length_drop], .inl (List.drop_eq_nil_of_le (by have : ps.length * 2 ≤ c * 2 := Nat.mul_le_mul_right 2 hc; omega))⟩
  ·rw [if_neg ek]
   have e2 : (some (⟨g', 0, none⟩ : Addr)).map (·.add (k * 2)) = some ⟨g', k * 2, none⟩ := by simp [Addr.add]; intro h; omega
   rw [e2]
   exact src_dropW h0 hk
theorem SrcW.below {W W' : World} {u : Value} {qs : List Wt} {b0 : Nat} (h : SrcW W u qs) (hb : Below b0 W W') (hlt : ∀ b, u.ownBlock = some b → b < b0) : SrcW W' u qs := h.kept fun b hb' => hb.block b (hlt b hb')
theorem step_wk {P : Program} {ops : Array Oper} {o : Oper} {a : Act} {K : Act → World → Prop} {Q : Exit → Act → World → Prop} {E : Prop} {i : TypeInfo} (hgd : o.guard = none) (s z : Operand) (t : TypeId) (ho : o.op = .call { callee := .builtin .append, args := #[s, z], argTypes := #[t, t] }) (ht : P.underlying t = some (.slice 93)) (hi : P.info? 93 = some i) (hz : i.zero = some (.agg #[.int .i64 0, .int .i64 0]))
 (hsize : i.size = 2) (hby : i.bytes = 16) (W : World) {B : Nat} {v u : Value} {zs xs : List Wt} (hown : OwnW W B v zs) (hu : SrcW W u xs) (hB : B ≤ W.heap.size) (hlen : zs.length + xs.length ≤ 1000000) (hs : a.eval s = v) (hx : a.eval z = u)
 (h : ∀ v' w', OwnW w' B v' (zs ++ xs) → Below B W w' → (∀ k, k < W.heap.size → some k ≠ v.ownBlock → w'.heap[k]? = W.heap[k]?) → K (a.put o.dst v') w') : if Region.wanted o (yielded ops a.tmps) = true then Oper.wp P o a W K Q else E := by
 have hw : Region.wanted o (yielded ops a.tmps) = true := by simp [Region.wanted, hgd]
 rw [if_pos hw]
 obtain ⟨v', w', hr, h2, h3, _⟩ := runW (P := P) W B t o.type ht hi hz hsize hby v u zs xs hown hu hB hlen
 exact wp_app ho hs hx hr (h v' w' h2 ((Below.refl B W).grown h3 hB (fun k hk => (hown.lt k hk).1)) (fun k h1 h2 => h3.block k h1 h2))
def SrcS (W : World) (u : Value) (qs : List Sn) : Prop := ∃ a c, u = .slice a qs.length c ∧ (qs = [] ∨ ∃ b off, a = some ⟨b, off, none⟩ ∧ ∀ j z, (qs.flatMap clS)[j]? = some z → W.cell? ⟨b, off + j, none⟩ = some z)
theorem runS {P : Program} {i : TypeInfo} (W : World) (B : Nat) (t ty : TypeId) (ht : P.underlying t = some (.slice 57)) (hi : P.info? 57 = some i) (hz : i.zero = some (.agg #[.int .i64 0, .int .i64 0, .int .i64 0, .int .i64 0, .int .i64 0, .int .i64 0])) (hsize : i.size = 6) (hby : i.bytes = 48)
 (v u : Value) (zs xs : List Sn) (hown : OwnS W B v zs) (hu : SrcS W u xs) (hB : B ≤ W.heap.size) (hlen : zs.length + xs.length ≤ 1000000) :
 ∃ v' w', (Builtin.append_ #[t, t] ty #[v, u]).run P W = .ok v' w' ∧ OwnS w' B v' (zs ++ xs) ∧ W.grownBy w' v.ownBlock ∧ (v'.ownBlock = v.ownBlock ∨ v'.ownBlock = some W.heap.size) := by
 have key : ∀ (ad : Addr) (cap : Nat), (∀ j z, (xs.flatMap clS)[j]? = some z → W.cell? (ad.add j) = some z) → u = .slice (some ad) xs.length cap → ∃ v' w', (Builtin.append_ #[t, t] ty #[v, u]).run P W = .ok v' w' ∧ OwnS w' B v' (zs ++ xs) ∧ W.grownBy w' v.ownBlock ∧ (v'.ownBlock = v.ownBlock ∨ v'.ownBlock = some W.heap.size) := fun ad cap hs hu => by
  obtain ⟨v', w', hr, h2, h3, _, h5⟩ := run_append_own_at (P := P) W B t ty 57 i _ 6 48 ht hi hz hsize hby rfl (by decide) v zs.length _ hown ad xs.length cap (xs.flatMap clS) (lenS xs) hs (memS xs) (by unfold maxLen; omega) (by omega) hB
  subst hu
  exact ⟨v', w', hr, by unfold OwnS; rw [List.flatMap_append, List.length_append]; exact h2, h3, h5⟩
 obtain ⟨a, cap, rfl, h⟩ := hu
 rcases h with rfl | ⟨b, off, rfl, h⟩
 ·cases a with
  | none =>
    have hr : (Builtin.append_ #[t, t] ty #[v, .slice none 0 cap]).run P W = .ok v W := by
     rcases hown.2 with ⟨rfl, _⟩ | ⟨g, cap', cur, rfl, _, _, hnc, _⟩
     ·simp [Builtin.append_, run_underlying ht, sizeOf, typeInfo, hi, Builtin.lenOf, Builtin.firstCells]
     ·simp [Builtin.append_, run_underlying ht, sizeOf, typeInfo, hi, Builtin.lenOf, Builtin.firstCells, hnc, storeCells]
    exact ⟨v, W, hr, by rw [List.append_nil]; exact hown, ⟨rfl, rfl, rfl, Nat.le_refl _, fun k _ _ => rfl⟩, .inl rfl⟩
  | some ad => exact key ad cap (fun j u hj => by simp at hj) rfl
 ·refine key _ cap (fun j z hj => ?_) rfl
  have h2 : (⟨b, off, none⟩ : Addr).add j = ⟨b, off + j, none⟩ := by unfold Addr.add; split <;> simp_all
  rw [h2]
  exact h j z hj
theorem flat_takeS (ps : List Sn) (k j : Nat) (z : Value) (h : ((ps.take k).flatMap clS)[j]? = some z) : (ps.flatMap clS)[j]? = some z := by
 have hj := (List.getElem?_eq_some_iff.1 h).1
 have e : ps.flatMap clS = (ps.take k).flatMap clS ++ (ps.drop k).flatMap clS := by rw [← List.flatMap_append, List.take_append_drop]
 rw [e, List.getElem?_append_left hj]
 exact h
theorem flat_dropS (ps : List Sn) (k j : Nat) (hk : k ≤ ps.length) (z : Value) (h : ((ps.drop k).flatMap clS)[j]? = some z) : (ps.flatMap clS)[k * 6 + j]? = some z := by
 have e : ps.flatMap clS = (ps.take k).flatMap clS ++ (ps.drop k).flatMap clS := by rw [← List.flatMap_append, List.take_append_drop]
 have hl : ((ps.take k).flatMap clS).length = k * 6 := by rw [lenS, List.length_take, Nat.min_eq_left hk]
 rw [e, List.getElem?_append_right (by omega), hl, show k * 6 + j - k * 6 = j by omega]
 exact h
theorem src_takeS {W : World} {B g n c : Nat} {ps : List Sn} (h : OwnS W B (.slice (some ⟨g, 0, none⟩) n c) ps) {k : Nat} (hk : k ≤ ps.length) : SrcS W (.slice (some ⟨g, 0, none⟩) k c) (ps.take k) := by
 refine ⟨_, c, by rw [List.length_take, Nat.min_eq_left hk], ?_⟩
 rcases h.2 with ⟨e, _⟩ | ⟨g', cap, cur, e, _, hg, _, _, _, htk⟩
 ·cases e
 ·cases e
  refine .inr ⟨g, 0, rfl, fun j z hj => ?_⟩
  have h1 := flat_takeS ps k j z hj
  have hjl : j < ps.length * 6 := by have := (List.getElem?_eq_some_iff.1 h1).1; rw [lenS] at this; exact this
  rw [← htk, List.getElem?_take, if_pos hjl, Array.getElem?_toList] at h1
  rw [Nat.zero_add, Joins.cell_of_block hg]
  exact h1
theorem src_dropS {W : World} {B g n c d : Nat} {ps : List Sn} (h : OwnS W B (.slice (some ⟨g, 0, none⟩) n c) ps) {k : Nat} (hk : k ≤ ps.length) : SrcS W (.slice (some ⟨g, k * 6, none⟩) (ps.length - k) d) (ps.drop k) := by
 refine ⟨_, d, by rw [List.length_drop], ?_⟩
 rcases h.2 with ⟨e, _⟩ | ⟨g', cap, cur, e, _, hg, _, _, _, htk⟩
 ·cases e
 ·cases e
  refine .inr ⟨g, k * 6, rfl, fun j z hj => ?_⟩
  have h1 := flat_dropS ps k j hk z hj
  have hjl : k * 6 + j < ps.length * 6 := by have := (List.getElem?_eq_some_iff.1 h1).1; rw [lenS] at this; exact this
  rw [← htk, List.getElem?_take, if_pos hjl, Array.getElem?_toList] at h1
  rw [Joins.cell_of_block hg]
  exact h1
theorem src_oneS {W : World} (q : Sn) : SrcS (W.alloc (.cells #[.int .i64 q.c, .int .i64 q.s, .int .i64 q.k, .int .i64 q.t, .int .i64 q.h, .int .i64 q.e] 57)) (.slice (some ⟨W.heap.size, 0, none⟩) 1 1) [q] := by
 refine ⟨_, 1, rfl, .inr ⟨W.heap.size, 0, rfl, fun j z hj => ?_⟩⟩
 rw [Nat.zero_add, Joins.cell_of_block (heap_alloc_new W _), ← hj]
 simp [clS]
theorem SrcS.kept {W W' : World} {u : Value} {qs : List Sn} (h : SrcS W u qs) (hk : ∀ b, u.ownBlock = some b → W'.heap[b]? = W.heap[b]?) : SrcS W' u qs := by
 obtain ⟨a, c, rfl, h⟩ := h
 refine ⟨a, c, rfl, ?_⟩
 rcases h with h | ⟨b, off, rfl, h⟩
 ·exact .inl h
 ·exact .inr ⟨b, off, rfl, fun j z hj => by rw [← h j z hj]; simp only [World.cell?, hk b (by rfl)]⟩
theorem src_take2S {W : World} {B n c : Nat} {la : Option Addr} {ps : List Sn} (h : OwnS W B (.slice la n c) ps) {k : Nat} (hk : k ≤ ps.length) : SrcS W (.slice la k c) (ps.take k) := by
 cases la with
 | none =>
   rcases h.2 with ⟨e, h0⟩ | ⟨g', cap, cur, e, _⟩
   ·obtain rfl : k = 0 := by omega
    exact ⟨none, c, by simp, .inl (by simp)⟩
   ·cases e
 | some a =>
   rcases h.2 with ⟨e, h0⟩ | ⟨g', cap, cur, e, _⟩
   ·cases e
   ·cases e
    exact src_takeS h hk
def behindS (la : Option Addr) (c k : Nat) : Option Addr := if c = k then la else la.map (·.add (k * 6))
theorem src_drop2S {W : World} {B n c d : Nat} {la : Option Addr} {ps : List Sn} (h : OwnS W B (.slice la n c) ps) {k : Nat} (hk : k ≤ ps.length) : SrcS W (.slice (behindS la c k) (ps.length - k) d) (ps.drop k) := by
 have h0 := h
 rcases h.2 with ⟨e, h1⟩ | ⟨g', cap, cur, e, _, hg, hc, _⟩
 ·cases e
  exact ⟨_, d, by rw [List.length_drop], .inl (List.drop_eq_nil_of_le (by omega))⟩
 ·cases e
  unfold behindS
  by_cases ek : c = k
  ·rw [if_pos ek]
   exact ⟨_, d, by rw [List.length_drop], .inl (List.drop_eq_nil_of_le (by have : ps.length * 6 ≤ c * 6 := Nat.mul_le_mul_right 6 hc; omega))⟩
  ·rw [if_neg ek]
   have e2 : (some (⟨g', 0, none⟩ : Addr)).map (·.add (k * 6)) = some ⟨g', k * 6, none⟩ := by simp [Addr.add]; intro h; omega
   rw [e2]
   exact src_dropS h0 hk
theorem SrcS.below {W W' : World} {u : Value} {qs : List Sn} {b0 : Nat} (h : SrcS W u qs) (hb : Below b0 W W') (hlt : ∀ b, u.ownBlock = some b → b < b0) : SrcS W' u qs := h.kept fun b hb' => hb.block b (hlt b hb')
theorem step_sk {P : Program} {ops : Array Oper} {o : Oper} {a : Act} {K : Act → World → Prop} {Q : Exit → Act → World → Prop} {E : Prop} {i : TypeInfo} (hgd : o.guard = none) (s z : Operand) (t : TypeId) (ho : o.op = .call { callee := .builtin .append, args := #[s, z], argTypes := #[t, t] }) (ht : P.underlying t = some (.slice 57)) (hi : P.info? 57 = some i) (hz : i.zero = some (.agg #[.int .i64 0, .int .i64 0, .int .i64 0, .int .i64 0, .int .i64 0, .int .i64 0]))
 (hsize : i.size = 6) (hby : i.bytes = 48) (W : World) {B : Nat} {v u : Value} {zs xs : List Sn} (hown : OwnS W B v zs) (hu : SrcS W u xs) (hB : B ≤ W.heap.size) (hlen : zs.length + xs.length ≤ 1000000) (hs : a.eval s = v) (hx : a.eval z = u)
 (h : ∀ v' w', OwnS w' B v' (zs ++ xs) → Below B W w' → (∀ k, k < W.heap.size → some k ≠ v.ownBlock → w'.heap[k]? = W.heap[k]?) → K (a.put o.dst v') w') : if Region.wanted o (yielded ops a.tmps) = true then Oper.wp P o a W K Q else E := by
 have hw : Region.wanted o (yielded ops a.tmps) = true := by simp [Region.wanted, hgd]
 rw [if_pos hw]
 obtain ⟨v', w', hr, h2, h3, _⟩ := runS (P := P) W B t o.type ht hi hz hsize hby v u zs xs hown hu hB hlen
 exact wp_app ho hs hx hr (h v' w' h2 ((Below.refl B W).grown h3 hB (fun k hk => (hown.lt k hk).1)) (fun k h1 h2 => h3.block k h1 h2))
theorem TM.wnew {w0 w w' : World} {B x : Nat} {T : Tab} {v3 : Value} {ps : List LkA} {g cap n : Nat} (h : TM w0 w B x T (.slice (some ⟨g, 0, none⟩) n cap) v3 ps) {k : Nat} {p : LkA} (hk : ps[k]? = some p) (hg : B ≤ g) (hb : Below w.heap.size w w') {ws : List Wt} {a' : Option Addr} {c' : Nat} (ho : OwnW w' w.heap.size (.slice a' ws.length c') ws) :
 TM w0 (w'.setCell ⟨g, k * 5 + 4, none⟩ (.slice a' ws.length c')) B x { T with ls := T.ls.set k { p.1 with ws := ws } } (.slice (some ⟨g, 0, none⟩) n cap) v3 (ps.set k ({ p.1 with ws := ws }, a', c')) := by
 have h2 := h.up hb
 refine TM.put h2 (q := ({ p.1 with ws := ws }, a', c')) hk rfl (by decide) (OwnW.mono ho h.size) (Apart.fresh h2.ap (G := w.heap.size) (fun g' hg' => (ho.lt g' hg').1) (fun q hq g' hg' => ((h.ow q hq).lt g' hg').2)) hg
theorem TM.sreloc {w0 w w' : World} {B x : Nat} {T : Tab} {v2 v3 v' : Value} {ps : List LkA} {ss : List Sn} (h : TM w0 w B x T v2 v3 ps) (hb : Below w.heap.size w w') (ho : OwnS w' B v' ss) :
 TM w0 (w'.setCell ⟨x, 3, none⟩ v') B x { T with ss := ss } v2 v' ps := by
 have h2 := h.up hb
 refine ⟨by rw [blk_set h2.hx]; rfl, h2.ol.kept (fun g hg => ?_), ho.kept (fun g hg => ?_), fun p hp => (h2.ow p hp).kept (fun g hg => ?_), h2.ap, h2.eq, Below.setCell h2.bel (p := ⟨x, _, none⟩) h.le v', h.b0, h.le⟩
 ·obtain ⟨c1, h1⟩ := own_block h2.ol hg
  exact blk_far (kind_ne h1 h2.hx (by decide)) _ _
 ·obtain ⟨c1, h1⟩ := own_block ho hg
  exact blk_far (kind_ne h1 h2.hx (by decide)) _ _
 ·obtain ⟨c1, h1⟩ := own_block (h2.ow p hp) hg
  exact blk_far (kind_ne h1 h2.hx (by decide)) _ _
theorem l05Acquire_any {w0 w : World} {B x : Nat} {T : Tab} {v2 v3 : Value} {ps : List LkA} (h : TM w0 w B x T v2 v3 ps) (hT : TOK T) (hn : T.nx ≤ 999999) (r : Da.Ask) (hr : AskOK r) (hkd : r.kd = 1) :
 Calls Tryd.prog 114 #[.pointer (some ⟨x, 0, none⟩), .agg #[.int .i64 r.cl, .int .i64 r.st, .int .i64 r.kd, .int .i64 r.le, .string r.nm]] w fun e w' => DoP w0 w B x (doT T r) e w' := by
 cases hidx : idx T.ls r.nm with
 | none =>
   by_cases h4 : 4 ≤ T.ls.length
   ·exact l05Acquire_full h hT r hkd hidx h4
   ·exact l05Acquire_new h hT hn r hr hkd hidx h4
 | some k =>
   obtain ⟨y, hy, _⟩ := fiP_some T.ls k hidx
   by_cases h1 : y.h = r.cl
   ·exact l05Acquire_still h hT hn r hr hkd hidx hy (.inl h1)
   ·cases h2 : wtB y.ws r.cl with
    | true => exact l05Acquire_still h hT hn r hr hkd hidx hy (.inr (.inl h2))
    | false =>
      by_cases h3 : y.h = -1
      ·exact l05Acquire_still h hT hn r hr hkd hidx hy (.inr (.inr (.inl h3)))
      ·by_cases h4 : 4 ≤ y.ws.length
       ·exact l05Acquire_still h hT hn r hr hkd hidx hy (.inr (.inr (.inr h4)))
       ·exact l05Acquire_add h hT r hr hkd hidx hy h1 h2 h3 h4
end Go.Proofs.YtakfniknkejgpaaDoor.Ea

/- l05Do: an acquire; a lock that is not there. -/
namespace Go.Proofs.YtakfniknkejgpaaDoor.Ea
open Go.RowKit Go.Proofs.YtakfniknkejgpaaDoor.Sl Go.Proofs.YtakfniknkejgpaaDoor.By Go.Proofs.YtakfniknkejgpaaDoor.Ap Go.Proofs.YtakfniknkejgpaaDoor.Tb Go.Proofs.YtakfniknkejgpaaDoor.Tw Go.Proofs.YtakfniknkejgpaaDoor.Wa Go.Proofs.YtakfniknkejgpaaDoor.Tp Go.Proofs.YtakfniknkejgpaaDoor.Da
open Go.Proofs.YtakfniknkejgpaaDoor.Lo (LkA uV clL OwnL OwnL.kept OwnL.lt OwnL.below OwnL.row OwnL.slice own_block kind_ne Apart lenL atL)
open Go.Proofs.YtakfniknkejgpaaDoor.Tx (blk_cell blk_set blk_far blk_new bel_new)
open Go.Proofs.YtakfniknkejgpaaDoor.Lf (Fnd l05Find_any)
open Go.Proofs.YtakfniknkejgpaaDoor.Lsh
set_option maxRecDepth 100000 in
set_option maxHeartbeats 6400000 in
theorem l05Do_acq {w0 w : World} {B x : Nat} {T : Tab} {v2 v3 : Value} {ps : List LkA} (h : TM w0 w B x T v2 v3 ps) (hT : TOK T) (hn : T.nx ≤ 999999) (r : Da.Ask) (hr : AskOK r) (hkd : r.kd = 1) :
 Calls Tryd.prog 101 #[.pointer (some ⟨x, 0, none⟩), .agg #[.int .i64 r.cl, .int .i64 r.st, .int .i64 r.kd, .int .i64 r.le, .string r.nm]] w fun e w' => DoP w0 w B x (doT T r) e w' := by
 have HA : Hid (∀ W, TM w0 W B x T v2 v3 ps → Calls Tryd.prog 114 #[.pointer (some ⟨x, 0, none⟩), .agg #[.int .i64 r.cl, .int .i64 r.st, .int .i64 r.kd, .int .i64 r.le, .string r.nm]] W fun e w' => DoP w0 W B x (doT T r) e w') := fun W hW => l05Acquire_any hW hT hn r hr hkd
 have H0 : Hid (TM w0 w B x T v2 v3 ps) := h
 have hsB : Hid (B ≤ w.heap.size) := h.size
 have HX : Hid (∀ W, Below ((w.alloc (.cells #[.int .i64 r.cl, .int .i64 r.st, .int .i64 r.kd, .int .i64 r.le, .string r.nm] 123)).alloc (.cells #[.int .i64 0, .int .i64 0, .int .i64 0, .int .i64 0] 55)).heap.size ((w.alloc (.cells #[.int .i64 r.cl, .int .i64 r.st, .int .i64 r.kd, .int .i64 r.le, .string r.nm] 123)).alloc (.cells #[.int .i64 0, .int .i64 0, .int .i64 0, .int .i64 0] 55)) W → TM w0 W B x T v2 v3 ps ∧ W.heap[w.heap.size]? = some (.cells #[.int .i64 r.cl, .int .i64 r.st, .int .i64 r.kd, .int .i64 r.le, .string r.nm] 123 (0, 0)) ∧ W.heap[w.heap.size + 1]? = some (.cells #[.int .i64 0, .int .i64 0, .int .i64 0, .int .i64 0] 55 (0, 0)) ∧ Oth w W) := fun W hW => by
  have e1 : (w.alloc (.cells #[.int .i64 r.cl, .int .i64 r.st, .int .i64 r.kd, .int .i64 r.le, .string r.nm] 123)).heap.size = w.heap.size + 1 := by simp
  have b2 : Below w.heap.size w ((w.alloc (.cells #[.int .i64 r.cl, .int .i64 r.st, .int .i64 r.kd, .int .i64 r.le, .string r.nm] 123)).alloc (.cells #[.int .i64 0, .int .i64 0, .int .i64 0, .int .i64 0] 55)) := (bel_new w _).trans ((bel_new _ _).mono (bel_new w _).size)
  have bb := b2.trans (hW.mono b2.size)
  refine ⟨H0.out.up bb, ?_, ?_, Oth.of_below bb⟩
  ·rw [hW.block _ (by simp; omega), (bel_new (w.alloc (.cells #[.int .i64 r.cl, .int .i64 r.st, .int .i64 r.kd, .int .i64 r.le, .string r.nm] 123)) (.cells #[.int .i64 0, .int .i64 0, .int .i64 0, .int .i64 0] 55)).block _ (by simp)]; exact blk_new _ _ _
  ·rw [hW.block _ (by simp), ← e1]; exact blk_new _ _ _
 have hk1 : (r.kd == 1) = true := by simp [hkd]
 obtain ⟨R, HR⟩ : ∃ R, Hid (doT T r = R) := ⟨_, rfl⟩
 rw [HR.out] at HA
 rw [HR.out]
 clear h hT hkd hn
 go_enter Tryd.func101, Tryd.ntmps101
 go_upto_region 1 with fail
 generalize (w.alloc (.cells #[.int .i64 r.cl, .int .i64 r.st, .int .i64 r.kd, .int .i64 r.le, .string r.nm] 123)).alloc (.cells #[.int .i64 0, .int .i64 0, .int .i64 0, .int .i64 0] 55) = w2 at HX ⊢
 obtain ⟨t2, q2, z2, o2⟩ := HX.out w2 (Below.refl _ _)
 have c0 := (blk_cell q2 0 (x := .int .i64 r.cl) rfl).1
 have c1 := (blk_cell q2 1 (x := .int .i64 r.st) rfl).1
 have c2 := (blk_cell q2 2 (x := .int .i64 r.kd) rfl).1
 have c3 := (blk_cell q2 3 (x := .int .i64 r.le) rfl).1
 have c4 := (blk_cell q2 4 (x := .string r.nm) rfl).1
 have HA2 := HA.out w2 t2
 have Z2 : Hid (w2.heap[w.heap.size + 1]? = some (.cells #[.int .i64 0, .int .i64 0, .int .i64 0, .int .i64 0] 55 (0, 0)) ∧ Oth w w2) := ⟨z2, o2⟩
 clear t2 q2 z2 o2 HA HX
 go_wp2_with fail
 refine HA2.mono ?_
 rintro e w5 ⟨rfl, ⟨u2, u3, qs, t5⟩, o5⟩
 have AX : Hid (w5.heap[w.heap.size + 1]? = some (.cells #[.int .i64 0, .int .i64 0, .int .i64 0, .int .i64 0] 55 (0, 0))) := o5 _ _ _ Z2.out.1 (by decide) (by decide) (by decide) (by decide)
 have RFH : Hid _ := ans_put AX.out t5 (Z2.out.2.trans o5) (by omega) (Nat.le_succ_of_le hsB.out) (.int .i64 R.2.k) (.int .i64 R.2.t) (.int .i64 R.2.h) (.int .i64 R.2.e)
 clear t5 o5 Z2 HA2 c0 c1 c2 c3 c4
 obtain ⟨n0, f0⟩ := blk_cell AX.out 0 (x := .int .i64 0) rfl
 obtain ⟨n1, f1⟩ := blk_cell AX.out 1 (x := .int .i64 0) rfl
 obtain ⟨n2, f2⟩ := blk_cell AX.out 2 (x := .int .i64 0) rfl
 obtain ⟨n3, f3⟩ := blk_cell AX.out 3 (x := .int .i64 0) rfl
 go_wp2_with fail
 generalize ((((w5.setCell ⟨w.heap.size + 1, 0, none⟩ (.int .i64 R.2.k)).setCell ⟨w.heap.size + 1, 1, none⟩ (.int .i64 R.2.t)).setCell ⟨w.heap.size + 1, 2, none⟩ (.int .i64 R.2.h)).setCell ⟨w.heap.size + 1, 3, none⟩ (.int .i64 R.2.e)) = wf at RFH ⊢
 have d0 := (blk_cell RFH.out.1 0 (x := .int .i64 R.2.k) rfl).1
 have d1 := (blk_cell RFH.out.1 1 (x := .int .i64 R.2.t) rfl).1
 have d2 := (blk_cell RFH.out.1 2 (x := .int .i64 R.2.h) rfl).1
 have d3 := (blk_cell RFH.out.1 3 (x := .int .i64 R.2.e) rfl).1
 refine bodyPost_ret (v := .agg #[.int .i64 R.2.k, .int .i64 R.2.t, .int .i64 R.2.h, .int .i64 R.2.e]) (by simp [results, Tryd.results101, go_sem, d0, d1, d2, d3]) rfl ?_
 exact ⟨rfl, ⟨u2, u3, qs, RFH.out.2.1⟩, RFH.out.2.2⟩
set_option maxRecDepth 100000 in
set_option maxHeartbeats 6400000 in
theorem l05Do_none {w0 w : World} {B x : Nat} {T : Tab} {v2 v3 : Value} {ps : List LkA} (h : TM w0 w B x T v2 v3 ps) (hT : TOK T) (r : Da.Ask) (hkd : r.kd ≠ 1) (hidx : idx T.ls r.nm = none) :
 Calls Tryd.prog 101 #[.pointer (some ⟨x, 0, none⟩), .agg #[.int .i64 r.cl, .int .i64 r.st, .int .i64 r.kd, .int .i64 r.le, .string r.nm]] w fun e w' => DoP w0 w B x (doT T r) e w' := by
 have hl4 : T.ls.length ≤ 4 := hT.2.2.1
 have HDO : Hid (doT T r = (T, bare 3)) := by
  show _ = _
  unfold doT
  rw [hidx]
  simp only [ne_eq, hkd, not_false_eq_true, if_true]
 have HF0 : Hid (∀ W, TM w0 W B x T v2 v3 ps → Calls Tryd.prog 115 #[.agg #[.int .i64 T.tm, .int .i64 T.nx, v2, v3], .string r.nm] W fun e w' => e = .returned (.int .i64 (-1)) ∧ Below W.heap.size W w') := fun W hW => (l05Find_any T.tm T.nx v2 v3 T.ls r.nm W hW.rows (by omega)).mono fun e w' ⟨q, h1, h2, h3⟩ => ⟨by rw [h1, fnd_none hidx h2], h3⟩
 have H0 : Hid (TM w0 w B x T v2 v3 ps) := h
 have HX : Hid (∀ W, Below ((w.alloc (.cells #[.int .i64 r.cl, .int .i64 r.st, .int .i64 r.kd, .int .i64 r.le, .string r.nm] 123)).alloc (.cells #[.int .i64 0, .int .i64 0, .int .i64 0, .int .i64 0] 55)).heap.size ((w.alloc (.cells #[.int .i64 r.cl, .int .i64 r.st, .int .i64 r.kd, .int .i64 r.le, .string r.nm] 123)).alloc (.cells #[.int .i64 0, .int .i64 0, .int .i64 0, .int .i64 0] 55)) W → TM w0 W B x T v2 v3 ps ∧ W.heap[w.heap.size]? = some (.cells #[.int .i64 r.cl, .int .i64 r.st, .int .i64 r.kd, .int .i64 r.le, .string r.nm] 123 (0, 0)) ∧ W.heap[w.heap.size + 1]? = some (.cells #[.int .i64 0, .int .i64 0, .int .i64 0, .int .i64 0] 55 (0, 0)) ∧ Oth w W) := fun W hW => by
  have e1 : (w.alloc (.cells #[.int .i64 r.cl, .int .i64 r.st, .int .i64 r.kd, .int .i64 r.le, .string r.nm] 123)).heap.size = w.heap.size + 1 := by simp
  have b2 : Below w.heap.size w ((w.alloc (.cells #[.int .i64 r.cl, .int .i64 r.st, .int .i64 r.kd, .int .i64 r.le, .string r.nm] 123)).alloc (.cells #[.int .i64 0, .int .i64 0, .int .i64 0, .int .i64 0] 55)) := (bel_new w _).trans ((bel_new _ _).mono (bel_new w _).size)
  have bb := b2.trans (hW.mono b2.size)
  refine ⟨H0.out.up bb, ?_, ?_, Oth.of_below bb⟩
  ·rw [hW.block _ (by simp; omega), (bel_new (w.alloc (.cells #[.int .i64 r.cl, .int .i64 r.st, .int .i64 r.kd, .int .i64 r.le, .string r.nm] 123)) (.cells #[.int .i64 0, .int .i64 0, .int .i64 0, .int .i64 0] 55)).block _ (by simp)]; exact blk_new _ _ _
  ·rw [hW.block _ (by simp), ← e1]; exact blk_new _ _ _
 obtain ⟨la, lc, rfl⟩ := h.ol.slice
 have hsB : Hid (B ≤ w.heap.size) := h.size
 have hk1 : (r.kd == 1) = false := by simp [hkd]
 clear h hT hidx hkd hl4
 go_enter Tryd.func101, Tryd.ntmps101
 go_upto_region 1 with fail
 generalize (w.alloc (.cells #[.int .i64 r.cl, .int .i64 r.st, .int .i64 r.kd, .int .i64 r.le, .string r.nm] 123)).alloc (.cells #[.int .i64 0, .int .i64 0, .int .i64 0, .int .i64 0] 55) = w2 at HX ⊢
 have c2 := (blk_cell (HX.out w2 (Below.refl _ _)).2.1 2 (x := .int .i64 r.kd) rfl).1
 go_upto_region 3 with fail
 clear c2
 obtain ⟨X, hX, W, QI0, QO0⟩ := Qc.klass w2
 have QI : Hid (∀ w', Below w2.heap.size w2 w' → ∃ x, w' = W x) := QI0
 have QO : Hid (∀ x, Below w2.heap.size w2 (W x)) := QO0
 clear QI0 QO0
 have HF : Hid (∀ q, Calls Tryd.prog 115 #[.agg #[.int .i64 T.tm, .int .i64 T.nx, .slice la ps.length lc, v3], .string r.nm] (W q) fun e w' => e = .returned (.int .i64 (-1)) ∧ Below (W q).heap.size (W q) w') := fun q => HF0.out _ (HX.out _ (QO.out q)).1
 have y0 := fun q => (blk_cell (HX.out _ (QO.out q)).1.hx 0 (x := .int .i64 T.tm) rfl).1
 have y1 := fun q => (blk_cell (HX.out _ (QO.out q)).1.hx 1 (x := .int .i64 T.nx) rfl).1
 have y2 := fun q => (blk_cell (HX.out _ (QO.out q)).1.hx 2 (x := .slice la ps.length lc) rfl).1
 have y3 := fun q => (blk_cell (HX.out _ (QO.out q)).1.hx 3 (x := v3) rfl).1
 have z4 := fun q => (blk_cell (HX.out _ (QO.out q)).2.1 4 (x := .string r.nm) rfl).1
 refine Qc.region_class (W := W) (by kernel_rfl) (by kernel_rfl) (QI.out _ Qc.from_drew) ?_
 repeat (go_big_quiet_step (first | (go_at_call 115; refine (HF.out _).mono ?_; rintro e w2 ⟨rfl, b2⟩; exact ⟨rfl, Qc.back QI.out QO.out b2⟩)))
 refine wpQuiet_nil ?_
 rintro _ ⟨xq, rfl⟩
 have G3 : Hid (Below w2.heap.size w2 (W xq)) := QO.out xq
 clear y0 y1 y2 y3 z4 HF HF0 QO QI
 generalize W xq = w3 at G3 ⊢
 have AX : Hid (w3.heap[w.heap.size + 1]? = some (.cells #[.int .i64 0, .int .i64 0, .int .i64 0, .int .i64 0] 55 (0, 0))) := (HX.out _ G3.out).2.2.1
 have RFH : Hid _ := ans_put AX.out (HX.out _ G3.out).1 (HX.out _ G3.out).2.2.2 (by omega) (Nat.le_succ_of_le hsB.out) (.int .i64 3) (.int .i64 0) (.int .i64 (-1)) (.int .i64 0)
 obtain ⟨n0, f0⟩ := blk_cell AX.out 0 (x := .int .i64 0) rfl
 obtain ⟨n1, f1⟩ := blk_cell AX.out 1 (x := .int .i64 0) rfl
 obtain ⟨n2, f2⟩ := blk_cell AX.out 2 (x := .int .i64 0) rfl
 obtain ⟨n3, f3⟩ := blk_cell AX.out 3 (x := .int .i64 0) rfl
 go_wp2_with fail
 generalize ((((w3.setCell ⟨w.heap.size + 1, 0, none⟩ (.int .i64 3)).setCell ⟨w.heap.size + 1, 1, none⟩ (.int .i64 0)).setCell ⟨w.heap.size + 1, 2, none⟩ (.int .i64 (-1))).setCell ⟨w.heap.size + 1, 3, none⟩ (.int .i64 0)) = wf at RFH ⊢
 have d0 := (blk_cell RFH.out.1 0 (x := .int .i64 3) rfl).1
 have d1 := (blk_cell RFH.out.1 1 (x := .int .i64 0) rfl).1
 have d2 := (blk_cell RFH.out.1 2 (x := .int .i64 (-1)) rfl).1
 have d3 := (blk_cell RFH.out.1 3 (x := .int .i64 0) rfl).1
 refine bodyPost_ret (v := .agg #[.int .i64 3, .int .i64 0, .int .i64 (-1), .int .i64 0]) (by simp [results, Tryd.results101, go_sem, d0, d1, d2, d3]) rfl ?_
 refine ⟨?_, ⟨.slice la ps.length lc, v3, ps, ?_⟩, RFH.out.2.2⟩
 ·rw [HDO.out]; rfl
 ·rw [HDO.out]; exact RFH.out.2.1
end Go.Proofs.YtakfniknkejgpaaDoor.Ea
