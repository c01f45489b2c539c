/- Texts put together: Ec, Ep. -/
import Derived.Test.YtakfniknkejgpaaDoorMt25
import Derived.Test.YtakfniknkejgpaaDoorMt29
import Derived.BigQuiet
/- l05Expire: time goes on in a table. -/
namespace Go.Proofs.YtakfniknkejgpaaDoor.Ea
open Go.RowKit Go.Proofs.YtakfniknkejgpaaDoor.Sl Go.Proofs.YtakfniknkejgpaaDoor.By Go.Proofs.YtakfniknkejgpaaDoor.Ap Go.Proofs.YtakfniknkejgpaaDoor.Tb Go.Proofs.YtakfniknkejgpaaDoor.Tw Go.Proofs.YtakfniknkejgpaaDoor.Mw Go.Proofs.YtakfniknkejgpaaDoor.Wa Go.Proofs.YtakfniknkejgpaaDoor.Tp Go.Proofs.YtakfniknkejgpaaDoor.Da
open Go.Proofs.YtakfniknkejgpaaDoor.Lo (LkA uV clL OwnL OwnL.kept OwnL.lt OwnL.below OwnL.row OwnL.slice OwnL.mono own_block kind_ne Apart l05Own_all)
open Go.Proofs.YtakfniknkejgpaaDoor.Tx (blk_cell blk_set blk_far blk_new bel_new)

def mid (tm nx : Int) (ls : List Lk) (k : Nat) : List Lk := ls.mapIdx fun i y => if i < k then exK tm nx ls i y else y
theorem mid_at (tm nx : Int) (ls : List Lk) (k i : Nat) : (mid tm nx ls k)[i]? = (ls[i]?).map fun y => if i < k then exK tm nx ls i y else y := by unfold mid; rw [List.getElem?_mapIdx]
theorem mid_0 (tm nx : Int) (ls : List Lk) : mid tm nx ls 0 = ls := by
 apply List.ext_getElem? fun i => ?_
 rw [mid_at]
 cases ls[i]? <;> rfl
theorem mid_len (tm nx : Int) (ls : List Lk) (k : Nat) : (mid tm nx ls k).length = ls.length := by unfold mid; simp
theorem mid_all (tm nx : Int) (ls : List Lk) : mid tm nx ls ls.length = exL tm nx ls := by
 apply List.ext_getElem? fun i => ?_
 rw [mid_at]
 unfold exL
 rw [List.getElem?_mapIdx]
 cases h : ls[i]? with
 | none => rfl
 | some y => simp only [Option.map_some]; rw [if_pos (List.getElem?_eq_some_iff.1 h).1]
theorem mid_set {tm nx : Int} {ls : List Lk} {k : Nat} {y : Lk} (h : ls[k]? = some y) : mid tm nx ls (k + 1) = (mid tm nx ls k).set k (exK tm nx ls k y) := by
 apply List.ext_getElem? fun i => ?_
 rw [mid_at, List.getElem?_set, mid_at, mid_len]
 have hk := (List.getElem?_eq_some_iff.1 h).1
 by_cases e : k = i
 ·subst e
  rw [if_pos rfl, if_pos hk, h]
  simp
 ·rw [if_neg e]
  cases ls[i]? with
  | none => rfl
  | some z =>
    simp only [Option.map_some]
    by_cases hi : i < k
    ·rw [if_pos hi, if_pos (by omega)]
    ·rw [if_neg hi, if_neg (by omega)]
theorem mid_here {tm nx : Int} {ls : List Lk} {k : Nat} {y : Lk} (h : ls[k]? = some y) : (mid tm nx ls k)[k]? = some y := by rw [mid_at, h]; simp
theorem mid_same {tm nx : Int} {ls : List Lk} {k : Nat} {y : Lk} (h : ls[k]? = some y) (hd : Da.due tm y = false) : mid tm nx ls (k + 1) = mid tm nx ls k := by
 rw [mid_set h]
 unfold exK
 rw [hd]
 simp only [Bool.false_eq_true, if_false]
 apply List.ext_getElem? fun i => ?_
 rw [List.getElem?_set]
 by_cases e : k = i
 ·subst e
  rw [if_pos rfl, mid_here h, mid_len, if_pos (List.getElem?_eq_some_iff.1 h).1]
 ·rw [if_neg e]
def Tk (T : Tab) (M : Int) (k : Nat) : Tab := ⟨M, exN M T.nx T.ls k, mid M T.nx T.ls k, T.ss⟩
def OwnT (w : World) (B : Nat) (T : Tab) (e : Ending) : Prop := ∃ ul us ps, e = .returned (tabV T.tm T.nx ul us) ∧ OwnL w B ul ps ∧ (∀ p ∈ ps, OwnW w B (uV p) p.1.ws) ∧ ps.map (·.1) = T.ls ∧ Apart ps ∧ OwnS w B us T.ss
set_option maxRecDepth 100000 in
set_option maxHeartbeats 3200000 in
theorem l05Expire_any (T : Tab) (vl vs : Value) (now : Int) (w : World) (hl : RowL w vl T.ls) (hs : RowS w vs T.ss) (hT : TOK T) (h0 : 0 ≤ now) (h1 : now ≤ 1000000000) (hn : T.nx ≤ 999990) :
 Calls Tryd.prog 100 #[tabV T.tm T.nx vl vs, .int .i64 now] w fun e w' => OwnT w' w.heap.size (exT T now) e ∧ Below w.heap.size w w' := by
 have HTK : Hid (TOK T) := hT
 have hl4 : T.ls.length ≤ 4 := hT.2.2.1
 have hs6 : T.ss.length ≤ 6 := hT.2.2.2.2.1
 have htm := inB_le hT.1
 have hnx := inB_le hT.2.1
 have HLK : Hid (∀ y ∈ T.ls, HdOK y) := fun y hy => by
  obtain ⟨i, hi, e⟩ := List.mem_iff_getElem.1 hy
  exact (hT.2.2.2.1 i y (by rw [List.getElem?_eq_getElem hi, e])).2.2.2
 have HWS : Hid (∀ y ∈ T.ls, y.ws.length ≤ 4 ∧ ∀ z ∈ y.ws, 1 ≤ z.l ∧ z.l ≤ 1000) := fun y hy => by
  rcases HLK.out y hy with ⟨_, _, h⟩ | ⟨_, _, _, h, hw⟩
  ·have := List.length_eq_zero_iff.1 h
   rw [this]
   exact ⟨by simp, fun z hz => by cases hz⟩
  ·refine ⟨h, fun z hz => ?_⟩
   obtain ⟨i, hi, e⟩ := List.mem_iff_getElem.1 hz
   exact inB_le (hw i z (by rw [List.getElem?_eq_getElem hi, e])).2.1
 have HX : Hid (∀ W, Below ((w.alloc (.cells #[.int .i64 T.tm, .int .i64 T.nx, vl, vs] 26)).alloc (.cells #[.int .i64 0, .int .i64 0, .slice none 0 0, .slice none 0 0] 26)).heap.size ((w.alloc (.cells #[.int .i64 T.tm, .int .i64 T.nx, vl, vs] 26)).alloc (.cells #[.int .i64 0, .int .i64 0, .slice none 0 0, .slice none 0 0] 26)) W → W.heap[w.heap.size]? = some (.cells #[.int .i64 T.tm, .int .i64 T.nx, vl, vs] 26 (0, 0)) ∧ W.heap[w.heap.size + 1]? = some (.cells #[.int .i64 0, .int .i64 0, .slice none 0 0, .slice none 0 0] 26 (0, 0)) ∧ RowL W vl T.ls ∧ RowS W vs T.ss ∧ Below w.heap.size w W) := fun W hW => by
  have e1 : (w.alloc (.cells #[.int .i64 T.tm, .int .i64 T.nx, vl, vs] 26)).heap.size = w.heap.size + 1 := by simp
  have b2 : Below w.heap.size w ((w.alloc (.cells #[.int .i64 T.tm, .int .i64 T.nx, vl, vs] 26)).alloc (.cells #[.int .i64 0, .int .i64 0, .slice none 0 0, .slice none 0 0] 26)) := (bel_new w _).trans ((bel_new _ _).mono (bel_new w _).size)
  have bb := b2.trans (hW.mono b2.size)
  refine ⟨?_, ?_, hl.below bb, hs.below bb, bb⟩
  ·rw [hW.block _ (by simp; omega), (bel_new (w.alloc (.cells #[.int .i64 T.tm, .int .i64 T.nx, vl, vs] 26)) (.cells #[.int .i64 0, .int .i64 0, .slice none 0 0, .slice none 0 0] 26)).block _ (by simp)]; exact blk_new _ _ _
  ·rw [hW.block _ (by simp), ← e1]; exact blk_new _ _ _
 have HOW : Hid (∀ W, RowL W vl T.ls → RowS W vs T.ss → Calls Tryd.prog 82 #[.agg #[.int .i64 T.tm, .int .i64 T.nx, vl, vs]] W fun e w' => ∃ ul us ps, e = .returned (.agg #[.int .i64 T.tm, .int .i64 T.nx, ul, us]) ∧ (OwnL w' W.heap.size ul ps ∧ (∀ p ∈ ps, OwnW w' W.heap.size (uV p) p.1.ws) ∧ ps.map (·.1) = T.ls ∧ Apart ps) ∧ OwnS w' W.heap.size us T.ss ∧ Below W.heap.size W w') := fun W a b => l05Own_all T.tm T.nx vl vs T.ls T.ss W a b (fun x hx => by have := (HWS.out x hx).1; omega) (by omega) (by omega)
 obtain ⟨la, lc, rfl⟩ := RowG.slice hl
 obtain ⟨sa, sc, rfl⟩ := RowG.slice hs
 clear hl hs hT
 unfold tabV
 go_enter Tryd.func100, Tryd.ntmps100
 go_upto_region 1 with fail
 generalize (w.alloc (.cells #[.int .i64 T.tm, .int .i64 T.nx, .slice la T.ls.length lc, .slice sa T.ss.length sc] 26)).alloc (.cells #[.int .i64 0, .int .i64 0, .slice none 0 0, .slice none 0 0] 26) = w2 at HX ⊢
 have c0 := (blk_cell (HX.out _ (Below.refl _ _)).1 0 rfl).1
 have c1 := (blk_cell (HX.out _ (Below.refl _ _)).1 1 rfl).1
 have c2 := (blk_cell (HX.out _ (Below.refl _ _)).1 2 rfl).1
 have c3 := (blk_cell (HX.out _ (Below.refl _ _)).1 3 rfl).1
 go_wp2_with fail
 refine (HOW.out _ (HX.out _ (Below.refl _ _)).2.2.1 (HX.out _ (Below.refl _ _)).2.2.2.1).mono ?_
 rintro e w3 ⟨ul, us, ps, rfl, ⟨o1, o2, o3, o4⟩, o5, b3⟩
 have hpl : ps.length = T.ls.length := by rw [← o3, List.length_map]
 obtain ⟨ua, uc, rfl⟩ := OwnL.slice o1
 obtain ⟨ta, tc, rfl⟩ := OwnS.slice o5
 have H4 : Hid (TM w2 (w3.alloc (.cells #[.int .i64 T.tm, .int .i64 T.nx, .slice ua ps.length uc, .slice ta T.ss.length tc] 26)) w2.heap.size w3.heap.size T (.slice ua ps.length uc) (.slice ta T.ss.length tc) ps) := ⟨blk_new _ _ _, o1.below (bel_new _ _), o5.below (bel_new _ _), fun p hp => (o2 p hp).below (bel_new _ _), o4, o3, b3.trans ((bel_new w3 _).mono b3.size), Nat.le_refl _, b3.size⟩
 rw [hpl] at H4 ⊢
 clear o1 o2 o3 o4 o5 b3 c0 c1 c2 c3 HOW
 go_upto_region 2 with fail
 generalize w3.alloc (.cells #[.int .i64 T.tm, .int .i64 T.nx, .slice ua T.ls.length uc, .slice ta T.ss.length tc] 26) = w4 at H4 ⊢
 generalize w3.heap.size = x at H4 ⊢
 obtain ⟨d0, f0⟩ := blk_cell H4.out.hx 0 (x := .int .i64 T.tm) rfl
 obtain ⟨M, hM⟩ : ∃ M, max T.tm now = M := ⟨_, rfl⟩
 have hM0 : 0 ≤ M ∧ M ≤ 1000000000 := by omega
 have H5 : Hid (TM w2 (w4.setCell ⟨x, 0, none⟩ (.int .i64 M)) w2.heap.size x (Tk T M 0) (.slice ua T.ls.length uc) (.slice ta T.ss.length tc) ps) := H4.out.box 0 _ rfl (mid_0 M T.nx T.ls) rfl
 have HMM : Hid (max T.tm now = M) := hM
 have HEX : Hid (exT T now = Tk T M T.ls.length) := by
  show _ = _
  unfold exT Tk
  rw [HMM.out, mid_all]
 go_upto_region 3 with fail
 try rw [HMM.out]
 generalize w4.setCell ⟨x, 0, none⟩ (.int .i64 M) = w5 at H5 ⊢
 clear d0 f0 H4 hM
 go_wp2_with fail
 go_loopw [6] (fun i wr => ∃ k : Nat, k ≤ T.ls.length ∧ i = .int .i64 k ∧ Hid (∃ ps, TM w2 wr w2.heap.size x (Tk T M k) (.slice ua T.ls.length uc) (.slice ta T.ss.length tc) ps)) (fun i _ => T.ls.length - (intOf i).toNat)
 case atStart => exact ⟨0, by omega, rfl, ⟨ps, H5.out⟩⟩
 case round =>
  clear H5 hpl ps
  obtain ⟨k, hk, rfl, HK⟩ := hrel
  obtain ⟨ps, hps⟩ := HK.out
  have H : Hid (TM w2 wr w2.heap.size x (Tk T M k) (.slice ua T.ls.length uc) (.slice ta T.ss.length tc) ps) := hps
  have x0 := (blk_cell hps.hx 0 (x := .int .i64 M) rfl).1
  have x2 := (blk_cell hps.hx 2 (x := .slice ua T.ls.length uc) rfl).1
  clear hps HK
  by_cases hlt : k < T.ls.length
  ·obtain ⟨y, hy⟩ := Tw.get_at hlt
   have hkI : (k : Int) < (T.ls.length : Int) := by omega
   obtain ⟨p, hp, hpy⟩ := H.out.at (k := k) (y := y) (mid_here hy)
   obtain ⟨g, cap, hv, hgB, hgx, hcap, hcell⟩ := H.out.row hp
   injection hv with hv1 hv2 hv3
   subst hv1
   obtain ⟨m2, _⟩ := hcell 2 (.int .i64 p.1.h) rfl
   obtain ⟨m3, _⟩ := hcell 3 (.int .i64 p.1.e) rfl
   rw [hpy] at m2 m3
   have HP : Hid (ps[k]? = some p ∧ p.1 = y ∧ T.ls[k]? = some y) := ⟨hp, hpy, hy⟩
   have HHD := HLK.out y (Tw.mem_at hy)
   have hyh : y.h = -1 ∨ 0 ≤ y.h := by
    rcases HHD with ⟨h, _⟩ | ⟨_, h, _⟩
    ·exact .inl h
    ·exact .inr (inB_le h).1
   have hnk := exN_le (tm := M) (nx := T.nx) (ls := T.ls) k
   clear hcell hp hpy hy HHD hcap hgx hgB hv2 hv3
   go_upto_region 6 with fail
   by_cases hd1 : 0 ≤ y.h
   ·by_cases hd2 : y.e ≤ M
    ·have HD : Hid (Da.due M y = true) := by show _ = _; unfold Da.due; rw [decide_eq_true]; exact ⟨by omega, hd2⟩
     obtain ⟨X, hX, W, QI0, QO0⟩ := Qc.klass wr
     have QI : Hid (∀ w', Below wr.heap.size wr w' → ∃ x, w' = W x) := QI0
     have QO : Hid (∀ x, Below wr.heap.size wr (W x)) := QO0
     clear QI0 QO0
     have y0 := Qc.cell_all QO.out x0
     have y2 := Qc.cell_all QO.out x2
     have z2 := Qc.cell_all QO.out m2
     have z3 := Qc.cell_all QO.out m3
     refine Qc.region_class (W := W) (by kernel_rfl) (by kernel_rfl) (QI.out _ Qc.from_drew) ?_
     repeat (go_big_quiet_step (fail))
     refine wpQuiet_nil ?_
     rintro _ ⟨xq, rfl⟩
     have GQ : Hid (TM w2 (W xq) w2.heap.size x (Tk T M k) (.slice (some ⟨g, 0, none⟩) T.ls.length uc) (.slice ta T.ss.length tc) ps) := H.out.up (QO.out xq)
     clear y0 y2 z2 z3 QO QI H x0 x2 m2 m3
     generalize W xq = wq at GQ ⊢
     have HWP := HWS.out y (Tw.mem_at HP.out.2.2)
     have HF := l05Free_any GQ.out HP.out.1 hM0.1 hM0.2 (by show 1 ≤ exN M T.nx T.ls k; omega) (by show exN M T.nx T.ls k ≤ 999999; omega) (by rw [HP.out.2.1]; omega) (fun z hz => by rw [HP.out.2.1] at hz; have := HWP.2 z hz; omega)
     go_wp2_with fail
     refine HF.mono ?_
     rintro e w8 ⟨rfl, ⟨q, hq, t8⟩, _⟩
     have HS : Hid (TM w2 w8 w2.heap.size x (Tk T M (k + 1)) (.slice (some ⟨g, 0, none⟩) T.ls.length uc) (.slice ta T.ss.length tc) (ps.set k q)) := by
      have e1 : Tk T M (k + 1) = ⟨M, frN (exN M T.nx T.ls k) y, (mid M T.nx T.ls k).set k (frL M (exN M T.nx T.ls k) y), T.ss⟩ := by
       unfold Tk
       rw [mid_set HP.out.2.2, exN_succ HP.out.2.2, HD.out]
       unfold exK
       rw [HD.out]
       rfl
      rw [HP.out.2.1] at hq t8
      have e2 : q.1 = frL M (exN M T.nx T.ls k) y := hq
      rw [e2] at t8
      rw [e1]
      exact t8
     clear t8 hq HF GQ
     go_wp2_with fail
     first
      | exact ⟨⟨k + 1, by omega, by go_num, ⟨_, HS.out⟩⟩, by simp [intOf]; omega⟩
      | (go_roundw
         case rel => (repeat apply Exists.intro); exact ⟨⟨k + 1, by omega, by go_num, ⟨_, HS.out⟩⟩, rfl⟩
         case measure => simp [intOf]; omega)
    ·have HD : Hid (Da.due M y = false) := by show _ = _; unfold Da.due; rw [decide_eq_false]; exact fun h => hd2 h.2
     obtain ⟨X, hX, W, QI0, QO0⟩ := Qc.klass wr
     have QI : Hid (∀ w', Below wr.heap.size wr w' → ∃ x, w' = W x) := QI0
     have QO : Hid (∀ x, Below wr.heap.size wr (W x)) := QO0
     clear QI0 QO0
     have y0 := Qc.cell_all QO.out x0
     have y2 := Qc.cell_all QO.out x2
     have z2 := Qc.cell_all QO.out m2
     have z3 := Qc.cell_all QO.out m3
     refine Qc.region_class (W := W) (by kernel_rfl) (by kernel_rfl) (QI.out _ Qc.from_drew) ?_
     repeat (go_big_quiet_step (fail))
     refine wpQuiet_nil ?_
     rintro _ ⟨xq, rfl⟩
     have GQ : Hid (TM w2 (W xq) w2.heap.size x (Tk T M k) (.slice (some ⟨g, 0, none⟩) T.ls.length uc) (.slice ta T.ss.length tc) ps) := H.out.up (QO.out xq)
     clear y0 y2 z2 z3 QO QI H x0 x2 m2 m3
     generalize W xq = wq at GQ ⊢
     have HS : Hid (Tk T M (k + 1) = Tk T M k) := by
      show _ = _
      unfold Tk
      rw [mid_same HP.out.2.2 HD.out, exN_succ HP.out.2.2, HD.out]
      rfl
     go_wp2_with fail
     exact ⟨⟨k + 1, by omega, by go_num, ⟨ps, by rw [HS.out]; exact GQ.out⟩⟩, by simp [intOf]; omega⟩
   ·have HD : Hid (Da.due M y = false) := by show _ = _; unfold Da.due; rw [decide_eq_false]; exact fun h => h.1 (by omega)
    obtain ⟨X, hX, W, QI0, QO0⟩ := Qc.klass wr
    have QI : Hid (∀ w', Below wr.heap.size wr w' → ∃ x, w' = W x) := QI0
    have QO : Hid (∀ x, Below wr.heap.size wr (W x)) := QO0
    clear QI0 QO0
    have y0 := Qc.cell_all QO.out x0
    have y2 := Qc.cell_all QO.out x2
    have z2 := Qc.cell_all QO.out m2
    have z3 := Qc.cell_all QO.out m3
    refine Qc.region_class (W := W) (by kernel_rfl) (by kernel_rfl) (QI.out _ Qc.from_drew) ?_
    repeat (go_big_quiet_step (fail))
    refine wpQuiet_nil ?_
    rintro _ ⟨xq, rfl⟩
    have GQ : Hid (TM w2 (W xq) w2.heap.size x (Tk T M k) (.slice (some ⟨g, 0, none⟩) T.ls.length uc) (.slice ta T.ss.length tc) ps) := H.out.up (QO.out xq)
    clear y0 y2 z2 z3 QO QI H x0 x2 m2 m3
    generalize W xq = wq at GQ ⊢
    have HS : Hid (Tk T M (k + 1) = Tk T M k) := by
     show _ = _
     unfold Tk
     rw [mid_same HP.out.2.2 HD.out, exN_succ HP.out.2.2, HD.out]
     rfl
    go_wp2_with fail
    exact ⟨⟨k + 1, by omega, by go_num, ⟨ps, by rw [HS.out]; exact GQ.out⟩⟩, by simp [intOf]; omega⟩
  ·obtain rfl : k = T.ls.length := by omega
   have x1 := (blk_cell H.out.hx 1 (x := .int .i64 (exN M T.nx T.ls T.ls.length)) rfl).1
   have x3 := (blk_cell H.out.hx 3 (x := .slice ta T.ss.length tc) rfl).1
   have AX : Hid (wr.heap[w.heap.size + 1]? = some (.cells #[.int .i64 0, .int .i64 0, .slice none 0 0, .slice none 0 0] 26 (0, 0)) ∧ Below w.heap.size w wr ∧ w.heap.size + 1 < w2.heap.size ∧ w.heap.size ≤ w2.heap.size) := by
    have hh := HX.out wr H.out.bel
    exact ⟨hh.2.1, hh.2.2.2.2, (Array.getElem?_eq_some_iff.1 (HX.out w2 (Below.refl _ _)).2.1).1, (HX.out w2 (Below.refl _ _)).2.2.2.2.size⟩
   obtain ⟨m0, n0⟩ := blk_cell AX.out.1 0 (x := .int .i64 0) rfl
   obtain ⟨m1, n1⟩ := blk_cell AX.out.1 1 (x := .int .i64 0) rfl
   obtain ⟨m2, n2⟩ := blk_cell AX.out.1 2 (x := .slice none 0 0) rfl
   obtain ⟨m3, n3⟩ := blk_cell AX.out.1 3 (x := .slice none 0 0) rfl
   have AF : ((((wr.setCell ⟨w.heap.size + 1, 0, none⟩ (.int .i64 M)).setCell ⟨w.heap.size + 1, 1, none⟩ (.int .i64 (exN M T.nx T.ls T.ls.length))).setCell ⟨w.heap.size + 1, 2, none⟩ (.slice ua T.ls.length uc)).setCell ⟨w.heap.size + 1, 3, none⟩ (.slice ta T.ss.length tc)).heap[w.heap.size + 1]? = some (.cells #[.int .i64 M, .int .i64 (exN M T.nx T.ls T.ls.length), .slice ua T.ls.length uc, .slice ta T.ss.length tc] 26 (0, 0)) := (blk_set (blk_set (blk_set (blk_set AX.out.1 _ _) _ _) _ _) _ _)
   have GF : Below w.heap.size w ((((wr.setCell ⟨w.heap.size + 1, 0, none⟩ (.int .i64 M)).setCell ⟨w.heap.size + 1, 1, none⟩ (.int .i64 (exN M T.nx T.ls T.ls.length))).setCell ⟨w.heap.size + 1, 2, none⟩ (.slice ua T.ls.length uc)).setCell ⟨w.heap.size + 1, 3, none⟩ (.slice ta T.ss.length tc)) := (Below.setCell (Below.setCell (Below.setCell (Below.setCell AX.out.2.1 (p := ⟨w.heap.size + 1, 0, none⟩) (Nat.le_succ _) (.int .i64 M)) (p := ⟨w.heap.size + 1, 1, none⟩) (Nat.le_succ _) (.int .i64 (exN M T.nx T.ls T.ls.length))) (p := ⟨w.heap.size + 1, 2, none⟩) (Nat.le_succ _) (.slice ua T.ls.length uc)) (p := ⟨w.heap.size + 1, 3, none⟩) (Nat.le_succ _) (.slice ta T.ss.length tc))
   have KF : Hid (∀ g, w2.heap.size ≤ g → ((((wr.setCell ⟨w.heap.size + 1, 0, none⟩ (.int .i64 M)).setCell ⟨w.heap.size + 1, 1, none⟩ (.int .i64 (exN M T.nx T.ls T.ls.length))).setCell ⟨w.heap.size + 1, 2, none⟩ (.slice ua T.ls.length uc)).setCell ⟨w.heap.size + 1, 3, none⟩ (.slice ta T.ss.length tc)).heap[g]? = wr.heap[g]?) := fun g' hg' => by
    have hne : ∀ g : Nat, w2.heap.size ≤ g → g ≠ w.heap.size + 1 := fun g hg => by have := AX.out.2.2.1; omega
    exact ((blk_far (hne g' hg') _ _).trans ((blk_far (hne g' hg') _ _).trans ((blk_far (hne g' hg') _ _).trans ((blk_far (hne g' hg') _ _).trans rfl))))
   have OF : Hid (OwnT ((((wr.setCell ⟨w.heap.size + 1, 0, none⟩ (.int .i64 M)).setCell ⟨w.heap.size + 1, 1, none⟩ (.int .i64 (exN M T.nx T.ls T.ls.length))).setCell ⟨w.heap.size + 1, 2, none⟩ (.slice ua T.ls.length uc)).setCell ⟨w.heap.size + 1, 3, none⟩ (.slice ta T.ss.length tc)) w.heap.size (exT T now) (.returned (tabV M (exN M T.nx T.ls T.ls.length) (.slice ua T.ls.length uc) (.slice ta T.ss.length tc)))) := by
    have hle := AX.out.2.2.2
    rw [HEX.out]
    refine ⟨_, _, ps, rfl, (H.out.ol.kept (fun g hg => KF.out g (H.out.ol.lt g hg).1)).mono hle, fun p hp => ((H.out.ow p hp).kept (fun g hg => KF.out g ((H.out.ow p hp).lt g hg).1)).mono hle, H.out.eq, H.out.ap, (H.out.os.kept (fun g hg => KF.out g (H.out.os.lt g hg).1)).mono hle⟩
   go_wp2_with fail
   generalize ((((wr.setCell ⟨w.heap.size + 1, 0, none⟩ (.int .i64 M)).setCell ⟨w.heap.size + 1, 1, none⟩ (.int .i64 (exN M T.nx T.ls T.ls.length))).setCell ⟨w.heap.size + 1, 2, none⟩ (.slice ua T.ls.length uc)).setCell ⟨w.heap.size + 1, 3, none⟩ (.slice ta T.ss.length tc)) = wf at AF GF OF ⊢
   have d0 := (blk_cell AF 0 (x := .int .i64 M) rfl).1
   have d1 := (blk_cell AF 1 (x := .int .i64 (exN M T.nx T.ls T.ls.length)) rfl).1
   have d2 := (blk_cell AF 2 (x := .slice ua T.ls.length uc) rfl).1
   have d3 := (blk_cell AF 3 (x := .slice ta T.ss.length tc) rfl).1
   exact bodyPost_ret (v := .agg #[.int .i64 M, .int .i64 (exN M T.nx T.ls T.ls.length), .slice ua T.ls.length uc, .slice ta T.ss.length tc]) (by simp [results, Tryd.results100, go_sem, d0, d1, d2, d3]) rfl ⟨OF.out, GF⟩
end Go.Proofs.YtakfniknkejgpaaDoor.Ea

/- l05Apply of the specification. -/
namespace Go.Proofs.YtakfniknkejgpaaDoor.Ea
open Go.RowKit Go.Proofs.YtakfniknkejgpaaDoor.Sl Go.Proofs.YtakfniknkejgpaaDoor.By Go.Proofs.YtakfniknkejgpaaDoor.Ap Go.Proofs.YtakfniknkejgpaaDoor.Tb Go.Proofs.YtakfniknkejgpaaDoor.Tw Go.Proofs.YtakfniknkejgpaaDoor.Wa Go.Proofs.YtakfniknkejgpaaDoor.Tp Go.Proofs.YtakfniknkejgpaaDoor.Da
open Go.Proofs.YtakfniknkejgpaaDoor.Lo (LkA uV clL OwnL OwnL.kept OwnL.lt OwnL.below OwnL.row OwnL.slice own_block kind_ne Apart lenL atL)
open Go.Proofs.YtakfniknkejgpaaDoor.Tx (blk_cell blk_set blk_far blk_new bel_new)
open Go.Proofs.YtakfniknkejgpaaDoor.Lf (Fnd l05Find_any)
open Go.Proofs.YtakfniknkejgpaaDoor.Lsh
set_option maxRecDepth 100000 in
set_option maxHeartbeats 12800000 in
theorem l05Apply_any (T : Tab) (vl vs : Value) (now : Int) (r : Da.Ask) (w : World) (hl : RowL w vl T.ls) (hs : RowS w vs T.ss) (hT : TOK T) (h0 : 0 ≤ now) (h1 : now ≤ 1000000000) (hn : T.nx ≤ 999990) (hr : AskOK r) :
 Calls Tryd.prog 81 #[.agg #[.int .i64 T.tm, .int .i64 T.nx, vl, vs], .int .i64 now, .agg #[.int .i64 r.cl, .int .i64 r.st, .int .i64 r.kd, .int .i64 r.le, .string r.nm]] w fun e w' => ApP w (apT T now r) e w' := by
 obtain ⟨si0, hsi0, sz0, sz1, sz2⟩ := info_parts infoS
 have hX := exT_ok hT h0 h1 hn
 have hXn := exT_nx T now hT.2.2.1
 have hXs : (exT T now).ss = T.ss := rfl
 have HE : Hid (∀ W, Below w.heap.size w W → Calls Tryd.prog 100 #[.agg #[.int .i64 T.tm, .int .i64 T.nx, vl, vs], .int .i64 now] W fun e w' => OwnT w' W.heap.size (exT T now) e ∧ Below W.heap.size W w') := fun W hW => l05Expire_any T vl vs now W (hl.below hW) (hs.below hW) hT h0 h1 hn
 obtain ⟨R, HR⟩ : ∃ R, Hid (apT T now r = R) := ⟨_, rfl⟩
 obtain ⟨X, HX0⟩ : ∃ X, Hid (exT T now = X) := ⟨_, rfl⟩
 rw [HX0.out] at hX hXn hXs HE
 have HAP0 : R = match sidx X.ss r.cl with
  | some k => if r.st = (X.ss.getD k default).s then (X, ansOf (X.ss.getD k default)) else if r.st < (X.ss.getD k default).s then (X, bare 7) else ({ (doT X r).1 with ss := X.ss.set k (sn r (doT X r).2) }, (doT X r).2)
  | none => if 6 ≤ X.ss.length then (X, bare 6) else ({ (doT X r).1 with ss := putAt X.ss (splc X.ss r.cl) (sn r (doT X r).2) }, (doT X r).2) := by
  rw [← HR.out, hXs, ← HX0.out]
  rfl
 have HAPH : Hid (∀ _ : Unit, R = match sidx X.ss r.cl with
  | some k => if r.st = (X.ss.getD k default).s then (X, ansOf (X.ss.getD k default)) else if r.st < (X.ss.getD k default).s then (X, bare 7) else ({ (doT X r).1 with ss := X.ss.set k (sn r (doT X r).2) }, (doT X r).2)
  | none => if 6 ≤ X.ss.length then (X, bare 6) else ({ (doT X r).1 with ss := putAt X.ss (splc X.ss r.cl) (sn r (doT X r).2) }, (doT X r).2)) := fun _ => HAP0
 clear HAP0
 rw [HR.out]
 have HDS : Hid ((doT X r).1.ss = X.ss) := (doT_ss X r).1
 have HXO : Hid (TOK X ∧ X.nx ≤ 999999) := ⟨hX, by omega⟩
 have hsl : X.ss.length ≤ 6 := hX.2.2.2.2.1
 have hrc := inB_le hr.1
 have HRO : Hid (AskOK r) := hr
 clear hX hXn hXs HR HX0 hT h0 h1 hn hr
 have HWB : Hid (∀ W, Below ((((w.alloc (.cells #[.int .i64 T.tm, .int .i64 T.nx, vl, vs] 26)).alloc (.cells #[.int .i64 r.cl, .int .i64 r.st, .int .i64 r.kd, .int .i64 r.le, .string r.nm] 123)).alloc (.cells #[.int .i64 0, .int .i64 0, .slice none 0 0, .slice none 0 0] 26)).alloc (.cells #[.int .i64 0, .int .i64 0, .int .i64 0, .int .i64 0] 55)).heap.size ((((w.alloc (.cells #[.int .i64 T.tm, .int .i64 T.nx, vl, vs] 26)).alloc (.cells #[.int .i64 r.cl, .int .i64 r.st, .int .i64 r.kd, .int .i64 r.le, .string r.nm] 123)).alloc (.cells #[.int .i64 0, .int .i64 0, .slice none 0 0, .slice none 0 0] 26)).alloc (.cells #[.int .i64 0, .int .i64 0, .int .i64 0, .int .i64 0] 55)) W → W.heap[w.heap.size]? = some (.cells #[.int .i64 T.tm, .int .i64 T.nx, vl, vs] 26 (0, 0)) ∧ W.heap[w.heap.size + 1]? = some (.cells #[.int .i64 r.cl, .int .i64 r.st, .int .i64 r.kd, .int .i64 r.le, .string r.nm] 123 (0, 0)) ∧ W.heap[w.heap.size + 1 + 1]? = some (.cells #[.int .i64 0, .int .i64 0, .slice none 0 0, .slice none 0 0] 26 (0, 0)) ∧ W.heap[w.heap.size + 1 + 1 + 1]? = some (.cells #[.int .i64 0, .int .i64 0, .int .i64 0, .int .i64 0] 55 (0, 0)) ∧ Below w.heap.size w W) := fun W hW => by
  have s1 : (w.alloc (.cells #[.int .i64 T.tm, .int .i64 T.nx, vl, vs] 26)).heap.size = w.heap.size + 1 := by simp
  have s2 : ((w.alloc (.cells #[.int .i64 T.tm, .int .i64 T.nx, vl, vs] 26)).alloc (.cells #[.int .i64 r.cl, .int .i64 r.st, .int .i64 r.kd, .int .i64 r.le, .string r.nm] 123)).heap.size = w.heap.size + 1 + 1 := by simp
  have s3 : (((w.alloc (.cells #[.int .i64 T.tm, .int .i64 T.nx, vl, vs] 26)).alloc (.cells #[.int .i64 r.cl, .int .i64 r.st, .int .i64 r.kd, .int .i64 r.le, .string r.nm] 123)).alloc (.cells #[.int .i64 0, .int .i64 0, .slice none 0 0, .slice none 0 0] 26)).heap.size = w.heap.size + 1 + 1 + 1 := by simp
  have s4 : ((((w.alloc (.cells #[.int .i64 T.tm, .int .i64 T.nx, vl, vs] 26)).alloc (.cells #[.int .i64 r.cl, .int .i64 r.st, .int .i64 r.kd, .int .i64 r.le, .string r.nm] 123)).alloc (.cells #[.int .i64 0, .int .i64 0, .slice none 0 0, .slice none 0 0] 26)).alloc (.cells #[.int .i64 0, .int .i64 0, .int .i64 0, .int .i64 0] 55)).heap.size = w.heap.size + 1 + 1 + 1 + 1 := by simp
  have b1 := bel_new w (.cells #[.int .i64 T.tm, .int .i64 T.nx, vl, vs] 26)
  have b2 := bel_new (w.alloc (.cells #[.int .i64 T.tm, .int .i64 T.nx, vl, vs] 26)) (.cells #[.int .i64 r.cl, .int .i64 r.st, .int .i64 r.kd, .int .i64 r.le, .string r.nm] 123)
  have b3 := bel_new ((w.alloc (.cells #[.int .i64 T.tm, .int .i64 T.nx, vl, vs] 26)).alloc (.cells #[.int .i64 r.cl, .int .i64 r.st, .int .i64 r.kd, .int .i64 r.le, .string r.nm] 123)) (.cells #[.int .i64 0, .int .i64 0, .slice none 0 0, .slice none 0 0] 26)
  have b4 := bel_new (((w.alloc (.cells #[.int .i64 T.tm, .int .i64 T.nx, vl, vs] 26)).alloc (.cells #[.int .i64 r.cl, .int .i64 r.st, .int .i64 r.kd, .int .i64 r.le, .string r.nm] 123)).alloc (.cells #[.int .i64 0, .int .i64 0, .slice none 0 0, .slice none 0 0] 26)) (.cells #[.int .i64 0, .int .i64 0, .int .i64 0, .int .i64 0] 55)
  refine ⟨?_, ?_, ?_, ?_, (((b1.trans (b2.mono b1.size)).trans (b3.mono (by omega))).trans (b4.mono (by omega))).trans (hW.mono (by omega))⟩
  ·rw [hW.block _ (by omega), b4.block _ (by omega), b3.block _ (by omega), b2.block _ (by omega)]; exact blk_new _ _ _
  ·rw [hW.block _ (by omega), b4.block _ (by omega), b3.block _ (by omega), ← s1]; exact blk_new _ _ _
  ·rw [hW.block _ (by omega), b4.block _ (by omega), ← s2]; exact blk_new _ _ _
  ·rw [hW.block _ (by omega), ← s3]; exact blk_new _ _ _
 have hA : ((((w.alloc (.cells #[.int .i64 T.tm, .int .i64 T.nx, vl, vs] 26)).alloc (.cells #[.int .i64 r.cl, .int .i64 r.st, .int .i64 r.kd, .int .i64 r.le, .string r.nm] 123)).alloc (.cells #[.int .i64 0, .int .i64 0, .slice none 0 0, .slice none 0 0] 26)).alloc (.cells #[.int .i64 0, .int .i64 0, .int .i64 0, .int .i64 0] 55)).heap.size = w.heap.size + 1 + 1 + 1 + 1 := by simp
 clear hl hs
 go_enter Tryd.func81, Tryd.ntmps81
 go_upto_region 1 with fail
 generalize ((((w.alloc (.cells #[.int .i64 T.tm, .int .i64 T.nx, vl, vs] 26)).alloc (.cells #[.int .i64 r.cl, .int .i64 r.st, .int .i64 r.kd, .int .i64 r.le, .string r.nm] 123)).alloc (.cells #[.int .i64 0, .int .i64 0, .slice none 0 0, .slice none 0 0] 26)).alloc (.cells #[.int .i64 0, .int .i64 0, .int .i64 0, .int .i64 0] 55)) = wA at HWB hA ⊢
 have HBX : Hid (∀ W, Below wA.heap.size wA W → W.heap[w.heap.size + 1]? = some (.cells #[.int .i64 r.cl, .int .i64 r.st, .int .i64 r.kd, .int .i64 r.le, .string r.nm] 123 (0, 0)) ∧ W.heap[w.heap.size + 1 + 1]? = some (.cells #[.int .i64 0, .int .i64 0, .slice none 0 0, .slice none 0 0] 26 (0, 0)) ∧ W.heap[w.heap.size + 1 + 1 + 1]? = some (.cells #[.int .i64 0, .int .i64 0, .int .i64 0, .int .i64 0] 55 (0, 0)) ∧ Below w.heap.size w W) := fun W hW => (HWB.out W hW).2
 obtain ⟨q0, _, _, _, q4⟩ := HWB.out wA (Below.refl _ _)
 have c0 := (blk_cell q0 0 (x := .int .i64 T.tm) rfl).1
 have c1 := (blk_cell q0 1 (x := .int .i64 T.nx) rfl).1
 have c2 := (blk_cell q0 2 (x := vl) rfl).1
 have c3 := (blk_cell q0 3 (x := vs) rfl).1
 have HE1 := HE.out wA q4
 clear q0 q4 HE HWB
 go_upto_region 2 with (go_at_call 100; refine HE1.mono ?_; rintro e w1 ⟨⟨ul, us, ps, he, o1, o2, o3, o4, o5⟩, b1⟩; obtain ⟨la, lc, rfl⟩ := OwnL.slice o1; obtain ⟨ua, uc, rfl⟩ := OwnS.slice o5; unfold tabV at he; subst he)
 have bb := bel_new w1 (.cells #[.int .i64 X.tm, .int .i64 X.nx, .slice la ps.length lc, .slice ua X.ss.length uc] 26)
 have T2 : TM wA (w1.alloc (.cells #[.int .i64 X.tm, .int .i64 X.nx, .slice la ps.length lc, .slice ua X.ss.length uc] 26)) wA.heap.size w1.heap.size X (.slice la ps.length lc) (.slice ua X.ss.length uc) ps := ⟨blk_new _ _ _, o1.below bb, o5.below bb, fun p hp => (o2 p hp).below bb, o4, o3, b1.trans (bb.mono b1.size), Nat.le_refl _, b1.size⟩
 have HX : Hid (∀ W, Below (w1.alloc (.cells #[.int .i64 X.tm, .int .i64 X.nx, .slice la ps.length lc, .slice ua X.ss.length uc] 26)).heap.size (w1.alloc (.cells #[.int .i64 X.tm, .int .i64 X.nx, .slice la ps.length lc, .slice ua X.ss.length uc] 26)) W → TM wA W wA.heap.size w1.heap.size X (.slice la ps.length lc) (.slice ua X.ss.length uc) ps) := fun W hW => T2.up hW
 have hbA : wA.heap.size ≤ w1.heap.size := b1.size
 clear o1 o2 o3 o4 o5 b1 bb T2 HE1 c0 c1 c2 c3
 generalize w1.alloc (.cells #[.int .i64 X.tm, .int .i64 X.nx, .slice la ps.length lc, .slice ua X.ss.length uc] 26) = w2 at HX ⊢
 generalize w1.heap.size = b at HX hbA ⊢
 obtain ⟨k, HK⟩ : ∃ k, Hid (splc X.ss r.cl = k) := ⟨_, rfl⟩
 have hkl : k ≤ X.ss.length := by rw [← HK.out]; exact splc_le _ _
 have hkc : k ≤ uc := by
  rcases (HX.out w2 (Below.refl _ _)).os.2 with ⟨e, h1⟩ | ⟨g', cap, cur, e, _, _, hc, _⟩
  ·omega
  ·cases e; omega
 go_wp2_with fail
 go_loopw [9] (fun i wr => ∃ j : Nat, i = .int .i64 (j : Int) ∧ j ≤ k ∧ Hid (Below w2.heap.size w2 wr)) (fun i _ => k - (intOf i).toNat)
 case atStart => exact ⟨0, rfl, by omega, Below.refl _ _⟩
 case round =>
  obtain ⟨j, rfl, hj, GR⟩ := hrel
  have hj0 : (0 : Int) ≤ (j : Int) := by omega
  by_cases hjn : j < X.ss.length
  focus
   obtain ⟨s, hs⟩ : ∃ s, X.ss[j]? = some s := ⟨_, List.getElem?_eq_getElem hjn⟩
   have HSK : Hid (X.ss[j]? = some s) := hs
   have hlt := splc_at hs (by rw [HK.out]; exact hj)
   rw [HK.out] at hlt
   have hj1 : (j : Int) < (X.ss.length : Int) := by omega
   obtain ⟨gs, cs, es, hgB, _⟩ := OwnS.atk (HX.out wr GR.out).os hs
   obtain ⟨rfl, rfl⟩ : ua = some ⟨gs, 0, none⟩ ∧ uc = cs := by injection es with e1 _ e3; exact ⟨e1, e3⟩
   clear es
   by_cases hjk : j < k
   ·have hls : s.c < r.cl := hlt.1 hjk
    clear hlt hs
    go_upto_region 3 with fail
    obtain ⟨X1, hX1, W1, QI0, QO0⟩ := Qc.klass wr
    have QI : Hid (∀ w', Below wr.heap.size wr w' → ∃ x, w' = W1 x) := QI0
    have QO : Hid (∀ x, Below wr.heap.size wr (W1 x)) := QO0
    clear QI0 QO0
    have tq := HX.out _ GR.out
    have y3 := Qc.cell_all QO.out (blk_cell tq.hx 3 (x := .slice (some ⟨gs, 0, none⟩) X.ss.length uc) rfl).1
    have z0 := Qc.cell_all QO.out (blk_cell (HBX.out _ tq.bel).1 0 (x := .int .i64 r.cl) rfl).1
    have z1 := Qc.cell_all QO.out (blk_cell (HBX.out _ tq.bel).1 1 (x := .int .i64 r.st) rfl).1
    obtain ⟨gs', cs', es, _, _, _, hcs⟩ := OwnS.atk tq.os HSK.out
    obtain rfl : gs = gs' := by injection es with e1; injection e1 with e1; injection e1
    have s0 : ∀ q, (W1 q).cell? ⟨gs, j * 6, none⟩ = some (.int .i64 s.c) := Qc.cell_all QO.out (hcs 0 (.int .i64 s.c) rfl).1
    have s1 := Qc.cell_all QO.out (hcs 1 (.int .i64 s.s) rfl).1
    clear hcs es
    clear tq
    refine Qc.region_class (W := W1) (by kernel_rfl) (by kernel_rfl) (QI.out _ Qc.from_drew) ?_
    repeat (go_big_quiet_step (fail))
    refine wpQuiet_nil ?_
    rintro _ ⟨xq, rfl⟩
    have G : Hid (Below w2.heap.size w2 (W1 xq)) := GR.out.trans ((QO.out xq).mono GR.out.size)
    clear y3 z0 z1 s0 s1 QO QI GR
    generalize W1 xq = wq at G ⊢
    go_wp2_with fail
    exact ⟨⟨j + 1, by go_num, by omega, G⟩, by simp [intOf]; omega⟩
   focus
    have hls : ¬ s.c < r.cl := fun h => hjk (hlt.2 h)
    obtain rfl : j = k := by omega
    have HSS : Hid (SsOK X.ss) := HXO.out.1.2.2.2.2.2
    have HAP1 := HAPH.out ()
    clear hlt hs hjk HAPH
    by_cases hsc : s.c = r.cl
    ·have hi := (seen_place HSS.out HSK.out hsc).2
     have hgd : X.ss.getD j default = s := by rw [List.getD_eq_getElem?_getD, HSK.out]; rfl
     rw [hi] at HAP1
     simp only [hgd] at HAP1
     have hsc' : (s.c == r.cl) = true := by simp [hsc]
     clear hi hgd
     have HSC : Hid (s.c = r.cl) := hsc
     by_cases hst : s.s = r.st
     ·have HAP : Hid (R = (X, ansOf s)) := by show _ = _; rw [HAP1, if_pos hst.symm]
      have hst' : (s.s == r.st) = true := by simp [hst]
      clear HAP1 hsc hst
      go_upto_region 3 with fail
      obtain ⟨X1, hX1, W1, QI0, QO0⟩ := Qc.klass wr
      have QI : Hid (∀ w', Below wr.heap.size wr w' → ∃ x, w' = W1 x) := QI0
      have QO : Hid (∀ x, Below wr.heap.size wr (W1 x)) := QO0
      clear QI0 QO0
      have tq := HX.out _ GR.out
      have y3 := Qc.cell_all QO.out (blk_cell tq.hx 3 (x := .slice (some ⟨gs, 0, none⟩) X.ss.length uc) rfl).1
      have z0 := Qc.cell_all QO.out (blk_cell (HBX.out _ tq.bel).1 0 (x := .int .i64 r.cl) rfl).1
      have z1 := Qc.cell_all QO.out (blk_cell (HBX.out _ tq.bel).1 1 (x := .int .i64 r.st) rfl).1
      obtain ⟨gs', cs', es, _, _, _, hcs⟩ := OwnS.atk tq.os HSK.out
      obtain rfl : gs = gs' := by injection es with e1; injection e1 with e1; injection e1
      have s0 : ∀ q, (W1 q).cell? ⟨gs, j * 6, none⟩ = some (.int .i64 s.c) := Qc.cell_all QO.out (hcs 0 (.int .i64 s.c) rfl).1
      have s1 := Qc.cell_all QO.out (hcs 1 (.int .i64 s.s) rfl).1
      clear hcs es
      clear tq
      refine Qc.region_class (W := W1) (by kernel_rfl) (by kernel_rfl) (QI.out _ Qc.from_drew) ?_
      repeat (go_big_quiet_step (fail))
      refine wpQuiet_nil ?_
      rintro _ ⟨xq, rfl⟩
      have G : Hid (Below w2.heap.size w2 (W1 xq)) := GR.out.trans ((QO.out xq).mono GR.out.size)
      clear y3 z0 z1 s0 s1 QO QI GR
      generalize W1 xq = wq at G ⊢
      go_upto_region 5 with fail
      obtain ⟨X1, hX1, W1, QI0, QO0⟩ := Qc.klass wq
      have QI : Hid (∀ w', Below wq.heap.size wq w' → ∃ x, w' = W1 x) := QI0
      have QO : Hid (∀ x, Below wq.heap.size wq (W1 x)) := QO0
      clear QI0 QO0
      have tq := HX.out _ G.out
      have y3 := Qc.cell_all QO.out (blk_cell tq.hx 3 (x := .slice (some ⟨gs, 0, none⟩) X.ss.length uc) rfl).1
      have z0 := Qc.cell_all QO.out (blk_cell (HBX.out _ tq.bel).1 0 (x := .int .i64 r.cl) rfl).1
      have z1 := Qc.cell_all QO.out (blk_cell (HBX.out _ tq.bel).1 1 (x := .int .i64 r.st) rfl).1
      obtain ⟨gs', cs', es, _, _, _, hcs⟩ := OwnS.atk tq.os HSK.out
      obtain rfl : gs = gs' := by injection es with e1; injection e1 with e1; injection e1
      have s0 : ∀ q, (W1 q).cell? ⟨gs, j * 6, none⟩ = some (.int .i64 s.c) := Qc.cell_all QO.out (hcs 0 (.int .i64 s.c) rfl).1
      have s1 := Qc.cell_all QO.out (hcs 1 (.int .i64 s.s) rfl).1
      clear hcs es
      clear tq
      refine Qc.region_class (W := W1) (by kernel_rfl) (by kernel_rfl) (QI.out _ Qc.from_drew) ?_
      repeat (go_big_quiet_step (fail))
      refine wpQuiet_nil ?_
      rintro _ ⟨xq, rfl⟩
      have G3 : Hid (Below w2.heap.size w2 (W1 xq)) := G.out.trans ((QO.out xq).mono G.out.size)
      clear y3 z0 z1 s0 s1 QO QI G
      generalize W1 xq = wr3 at G3 ⊢
      go_upto_region 6 with fail
      obtain ⟨X1, hX1, W1, QI0, QO0⟩ := Qc.klass wr3
      have QI : Hid (∀ w', Below wr3.heap.size wr3 w' → ∃ x, w' = W1 x) := QI0
      have QO : Hid (∀ x, Below wr3.heap.size wr3 (W1 x)) := QO0
      clear QI0 QO0
      have tq := HX.out _ G3.out
      have y3 := Qc.cell_all QO.out (blk_cell tq.hx 3 (x := .slice (some ⟨gs, 0, none⟩) X.ss.length uc) rfl).1
      have z0 := Qc.cell_all QO.out (blk_cell (HBX.out _ tq.bel).1 0 (x := .int .i64 r.cl) rfl).1
      have z1 := Qc.cell_all QO.out (blk_cell (HBX.out _ tq.bel).1 1 (x := .int .i64 r.st) rfl).1
      obtain ⟨gs', cs', es, _, _, _, hcs⟩ := OwnS.atk tq.os HSK.out
      obtain rfl : gs = gs' := by injection es with e1; injection e1 with e1; injection e1
      have s0 : ∀ q, (W1 q).cell? ⟨gs, j * 6, none⟩ = some (.int .i64 s.c) := Qc.cell_all QO.out (hcs 0 (.int .i64 s.c) rfl).1
      have s1 := Qc.cell_all QO.out (hcs 1 (.int .i64 s.s) rfl).1
      clear hcs es
      clear tq
      refine Qc.region_class (W := W1) (by kernel_rfl) (by kernel_rfl) (QI.out _ Qc.from_drew) ?_
      repeat (go_big_quiet_step (fail))
      refine wpQuiet_nil ?_
      rintro _ ⟨xq, rfl⟩
      have G4 : Hid (Below w2.heap.size w2 (W1 xq)) := G3.out.trans ((QO.out xq).mono G3.out.size)
      clear y3 z0 z1 s0 s1 QO QI G3
      generalize W1 xq = wr4 at G4 ⊢
      have HTF : Hid (TM wA wr4 wA.heap.size b X (.slice la ps.length lc) (.slice (some ⟨gs, 0, none⟩) X.ss.length uc) ps) := HX.out _ G4.out
      have HS7 : Hid (∀ W : World, (∀ i, wA.heap.size ≤ i → W.heap[i]? = wr4.heap[i]?) → (W.cell? ⟨b, 0, none⟩ = some (.int .i64 X.tm) ∧ W.cell? ⟨b, 1, none⟩ = some (.int .i64 X.nx) ∧ W.cell? ⟨b, 2, none⟩ = some (.slice la ps.length lc) ∧ W.cell? ⟨b, 3, none⟩ = some (.slice (some ⟨gs, 0, none⟩) X.ss.length uc)) ∧ W.cell? ⟨gs, j * 6 + 2, none⟩ = some (.int .i64 s.k) ∧ W.cell? ⟨gs, j * 6 + 3, none⟩ = some (.int .i64 s.t) ∧ W.cell? ⟨gs, j * 6 + 4, none⟩ = some (.int .i64 s.h) ∧ W.cell? ⟨gs, j * 6 + 5, none⟩ = some (.int .i64 s.e)) := fun W hW => by
       have e1 := (hW b hbA).trans HTF.out.hx
       obtain ⟨g', c', e, _, _, ⟨cl, hcl⟩, hc⟩ := OwnS.atk HTF.out.os HSK.out
       obtain rfl : gs = g' := by injection e with e1; injection e1 with e1; injection e1
       have e2 := fun i u hi => (hc i u hi).1
       simp only [Joins.cell_of_block hcl] at e2
       have e3 := (hW gs hgB).trans hcl
       refine ⟨⟨(blk_cell e1 0 rfl).1, (blk_cell e1 1 rfl).1, (blk_cell e1 2 rfl).1, (blk_cell e1 3 rfl).1⟩, ?_, ?_, ?_, ?_⟩
       ·rw [Joins.cell_of_block e3]; exact e2 2 _ rfl
       ·rw [Joins.cell_of_block e3]; exact e2 3 _ rfl
       ·rw [Joins.cell_of_block e3]; exact e2 4 _ rfl
       ·rw [Joins.cell_of_block e3]; exact e2 5 _ rfl
      go_upto_region 7 with fail
      have hbx := HBX.out _ HTF.out.bel
      obtain ⟨zt0, ft0⟩ := blk_cell hbx.2.1 0 (x := .int .i64 0) rfl
      obtain ⟨zt1, ft1⟩ := blk_cell hbx.2.1 1 (x := .int .i64 0) rfl
      obtain ⟨zt2, ft2⟩ := blk_cell hbx.2.1 2 (x := .slice none 0 0) rfl
      obtain ⟨zt3, ft3⟩ := blk_cell hbx.2.1 3 (x := .slice none 0 0) rfl
      obtain ⟨za0, fa0⟩ := blk_cell hbx.2.2.1 0 (x := .int .i64 0) rfl
      obtain ⟨za1, fa1⟩ := blk_cell hbx.2.2.1 1 (x := .int .i64 0) rfl
      obtain ⟨za2, fa2⟩ := blk_cell hbx.2.2.1 2 (x := .int .i64 0) rfl
      obtain ⟨za3, fa3⟩ := blk_cell hbx.2.2.1 3 (x := .int .i64 0) rfl
      clear hbx
      refine wp_region_noPanic ?_
      refine wp_region_Z 8 (S := fun W => (W.cell? ⟨b, 0, none⟩ = some (.int .i64 X.tm) ∧ W.cell? ⟨b, 1, none⟩ = some (.int .i64 X.nx) ∧ W.cell? ⟨b, 2, none⟩ = some (.slice la ps.length lc) ∧ W.cell? ⟨b, 3, none⟩ = some (.slice (some ⟨gs, 0, none⟩) X.ss.length uc)) ∧ W.cell? ⟨gs, j * 6 + 2, none⟩ = some (.int .i64 s.k) ∧ W.cell? ⟨gs, j * 6 + 3, none⟩ = some (.int .i64 s.t) ∧ W.cell? ⟨gs, j * 6 + 4, none⟩ = some (.int .i64 s.h) ∧ W.cell? ⟨gs, j * 6 + 5, none⟩ = some (.int .i64 s.e)) (by kernel_rfl) (HS7.out _ (fun _ _ => rfl)) (fun hHeld => ?_)
      refine wpZ_take (i := 0) 2 (oi := ⟨some 63, .load 26 (.tmp 8), 26, "l05_locks.go:193", #[], none⟩) (v := ?_) rfl (by kernel_rfl) (by kernel_rfl) (by kernel_rfl) (by kernel_rfl) (fun _ _ _ h => h) (by kernel_rfl) (Or.inl ⟨by rfl, ?_⟩) hHeld ?_
      rotate_left
      ·intro wz hz; (try dsimp only at hz); obtain ⟨⟨y0, y1, y2, y3⟩, y4, y5, y6, y7⟩ := hz; go_simp; try (with_reducible rfl)
      simp only [Act.put, List.setIfInBounds_toArray, List.set_cons_zero, List.set_cons_succ]
      refine wpZ_take (i := 1) 2 (oi := ⟨some 64, .fieldAddr 26 (.tmp 8) 3, 0, "l05_locks.go:193", #[⟨7, .gcOnly .lateStores⟩], none⟩) (v := ?_) rfl (by kernel_rfl) (by kernel_rfl) (by kernel_rfl) (by kernel_rfl) (fun _ _ _ h => h) (by kernel_rfl) (Or.inl ⟨by rfl, ?_⟩) hHeld ?_
      rotate_left
      ·intro wz hz; (try dsimp only at hz); obtain ⟨⟨y0, y1, y2, y3⟩, y4, y5, y6, y7⟩ := hz; go_simp; try (with_reducible rfl)
      simp only [Act.put, List.setIfInBounds_toArray, List.set_cons_zero, List.set_cons_succ]
      refine wpZ_take (i := 2) 2 (oi := ⟨some 65, .load 24 (.tmp 64), 24, "l05_locks.go:193", #[⟨1, .data⟩, ⟨7, .gcOnly .lateStores⟩], none⟩) (v := ?_) rfl (by kernel_rfl) (by kernel_rfl) (by kernel_rfl) (by kernel_rfl) (fun _ _ _ h => h) (by kernel_rfl) (Or.inl ⟨by rfl, ?_⟩) hHeld ?_
      rotate_left
      ·intro wz hz; (try dsimp only at hz); obtain ⟨⟨y0, y1, y2, y3⟩, y4, y5, y6, y7⟩ := hz; go_simp; try (with_reducible rfl)
      simp only [Act.put, List.setIfInBounds_toArray, List.set_cons_zero, List.set_cons_succ]
      refine wpZ_take (i := 3) 2 (oi := ⟨some 66, .move (.tmp 9), 3, "l05_locks.go:193", #[⟨7, .gcOnly .lateStores⟩], none⟩) (v := ?_) rfl (by kernel_rfl) (by kernel_rfl) (by kernel_rfl) (by kernel_rfl) (fun _ _ _ h => h) (by kernel_rfl) (Or.inl ⟨by rfl, ?_⟩) hHeld ?_
      rotate_left
      ·intro wz hz; (try dsimp only at hz); obtain ⟨⟨y0, y1, y2, y3⟩, y4, y5, y6, y7⟩ := hz; go_simp; try (with_reducible rfl)
      simp only [Act.put, List.setIfInBounds_toArray, List.set_cons_zero, List.set_cons_succ]
      refine wpZ_take (i := 4) 2 (oi := ⟨some 67, .indexAddr 24 (.tmp 65) (.tmp 66), 0, "l05_locks.go:193", #[⟨2, .data⟩, ⟨3, .data⟩, ⟨7, .gcOnly .lateStores⟩], none⟩) (v := ?_) rfl (by kernel_rfl) (by kernel_rfl) (by kernel_rfl) (by kernel_rfl) (fun _ _ _ h => h) (by kernel_rfl) (Or.inl ⟨by rfl, ?_⟩) hHeld ?_
      rotate_left
      ·intro wz hz; (try dsimp only at hz); obtain ⟨⟨y0, y1, y2, y3⟩, y4, y5, y6, y7⟩ := hz; go_simp; try (with_reducible rfl)
      simp only [Act.put, List.setIfInBounds_toArray, List.set_cons_zero, List.set_cons_succ]
      refine wpZ_take (i := 5) 2 (oi := ⟨some 68, .fieldAddr 57 (.tmp 67) 2, 0, "l05_locks.go:193", #[⟨4, .data⟩, ⟨7, .gcOnly .lateStores⟩], none⟩) (v := ?_) rfl (by kernel_rfl) (by kernel_rfl) (by kernel_rfl) (by kernel_rfl) (fun _ _ _ h => h) (by kernel_rfl) (Or.inl ⟨by rfl, ?_⟩) hHeld ?_
      rotate_left
      ·intro wz hz; (try dsimp only at hz); obtain ⟨⟨y0, y1, y2, y3⟩, y4, y5, y6, y7⟩ := hz; go_simp; try (with_reducible rfl)
      simp only [Act.put, List.setIfInBounds_toArray, List.set_cons_zero, List.set_cons_succ]
      refine wpZ_take (i := 6) 2 (oi := ⟨some 69, .load 55 (.tmp 68), 55, "l05_locks.go:193", #[⟨5, .data⟩, ⟨7, .gcOnly .lateStores⟩], none⟩) (v := ?_) rfl (by kernel_rfl) (by kernel_rfl) (by kernel_rfl) (by kernel_rfl) (fun _ _ _ h => h) (by kernel_rfl) (Or.inl ⟨by rfl, ?_⟩) hHeld ?_
      rotate_left
      ·intro wz hz; (try dsimp only at hz); obtain ⟨⟨y0, y1, y2, y3⟩, y4, y5, y6, y7⟩ := hz; go_simp; try (with_reducible rfl)
      simp only [Act.put, List.setIfInBounds_toArray, List.set_cons_zero, List.set_cons_succ]
      refine wpZ_ready (rs := [7]) (by kernel_rfl) (by simp) ?_
      refine (ReadyZ.cons (o := ⟨none, .store 26 (.tmp 6) (.tmp 63), 0, "l05_locks.go:193", #[⟨0, .data⟩, ⟨0, .phase⟩, ⟨1, .textOnly .lateStores⟩, ⟨2, .textOnly .lateStores⟩, ⟨3, .textOnly .lateStores⟩, ⟨4, .textOnly .lateStores⟩, ⟨5, .textOnly .lateStores⟩, ⟨6, .textOnly .lateStores⟩], none⟩) rfl (fun K hK => ?_) ReadyZ.nil)
      go_simp
      refine hK.out _ _ ?_ (fun hHeld => ?_)
      ·exact HS7.out _ (fun i hi => far4 (w := wr4.drew) (by omega) _ _ _ _)
      clear hK K
      (try simp only [Act.put, List.setIfInBounds_toArray, List.set_cons_zero, List.set_cons_succ])
      refine wpZ_ready (rs := [8]) (by kernel_rfl) (by simp) ?_
      refine ReadyZ.last (o := ⟨none, .store 55 (.tmp 7) (.tmp 69), 0, "l05_locks.go:193", #[⟨6, .data⟩, ⟨7, .chain⟩, ⟨0, .phase⟩, ⟨1, .phase⟩, ⟨2, .phase⟩, ⟨3, .phase⟩, ⟨4, .phase⟩, ⟨5, .phase⟩, ⟨6, .phase⟩, ⟨7, .phase⟩], none⟩) rfl (fun K hK => ?_)
      go_simp
      refine hK.out _ _ ?_
      clear hK K
      (try simp only [Act.put, List.setIfInBounds_toArray, List.set_cons_zero, List.set_cons_succ])
      refine wpZ_done (by kernel_rfl) ?_ _
      refine NoPanic.normal ?_
      clear hHeld HS7
      go_wp2_with fail
      have S44 := (set44 (w := wr4) (a := w.heap.size + 1 + 1) (b := w.heap.size + 1 + 1 + 1) (.int .i64 0) (.int .i64 0) (.slice none 0 0) (.slice none 0 0) (.int .i64 0) (.int .i64 0) (.int .i64 0) (.int .i64 0) (.int .i64 X.tm) (.int .i64 X.nx) ((.slice la ps.length lc)) ((.slice (some ⟨gs, 0, none⟩) X.ss.length uc)) (.int .i64 s.k) (.int .i64 s.t) (.int .i64 s.h) (.int .i64 s.e) (by omega) (HBX.out _ (HTF.out.bel)).2.1 (HBX.out _ (HTF.out.bel)).2.2.1).1
      obtain ⟨AF, BF, FF, LF⟩ := S44
      have KF : Hid (OwnL ((((((((wr4.setCell ⟨w.heap.size + 1 + 1, 0, none⟩ (.int .i64 X.tm)).setCell ⟨w.heap.size + 1 + 1, 1, none⟩ (.int .i64 X.nx)).setCell ⟨w.heap.size + 1 + 1, 2, none⟩ ((.slice la ps.length lc))).setCell ⟨w.heap.size + 1 + 1, 3, none⟩ ((.slice (some ⟨gs, 0, none⟩) X.ss.length uc))).setCell ⟨w.heap.size + 1 + 1 + 1, 0, none⟩ (.int .i64 s.k)).setCell ⟨w.heap.size + 1 + 1 + 1, 1, none⟩ (.int .i64 s.t)).setCell ⟨w.heap.size + 1 + 1 + 1, 2, none⟩ (.int .i64 s.h)).setCell ⟨w.heap.size + 1 + 1 + 1, 3, none⟩ (.int .i64 s.e)) w.heap.size (.slice la ps.length lc) ps ∧ (∀ p ∈ ps, Wa.OwnW ((((((((wr4.setCell ⟨w.heap.size + 1 + 1, 0, none⟩ (.int .i64 X.tm)).setCell ⟨w.heap.size + 1 + 1, 1, none⟩ (.int .i64 X.nx)).setCell ⟨w.heap.size + 1 + 1, 2, none⟩ ((.slice la ps.length lc))).setCell ⟨w.heap.size + 1 + 1, 3, none⟩ ((.slice (some ⟨gs, 0, none⟩) X.ss.length uc))).setCell ⟨w.heap.size + 1 + 1 + 1, 0, none⟩ (.int .i64 s.k)).setCell ⟨w.heap.size + 1 + 1 + 1, 1, none⟩ (.int .i64 s.t)).setCell ⟨w.heap.size + 1 + 1 + 1, 2, none⟩ (.int .i64 s.h)).setCell ⟨w.heap.size + 1 + 1 + 1, 3, none⟩ (.int .i64 s.e)) w.heap.size (uV p) p.1.ws) ∧ Wa.OwnS ((((((((wr4.setCell ⟨w.heap.size + 1 + 1, 0, none⟩ (.int .i64 X.tm)).setCell ⟨w.heap.size + 1 + 1, 1, none⟩ (.int .i64 X.nx)).setCell ⟨w.heap.size + 1 + 1, 2, none⟩ ((.slice la ps.length lc))).setCell ⟨w.heap.size + 1 + 1, 3, none⟩ ((.slice (some ⟨gs, 0, none⟩) X.ss.length uc))).setCell ⟨w.heap.size + 1 + 1 + 1, 0, none⟩ (.int .i64 s.k)).setCell ⟨w.heap.size + 1 + 1 + 1, 1, none⟩ (.int .i64 s.t)).setCell ⟨w.heap.size + 1 + 1 + 1, 2, none⟩ (.int .i64 s.h)).setCell ⟨w.heap.size + 1 + 1 + 1, 3, none⟩ (.int .i64 s.e)) w.heap.size (.slice (some ⟨gs, 0, none⟩) X.ss.length uc) X.ss ∧ ps.map (·.1) = X.ls ∧ Apart ps) := TM.fin HTF.out (by omega) (fun j hj => FF j (by omega) (by omega))
      have LFH : Hid (Below w.heap.size w ((((((((wr4.setCell ⟨w.heap.size + 1 + 1, 0, none⟩ (.int .i64 X.tm)).setCell ⟨w.heap.size + 1 + 1, 1, none⟩ (.int .i64 X.nx)).setCell ⟨w.heap.size + 1 + 1, 2, none⟩ ((.slice la ps.length lc))).setCell ⟨w.heap.size + 1 + 1, 3, none⟩ ((.slice (some ⟨gs, 0, none⟩) X.ss.length uc))).setCell ⟨w.heap.size + 1 + 1 + 1, 0, none⟩ (.int .i64 s.k)).setCell ⟨w.heap.size + 1 + 1 + 1, 1, none⟩ (.int .i64 s.t)).setCell ⟨w.heap.size + 1 + 1 + 1, 2, none⟩ (.int .i64 s.h)).setCell ⟨w.heap.size + 1 + 1 + 1, 3, none⟩ (.int .i64 s.e))) := LF (HBX.out _ (HTF.out.bel)).2.2.2 (by omega) (by omega)
      generalize ((((((((wr4.setCell ⟨w.heap.size + 1 + 1, 0, none⟩ (.int .i64 X.tm)).setCell ⟨w.heap.size + 1 + 1, 1, none⟩ (.int .i64 X.nx)).setCell ⟨w.heap.size + 1 + 1, 2, none⟩ ((.slice la ps.length lc))).setCell ⟨w.heap.size + 1 + 1, 3, none⟩ ((.slice (some ⟨gs, 0, none⟩) X.ss.length uc))).setCell ⟨w.heap.size + 1 + 1 + 1, 0, none⟩ (.int .i64 s.k)).setCell ⟨w.heap.size + 1 + 1 + 1, 1, none⟩ (.int .i64 s.t)).setCell ⟨w.heap.size + 1 + 1 + 1, 2, none⟩ (.int .i64 s.h)).setCell ⟨w.heap.size + 1 + 1 + 1, 3, none⟩ (.int .i64 s.e)) = wf at AF BF KF LFH ⊢
      have d0 := (blk_cell AF 0 (x := .int .i64 X.tm) rfl).1
      have d1 := (blk_cell AF 1 (x := .int .i64 X.nx) rfl).1
      have d2 := (blk_cell AF 2 (x := (.slice la ps.length lc)) rfl).1
      have d3 := (blk_cell AF 3 (x := (.slice (some ⟨gs, 0, none⟩) X.ss.length uc)) rfl).1
      have e0 := (blk_cell BF 0 (x := .int .i64 s.k) rfl).1
      have e1 := (blk_cell BF 1 (x := .int .i64 s.t) rfl).1
      have e2 := (blk_cell BF 2 (x := .int .i64 s.h) rfl).1
      have e3 := (blk_cell BF 3 (x := .int .i64 s.e) rfl).1
      refine bodyPost_ret (v := .tuple #[.agg #[.int .i64 X.tm, .int .i64 X.nx, (.slice la ps.length lc), (.slice (some ⟨gs, 0, none⟩) X.ss.length uc)], .agg #[.int .i64 s.k, .int .i64 s.t, .int .i64 s.h, .int .i64 s.e]]) (by simp [results, Tryd.results81, go_sem, d0, d1, d2, d3, e0, e1, e2, e3]) rfl ?_
      refine ⟨⟨(.slice la ps.length lc), (.slice (some ⟨gs, 0, none⟩) X.ss.length uc), ps, ?_, KF.out.1, KF.out.2.1, ?_, ?_, KF.out.2.2.2.2⟩, (by first | exact LFH.out | exact LFH.out.drew)⟩
      ·rw [HAP.out]; rfl
      ·rw [HAP.out]; exact KF.out.2.2.1
      ·rw [HAP.out]; exact KF.out.2.2.2.1
     ·rw [if_neg (fun e => hst e.symm)] at HAP1
      have hst' : (s.s == r.st) = false := by simp [hst]
      by_cases hgt : r.st < s.s
      ·have HAP : Hid (R = (X, bare 7)) := by show _ = _; rw [HAP1, if_pos hgt]
       have hgt' : s.s > r.st := hgt
       clear HAP1 hsc hst hgt
       go_upto_region 3 with fail
       obtain ⟨X1, hX1, W1, QI0, QO0⟩ := Qc.klass wr
       have QI : Hid (∀ w', Below wr.heap.size wr w' → ∃ x, w' = W1 x) := QI0
       have QO : Hid (∀ x, Below wr.heap.size wr (W1 x)) := QO0
       clear QI0 QO0
       have tq := HX.out _ GR.out
       have y3 := Qc.cell_all QO.out (blk_cell tq.hx 3 (x := .slice (some ⟨gs, 0, none⟩) X.ss.length uc) rfl).1
       have z0 := Qc.cell_all QO.out (blk_cell (HBX.out _ tq.bel).1 0 (x := .int .i64 r.cl) rfl).1
       have z1 := Qc.cell_all QO.out (blk_cell (HBX.out _ tq.bel).1 1 (x := .int .i64 r.st) rfl).1
       obtain ⟨gs', cs', es, _, _, _, hcs⟩ := OwnS.atk tq.os HSK.out
       obtain rfl : gs = gs' := by injection es with e1; injection e1 with e1; injection e1
       have s0 : ∀ q, (W1 q).cell? ⟨gs, j * 6, none⟩ = some (.int .i64 s.c) := Qc.cell_all QO.out (hcs 0 (.int .i64 s.c) rfl).1
       have s1 := Qc.cell_all QO.out (hcs 1 (.int .i64 s.s) rfl).1
       clear hcs es
       clear tq
       refine Qc.region_class (W := W1) (by kernel_rfl) (by kernel_rfl) (QI.out _ Qc.from_drew) ?_
       repeat (go_big_quiet_step (fail))
       refine wpQuiet_nil ?_
       rintro _ ⟨xq, rfl⟩
       have G : Hid (Below w2.heap.size w2 (W1 xq)) := GR.out.trans ((QO.out xq).mono GR.out.size)
       clear y3 z0 z1 s0 s1 QO QI GR
       generalize W1 xq = wq at G ⊢
       go_upto_region 5 with fail
       obtain ⟨X1, hX1, W1, QI0, QO0⟩ := Qc.klass wq
       have QI : Hid (∀ w', Below wq.heap.size wq w' → ∃ x, w' = W1 x) := QI0
       have QO : Hid (∀ x, Below wq.heap.size wq (W1 x)) := QO0
       clear QI0 QO0
       have tq := HX.out _ G.out
       have y3 := Qc.cell_all QO.out (blk_cell tq.hx 3 (x := .slice (some ⟨gs, 0, none⟩) X.ss.length uc) rfl).1
       have z0 := Qc.cell_all QO.out (blk_cell (HBX.out _ tq.bel).1 0 (x := .int .i64 r.cl) rfl).1
       have z1 := Qc.cell_all QO.out (blk_cell (HBX.out _ tq.bel).1 1 (x := .int .i64 r.st) rfl).1
       obtain ⟨gs', cs', es, _, _, _, hcs⟩ := OwnS.atk tq.os HSK.out
       obtain rfl : gs = gs' := by injection es with e1; injection e1 with e1; injection e1
       have s0 : ∀ q, (W1 q).cell? ⟨gs, j * 6, none⟩ = some (.int .i64 s.c) := Qc.cell_all QO.out (hcs 0 (.int .i64 s.c) rfl).1
       have s1 := Qc.cell_all QO.out (hcs 1 (.int .i64 s.s) rfl).1
       clear hcs es
       clear tq
       refine Qc.region_class (W := W1) (by kernel_rfl) (by kernel_rfl) (QI.out _ Qc.from_drew) ?_
       repeat (go_big_quiet_step (fail))
       refine wpQuiet_nil ?_
       rintro _ ⟨xq, rfl⟩
       have G3 : Hid (Below w2.heap.size w2 (W1 xq)) := G.out.trans ((QO.out xq).mono G.out.size)
       clear y3 z0 z1 s0 s1 QO QI G
       generalize W1 xq = wr3 at G3 ⊢
       go_upto_region 6 with fail
       obtain ⟨X1, hX1, W1, QI0, QO0⟩ := Qc.klass wr3
       have QI : Hid (∀ w', Below wr3.heap.size wr3 w' → ∃ x, w' = W1 x) := QI0
       have QO : Hid (∀ x, Below wr3.heap.size wr3 (W1 x)) := QO0
       clear QI0 QO0
       have tq := HX.out _ G3.out
       have y3 := Qc.cell_all QO.out (blk_cell tq.hx 3 (x := .slice (some ⟨gs, 0, none⟩) X.ss.length uc) rfl).1
       have z0 := Qc.cell_all QO.out (blk_cell (HBX.out _ tq.bel).1 0 (x := .int .i64 r.cl) rfl).1
       have z1 := Qc.cell_all QO.out (blk_cell (HBX.out _ tq.bel).1 1 (x := .int .i64 r.st) rfl).1
       obtain ⟨gs', cs', es, _, _, _, hcs⟩ := OwnS.atk tq.os HSK.out
       obtain rfl : gs = gs' := by injection es with e1; injection e1 with e1; injection e1
       have s0 : ∀ q, (W1 q).cell? ⟨gs, j * 6, none⟩ = some (.int .i64 s.c) := Qc.cell_all QO.out (hcs 0 (.int .i64 s.c) rfl).1
       have s1 := Qc.cell_all QO.out (hcs 1 (.int .i64 s.s) rfl).1
       clear hcs es
       clear tq
       refine Qc.region_class (W := W1) (by kernel_rfl) (by kernel_rfl) (QI.out _ Qc.from_drew) ?_
       repeat (go_big_quiet_step (fail))
       refine wpQuiet_nil ?_
       rintro _ ⟨xq, rfl⟩
       have G5 : Hid (Below w2.heap.size w2 (W1 xq)) := G3.out.trans ((QO.out xq).mono G3.out.size)
       clear y3 z0 z1 s0 s1 QO QI G3
       generalize W1 xq = wr5 at G5 ⊢
       go_upto_region 8 with fail
       obtain ⟨X1, hX1, W1, QI0, QO0⟩ := Qc.klass wr5
       have QI : Hid (∀ w', Below wr5.heap.size wr5 w' → ∃ x, w' = W1 x) := QI0
       have QO : Hid (∀ x, Below wr5.heap.size wr5 (W1 x)) := QO0
       clear QI0 QO0
       have tq := HX.out _ G5.out
       have y3 := Qc.cell_all QO.out (blk_cell tq.hx 3 (x := .slice (some ⟨gs, 0, none⟩) X.ss.length uc) rfl).1
       have z0 := Qc.cell_all QO.out (blk_cell (HBX.out _ tq.bel).1 0 (x := .int .i64 r.cl) rfl).1
       have z1 := Qc.cell_all QO.out (blk_cell (HBX.out _ tq.bel).1 1 (x := .int .i64 r.st) rfl).1
       obtain ⟨gs', cs', es, _, _, _, hcs⟩ := OwnS.atk tq.os HSK.out
       obtain rfl : gs = gs' := by injection es with e1; injection e1 with e1; injection e1
       have s0 : ∀ q, (W1 q).cell? ⟨gs, j * 6, none⟩ = some (.int .i64 s.c) := Qc.cell_all QO.out (hcs 0 (.int .i64 s.c) rfl).1
       have s1 := Qc.cell_all QO.out (hcs 1 (.int .i64 s.s) rfl).1
       clear hcs es
       clear tq
       refine Qc.region_class (W := W1) (by kernel_rfl) (by kernel_rfl) (QI.out _ Qc.from_drew) ?_
       repeat (go_big_quiet_step (fail))
       refine wpQuiet_nil ?_
       rintro _ ⟨xq, rfl⟩
       have G6 : Hid (Below w2.heap.size w2 (W1 xq)) := G5.out.trans ((QO.out xq).mono G5.out.size)
       clear y3 z0 z1 s0 s1 QO QI G5
       generalize W1 xq = wr6 at G6 ⊢
       go_upto_region 9 with fail
       have HTF : Hid (TM wA wr6 wA.heap.size b X (.slice la ps.length lc) (.slice (some ⟨gs, 0, none⟩) X.ss.length uc) ps) := HX.out _ G6.out
       have c0 := (blk_cell HTF.out.hx 0 (x := .int .i64 X.tm) rfl).1
       have c1 := (blk_cell HTF.out.hx 1 (x := .int .i64 X.nx) rfl).1
       have c2 := (blk_cell HTF.out.hx 2 (x := .slice la ps.length lc) rfl).1
       have c3 := (blk_cell HTF.out.hx 3 (x := .slice (some ⟨gs, 0, none⟩) X.ss.length uc) rfl).1
       have hbx := HBX.out _ HTF.out.bel
       obtain ⟨zt0, ft0⟩ := blk_cell hbx.2.1 0 (x := .int .i64 0) rfl
       obtain ⟨zt1, ft1⟩ := blk_cell hbx.2.1 1 (x := .int .i64 0) rfl
       obtain ⟨zt2, ft2⟩ := blk_cell hbx.2.1 2 (x := .slice none 0 0) rfl
       obtain ⟨zt3, ft3⟩ := blk_cell hbx.2.1 3 (x := .slice none 0 0) rfl
       obtain ⟨za0, fa0⟩ := blk_cell hbx.2.2.1 0 (x := .int .i64 0) rfl
       obtain ⟨za1, fa1⟩ := blk_cell hbx.2.2.1 1 (x := .int .i64 0) rfl
       obtain ⟨za2, fa2⟩ := blk_cell hbx.2.2.1 2 (x := .int .i64 0) rfl
       obtain ⟨za3, fa3⟩ := blk_cell hbx.2.2.1 3 (x := .int .i64 0) rfl
       clear hbx
       go_wp2_with fail
       have S44 := (set44 (w := wr6) (a := w.heap.size + 1 + 1) (b := w.heap.size + 1 + 1 + 1) (.int .i64 0) (.int .i64 0) (.slice none 0 0) (.slice none 0 0) (.int .i64 0) (.int .i64 0) (.int .i64 0) (.int .i64 0) (.int .i64 X.tm) (.int .i64 X.nx) ((.slice la ps.length lc)) ((.slice (some ⟨gs, 0, none⟩) X.ss.length uc)) (.int .i64 7) (.int .i64 0) (.int .i64 (-1)) (.int .i64 0) (by omega) (HBX.out _ (HTF.out.bel)).2.1 (HBX.out _ (HTF.out.bel)).2.2.1).1
       obtain ⟨AF, BF, FF, LF⟩ := S44
       have KF : Hid (OwnL ((((((((wr6.setCell ⟨w.heap.size + 1 + 1, 0, none⟩ (.int .i64 X.tm)).setCell ⟨w.heap.size + 1 + 1, 1, none⟩ (.int .i64 X.nx)).setCell ⟨w.heap.size + 1 + 1, 2, none⟩ ((.slice la ps.length lc))).setCell ⟨w.heap.size + 1 + 1, 3, none⟩ ((.slice (some ⟨gs, 0, none⟩) X.ss.length uc))).setCell ⟨w.heap.size + 1 + 1 + 1, 0, none⟩ (.int .i64 7)).setCell ⟨w.heap.size + 1 + 1 + 1, 1, none⟩ (.int .i64 0)).setCell ⟨w.heap.size + 1 + 1 + 1, 2, none⟩ (.int .i64 (-1))).setCell ⟨w.heap.size + 1 + 1 + 1, 3, none⟩ (.int .i64 0)) w.heap.size (.slice la ps.length lc) ps ∧ (∀ p ∈ ps, Wa.OwnW ((((((((wr6.setCell ⟨w.heap.size + 1 + 1, 0, none⟩ (.int .i64 X.tm)).setCell ⟨w.heap.size + 1 + 1, 1, none⟩ (.int .i64 X.nx)).setCell ⟨w.heap.size + 1 + 1, 2, none⟩ ((.slice la ps.length lc))).setCell ⟨w.heap.size + 1 + 1, 3, none⟩ ((.slice (some ⟨gs, 0, none⟩) X.ss.length uc))).setCell ⟨w.heap.size + 1 + 1 + 1, 0, none⟩ (.int .i64 7)).setCell ⟨w.heap.size + 1 + 1 + 1, 1, none⟩ (.int .i64 0)).setCell ⟨w.heap.size + 1 + 1 + 1, 2, none⟩ (.int .i64 (-1))).setCell ⟨w.heap.size + 1 + 1 + 1, 3, none⟩ (.int .i64 0)) w.heap.size (uV p) p.1.ws) ∧ Wa.OwnS ((((((((wr6.setCell ⟨w.heap.size + 1 + 1, 0, none⟩ (.int .i64 X.tm)).setCell ⟨w.heap.size + 1 + 1, 1, none⟩ (.int .i64 X.nx)).setCell ⟨w.heap.size + 1 + 1, 2, none⟩ ((.slice la ps.length lc))).setCell ⟨w.heap.size + 1 + 1, 3, none⟩ ((.slice (some ⟨gs, 0, none⟩) X.ss.length uc))).setCell ⟨w.heap.size + 1 + 1 + 1, 0, none⟩ (.int .i64 7)).setCell ⟨w.heap.size + 1 + 1 + 1, 1, none⟩ (.int .i64 0)).setCell ⟨w.heap.size + 1 + 1 + 1, 2, none⟩ (.int .i64 (-1))).setCell ⟨w.heap.size + 1 + 1 + 1, 3, none⟩ (.int .i64 0)) w.heap.size (.slice (some ⟨gs, 0, none⟩) X.ss.length uc) X.ss ∧ ps.map (·.1) = X.ls ∧ Apart ps) := TM.fin HTF.out (by omega) (fun j hj => FF j (by omega) (by omega))
       have LFH : Hid (Below w.heap.size w ((((((((wr6.setCell ⟨w.heap.size + 1 + 1, 0, none⟩ (.int .i64 X.tm)).setCell ⟨w.heap.size + 1 + 1, 1, none⟩ (.int .i64 X.nx)).setCell ⟨w.heap.size + 1 + 1, 2, none⟩ ((.slice la ps.length lc))).setCell ⟨w.heap.size + 1 + 1, 3, none⟩ ((.slice (some ⟨gs, 0, none⟩) X.ss.length uc))).setCell ⟨w.heap.size + 1 + 1 + 1, 0, none⟩ (.int .i64 7)).setCell ⟨w.heap.size + 1 + 1 + 1, 1, none⟩ (.int .i64 0)).setCell ⟨w.heap.size + 1 + 1 + 1, 2, none⟩ (.int .i64 (-1))).setCell ⟨w.heap.size + 1 + 1 + 1, 3, none⟩ (.int .i64 0))) := LF (HBX.out _ (HTF.out.bel)).2.2.2 (by omega) (by omega)
       generalize ((((((((wr6.setCell ⟨w.heap.size + 1 + 1, 0, none⟩ (.int .i64 X.tm)).setCell ⟨w.heap.size + 1 + 1, 1, none⟩ (.int .i64 X.nx)).setCell ⟨w.heap.size + 1 + 1, 2, none⟩ ((.slice la ps.length lc))).setCell ⟨w.heap.size + 1 + 1, 3, none⟩ ((.slice (some ⟨gs, 0, none⟩) X.ss.length uc))).setCell ⟨w.heap.size + 1 + 1 + 1, 0, none⟩ (.int .i64 7)).setCell ⟨w.heap.size + 1 + 1 + 1, 1, none⟩ (.int .i64 0)).setCell ⟨w.heap.size + 1 + 1 + 1, 2, none⟩ (.int .i64 (-1))).setCell ⟨w.heap.size + 1 + 1 + 1, 3, none⟩ (.int .i64 0)) = wf at AF BF KF LFH ⊢
       have d0 := (blk_cell AF 0 (x := .int .i64 X.tm) rfl).1
       have d1 := (blk_cell AF 1 (x := .int .i64 X.nx) rfl).1
       have d2 := (blk_cell AF 2 (x := (.slice la ps.length lc)) rfl).1
       have d3 := (blk_cell AF 3 (x := (.slice (some ⟨gs, 0, none⟩) X.ss.length uc)) rfl).1
       have e0 := (blk_cell BF 0 (x := .int .i64 7) rfl).1
       have e1 := (blk_cell BF 1 (x := .int .i64 0) rfl).1
       have e2 := (blk_cell BF 2 (x := .int .i64 (-1)) rfl).1
       have e3 := (blk_cell BF 3 (x := .int .i64 0) rfl).1
       refine bodyPost_ret (v := .tuple #[.agg #[.int .i64 X.tm, .int .i64 X.nx, (.slice la ps.length lc), (.slice (some ⟨gs, 0, none⟩) X.ss.length uc)], .agg #[.int .i64 7, .int .i64 0, .int .i64 (-1), .int .i64 0]]) (by simp [results, Tryd.results81, go_sem, d0, d1, d2, d3, e0, e1, e2, e3]) rfl ?_
       refine ⟨⟨(.slice la ps.length lc), (.slice (some ⟨gs, 0, none⟩) X.ss.length uc), ps, ?_, KF.out.1, KF.out.2.1, ?_, ?_, KF.out.2.2.2.2⟩, (by first | exact LFH.out | exact LFH.out.drew)⟩
       ·rw [HAP.out]; rfl
       ·rw [HAP.out]; exact KF.out.2.2.1
       ·rw [HAP.out]; exact KF.out.2.2.2.1
      ·have HAP : Hid (R = ({ (doT X r).1 with ss := X.ss.set j (sn r (doT X r).2) }, (doT X r).2)) := by show _ = _; rw [HAP1, if_neg hgt]
       have hgt' : ¬ s.s > r.st := hgt
       clear HAP1 hsc hst hgt
       go_upto_region 3 with fail
       obtain ⟨X1, hX1, W1, QI0, QO0⟩ := Qc.klass wr
       have QI : Hid (∀ w', Below wr.heap.size wr w' → ∃ x, w' = W1 x) := QI0
       have QO : Hid (∀ x, Below wr.heap.size wr (W1 x)) := QO0
       clear QI0 QO0
       have tq := HX.out _ GR.out
       have y3 := Qc.cell_all QO.out (blk_cell tq.hx 3 (x := .slice (some ⟨gs, 0, none⟩) X.ss.length uc) rfl).1
       have z0 := Qc.cell_all QO.out (blk_cell (HBX.out _ tq.bel).1 0 (x := .int .i64 r.cl) rfl).1
       have z1 := Qc.cell_all QO.out (blk_cell (HBX.out _ tq.bel).1 1 (x := .int .i64 r.st) rfl).1
       obtain ⟨gs', cs', es, _, _, _, hcs⟩ := OwnS.atk tq.os HSK.out
       obtain rfl : gs = gs' := by injection es with e1; injection e1 with e1; injection e1
       have s0 : ∀ q, (W1 q).cell? ⟨gs, j * 6, none⟩ = some (.int .i64 s.c) := Qc.cell_all QO.out (hcs 0 (.int .i64 s.c) rfl).1
       have s1 := Qc.cell_all QO.out (hcs 1 (.int .i64 s.s) rfl).1
       clear hcs es
       clear tq
       refine Qc.region_class (W := W1) (by kernel_rfl) (by kernel_rfl) (QI.out _ Qc.from_drew) ?_
       repeat (go_big_quiet_step (fail))
       refine wpQuiet_nil ?_
       rintro _ ⟨xq, rfl⟩
       have G : Hid (Below w2.heap.size w2 (W1 xq)) := GR.out.trans ((QO.out xq).mono GR.out.size)
       clear y3 z0 z1 s0 s1 QO QI GR
       generalize W1 xq = wq at G ⊢
       go_upto_region 5 with fail
       obtain ⟨X1, hX1, W1, QI0, QO0⟩ := Qc.klass wq
       have QI : Hid (∀ w', Below wq.heap.size wq w' → ∃ x, w' = W1 x) := QI0
       have QO : Hid (∀ x, Below wq.heap.size wq (W1 x)) := QO0
       clear QI0 QO0
       have tq := HX.out _ G.out
       have y3 := Qc.cell_all QO.out (blk_cell tq.hx 3 (x := .slice (some ⟨gs, 0, none⟩) X.ss.length uc) rfl).1
       have z0 := Qc.cell_all QO.out (blk_cell (HBX.out _ tq.bel).1 0 (x := .int .i64 r.cl) rfl).1
       have z1 := Qc.cell_all QO.out (blk_cell (HBX.out _ tq.bel).1 1 (x := .int .i64 r.st) rfl).1
       obtain ⟨gs', cs', es, _, _, _, hcs⟩ := OwnS.atk tq.os HSK.out
       obtain rfl : gs = gs' := by injection es with e1; injection e1 with e1; injection e1
       have s0 : ∀ q, (W1 q).cell? ⟨gs, j * 6, none⟩ = some (.int .i64 s.c) := Qc.cell_all QO.out (hcs 0 (.int .i64 s.c) rfl).1
       have s1 := Qc.cell_all QO.out (hcs 1 (.int .i64 s.s) rfl).1
       clear hcs es
       clear tq
       refine Qc.region_class (W := W1) (by kernel_rfl) (by kernel_rfl) (QI.out _ Qc.from_drew) ?_
       repeat (go_big_quiet_step (fail))
       refine wpQuiet_nil ?_
       rintro _ ⟨xq, rfl⟩
       have G3 : Hid (Below w2.heap.size w2 (W1 xq)) := G.out.trans ((QO.out xq).mono G.out.size)
       clear y3 z0 z1 s0 s1 QO QI G
       generalize W1 xq = wr3 at G3 ⊢
       go_upto_region 6 with fail
       obtain ⟨X1, hX1, W1, QI0, QO0⟩ := Qc.klass wr3
       have QI : Hid (∀ w', Below wr3.heap.size wr3 w' → ∃ x, w' = W1 x) := QI0
       have QO : Hid (∀ x, Below wr3.heap.size wr3 (W1 x)) := QO0
       clear QI0 QO0
       have tq := HX.out _ G3.out
       have y3 := Qc.cell_all QO.out (blk_cell tq.hx 3 (x := .slice (some ⟨gs, 0, none⟩) X.ss.length uc) rfl).1
       have z0 := Qc.cell_all QO.out (blk_cell (HBX.out _ tq.bel).1 0 (x := .int .i64 r.cl) rfl).1
       have z1 := Qc.cell_all QO.out (blk_cell (HBX.out _ tq.bel).1 1 (x := .int .i64 r.st) rfl).1
       obtain ⟨gs', cs', es, _, _, _, hcs⟩ := OwnS.atk tq.os HSK.out
       obtain rfl : gs = gs' := by injection es with e1; injection e1 with e1; injection e1
       have s0 : ∀ q, (W1 q).cell? ⟨gs, j * 6, none⟩ = some (.int .i64 s.c) := Qc.cell_all QO.out (hcs 0 (.int .i64 s.c) rfl).1
       have s1 := Qc.cell_all QO.out (hcs 1 (.int .i64 s.s) rfl).1
       clear hcs es
       clear tq
       refine Qc.region_class (W := W1) (by kernel_rfl) (by kernel_rfl) (QI.out _ Qc.from_drew) ?_
       repeat (go_big_quiet_step (fail))
       refine wpQuiet_nil ?_
       rintro _ ⟨xq, rfl⟩
       have G5 : Hid (Below w2.heap.size w2 (W1 xq)) := G3.out.trans ((QO.out xq).mono G3.out.size)
       clear y3 z0 z1 s0 s1 QO QI G3
       generalize W1 xq = wr5 at G5 ⊢
       go_upto_region 8 with fail
       obtain ⟨X1, hX1, W1, QI0, QO0⟩ := Qc.klass wr5
       have QI : Hid (∀ w', Below wr5.heap.size wr5 w' → ∃ x, w' = W1 x) := QI0
       have QO : Hid (∀ x, Below wr5.heap.size wr5 (W1 x)) := QO0
       clear QI0 QO0
       have tq := HX.out _ G5.out
       have y3 := Qc.cell_all QO.out (blk_cell tq.hx 3 (x := .slice (some ⟨gs, 0, none⟩) X.ss.length uc) rfl).1
       have z0 := Qc.cell_all QO.out (blk_cell (HBX.out _ tq.bel).1 0 (x := .int .i64 r.cl) rfl).1
       have z1 := Qc.cell_all QO.out (blk_cell (HBX.out _ tq.bel).1 1 (x := .int .i64 r.st) rfl).1
       obtain ⟨gs', cs', es, _, _, _, hcs⟩ := OwnS.atk tq.os HSK.out
       obtain rfl : gs = gs' := by injection es with e1; injection e1 with e1; injection e1
       have s0 : ∀ q, (W1 q).cell? ⟨gs, j * 6, none⟩ = some (.int .i64 s.c) := Qc.cell_all QO.out (hcs 0 (.int .i64 s.c) rfl).1
       have s1 := Qc.cell_all QO.out (hcs 1 (.int .i64 s.s) rfl).1
       clear hcs es
       clear tq
       refine Qc.region_class (W := W1) (by kernel_rfl) (by kernel_rfl) (QI.out _ Qc.from_drew) ?_
       repeat (go_big_quiet_step (fail))
       refine wpQuiet_nil ?_
       rintro _ ⟨xq, rfl⟩
       have G6 : Hid (Below w2.heap.size w2 (W1 xq)) := G5.out.trans ((QO.out xq).mono G5.out.size)
       clear y3 z0 z1 s0 s1 QO QI G5
       generalize W1 xq = wr6 at G6 ⊢
       go_upto_region 10 with fail
       go_upto_region 12 with fail
       obtain ⟨D, HD⟩ : ∃ D, Hid (doT X r = D) := ⟨_, rfl⟩
       rw [HD.out] at HAP HDS
       have HDO := l05Do_any (HX.out _ G6.out) HXO.out.1 HXO.out.2 r HRO.out
       rw [HD.out] at HDO
       have qr := (HBX.out _ (HX.out _ G6.out).bel).1
       have c0 := (blk_cell qr 0 (x := .int .i64 r.cl) rfl).1
       have c1 := (blk_cell qr 1 (x := .int .i64 r.st) rfl).1
       have c2 := (blk_cell qr 2 (x := .int .i64 r.kd) rfl).1
       have c3 := (blk_cell qr 3 (x := .int .i64 r.le) rfl).1
       have c4 := (blk_cell qr 4 (x := .string r.nm) rfl).1
       clear qr
       go_wp2_with fail
       refine HDO.mono ?_
       rintro e w5 ⟨rfl, ⟨u2, u3, qs, t5⟩, _⟩
       obtain ⟨xa, xc, rfl⟩ := t5.ol.slice
       clear HDO c0 c1 c2 c3 c4
       have sA : (w5.alloc (.cells #[.int .i64 D.2.k, .int .i64 D.2.t, .int .i64 D.2.h, .int .i64 D.2.e] 55)).heap.size = w5.heap.size + 1 := by simp
       have bA := bel_new w5 (.cells #[.int .i64 D.2.k, .int .i64 D.2.t, .int .i64 D.2.h, .int .i64 D.2.e] 55)
       have bS := bel_new (w5.alloc (.cells #[.int .i64 D.2.k, .int .i64 D.2.t, .int .i64 D.2.h, .int .i64 D.2.e] 55)) (.cells #[.int .i64 r.cl, .int .i64 r.st, .int .i64 D.2.k, .int .i64 D.2.t, .int .i64 D.2.h, .int .i64 D.2.e] 57)
       have HX6 : Hid (∀ W, Below ((w5.alloc (.cells #[.int .i64 D.2.k, .int .i64 D.2.t, .int .i64 D.2.h, .int .i64 D.2.e] 55)).alloc (.cells #[.int .i64 r.cl, .int .i64 r.st, .int .i64 D.2.k, .int .i64 D.2.t, .int .i64 D.2.h, .int .i64 D.2.e] 57)).heap.size ((w5.alloc (.cells #[.int .i64 D.2.k, .int .i64 D.2.t, .int .i64 D.2.h, .int .i64 D.2.e] 55)).alloc (.cells #[.int .i64 r.cl, .int .i64 r.st, .int .i64 D.2.k, .int .i64 D.2.t, .int .i64 D.2.h, .int .i64 D.2.e] 57)) W → TM wA W wA.heap.size b D.1 (.slice xa qs.length xc) u3 qs ∧ W.heap[w5.heap.size]? = some (.cells #[.int .i64 D.2.k, .int .i64 D.2.t, .int .i64 D.2.h, .int .i64 D.2.e] 55 (0, 0)) ∧ W.heap[w5.heap.size + 1]? = some (.cells #[.int .i64 r.cl, .int .i64 r.st, .int .i64 D.2.k, .int .i64 D.2.t, .int .i64 D.2.h, .int .i64 D.2.e] 57 (0, 0))) := fun W hW => by
        have b6 := bA.trans (bS.mono bA.size)
        refine ⟨t5.up (b6.trans (hW.mono b6.size)), ?_, ?_⟩
        ·rw [hW.block _ (by simp; omega), bS.block _ (by simp)]; exact blk_new _ _ _
        ·rw [hW.block _ (by simp), ← sA]; exact blk_new _ _ _
       have hq5 := (HBX.out _ (t5.up bA).bel).1
       have c0 := (blk_cell hq5 0 (x := .int .i64 r.cl) rfl).1
       have c1 := (blk_cell hq5 1 (x := .int .i64 r.st) rfl).1
       have hw5 : wA.heap.size ≤ w5.heap.size := t5.bel.size
       clear t5 bA bS sA hq5
       go_upto_region 14 with fail
       clear c0 c1
       generalize ((w5.alloc (.cells #[.int .i64 D.2.k, .int .i64 D.2.t, .int .i64 D.2.h, .int .i64 D.2.e] 55)).alloc (.cells #[.int .i64 r.cl, .int .i64 r.st, .int .i64 D.2.k, .int .i64 D.2.t, .int .i64 D.2.h, .int .i64 D.2.e] 57)) = w6 at HX6 ⊢
       generalize w5.heap.size = ab at HX6 hw5 ⊢
       obtain ⟨U, HU⟩ : ∃ U : Tab, Hid ({ D.1 with ss := X.ss.set j (sn r D.2) } = U) := ⟨_, rfl⟩
       rw [HU.out] at HAP
       obtain ⟨t6, qa, qb⟩ := HX6.out w6 (Below.refl _ _)
       have hds : D.1.ss[j]? = some s := by rw [HDS.out]; exact HSK.out
       obtain ⟨gd, cd, ed, hgd, _, ⟨cl, hcl⟩, hcd⟩ := OwnS.atk t6.os hds
       subst ed
       have hdl : D.1.ss.length = X.ss.length := by rw [HDS.out]
       rw [hdl] at t6 HX6
       have x3 := (blk_cell t6.hx 3 (x := .slice (some ⟨gd, 0, none⟩) X.ss.length cd) rfl).1
       have k0 := (blk_cell qb 0 (x := .int .i64 r.cl) rfl).1
       have k1 := (blk_cell qb 1 (x := .int .i64 r.st) rfl).1
       have k2 := (blk_cell qb 2 (x := .int .i64 D.2.k) rfl).1
       have k3 := (blk_cell qb 3 (x := .int .i64 D.2.t) rfl).1
       have k4 := (blk_cell qb 4 (x := .int .i64 D.2.h) rfl).1
       have k5 := (blk_cell qb 5 (x := .int .i64 D.2.e) rfl).1
       obtain ⟨o0, f0⟩ : w6.cell? ⟨gd, j * 6, none⟩ = some (.int .i64 s.c) ∧ w6.frozen? ⟨gd, j * 6, none⟩ = false := hcd 0 _ rfl
       obtain ⟨o1, f1⟩ : w6.cell? ⟨gd, j * 6 + 1, none⟩ = some (.int .i64 s.s) ∧ w6.frozen? ⟨gd, j * 6 + 1, none⟩ = false := hcd 1 _ rfl
       obtain ⟨o2, f2⟩ : w6.cell? ⟨gd, j * 6 + 2, none⟩ = some (.int .i64 s.k) ∧ w6.frozen? ⟨gd, j * 6 + 2, none⟩ = false := hcd 2 _ rfl
       obtain ⟨o3, f3⟩ : w6.cell? ⟨gd, j * 6 + 3, none⟩ = some (.int .i64 s.t) ∧ w6.frozen? ⟨gd, j * 6 + 3, none⟩ = false := hcd 3 _ rfl
       obtain ⟨o4, f4⟩ : w6.cell? ⟨gd, j * 6 + 4, none⟩ = some (.int .i64 s.h) ∧ w6.frozen? ⟨gd, j * 6 + 4, none⟩ = false := hcd 4 _ rfl
       obtain ⟨o5, f5⟩ : w6.cell? ⟨gd, j * 6 + 5, none⟩ = some (.int .i64 s.e) ∧ w6.frozen? ⟨gd, j * 6 + 5, none⟩ = false := hcd 5 _ rfl
       have T7 := t6.sput6 (s' := sn r D.2) hds
       have hne : ab ≠ gd := fun e => kind_ne qa hcl (by decide) e
       have Q7 : Hid (((((((w6.setCell ⟨gd, j * 6, none⟩ (.int .i64 r.cl)).setCell ⟨gd, j * 6 + 1, none⟩ (.int .i64 r.st)).setCell ⟨gd, j * 6 + 2, none⟩ (.int .i64 D.2.k)).setCell ⟨gd, j * 6 + 3, none⟩ (.int .i64 D.2.t)).setCell ⟨gd, j * 6 + 4, none⟩ (.int .i64 D.2.h)).setCell ⟨gd, j * 6 + 5, none⟩ (.int .i64 D.2.e)).heap[ab]? = some (.cells #[.int .i64 D.2.k, .int .i64 D.2.t, .int .i64 D.2.h, .int .i64 D.2.e] 55 (0, 0))) := (Rg_far hne _ _).trans ((Rg_far hne _ _).trans ((Rg_far hne _ _).trans ((Rg_far hne _ _).trans ((Rg_far hne _ _).trans ((Rg_far hne _ _).trans qa)))))
       have HTF : Hid (TM wA ((((((w6.setCell ⟨gd, j * 6, none⟩ (.int .i64 r.cl)).setCell ⟨gd, j * 6 + 1, none⟩ (.int .i64 r.st)).setCell ⟨gd, j * 6 + 2, none⟩ (.int .i64 D.2.k)).setCell ⟨gd, j * 6 + 3, none⟩ (.int .i64 D.2.t)).setCell ⟨gd, j * 6 + 4, none⟩ (.int .i64 D.2.h)).setCell ⟨gd, j * 6 + 5, none⟩ (.int .i64 D.2.e)) wA.heap.size b U (.slice xa qs.length xc) (.slice (some ⟨gd, 0, none⟩) X.ss.length cd) qs) := by
        have T8 := T7
        rw [HDS.out] at T8
        rw [← HU.out]; exact T8
       clear t6 qa qb hcd hcl T7 hne HX6 hds
       go_upto_region 17 with fail
       clear x3
       generalize ((((((w6.setCell ⟨gd, j * 6, none⟩ (.int .i64 r.cl)).setCell ⟨gd, j * 6 + 1, none⟩ (.int .i64 r.st)).setCell ⟨gd, j * 6 + 2, none⟩ (.int .i64 D.2.k)).setCell ⟨gd, j * 6 + 3, none⟩ (.int .i64 D.2.t)).setCell ⟨gd, j * 6 + 4, none⟩ (.int .i64 D.2.h)).setCell ⟨gd, j * 6 + 5, none⟩ (.int .i64 D.2.e)) = w7 at HTF Q7 ⊢
       have HS7 : Hid (∀ W : World, (∀ i, wA.heap.size ≤ i → W.heap[i]? = w7.heap[i]?) → (W.cell? ⟨b, 0, none⟩ = some (.int .i64 U.tm) ∧ W.cell? ⟨b, 1, none⟩ = some (.int .i64 U.nx) ∧ W.cell? ⟨b, 2, none⟩ = some (.slice xa qs.length xc) ∧ W.cell? ⟨b, 3, none⟩ = some (.slice (some ⟨gd, 0, none⟩) X.ss.length cd)) ∧ W.cell? ⟨ab, 0, none⟩ = some (.int .i64 D.2.k) ∧ W.cell? ⟨ab, 1, none⟩ = some (.int .i64 D.2.t) ∧ W.cell? ⟨ab, 2, none⟩ = some (.int .i64 D.2.h) ∧ W.cell? ⟨ab, 3, none⟩ = some (.int .i64 D.2.e)) := fun W hW => by
        have e1 := (hW b hbA).trans HTF.out.hx
        have e2 := (hW ab hw5).trans Q7.out
        exact ⟨⟨(blk_cell e1 0 rfl).1, (blk_cell e1 1 rfl).1, (blk_cell e1 2 rfl).1, (blk_cell e1 3 rfl).1⟩, (blk_cell e2 0 rfl).1, (blk_cell e2 1 rfl).1, (blk_cell e2 2 rfl).1, (blk_cell e2 3 rfl).1⟩
       have hbx := HBX.out _ HTF.out.bel
       obtain ⟨zt0, ft0⟩ := blk_cell hbx.2.1 0 (x := .int .i64 0) rfl
       obtain ⟨zt1, ft1⟩ := blk_cell hbx.2.1 1 (x := .int .i64 0) rfl
       obtain ⟨zt2, ft2⟩ := blk_cell hbx.2.1 2 (x := .slice none 0 0) rfl
       obtain ⟨zt3, ft3⟩ := blk_cell hbx.2.1 3 (x := .slice none 0 0) rfl
       obtain ⟨za0, fa0⟩ := blk_cell hbx.2.2.1 0 (x := .int .i64 0) rfl
       obtain ⟨za1, fa1⟩ := blk_cell hbx.2.2.1 1 (x := .int .i64 0) rfl
       obtain ⟨za2, fa2⟩ := blk_cell hbx.2.2.1 2 (x := .int .i64 0) rfl
       obtain ⟨za3, fa3⟩ := blk_cell hbx.2.2.1 3 (x := .int .i64 0) rfl
       clear hbx
       refine wp_region_noPanic ?_
       refine wp_region_Z 3 (S := fun W => (W.cell? ⟨b, 0, none⟩ = some (.int .i64 U.tm) ∧ W.cell? ⟨b, 1, none⟩ = some (.int .i64 U.nx) ∧ W.cell? ⟨b, 2, none⟩ = some (.slice xa qs.length xc) ∧ W.cell? ⟨b, 3, none⟩ = some (.slice (some ⟨gd, 0, none⟩) X.ss.length cd)) ∧ W.cell? ⟨ab, 0, none⟩ = some (.int .i64 D.2.k) ∧ W.cell? ⟨ab, 1, none⟩ = some (.int .i64 D.2.t) ∧ W.cell? ⟨ab, 2, none⟩ = some (.int .i64 D.2.h) ∧ W.cell? ⟨ab, 3, none⟩ = some (.int .i64 D.2.e)) (by kernel_rfl) (HS7.out _ (fun _ _ => rfl)) (fun hHeld => ?_)
       refine wpZ_take (i := 0) 2 (oi := ⟨some 125, .load 26 (.tmp 8), 26, "l05_locks.go:206", #[], none⟩) (v := ?_) rfl (by kernel_rfl) (by kernel_rfl) (by kernel_rfl) (by kernel_rfl) (fun _ _ _ h => h) (by kernel_rfl) (Or.inl ⟨by rfl, ?_⟩) hHeld ?_
       rotate_left
       ·intro wz hz; (try dsimp only at hz); obtain ⟨⟨y0, y1, y2, y3⟩, y4, y5, y6, y7⟩ := hz; go_simp; try (with_reducible rfl)
       simp only [Act.put, List.setIfInBounds_toArray, List.set_cons_zero, List.set_cons_succ]
       refine wpZ_take (i := 1) 2 (oi := ⟨some 126, .load 55 (.tmp 11), 55, "l05_locks.go:206", #[⟨2, .gcOnly .lateStores⟩], none⟩) (v := ?_) rfl (by kernel_rfl) (by kernel_rfl) (by kernel_rfl) (by kernel_rfl) (fun _ _ _ h => h) (by kernel_rfl) (Or.inl ⟨by rfl, ?_⟩) hHeld ?_
       rotate_left
       ·intro wz hz; (try dsimp only at hz); obtain ⟨⟨y0, y1, y2, y3⟩, y4, y5, y6, y7⟩ := hz; go_simp; try (with_reducible rfl)
       simp only [Act.put, List.setIfInBounds_toArray, List.set_cons_zero, List.set_cons_succ]
       refine wpZ_ready (rs := [2]) (by kernel_rfl) (by simp) ?_
       refine (ReadyZ.cons (o := ⟨none, .store 26 (.tmp 6) (.tmp 125), 0, "l05_locks.go:206", #[⟨0, .data⟩, ⟨0, .phase⟩, ⟨1, .textOnly .lateStores⟩], none⟩) rfl (fun K hK => ?_) ReadyZ.nil)
       go_simp
       refine hK.out _ _ ?_ (fun hHeld => ?_)
       ·exact HS7.out _ (fun i hi => far4 (w := w7.drew) (by omega) _ _ _ _)
       clear hK K
       (try simp only [Act.put, List.setIfInBounds_toArray, List.set_cons_zero, List.set_cons_succ])
       refine wpZ_ready (rs := [3]) (by kernel_rfl) (by simp) ?_
       refine ReadyZ.last (o := ⟨none, .store 55 (.tmp 7) (.tmp 126), 0, "l05_locks.go:206", #[⟨1, .data⟩, ⟨2, .chain⟩, ⟨0, .phase⟩, ⟨1, .phase⟩, ⟨2, .phase⟩], none⟩) rfl (fun K hK => ?_)
       go_simp
       refine hK.out _ _ ?_
       clear hK K
       (try simp only [Act.put, List.setIfInBounds_toArray, List.set_cons_zero, List.set_cons_succ])
       refine wpZ_done (by kernel_rfl) ?_ _
       refine NoPanic.normal ?_
       clear hHeld HS7
       go_wp2_with fail
       have S44 := (set44 (w := w7) (a := w.heap.size + 1 + 1) (b := w.heap.size + 1 + 1 + 1) (.int .i64 0) (.int .i64 0) (.slice none 0 0) (.slice none 0 0) (.int .i64 0) (.int .i64 0) (.int .i64 0) (.int .i64 0) (.int .i64 U.tm) (.int .i64 U.nx) ((.slice xa qs.length xc)) ((.slice (some ⟨gd, 0, none⟩) X.ss.length cd)) (.int .i64 D.2.k) (.int .i64 D.2.t) (.int .i64 D.2.h) (.int .i64 D.2.e) (by omega) (HBX.out _ (HTF.out.bel)).2.1 (HBX.out _ (HTF.out.bel)).2.2.1).1
       obtain ⟨AF, BF, FF, LF⟩ := S44
       have KF : Hid (OwnL ((((((((w7.setCell ⟨w.heap.size + 1 + 1, 0, none⟩ (.int .i64 U.tm)).setCell ⟨w.heap.size + 1 + 1, 1, none⟩ (.int .i64 U.nx)).setCell ⟨w.heap.size + 1 + 1, 2, none⟩ ((.slice xa qs.length xc))).setCell ⟨w.heap.size + 1 + 1, 3, none⟩ ((.slice (some ⟨gd, 0, none⟩) X.ss.length cd))).setCell ⟨w.heap.size + 1 + 1 + 1, 0, none⟩ (.int .i64 D.2.k)).setCell ⟨w.heap.size + 1 + 1 + 1, 1, none⟩ (.int .i64 D.2.t)).setCell ⟨w.heap.size + 1 + 1 + 1, 2, none⟩ (.int .i64 D.2.h)).setCell ⟨w.heap.size + 1 + 1 + 1, 3, none⟩ (.int .i64 D.2.e)) w.heap.size (.slice xa qs.length xc) qs ∧ (∀ p ∈ qs, Wa.OwnW ((((((((w7.setCell ⟨w.heap.size + 1 + 1, 0, none⟩ (.int .i64 U.tm)).setCell ⟨w.heap.size + 1 + 1, 1, none⟩ (.int .i64 U.nx)).setCell ⟨w.heap.size + 1 + 1, 2, none⟩ ((.slice xa qs.length xc))).setCell ⟨w.heap.size + 1 + 1, 3, none⟩ ((.slice (some ⟨gd, 0, none⟩) X.ss.length cd))).setCell ⟨w.heap.size + 1 + 1 + 1, 0, none⟩ (.int .i64 D.2.k)).setCell ⟨w.heap.size + 1 + 1 + 1, 1, none⟩ (.int .i64 D.2.t)).setCell ⟨w.heap.size + 1 + 1 + 1, 2, none⟩ (.int .i64 D.2.h)).setCell ⟨w.heap.size + 1 + 1 + 1, 3, none⟩ (.int .i64 D.2.e)) w.heap.size (uV p) p.1.ws) ∧ Wa.OwnS ((((((((w7.setCell ⟨w.heap.size + 1 + 1, 0, none⟩ (.int .i64 U.tm)).setCell ⟨w.heap.size + 1 + 1, 1, none⟩ (.int .i64 U.nx)).setCell ⟨w.heap.size + 1 + 1, 2, none⟩ ((.slice xa qs.length xc))).setCell ⟨w.heap.size + 1 + 1, 3, none⟩ ((.slice (some ⟨gd, 0, none⟩) X.ss.length cd))).setCell ⟨w.heap.size + 1 + 1 + 1, 0, none⟩ (.int .i64 D.2.k)).setCell ⟨w.heap.size + 1 + 1 + 1, 1, none⟩ (.int .i64 D.2.t)).setCell ⟨w.heap.size + 1 + 1 + 1, 2, none⟩ (.int .i64 D.2.h)).setCell ⟨w.heap.size + 1 + 1 + 1, 3, none⟩ (.int .i64 D.2.e)) w.heap.size (.slice (some ⟨gd, 0, none⟩) X.ss.length cd) U.ss ∧ qs.map (·.1) = U.ls ∧ Apart qs) := TM.fin HTF.out (by omega) (fun j hj => FF j (by omega) (by omega))
       have LFH : Hid (Below w.heap.size w ((((((((w7.setCell ⟨w.heap.size + 1 + 1, 0, none⟩ (.int .i64 U.tm)).setCell ⟨w.heap.size + 1 + 1, 1, none⟩ (.int .i64 U.nx)).setCell ⟨w.heap.size + 1 + 1, 2, none⟩ ((.slice xa qs.length xc))).setCell ⟨w.heap.size + 1 + 1, 3, none⟩ ((.slice (some ⟨gd, 0, none⟩) X.ss.length cd))).setCell ⟨w.heap.size + 1 + 1 + 1, 0, none⟩ (.int .i64 D.2.k)).setCell ⟨w.heap.size + 1 + 1 + 1, 1, none⟩ (.int .i64 D.2.t)).setCell ⟨w.heap.size + 1 + 1 + 1, 2, none⟩ (.int .i64 D.2.h)).setCell ⟨w.heap.size + 1 + 1 + 1, 3, none⟩ (.int .i64 D.2.e))) := LF (HBX.out _ (HTF.out.bel)).2.2.2 (by omega) (by omega)
       generalize ((((((((w7.setCell ⟨w.heap.size + 1 + 1, 0, none⟩ (.int .i64 U.tm)).setCell ⟨w.heap.size + 1 + 1, 1, none⟩ (.int .i64 U.nx)).setCell ⟨w.heap.size + 1 + 1, 2, none⟩ ((.slice xa qs.length xc))).setCell ⟨w.heap.size + 1 + 1, 3, none⟩ ((.slice (some ⟨gd, 0, none⟩) X.ss.length cd))).setCell ⟨w.heap.size + 1 + 1 + 1, 0, none⟩ (.int .i64 D.2.k)).setCell ⟨w.heap.size + 1 + 1 + 1, 1, none⟩ (.int .i64 D.2.t)).setCell ⟨w.heap.size + 1 + 1 + 1, 2, none⟩ (.int .i64 D.2.h)).setCell ⟨w.heap.size + 1 + 1 + 1, 3, none⟩ (.int .i64 D.2.e)) = wf at AF BF KF LFH ⊢
       have d0 := (blk_cell AF 0 (x := .int .i64 U.tm) rfl).1
       have d1 := (blk_cell AF 1 (x := .int .i64 U.nx) rfl).1
       have d2 := (blk_cell AF 2 (x := (.slice xa qs.length xc)) rfl).1
       have d3 := (blk_cell AF 3 (x := (.slice (some ⟨gd, 0, none⟩) X.ss.length cd)) rfl).1
       have e0 := (blk_cell BF 0 (x := .int .i64 D.2.k) rfl).1
       have e1 := (blk_cell BF 1 (x := .int .i64 D.2.t) rfl).1
       have e2 := (blk_cell BF 2 (x := .int .i64 D.2.h) rfl).1
       have e3 := (blk_cell BF 3 (x := .int .i64 D.2.e) rfl).1
       refine bodyPost_ret (v := .tuple #[.agg #[.int .i64 U.tm, .int .i64 U.nx, (.slice xa qs.length xc), (.slice (some ⟨gd, 0, none⟩) X.ss.length cd)], .agg #[.int .i64 D.2.k, .int .i64 D.2.t, .int .i64 D.2.h, .int .i64 D.2.e]]) (by simp [results, Tryd.results81, go_sem, d0, d1, d2, d3, e0, e1, e2, e3]) rfl ?_
       refine ⟨⟨(.slice xa qs.length xc), (.slice (some ⟨gd, 0, none⟩) X.ss.length cd), qs, ?_, KF.out.1, KF.out.2.1, ?_, ?_, KF.out.2.2.2.2⟩, (by first | exact LFH.out | exact LFH.out.drew)⟩
       ·rw [HAP.out]
       ·rw [HAP.out]; exact KF.out.2.2.1
       ·rw [HAP.out]; exact KF.out.2.2.2.1
    focus
     have hi := seen_none HK.out HSS.out (fun s' hs' e => hsc (by rw [HSK.out] at hs'; cases hs'; exact e))
     rw [hi] at HAP1
     simp only [HK.out] at HAP1
     have hsc' : (s.c == r.cl) = false := by simp [hsc]
     clear hi hsc
     go_upto_region 3 with fail
     obtain ⟨X1, hX1, W1, QI0, QO0⟩ := Qc.klass wr
     have QI : Hid (∀ w', Below wr.heap.size wr w' → ∃ x, w' = W1 x) := QI0
     have QO : Hid (∀ x, Below wr.heap.size wr (W1 x)) := QO0
     clear QI0 QO0
     have tq := HX.out _ GR.out
     have y3 := Qc.cell_all QO.out (blk_cell tq.hx 3 (x := .slice (some ⟨gs, 0, none⟩) X.ss.length uc) rfl).1
     have z0 := Qc.cell_all QO.out (blk_cell (HBX.out _ tq.bel).1 0 (x := .int .i64 r.cl) rfl).1
     have z1 := Qc.cell_all QO.out (blk_cell (HBX.out _ tq.bel).1 1 (x := .int .i64 r.st) rfl).1
     obtain ⟨gs', cs', es, _, _, _, hcs⟩ := OwnS.atk tq.os HSK.out
     obtain rfl : gs = gs' := by injection es with e1; injection e1 with e1; injection e1
     have s0 : ∀ q, (W1 q).cell? ⟨gs, j * 6, none⟩ = some (.int .i64 s.c) := Qc.cell_all QO.out (hcs 0 (.int .i64 s.c) rfl).1
     have s1 := Qc.cell_all QO.out (hcs 1 (.int .i64 s.s) rfl).1
     clear hcs es
     clear tq
     refine Qc.region_class (W := W1) (by kernel_rfl) (by kernel_rfl) (QI.out _ Qc.from_drew) ?_
     repeat (go_big_quiet_step (fail))
     refine wpQuiet_nil ?_
     rintro _ ⟨xq, rfl⟩
     have G : Hid (Below w2.heap.size w2 (W1 xq)) := GR.out.trans ((QO.out xq).mono GR.out.size)
     clear y3 z0 z1 s0 s1 QO QI GR
     generalize W1 xq = wq at G ⊢
     go_upto_region 5 with fail
     obtain ⟨X1, hX1, W1, QI0, QO0⟩ := Qc.klass wq
     have QI : Hid (∀ w', Below wq.heap.size wq w' → ∃ x, w' = W1 x) := QI0
     have QO : Hid (∀ x, Below wq.heap.size wq (W1 x)) := QO0
     clear QI0 QO0
     have tq := HX.out _ G.out
     have y3 := Qc.cell_all QO.out (blk_cell tq.hx 3 (x := .slice (some ⟨gs, 0, none⟩) X.ss.length uc) rfl).1
     have z0 := Qc.cell_all QO.out (blk_cell (HBX.out _ tq.bel).1 0 (x := .int .i64 r.cl) rfl).1
     have z1 := Qc.cell_all QO.out (blk_cell (HBX.out _ tq.bel).1 1 (x := .int .i64 r.st) rfl).1
     obtain ⟨gs', cs', es, _, _, _, hcs⟩ := OwnS.atk tq.os HSK.out
     obtain rfl : gs = gs' := by injection es with e1; injection e1 with e1; injection e1
     have s0 : ∀ q, (W1 q).cell? ⟨gs, j * 6, none⟩ = some (.int .i64 s.c) := Qc.cell_all QO.out (hcs 0 (.int .i64 s.c) rfl).1
     have s1 := Qc.cell_all QO.out (hcs 1 (.int .i64 s.s) rfl).1
     clear hcs es
     clear tq
     refine Qc.region_class (W := W1) (by kernel_rfl) (by kernel_rfl) (QI.out _ Qc.from_drew) ?_
     repeat (go_big_quiet_step (fail))
     refine wpQuiet_nil ?_
     rintro _ ⟨xq, rfl⟩
     have G3 : Hid (Below w2.heap.size w2 (W1 xq)) := G.out.trans ((QO.out xq).mono G.out.size)
     clear y3 z0 z1 s0 s1 QO QI G
     generalize W1 xq = wr3 at G3 ⊢
     go_upto_region 6 with fail
     obtain ⟨X1, hX1, W1, QI0, QO0⟩ := Qc.klass wr3
     have QI : Hid (∀ w', Below wr3.heap.size wr3 w' → ∃ x, w' = W1 x) := QI0
     have QO : Hid (∀ x, Below wr3.heap.size wr3 (W1 x)) := QO0
     clear QI0 QO0
     have tq := HX.out _ G3.out
     have y3 := Qc.cell_all QO.out (blk_cell tq.hx 3 (x := .slice (some ⟨gs, 0, none⟩) X.ss.length uc) rfl).1
     have z0 := Qc.cell_all QO.out (blk_cell (HBX.out _ tq.bel).1 0 (x := .int .i64 r.cl) rfl).1
     have z1 := Qc.cell_all QO.out (blk_cell (HBX.out _ tq.bel).1 1 (x := .int .i64 r.st) rfl).1
     obtain ⟨gs', cs', es, _, _, _, hcs⟩ := OwnS.atk tq.os HSK.out
     obtain rfl : gs = gs' := by injection es with e1; injection e1 with e1; injection e1
     have s0 : ∀ q, (W1 q).cell? ⟨gs, j * 6, none⟩ = some (.int .i64 s.c) := Qc.cell_all QO.out (hcs 0 (.int .i64 s.c) rfl).1
     have s1 := Qc.cell_all QO.out (hcs 1 (.int .i64 s.s) rfl).1
     clear hcs es
     clear tq
     refine Qc.region_class (W := W1) (by kernel_rfl) (by kernel_rfl) (QI.out _ Qc.from_drew) ?_
     repeat (go_big_quiet_step (fail))
     refine wpQuiet_nil ?_
     rintro _ ⟨xq, rfl⟩
     have G4 : Hid (Below w2.heap.size w2 (W1 xq)) := G3.out.trans ((QO.out xq).mono G3.out.size)
     clear y3 z0 z1 s0 s1 QO QI G3
     generalize W1 xq = wr4 at G4 ⊢
     go_upto_region 8 with fail
     obtain ⟨X1, hX1, W1, QI0, QO0⟩ := Qc.klass wr4
     have QI : Hid (∀ w', Below wr4.heap.size wr4 w' → ∃ x, w' = W1 x) := QI0
     have QO : Hid (∀ x, Below wr4.heap.size wr4 (W1 x)) := QO0
     clear QI0 QO0
     have tq := HX.out _ G4.out
     have y3 := Qc.cell_all QO.out (blk_cell tq.hx 3 (x := .slice (some ⟨gs, 0, none⟩) X.ss.length uc) rfl).1
     have z0 := Qc.cell_all QO.out (blk_cell (HBX.out _ tq.bel).1 0 (x := .int .i64 r.cl) rfl).1
     have z1 := Qc.cell_all QO.out (blk_cell (HBX.out _ tq.bel).1 1 (x := .int .i64 r.st) rfl).1
     obtain ⟨gs', cs', es, _, _, _, hcs⟩ := OwnS.atk tq.os HSK.out
     obtain rfl : gs = gs' := by injection es with e1; injection e1 with e1; injection e1
     have s0 : ∀ q, (W1 q).cell? ⟨gs, j * 6, none⟩ = some (.int .i64 s.c) := Qc.cell_all QO.out (hcs 0 (.int .i64 s.c) rfl).1
     have s1 := Qc.cell_all QO.out (hcs 1 (.int .i64 s.s) rfl).1
     clear hcs es
     clear tq
     refine Qc.region_class (W := W1) (by kernel_rfl) (by kernel_rfl) (QI.out _ Qc.from_drew) ?_
     repeat (go_big_quiet_step (fail))
     refine wpQuiet_nil ?_
     rintro _ ⟨xq, rfl⟩
     have G5 : Hid (Below w2.heap.size w2 (W1 xq)) := G4.out.trans ((QO.out xq).mono G4.out.size)
     clear y3 z0 z1 s0 s1 QO QI G4
     generalize W1 xq = wr5 at G5 ⊢
     by_cases h6 : 6 ≤ X.ss.length
     ·have HAP : Hid (R = (X, bare 6)) := by show _ = _; rw [HAP1, if_pos h6]
      clear HAP1
      have h6' : ((X.ss.length : Int) == 6) = true := by simp; omega
      have y3 := (blk_cell (HX.out _ G5.out).hx 3 (x := .slice (some ⟨gs, 0, none⟩) X.ss.length uc) rfl).1
      go_upto_region 11 with fail
      clear y3
      have HTF : Hid (TM wA wr5 wA.heap.size b X (.slice la ps.length lc) (.slice (some ⟨gs, 0, none⟩) X.ss.length uc) ps) := HX.out _ G5.out
      have c0 := (blk_cell HTF.out.hx 0 (x := .int .i64 X.tm) rfl).1
      have c1 := (blk_cell HTF.out.hx 1 (x := .int .i64 X.nx) rfl).1
      have c2 := (blk_cell HTF.out.hx 2 (x := .slice la ps.length lc) rfl).1
      have c3 := (blk_cell HTF.out.hx 3 (x := .slice (some ⟨gs, 0, none⟩) X.ss.length uc) rfl).1
      have hbx := HBX.out _ HTF.out.bel
      obtain ⟨zt0, ft0⟩ := blk_cell hbx.2.1 0 (x := .int .i64 0) rfl
      obtain ⟨zt1, ft1⟩ := blk_cell hbx.2.1 1 (x := .int .i64 0) rfl
      obtain ⟨zt2, ft2⟩ := blk_cell hbx.2.1 2 (x := .slice none 0 0) rfl
      obtain ⟨zt3, ft3⟩ := blk_cell hbx.2.1 3 (x := .slice none 0 0) rfl
      obtain ⟨za0, fa0⟩ := blk_cell hbx.2.2.1 0 (x := .int .i64 0) rfl
      obtain ⟨za1, fa1⟩ := blk_cell hbx.2.2.1 1 (x := .int .i64 0) rfl
      obtain ⟨za2, fa2⟩ := blk_cell hbx.2.2.1 2 (x := .int .i64 0) rfl
      obtain ⟨za3, fa3⟩ := blk_cell hbx.2.2.1 3 (x := .int .i64 0) rfl
      clear hbx
      go_wp2_with fail
      have S44 := (set44 (w := wr5) (a := w.heap.size + 1 + 1) (b := w.heap.size + 1 + 1 + 1) (.int .i64 0) (.int .i64 0) (.slice none 0 0) (.slice none 0 0) (.int .i64 0) (.int .i64 0) (.int .i64 0) (.int .i64 0) (.int .i64 X.tm) (.int .i64 X.nx) ((.slice la ps.length lc)) ((.slice (some ⟨gs, 0, none⟩) X.ss.length uc)) (.int .i64 6) (.int .i64 0) (.int .i64 (-1)) (.int .i64 0) (by omega) (HBX.out _ (HTF.out.bel)).2.1 (HBX.out _ (HTF.out.bel)).2.2.1).1
      obtain ⟨AF, BF, FF, LF⟩ := S44
      have KF : Hid (OwnL ((((((((wr5.setCell ⟨w.heap.size + 1 + 1, 0, none⟩ (.int .i64 X.tm)).setCell ⟨w.heap.size + 1 + 1, 1, none⟩ (.int .i64 X.nx)).setCell ⟨w.heap.size + 1 + 1, 2, none⟩ ((.slice la ps.length lc))).setCell ⟨w.heap.size + 1 + 1, 3, none⟩ ((.slice (some ⟨gs, 0, none⟩) X.ss.length uc))).setCell ⟨w.heap.size + 1 + 1 + 1, 0, none⟩ (.int .i64 6)).setCell ⟨w.heap.size + 1 + 1 + 1, 1, none⟩ (.int .i64 0)).setCell ⟨w.heap.size + 1 + 1 + 1, 2, none⟩ (.int .i64 (-1))).setCell ⟨w.heap.size + 1 + 1 + 1, 3, none⟩ (.int .i64 0)) w.heap.size (.slice la ps.length lc) ps ∧ (∀ p ∈ ps, Wa.OwnW ((((((((wr5.setCell ⟨w.heap.size + 1 + 1, 0, none⟩ (.int .i64 X.tm)).setCell ⟨w.heap.size + 1 + 1, 1, none⟩ (.int .i64 X.nx)).setCell ⟨w.heap.size + 1 + 1, 2, none⟩ ((.slice la ps.length lc))).setCell ⟨w.heap.size + 1 + 1, 3, none⟩ ((.slice (some ⟨gs, 0, none⟩) X.ss.length uc))).setCell ⟨w.heap.size + 1 + 1 + 1, 0, none⟩ (.int .i64 6)).setCell ⟨w.heap.size + 1 + 1 + 1, 1, none⟩ (.int .i64 0)).setCell ⟨w.heap.size + 1 + 1 + 1, 2, none⟩ (.int .i64 (-1))).setCell ⟨w.heap.size + 1 + 1 + 1, 3, none⟩ (.int .i64 0)) w.heap.size (uV p) p.1.ws) ∧ Wa.OwnS ((((((((wr5.setCell ⟨w.heap.size + 1 + 1, 0, none⟩ (.int .i64 X.tm)).setCell ⟨w.heap.size + 1 + 1, 1, none⟩ (.int .i64 X.nx)).setCell ⟨w.heap.size + 1 + 1, 2, none⟩ ((.slice la ps.length lc))).setCell ⟨w.heap.size + 1 + 1, 3, none⟩ ((.slice (some ⟨gs, 0, none⟩) X.ss.length uc))).setCell ⟨w.heap.size + 1 + 1 + 1, 0, none⟩ (.int .i64 6)).setCell ⟨w.heap.size + 1 + 1 + 1, 1, none⟩ (.int .i64 0)).setCell ⟨w.heap.size + 1 + 1 + 1, 2, none⟩ (.int .i64 (-1))).setCell ⟨w.heap.size + 1 + 1 + 1, 3, none⟩ (.int .i64 0)) w.heap.size (.slice (some ⟨gs, 0, none⟩) X.ss.length uc) X.ss ∧ ps.map (·.1) = X.ls ∧ Apart ps) := TM.fin HTF.out (by omega) (fun j hj => FF j (by omega) (by omega))
      have LFH : Hid (Below w.heap.size w ((((((((wr5.setCell ⟨w.heap.size + 1 + 1, 0, none⟩ (.int .i64 X.tm)).setCell ⟨w.heap.size + 1 + 1, 1, none⟩ (.int .i64 X.nx)).setCell ⟨w.heap.size + 1 + 1, 2, none⟩ ((.slice la ps.length lc))).setCell ⟨w.heap.size + 1 + 1, 3, none⟩ ((.slice (some ⟨gs, 0, none⟩) X.ss.length uc))).setCell ⟨w.heap.size + 1 + 1 + 1, 0, none⟩ (.int .i64 6)).setCell ⟨w.heap.size + 1 + 1 + 1, 1, none⟩ (.int .i64 0)).setCell ⟨w.heap.size + 1 + 1 + 1, 2, none⟩ (.int .i64 (-1))).setCell ⟨w.heap.size + 1 + 1 + 1, 3, none⟩ (.int .i64 0))) := LF (HBX.out _ (HTF.out.bel)).2.2.2 (by omega) (by omega)
      generalize ((((((((wr5.setCell ⟨w.heap.size + 1 + 1, 0, none⟩ (.int .i64 X.tm)).setCell ⟨w.heap.size + 1 + 1, 1, none⟩ (.int .i64 X.nx)).setCell ⟨w.heap.size + 1 + 1, 2, none⟩ ((.slice la ps.length lc))).setCell ⟨w.heap.size + 1 + 1, 3, none⟩ ((.slice (some ⟨gs, 0, none⟩) X.ss.length uc))).setCell ⟨w.heap.size + 1 + 1 + 1, 0, none⟩ (.int .i64 6)).setCell ⟨w.heap.size + 1 + 1 + 1, 1, none⟩ (.int .i64 0)).setCell ⟨w.heap.size + 1 + 1 + 1, 2, none⟩ (.int .i64 (-1))).setCell ⟨w.heap.size + 1 + 1 + 1, 3, none⟩ (.int .i64 0)) = wf at AF BF KF LFH ⊢
      have d0 := (blk_cell AF 0 (x := .int .i64 X.tm) rfl).1
      have d1 := (blk_cell AF 1 (x := .int .i64 X.nx) rfl).1
      have d2 := (blk_cell AF 2 (x := (.slice la ps.length lc)) rfl).1
      have d3 := (blk_cell AF 3 (x := (.slice (some ⟨gs, 0, none⟩) X.ss.length uc)) rfl).1
      have e0 := (blk_cell BF 0 (x := .int .i64 6) rfl).1
      have e1 := (blk_cell BF 1 (x := .int .i64 0) rfl).1
      have e2 := (blk_cell BF 2 (x := .int .i64 (-1)) rfl).1
      have e3 := (blk_cell BF 3 (x := .int .i64 0) rfl).1
      refine bodyPost_ret (v := .tuple #[.agg #[.int .i64 X.tm, .int .i64 X.nx, (.slice la ps.length lc), (.slice (some ⟨gs, 0, none⟩) X.ss.length uc)], .agg #[.int .i64 6, .int .i64 0, .int .i64 (-1), .int .i64 0]]) (by simp [results, Tryd.results81, go_sem, d0, d1, d2, d3, e0, e1, e2, e3]) rfl ?_
      refine ⟨⟨(.slice la ps.length lc), (.slice (some ⟨gs, 0, none⟩) X.ss.length uc), ps, ?_, KF.out.1, KF.out.2.1, ?_, ?_, KF.out.2.2.2.2⟩, (by first | exact LFH.out | exact LFH.out.drew)⟩
      ·rw [HAP.out]; rfl
      ·rw [HAP.out]; exact KF.out.2.2.1
      ·rw [HAP.out]; exact KF.out.2.2.2.1
     have HAP : Hid (R = ({ (doT X r).1 with ss := putAt X.ss j (sn r (doT X r).2) }, (doT X r).2)) := by show _ = _; rw [HAP1, if_neg h6]
     clear HAP1
     have h6' : ((X.ss.length : Int) == 6) = false := by simp; omega
     have y3 := (blk_cell (HX.out _ G5.out).hx 3 (x := .slice (some ⟨gs, 0, none⟩) X.ss.length uc) rfl).1
     go_upto_region 12 with fail
     clear y3
  rotate_left
  focus
   obtain rfl : j = k := by omega
   have hjl : ¬ (j : Int) < (X.ss.length : Int) := by omega
   have hi := seen_none HK.out HXO.out.1.2.2.2.2.2 (fun s' hs' e => absurd (List.getElem?_eq_some_iff.1 hs').1 hjn)
   have HAP1 := HAPH.out ()
   rw [hi] at HAP1
   simp only [HK.out] at HAP1
   clear hi HAPH
   go_upto_region 3 with fail
   obtain ⟨X1, hX1, W1, QI0, QO0⟩ := Qc.klass wr
   have QI : Hid (∀ w', Below wr.heap.size wr w' → ∃ x, w' = W1 x) := QI0
   have QO : Hid (∀ x, Below wr.heap.size wr (W1 x)) := QO0
   clear QI0 QO0
   have tq := HX.out _ GR.out
   have y3 := Qc.cell_all QO.out (blk_cell tq.hx 3 (x := .slice ua X.ss.length uc) rfl).1
   have z0 := Qc.cell_all QO.out (blk_cell (HBX.out _ tq.bel).1 0 (x := .int .i64 r.cl) rfl).1
   have z1 := Qc.cell_all QO.out (blk_cell (HBX.out _ tq.bel).1 1 (x := .int .i64 r.st) rfl).1
   clear tq
   refine Qc.region_class (W := W1) (by kernel_rfl) (by kernel_rfl) (QI.out _ Qc.from_drew) ?_
   repeat (go_big_quiet_step (fail))
   refine wpQuiet_nil ?_
   rintro _ ⟨xq, rfl⟩
   have G : Hid (Below w2.heap.size w2 (W1 xq)) := GR.out.trans ((QO.out xq).mono GR.out.size)
   clear y3 z0 z1 QO QI GR
   generalize W1 xq = wq at G ⊢
   go_upto_region 5 with fail
   obtain ⟨X1, hX1, W1, QI0, QO0⟩ := Qc.klass wq
   have QI : Hid (∀ w', Below wq.heap.size wq w' → ∃ x, w' = W1 x) := QI0
   have QO : Hid (∀ x, Below wq.heap.size wq (W1 x)) := QO0
   clear QI0 QO0
   have tq := HX.out _ G.out
   have y3 := Qc.cell_all QO.out (blk_cell tq.hx 3 (x := .slice ua X.ss.length uc) rfl).1
   have z0 := Qc.cell_all QO.out (blk_cell (HBX.out _ tq.bel).1 0 (x := .int .i64 r.cl) rfl).1
   have z1 := Qc.cell_all QO.out (blk_cell (HBX.out _ tq.bel).1 1 (x := .int .i64 r.st) rfl).1
   clear tq
   refine Qc.region_class (W := W1) (by kernel_rfl) (by kernel_rfl) (QI.out _ Qc.from_drew) ?_
   repeat (go_big_quiet_step (fail))
   refine wpQuiet_nil ?_
   rintro _ ⟨xq, rfl⟩
   have G3 : Hid (Below w2.heap.size w2 (W1 xq)) := G.out.trans ((QO.out xq).mono G.out.size)
   clear y3 z0 z1 QO QI G
   generalize W1 xq = wr3 at G3 ⊢
   go_upto_region 6 with fail
   obtain ⟨X1, hX1, W1, QI0, QO0⟩ := Qc.klass wr3
   have QI : Hid (∀ w', Below wr3.heap.size wr3 w' → ∃ x, w' = W1 x) := QI0
   have QO : Hid (∀ x, Below wr3.heap.size wr3 (W1 x)) := QO0
   clear QI0 QO0
   have tq := HX.out _ G3.out
   have y3 := Qc.cell_all QO.out (blk_cell tq.hx 3 (x := .slice ua X.ss.length uc) rfl).1
   have z0 := Qc.cell_all QO.out (blk_cell (HBX.out _ tq.bel).1 0 (x := .int .i64 r.cl) rfl).1
   have z1 := Qc.cell_all QO.out (blk_cell (HBX.out _ tq.bel).1 1 (x := .int .i64 r.st) rfl).1
   clear tq
   refine Qc.region_class (W := W1) (by kernel_rfl) (by kernel_rfl) (QI.out _ Qc.from_drew) ?_
   repeat (go_big_quiet_step (fail))
   refine wpQuiet_nil ?_
   rintro _ ⟨xq, rfl⟩
   have G4 : Hid (Below w2.heap.size w2 (W1 xq)) := G3.out.trans ((QO.out xq).mono G3.out.size)
   clear y3 z0 z1 QO QI G3
   generalize W1 xq = wr4 at G4 ⊢
   go_upto_region 8 with fail
   obtain ⟨X1, hX1, W1, QI0, QO0⟩ := Qc.klass wr4
   have QI : Hid (∀ w', Below wr4.heap.size wr4 w' → ∃ x, w' = W1 x) := QI0
   have QO : Hid (∀ x, Below wr4.heap.size wr4 (W1 x)) := QO0
   clear QI0 QO0
   have tq := HX.out _ G4.out
   have y3 := Qc.cell_all QO.out (blk_cell tq.hx 3 (x := .slice ua X.ss.length uc) rfl).1
   have z0 := Qc.cell_all QO.out (blk_cell (HBX.out _ tq.bel).1 0 (x := .int .i64 r.cl) rfl).1
   have z1 := Qc.cell_all QO.out (blk_cell (HBX.out _ tq.bel).1 1 (x := .int .i64 r.st) rfl).1
   clear tq
   refine Qc.region_class (W := W1) (by kernel_rfl) (by kernel_rfl) (QI.out _ Qc.from_drew) ?_
   repeat (go_big_quiet_step (fail))
   refine wpQuiet_nil ?_
   rintro _ ⟨xq, rfl⟩
   have G5 : Hid (Below w2.heap.size w2 (W1 xq)) := G4.out.trans ((QO.out xq).mono G4.out.size)
   clear y3 z0 z1 QO QI G4
   generalize W1 xq = wr5 at G5 ⊢
   by_cases h6 : 6 ≤ X.ss.length
   ·have HAP : Hid (R = (X, bare 6)) := by show _ = _; rw [HAP1, if_pos h6]
    clear HAP1
    have h6' : ((X.ss.length : Int) == 6) = true := by simp; omega
    have y3 := (blk_cell (HX.out _ G5.out).hx 3 (x := .slice ua X.ss.length uc) rfl).1
    go_upto_region 11 with fail
    clear y3
    have HTF : Hid (TM wA wr5 wA.heap.size b X (.slice la ps.length lc) (.slice ua X.ss.length uc) ps) := HX.out _ G5.out
    have c0 := (blk_cell HTF.out.hx 0 (x := .int .i64 X.tm) rfl).1
    have c1 := (blk_cell HTF.out.hx 1 (x := .int .i64 X.nx) rfl).1
    have c2 := (blk_cell HTF.out.hx 2 (x := .slice la ps.length lc) rfl).1
    have c3 := (blk_cell HTF.out.hx 3 (x := .slice ua X.ss.length uc) rfl).1
    have hbx := HBX.out _ HTF.out.bel
    obtain ⟨zt0, ft0⟩ := blk_cell hbx.2.1 0 (x := .int .i64 0) rfl
    obtain ⟨zt1, ft1⟩ := blk_cell hbx.2.1 1 (x := .int .i64 0) rfl
    obtain ⟨zt2, ft2⟩ := blk_cell hbx.2.1 2 (x := .slice none 0 0) rfl
    obtain ⟨zt3, ft3⟩ := blk_cell hbx.2.1 3 (x := .slice none 0 0) rfl
    obtain ⟨za0, fa0⟩ := blk_cell hbx.2.2.1 0 (x := .int .i64 0) rfl
    obtain ⟨za1, fa1⟩ := blk_cell hbx.2.2.1 1 (x := .int .i64 0) rfl
    obtain ⟨za2, fa2⟩ := blk_cell hbx.2.2.1 2 (x := .int .i64 0) rfl
    obtain ⟨za3, fa3⟩ := blk_cell hbx.2.2.1 3 (x := .int .i64 0) rfl
    clear hbx
    go_wp2_with fail
    have S44 := (set44 (w := wr5) (a := w.heap.size + 1 + 1) (b := w.heap.size + 1 + 1 + 1) (.int .i64 0) (.int .i64 0) (.slice none 0 0) (.slice none 0 0) (.int .i64 0) (.int .i64 0) (.int .i64 0) (.int .i64 0) (.int .i64 X.tm) (.int .i64 X.nx) ((.slice la ps.length lc)) ((.slice ua X.ss.length uc)) (.int .i64 6) (.int .i64 0) (.int .i64 (-1)) (.int .i64 0) (by omega) (HBX.out _ (HTF.out.bel)).2.1 (HBX.out _ (HTF.out.bel)).2.2.1).1
    obtain ⟨AF, BF, FF, LF⟩ := S44
    have KF : Hid (OwnL ((((((((wr5.setCell ⟨w.heap.size + 1 + 1, 0, none⟩ (.int .i64 X.tm)).setCell ⟨w.heap.size + 1 + 1, 1, none⟩ (.int .i64 X.nx)).setCell ⟨w.heap.size + 1 + 1, 2, none⟩ ((.slice la ps.length lc))).setCell ⟨w.heap.size + 1 + 1, 3, none⟩ ((.slice ua X.ss.length uc))).setCell ⟨w.heap.size + 1 + 1 + 1, 0, none⟩ (.int .i64 6)).setCell ⟨w.heap.size + 1 + 1 + 1, 1, none⟩ (.int .i64 0)).setCell ⟨w.heap.size + 1 + 1 + 1, 2, none⟩ (.int .i64 (-1))).setCell ⟨w.heap.size + 1 + 1 + 1, 3, none⟩ (.int .i64 0)) w.heap.size (.slice la ps.length lc) ps ∧ (∀ p ∈ ps, Wa.OwnW ((((((((wr5.setCell ⟨w.heap.size + 1 + 1, 0, none⟩ (.int .i64 X.tm)).setCell ⟨w.heap.size + 1 + 1, 1, none⟩ (.int .i64 X.nx)).setCell ⟨w.heap.size + 1 + 1, 2, none⟩ ((.slice la ps.length lc))).setCell ⟨w.heap.size + 1 + 1, 3, none⟩ ((.slice ua X.ss.length uc))).setCell ⟨w.heap.size + 1 + 1 + 1, 0, none⟩ (.int .i64 6)).setCell ⟨w.heap.size + 1 + 1 + 1, 1, none⟩ (.int .i64 0)).setCell ⟨w.heap.size + 1 + 1 + 1, 2, none⟩ (.int .i64 (-1))).setCell ⟨w.heap.size + 1 + 1 + 1, 3, none⟩ (.int .i64 0)) w.heap.size (uV p) p.1.ws) ∧ Wa.OwnS ((((((((wr5.setCell ⟨w.heap.size + 1 + 1, 0, none⟩ (.int .i64 X.tm)).setCell ⟨w.heap.size + 1 + 1, 1, none⟩ (.int .i64 X.nx)).setCell ⟨w.heap.size + 1 + 1, 2, none⟩ ((.slice la ps.length lc))).setCell ⟨w.heap.size + 1 + 1, 3, none⟩ ((.slice ua X.ss.length uc))).setCell ⟨w.heap.size + 1 + 1 + 1, 0, none⟩ (.int .i64 6)).setCell ⟨w.heap.size + 1 + 1 + 1, 1, none⟩ (.int .i64 0)).setCell ⟨w.heap.size + 1 + 1 + 1, 2, none⟩ (.int .i64 (-1))).setCell ⟨w.heap.size + 1 + 1 + 1, 3, none⟩ (.int .i64 0)) w.heap.size (.slice ua X.ss.length uc) X.ss ∧ ps.map (·.1) = X.ls ∧ Apart ps) := TM.fin HTF.out (by omega) (fun j hj => FF j (by omega) (by omega))
    have LFH : Hid (Below w.heap.size w ((((((((wr5.setCell ⟨w.heap.size + 1 + 1, 0, none⟩ (.int .i64 X.tm)).setCell ⟨w.heap.size + 1 + 1, 1, none⟩ (.int .i64 X.nx)).setCell ⟨w.heap.size + 1 + 1, 2, none⟩ ((.slice la ps.length lc))).setCell ⟨w.heap.size + 1 + 1, 3, none⟩ ((.slice ua X.ss.length uc))).setCell ⟨w.heap.size + 1 + 1 + 1, 0, none⟩ (.int .i64 6)).setCell ⟨w.heap.size + 1 + 1 + 1, 1, none⟩ (.int .i64 0)).setCell ⟨w.heap.size + 1 + 1 + 1, 2, none⟩ (.int .i64 (-1))).setCell ⟨w.heap.size + 1 + 1 + 1, 3, none⟩ (.int .i64 0))) := LF (HBX.out _ (HTF.out.bel)).2.2.2 (by omega) (by omega)
    generalize ((((((((wr5.setCell ⟨w.heap.size + 1 + 1, 0, none⟩ (.int .i64 X.tm)).setCell ⟨w.heap.size + 1 + 1, 1, none⟩ (.int .i64 X.nx)).setCell ⟨w.heap.size + 1 + 1, 2, none⟩ ((.slice la ps.length lc))).setCell ⟨w.heap.size + 1 + 1, 3, none⟩ ((.slice ua X.ss.length uc))).setCell ⟨w.heap.size + 1 + 1 + 1, 0, none⟩ (.int .i64 6)).setCell ⟨w.heap.size + 1 + 1 + 1, 1, none⟩ (.int .i64 0)).setCell ⟨w.heap.size + 1 + 1 + 1, 2, none⟩ (.int .i64 (-1))).setCell ⟨w.heap.size + 1 + 1 + 1, 3, none⟩ (.int .i64 0)) = wf at AF BF KF LFH ⊢
    have d0 := (blk_cell AF 0 (x := .int .i64 X.tm) rfl).1
    have d1 := (blk_cell AF 1 (x := .int .i64 X.nx) rfl).1
    have d2 := (blk_cell AF 2 (x := (.slice la ps.length lc)) rfl).1
    have d3 := (blk_cell AF 3 (x := (.slice ua X.ss.length uc)) rfl).1
    have e0 := (blk_cell BF 0 (x := .int .i64 6) rfl).1
    have e1 := (blk_cell BF 1 (x := .int .i64 0) rfl).1
    have e2 := (blk_cell BF 2 (x := .int .i64 (-1)) rfl).1
    have e3 := (blk_cell BF 3 (x := .int .i64 0) rfl).1
    refine bodyPost_ret (v := .tuple #[.agg #[.int .i64 X.tm, .int .i64 X.nx, (.slice la ps.length lc), (.slice ua X.ss.length uc)], .agg #[.int .i64 6, .int .i64 0, .int .i64 (-1), .int .i64 0]]) (by simp [results, Tryd.results81, go_sem, d0, d1, d2, d3, e0, e1, e2, e3]) rfl ?_
    refine ⟨⟨(.slice la ps.length lc), (.slice ua X.ss.length uc), ps, ?_, KF.out.1, KF.out.2.1, ?_, ?_, KF.out.2.2.2.2⟩, (by first | exact LFH.out | exact LFH.out.drew)⟩
    ·rw [HAP.out]; rfl
    ·rw [HAP.out]; exact KF.out.2.2.1
    ·rw [HAP.out]; exact KF.out.2.2.2.1
   have HAP : Hid (R = ({ (doT X r).1 with ss := putAt X.ss j (sn r (doT X r).2) }, (doT X r).2)) := by show _ = _; rw [HAP1, if_neg h6]
   clear HAP1
   have h6' : ((X.ss.length : Int) == 6) = false := by simp; omega
   have y3 := (blk_cell (HX.out _ G5.out).hx 3 (x := .slice ua X.ss.length uc) rfl).1
   go_upto_region 12 with fail
   clear y3
  all_goals
   obtain ⟨D, HD⟩ : ∃ D, Hid (doT X r = D) := ⟨_, rfl⟩
   rw [HD.out] at HAP HDS
   have HDO := l05Do_any (HX.out _ G5.out) HXO.out.1 HXO.out.2 r HRO.out
   rw [HD.out] at HDO
   have qr := (HBX.out _ (HX.out _ G5.out).bel).1
   have c0 := (blk_cell qr 0 (x := .int .i64 r.cl) rfl).1
   have c1 := (blk_cell qr 1 (x := .int .i64 r.st) rfl).1
   have c2 := (blk_cell qr 2 (x := .int .i64 r.kd) rfl).1
   have c3 := (blk_cell qr 3 (x := .int .i64 r.le) rfl).1
   have c4 := (blk_cell qr 4 (x := .string r.nm) rfl).1
   clear qr
   go_wp2_with fail
   refine HDO.mono ?_
   rintro e w5 ⟨rfl, ⟨u2, u3, qs, t5⟩, _⟩
   obtain ⟨xa, xc, rfl⟩ := t5.ol.slice
   clear HDO c0 c1 c2 c3 c4
   have sA : (w5.alloc (.cells #[.int .i64 D.2.k, .int .i64 D.2.t, .int .i64 D.2.h, .int .i64 D.2.e] 55)).heap.size = w5.heap.size + 1 := by simp
   have bA := bel_new w5 (.cells #[.int .i64 D.2.k, .int .i64 D.2.t, .int .i64 D.2.h, .int .i64 D.2.e] 55)
   have bS := bel_new (w5.alloc (.cells #[.int .i64 D.2.k, .int .i64 D.2.t, .int .i64 D.2.h, .int .i64 D.2.e] 55)) (.cells #[.int .i64 r.cl, .int .i64 r.st, .int .i64 D.2.k, .int .i64 D.2.t, .int .i64 D.2.h, .int .i64 D.2.e] 57)
   have HX6 : Hid (∀ W, Below ((w5.alloc (.cells #[.int .i64 D.2.k, .int .i64 D.2.t, .int .i64 D.2.h, .int .i64 D.2.e] 55)).alloc (.cells #[.int .i64 r.cl, .int .i64 r.st, .int .i64 D.2.k, .int .i64 D.2.t, .int .i64 D.2.h, .int .i64 D.2.e] 57)).heap.size ((w5.alloc (.cells #[.int .i64 D.2.k, .int .i64 D.2.t, .int .i64 D.2.h, .int .i64 D.2.e] 55)).alloc (.cells #[.int .i64 r.cl, .int .i64 r.st, .int .i64 D.2.k, .int .i64 D.2.t, .int .i64 D.2.h, .int .i64 D.2.e] 57)) W → TM wA W wA.heap.size b D.1 (.slice xa qs.length xc) u3 qs ∧ W.heap[w5.heap.size]? = some (.cells #[.int .i64 D.2.k, .int .i64 D.2.t, .int .i64 D.2.h, .int .i64 D.2.e] 55 (0, 0)) ∧ W.heap[w5.heap.size + 1]? = some (.cells #[.int .i64 r.cl, .int .i64 r.st, .int .i64 D.2.k, .int .i64 D.2.t, .int .i64 D.2.h, .int .i64 D.2.e] 57 (0, 0))) := fun W hW => by
    have b6 := bA.trans (bS.mono bA.size)
    refine ⟨t5.up (b6.trans (hW.mono b6.size)), ?_, ?_⟩
    ·rw [hW.block _ (by simp; omega), bS.block _ (by simp)]; exact blk_new _ _ _
    ·rw [hW.block _ (by simp), ← sA]; exact blk_new _ _ _
   have hq5 := (HBX.out _ (t5.up bA).bel).1
   have c0 := (blk_cell hq5 0 (x := .int .i64 r.cl) rfl).1
   have c1 := (blk_cell hq5 1 (x := .int .i64 r.st) rfl).1
   have hw5 : wA.heap.size ≤ w5.heap.size := t5.bel.size
   clear t5 bA bS sA hq5
   go_upto_region 14 with fail
   clear c0 c1
   generalize ((w5.alloc (.cells #[.int .i64 D.2.k, .int .i64 D.2.t, .int .i64 D.2.h, .int .i64 D.2.e] 55)).alloc (.cells #[.int .i64 r.cl, .int .i64 r.st, .int .i64 D.2.k, .int .i64 D.2.t, .int .i64 D.2.h, .int .i64 D.2.e] 57)) = w6 at HX6 ⊢
   generalize w5.heap.size = ab at HX6 hw5 ⊢
   obtain ⟨U, HU⟩ : ∃ U : Tab, Hid ({ D.1 with ss := putAt X.ss j (sn r D.2) } = U) := ⟨_, rfl⟩
   rw [HU.out] at HAP
   obtain ⟨da, dc, hd3⟩ := OwnS.slice (HX6.out w6 (Below.refl _ _)).1.os
   rw [HDS.out] at hd3
   subst hd3
   have hl6 : ab + 1 < w6.heap.size := (Array.getElem?_eq_some_iff.1 (HX6.out w6 (Below.refl _ _)).2.2).1
   have HS6 : Hid (∀ W, Below w6.heap.size w6 W → (W.cell? ⟨b, 3, none⟩ = some (.slice da X.ss.length dc) ∧ W.cell? ⟨ab + 1, 0, none⟩ = some (.int .i64 r.cl) ∧ W.cell? ⟨ab + 1, 1, none⟩ = some (.int .i64 r.st) ∧ W.cell? ⟨ab + 1, 2, none⟩ = some (.int .i64 D.2.k) ∧ W.cell? ⟨ab + 1, 3, none⟩ = some (.int .i64 D.2.t) ∧ W.cell? ⟨ab + 1, 4, none⟩ = some (.int .i64 D.2.h) ∧ W.cell? ⟨ab + 1, 5, none⟩ = some (.int .i64 D.2.e))) := fun W hW => by
    obtain ⟨e1, _, e3⟩ := HX6.out W hW
    exact ⟨(blk_cell e1.hx 3 rfl).1, (blk_cell e3 0 rfl).1, (blk_cell e3 1 rfl).1, (blk_cell e3 2 rfl).1, (blk_cell e3 3 rfl).1, (blk_cell e3 4 rfl).1, (blk_cell e3 5 rfl).1⟩
   have HOS : Hid (∀ W, Below w6.heap.size w6 W → Wa.OwnS W wA.heap.size (.slice da X.ss.length dc) X.ss) := fun W hW => by
    have := (HX6.out W hW).1.os
    rw [HDS.out] at this
    exact this
   have hjd : j ≤ dc := by
    rcases (HOS.out w6 (Below.refl _ _)).2 with ⟨e, h1⟩ | ⟨g', cap, cur, e, _, _, hc, _⟩
    ·omega
    ·cases e; omega
   have hjI : (j : Int) ≤ (dc : Int) := by omega
   have hjN : (j : Int) ≤ (X.ss.length : Int) := by omega
   have hjn0 : ¬ (j : Int) < 0 := by omega
   clear hl6
   go_upto_region 16 with fail
   refine wp_region_noPanic ?_
   refine wp_region_Z 15 (S := fun W => (W.cell? ⟨b, 3, none⟩ = some (.slice da X.ss.length dc) ∧ W.cell? ⟨ab + 1, 0, none⟩ = some (.int .i64 r.cl) ∧ W.cell? ⟨ab + 1, 1, none⟩ = some (.int .i64 r.st) ∧ W.cell? ⟨ab + 1, 2, none⟩ = some (.int .i64 D.2.k) ∧ W.cell? ⟨ab + 1, 3, none⟩ = some (.int .i64 D.2.t) ∧ W.cell? ⟨ab + 1, 4, none⟩ = some (.int .i64 D.2.h) ∧ W.cell? ⟨ab + 1, 5, none⟩ = some (.int .i64 D.2.e))) (by kernel_rfl) (HS6.out _ (Below.refl w6.heap.size w6).drew) (fun hHeld => ?_)
   refine wpZ_take (i := 1) 2 (oi := ⟨some 111, .fieldAddr 26 (.tmp 8) 3, 0, "l05_locks.go:204", #[], none⟩) (v := ?_) rfl (by kernel_rfl) (by kernel_rfl) (by kernel_rfl) (by kernel_rfl) (fun _ _ _ h => h) (by kernel_rfl) (Or.inl ⟨by rfl, ?_⟩) hHeld ?_
   rotate_left
   ·intro wz hz; (try dsimp only at hz); obtain ⟨y3, k0, k1, k2, k3, k4, k5⟩ := hz; go_simp; try (with_reducible rfl)
   simp only [Act.put, List.setIfInBounds_toArray, List.set_cons_zero, List.set_cons_succ]
   refine wpZ_take (i := 2) 2 (oi := ⟨some 112, .load 24 (.tmp 111), 24, "l05_locks.go:204", #[⟨1, .data⟩], none⟩) (v := ?_) rfl (by kernel_rfl) (by kernel_rfl) (by kernel_rfl) (by kernel_rfl) (fun _ _ _ h => h) (by kernel_rfl) (Or.inl ⟨by rfl, ?_⟩) hHeld ?_
   rotate_left
   ·intro wz hz; (try dsimp only at hz); obtain ⟨y3, k0, k1, k2, k3, k4, k5⟩ := hz; go_simp; try (with_reducible rfl)
   simp only [Act.put, List.setIfInBounds_toArray, List.set_cons_zero, List.set_cons_succ]
   refine wpZ_take (i := 3) 2 (oi := ⟨some 113, .move (.tmp 9), 3, "l05_locks.go:204", #[], none⟩) (v := ?_) rfl (by kernel_rfl) (by kernel_rfl) (by kernel_rfl) (by kernel_rfl) (fun _ _ _ h => h) (by kernel_rfl) (Or.inl ⟨by rfl, ?_⟩) hHeld ?_
   rotate_left
   ·intro wz hz; (try dsimp only at hz); obtain ⟨y3, k0, k1, k2, k3, k4, k5⟩ := hz; go_simp; try (with_reducible rfl)
   simp only [Act.put, List.setIfInBounds_toArray, List.set_cons_zero, List.set_cons_succ]
   refine wpZ_take (i := 4) 2 (oi := ⟨some 114, .slice 24 (.tmp 112) none (some (.tmp 113)) none, 24, "l05_locks.go:204", #[⟨2, .data⟩, ⟨3, .data⟩], none⟩) (v := ?_) rfl (by kernel_rfl) (by kernel_rfl) (by kernel_rfl) (by kernel_rfl) (fun _ _ _ h => h) (by kernel_rfl) (Or.inl ⟨by rfl, ?_⟩) hHeld ?_
   rotate_left
   ·intro wz hz; (try dsimp only at hz); obtain ⟨y3, k0, k1, k2, k3, k4, k5⟩ := hz; go_simp; try (with_reducible rfl)
   simp only [Act.put, List.setIfInBounds_toArray, List.set_cons_zero, List.set_cons_succ]
   refine wpZ_take (i := 6) 2 (oi := ⟨some 116, .load 57 (.tmp 12), 57, "l05_locks.go:204", #[], none⟩) (v := ?_) rfl (by kernel_rfl) (by kernel_rfl) (by kernel_rfl) (by kernel_rfl) (fun _ _ _ h => h) (by kernel_rfl) (Or.inl ⟨by rfl, ?_⟩) hHeld ?_
   rotate_left
   ·intro wz hz; (try dsimp only at hz); obtain ⟨y3, k0, k1, k2, k3, k4, k5⟩ := hz; go_simp; try (with_reducible rfl)
   simp only [Act.put, List.setIfInBounds_toArray, List.set_cons_zero, List.set_cons_succ]
   refine wpZ_take (i := 9) 2 (oi := ⟨some 119, .fieldAddr 26 (.tmp 8) 3, 0, "l05_locks.go:204", #[], none⟩) (v := ?_) rfl (by kernel_rfl) (by kernel_rfl) (by kernel_rfl) (by kernel_rfl) (fun _ _ _ h => h) (by kernel_rfl) (Or.inl ⟨by rfl, ?_⟩) hHeld ?_
   rotate_left
   ·intro wz hz; (try dsimp only at hz); obtain ⟨y3, k0, k1, k2, k3, k4, k5⟩ := hz; go_simp; try (with_reducible rfl)
   simp only [Act.put, List.setIfInBounds_toArray, List.set_cons_zero, List.set_cons_succ]
   refine wpZ_take (i := 10) 2 (oi := ⟨some 120, .load 24 (.tmp 119), 24, "l05_locks.go:204", #[⟨9, .data⟩], none⟩) (v := ?_) rfl (by kernel_rfl) (by kernel_rfl) (by kernel_rfl) (by kernel_rfl) (fun _ _ _ h => h) (by kernel_rfl) (Or.inl ⟨by rfl, ?_⟩) hHeld ?_
   rotate_left
   ·intro wz hz; (try dsimp only at hz); obtain ⟨y3, k0, k1, k2, k3, k4, k5⟩ := hz; go_simp; try (with_reducible rfl)
   simp only [Act.put, List.setIfInBounds_toArray, List.set_cons_zero, List.set_cons_succ]
   refine wpZ_take (i := 11) 2 (oi := ⟨some 121, .move (.tmp 9), 3, "l05_locks.go:204", #[], none⟩) (v := ?_) rfl (by kernel_rfl) (by kernel_rfl) (by kernel_rfl) (by kernel_rfl) (fun _ _ _ h => h) (by kernel_rfl) (Or.inl ⟨by rfl, ?_⟩) hHeld ?_
   rotate_left
   ·intro wz hz; (try dsimp only at hz); obtain ⟨y3, k0, k1, k2, k3, k4, k5⟩ := hz; go_simp; try (with_reducible rfl)
   simp only [Act.put, List.setIfInBounds_toArray, List.set_cons_zero, List.set_cons_succ]
   refine wpZ_take (i := 12) 2 (oi := ⟨some 122, .slice 24 (.tmp 120) (some (.tmp 121)) none none, 24, "l05_locks.go:204", #[⟨10, .data⟩, ⟨11, .data⟩], none⟩) (v := .slice (behindS da dc j) (X.ss.length - j) (dc - j)) rfl (by kernel_rfl) (by kernel_rfl) (by kernel_rfl) (by kernel_rfl) (fun _ _ _ h => h) (by kernel_rfl) (Or.inl ⟨by rfl, ?_⟩) hHeld ?_
   ·intro wz hz; (try dsimp only at hz); obtain ⟨y3, k0, k1, k2, k3, k4, k5⟩ := hz; unfold behindS; go_simp; try (with_reducible rfl)
   simp only [Act.put, List.setIfInBounds_toArray, List.set_cons_zero, List.set_cons_succ]
   refine wpZ_ready (rs := [0, 7]) (by kernel_rfl) (by simp) ?_
   refine (ReadyZ.cons (o := ⟨some 110, .buildSlice 24 0 #[], 24, "l05_locks.go:204", #[], none⟩) rfl (fun K hK => ?_) (ReadyZ.cons (o := ⟨some 117, .buildSlice 24 1 #[(0, Operand.tmp 116)], 24, "l05_locks.go:204", #[⟨6, .data⟩], none⟩) rfl (fun K hK => ?_) ReadyZ.nil))
   focus
    go_simp
    refine hK.out _ _ ?_ (fun hHeld => ?_)
    ·exact HS6.out _ ((Below.refl w6.heap.size w6).drew.alloc (Below.refl w6.heap.size w6).drew.size _)
    clear hK K
    (try simp only [Act.put, List.setIfInBounds_toArray, List.set_cons_zero, List.set_cons_succ])
    have oE : Wa.OwnS (w6.drew.alloc (.cells #[] 57)) w6.heap.size (.slice (some ⟨w6.heap.size, 0, none⟩) 0 0) [] := (by rw [show (w6.heap.size : Nat) = w6.drew.heap.size by simp]; exact OwnS.made _ _ (Below.refl w6.heap.size w6).drew.size)
    have bE : Below w6.heap.size w6 (w6.drew.alloc (.cells #[] 57)) := ((Below.refl w6.heap.size w6).drew.alloc (Below.refl w6.heap.size w6).drew.size _)
    refine wpZ_ready (rs := [5, 7]) (by kernel_rfl) (by simp) ?_
    refine (ReadyZ.cons (o := ⟨some 115, .call { callee := Callee.builtin Builtin.append, args := #[Operand.tmp 110, Operand.tmp 114], argTypes := #[24, 24] }, 24, "l05_locks.go:204", #[⟨0, .data⟩, ⟨4, .data⟩], none⟩) rfl (fun K hK => ?_) (ReadyZ.cons (o := ⟨some 117, .buildSlice 24 1 #[(0, Operand.tmp 116)], 24, "l05_locks.go:204", #[⟨6, .data⟩], none⟩) rfl (fun K hK => ?_) ReadyZ.nil))
    focus
     refine step_sk (by rfl) _ _ 24 (by rfl) Tryd.underlying24 hsi0 sz0 sz1 sz2 _ oE (src_take2S (HOS.out _ bE) (k := j) (by omega)) bE.size (by simp; omega) (by rfl) (by rfl) ?_
     intro v57 w57 o57 b57 f57
     have c57 : Below w6.heap.size w6 w57 := bE.trans b57
     refine hK.out _ _ ?_ (fun hHeld => ?_)
     ·exact HS6.out _ c57
     clear hK K
     (try simp only [Act.put, List.setIfInBounds_toArray, List.set_cons_zero, List.set_cons_succ])
     refine wpZ_ready (rs := [7]) (by kernel_rfl) (by simp) ?_
     refine (ReadyZ.cons (o := ⟨some 117, .buildSlice 24 1 #[(0, Operand.tmp 116)], 24, "l05_locks.go:204", #[⟨6, .data⟩], none⟩) rfl (fun K hK => ?_) ReadyZ.nil)
     go_simp
     refine hK.out _ _ ?_ (fun hHeld => ?_)
     ·exact HS6.out _ (c57.alloc c57.size _)
     clear hK K
     (try simp only [Act.put, List.setIfInBounds_toArray, List.set_cons_zero, List.set_cons_succ])
     have qY : SrcS (w57.alloc (.cells #[.int .i64 r.cl, .int .i64 r.st, .int .i64 D.2.k, .int .i64 D.2.t, .int .i64 D.2.h, .int .i64 D.2.e] 57)) (.slice (some ⟨w57.heap.size, 0, none⟩) 1 1) [sn r D.2] := (by rw [show (w57.heap.size : Nat) = w57.heap.size by simp]; exact src_oneS (sn r D.2))
     have bY : Below w6.heap.size w6 (w57.alloc (.cells #[.int .i64 r.cl, .int .i64 r.st, .int .i64 D.2.k, .int .i64 D.2.t, .int .i64 D.2.h, .int .i64 D.2.e] 57)) := (c57.alloc c57.size _)
     have oY := OwnS.below o57 (bel_new _ (.cells #[.int .i64 r.cl, .int .i64 r.st, .int .i64 D.2.k, .int .i64 D.2.t, .int .i64 D.2.h, .int .i64 D.2.e] 57))
     refine wpZ_ready (rs := [8]) (by kernel_rfl) (by simp) ?_
     refine (ReadyZ.cons (o := ⟨some 118, .call { callee := Callee.builtin Builtin.append, args := #[Operand.tmp 115, Operand.tmp 117], argTypes := #[24, 24] }, 24, "l05_locks.go:204", #[⟨5, .data⟩, ⟨7, .data⟩, ⟨5, .chain⟩], none⟩) rfl (fun K hK => ?_) ReadyZ.nil)
     refine step_sk (by rfl) _ _ 24 (by rfl) Tryd.underlying24 hsi0 sz0 sz1 sz2 _ oY qY bY.size (by simp; omega) (by rfl) (by rfl) ?_
     intro v60 w60 o60 b60 f60
     have c60 : Below w6.heap.size w6 w60 := bY.trans b60
    rotate_left
    focus
     go_simp
     refine hK.out _ _ ?_ (fun hHeld => ?_)
     ·exact HS6.out _ (bE.alloc bE.size _)
     clear hK K
     (try simp only [Act.put, List.setIfInBounds_toArray, List.set_cons_zero, List.set_cons_succ])
     have qY : SrcS ((w6.drew.alloc (.cells #[] 57)).alloc (.cells #[.int .i64 r.cl, .int .i64 r.st, .int .i64 D.2.k, .int .i64 D.2.t, .int .i64 D.2.h, .int .i64 D.2.e] 57)) (.slice (some ⟨w6.heap.size + 1, 0, none⟩) 1 1) [sn r D.2] := (by rw [show (w6.heap.size + 1 : Nat) = (w6.drew.alloc (.cells #[] 57)).heap.size by simp]; exact src_oneS (sn r D.2))
     have bY : Below w6.heap.size w6 ((w6.drew.alloc (.cells #[] 57)).alloc (.cells #[.int .i64 r.cl, .int .i64 r.st, .int .i64 D.2.k, .int .i64 D.2.t, .int .i64 D.2.h, .int .i64 D.2.e] 57)) := (bE.alloc bE.size _)
     have oY := OwnS.below oE (bel_new _ (.cells #[.int .i64 r.cl, .int .i64 r.st, .int .i64 D.2.k, .int .i64 D.2.t, .int .i64 D.2.h, .int .i64 D.2.e] 57))
     refine wpZ_ready (rs := [5]) (by kernel_rfl) (by simp) ?_
     refine (ReadyZ.cons (o := ⟨some 115, .call { callee := Callee.builtin Builtin.append, args := #[Operand.tmp 110, Operand.tmp 114], argTypes := #[24, 24] }, 24, "l05_locks.go:204", #[⟨0, .data⟩, ⟨4, .data⟩], none⟩) rfl (fun K hK => ?_) ReadyZ.nil)
     refine step_sk (by rfl) _ _ 24 (by rfl) Tryd.underlying24 hsi0 sz0 sz1 sz2 _ oY (src_take2S (HOS.out _ bY) (k := j) (by omega)) bY.size (by simp; omega) (by rfl) (by rfl) ?_
     intro v57 w57 o57 b57 f57
     have c57 : Below w6.heap.size w6 w57 := bY.trans b57
     have q57 := SrcS.kept qY (W' := w57) (fun b hb => f57 b (by cases hb; simp <;> omega) (by cases hb; simp [Value.ownBlock]))
     refine hK.out _ _ ?_ (fun hHeld => ?_)
     ·exact HS6.out _ c57
     clear hK K
     (try simp only [Act.put, List.setIfInBounds_toArray, List.set_cons_zero, List.set_cons_succ])
     refine wpZ_ready (rs := [8]) (by kernel_rfl) (by simp) ?_
     refine (ReadyZ.cons (o := ⟨some 118, .call { callee := Callee.builtin Builtin.append, args := #[Operand.tmp 115, Operand.tmp 117], argTypes := #[24, 24] }, 24, "l05_locks.go:204", #[⟨5, .data⟩, ⟨7, .data⟩, ⟨5, .chain⟩], none⟩) rfl (fun K hK => ?_) ReadyZ.nil)
     refine step_sk (by rfl) _ _ 24 (by rfl) Tryd.underlying24 hsi0 sz0 sz1 sz2 _ o57 q57 c57.size (by simp; omega) (by rfl) (by rfl) ?_
     intro v60 w60 o60 b60 f60
     have c60 : Below w6.heap.size w6 w60 := c57.trans b60
    rotate_left
   rotate_left 2
   focus
    go_simp
    refine hK.out _ _ ?_ (fun hHeld => ?_)
    ·exact HS6.out _ ((Below.refl w6.heap.size w6).drew.alloc (Below.refl w6.heap.size w6).drew.size _)
    clear hK K
    (try simp only [Act.put, List.setIfInBounds_toArray, List.set_cons_zero, List.set_cons_succ])
    have qY : SrcS (w6.drew.alloc (.cells #[.int .i64 r.cl, .int .i64 r.st, .int .i64 D.2.k, .int .i64 D.2.t, .int .i64 D.2.h, .int .i64 D.2.e] 57)) (.slice (some ⟨w6.heap.size, 0, none⟩) 1 1) [sn r D.2] := (by rw [show (w6.heap.size : Nat) = w6.drew.heap.size by simp]; exact src_oneS (sn r D.2))
    have bY : Below w6.heap.size w6 (w6.drew.alloc (.cells #[.int .i64 r.cl, .int .i64 r.st, .int .i64 D.2.k, .int .i64 D.2.t, .int .i64 D.2.h, .int .i64 D.2.e] 57)) := ((Below.refl w6.heap.size w6).drew.alloc (Below.refl w6.heap.size w6).drew.size _)
    refine wpZ_ready (rs := [0]) (by kernel_rfl) (by simp) ?_
    refine (ReadyZ.cons (o := ⟨some 110, .buildSlice 24 0 #[], 24, "l05_locks.go:204", #[], none⟩) rfl (fun K hK => ?_) ReadyZ.nil)
    go_simp
    refine hK.out _ _ ?_ (fun hHeld => ?_)
    ·exact HS6.out _ (bY.alloc bY.size _)
    clear hK K
    (try simp only [Act.put, List.setIfInBounds_toArray, List.set_cons_zero, List.set_cons_succ])
    have oE : Wa.OwnS ((w6.drew.alloc (.cells #[.int .i64 r.cl, .int .i64 r.st, .int .i64 D.2.k, .int .i64 D.2.t, .int .i64 D.2.h, .int .i64 D.2.e] 57)).alloc (.cells #[] 57)) w6.heap.size (.slice (some ⟨w6.heap.size + 1, 0, none⟩) 0 0) [] := (by rw [show (w6.heap.size + 1 : Nat) = (w6.drew.alloc (.cells #[.int .i64 r.cl, .int .i64 r.st, .int .i64 D.2.k, .int .i64 D.2.t, .int .i64 D.2.h, .int .i64 D.2.e] 57)).heap.size by simp]; exact OwnS.made _ _ bY.size)
    have bE : Below w6.heap.size w6 ((w6.drew.alloc (.cells #[.int .i64 r.cl, .int .i64 r.st, .int .i64 D.2.k, .int .i64 D.2.t, .int .i64 D.2.h, .int .i64 D.2.e] 57)).alloc (.cells #[] 57)) := (bY.alloc bY.size _)
    have qE := SrcS.below qY (bel_new (w6.drew.alloc (.cells #[.int .i64 r.cl, .int .i64 r.st, .int .i64 D.2.k, .int .i64 D.2.t, .int .i64 D.2.h, .int .i64 D.2.e] 57)) (.cells #[] 57)) (fun b hb => by cases hb; simp <;> omega)
    refine wpZ_ready (rs := [5]) (by kernel_rfl) (by simp) ?_
    refine (ReadyZ.cons (o := ⟨some 115, .call { callee := Callee.builtin Builtin.append, args := #[Operand.tmp 110, Operand.tmp 114], argTypes := #[24, 24] }, 24, "l05_locks.go:204", #[⟨0, .data⟩, ⟨4, .data⟩], none⟩) rfl (fun K hK => ?_) ReadyZ.nil)
    refine step_sk (by rfl) _ _ 24 (by rfl) Tryd.underlying24 hsi0 sz0 sz1 sz2 _ oE (src_take2S (HOS.out _ bE) (k := j) (by omega)) bE.size (by simp; omega) (by rfl) (by rfl) ?_
    intro v57 w57 o57 b57 f57
    have c57 : Below w6.heap.size w6 w57 := bE.trans b57
    have q57 := SrcS.kept qE (W' := w57) (fun b hb => f57 b (by cases hb; simp <;> omega) (by cases hb; simp [Value.ownBlock]))
    refine hK.out _ _ ?_ (fun hHeld => ?_)
    ·exact HS6.out _ c57
    clear hK K
    (try simp only [Act.put, List.setIfInBounds_toArray, List.set_cons_zero, List.set_cons_succ])
    refine wpZ_ready (rs := [8]) (by kernel_rfl) (by simp) ?_
    refine (ReadyZ.cons (o := ⟨some 118, .call { callee := Callee.builtin Builtin.append, args := #[Operand.tmp 115, Operand.tmp 117], argTypes := #[24, 24] }, 24, "l05_locks.go:204", #[⟨5, .data⟩, ⟨7, .data⟩, ⟨5, .chain⟩], none⟩) rfl (fun K hK => ?_) ReadyZ.nil)
    refine step_sk (by rfl) _ _ 24 (by rfl) Tryd.underlying24 hsi0 sz0 sz1 sz2 _ o57 q57 c57.size (by simp; omega) (by rfl) (by rfl) ?_
    intro v60 w60 o60 b60 f60
    have c60 : Below w6.heap.size w6 w60 := c57.trans b60
   rotate_left
   all_goals
    refine hK.out _ _ ?_ (fun hHeld => ?_)
    ·exact HS6.out _ c60
    clear hK K
    (try simp only [Act.put, List.setIfInBounds_toArray, List.set_cons_zero, List.set_cons_succ])
    refine wpZ_ready (rs := [13]) (by kernel_rfl) (by simp) ?_
    refine (ReadyZ.cons (o := ⟨some 123, .call { callee := Callee.builtin Builtin.append, args := #[Operand.tmp 118, Operand.tmp 122], argTypes := #[24, 24] }, 24, "l05_locks.go:204", #[⟨8, .data⟩, ⟨12, .data⟩, ⟨8, .chain⟩], none⟩) rfl (fun K hK => ?_) ReadyZ.nil)
    refine step_sk (by rfl) _ _ 24 (by rfl) Tryd.underlying24 hsi0 sz0 sz1 sz2 _ o60 (src_drop2S (HOS.out _ c60) (k := j) (by omega)) c60.size (by simp; omega) (by rfl) (by rfl) ?_
    intro v67 w67 o67 b67 f67
    replace o67 : Wa.OwnS w67 w6.heap.size v67 (putAt X.ss j (sn r D.2)) := (by unfold putAt; simpa using o67)
    obtain ⟨a67, k67, rfl⟩ := OwnS.slice o67
    have c67 : Below w6.heap.size w6 w67 := c60.trans b67
    refine hK.out _ _ ?_ (fun hHeld => ?_)
    ·exact HS6.out _ c67
    clear hK K
    (try simp only [Act.put, List.setIfInBounds_toArray, List.set_cons_zero, List.set_cons_succ])
    refine wpZ_take (i := 14) 2 (oi := ⟨some 124, .fieldAddr 26 (.tmp 8) 3, 0, "l05_locks.go:204", #[⟨0, .phase⟩, ⟨1, .phase⟩, ⟨2, .phase⟩, ⟨3, .phase⟩, ⟨4, .phase⟩, ⟨5, .phase⟩, ⟨6, .phase⟩, ⟨7, .phase⟩, ⟨8, .phase⟩, ⟨9, .phase⟩, ⟨10, .phase⟩, ⟨11, .phase⟩, ⟨12, .phase⟩, ⟨13, .phase⟩], none⟩) (v := ?_) rfl (by kernel_rfl) (by kernel_rfl) (by kernel_rfl) (by kernel_rfl) (fun _ _ _ h => h) (by kernel_rfl) (Or.inl ⟨by rfl, ?_⟩) hHeld ?_
    rotate_left
    ·intro wz hz; (try dsimp only at hz); obtain ⟨y3, k0, k1, k2, k3, k4, k5⟩ := hz; go_simp; try (with_reducible rfl)
    simp only [Act.put, List.setIfInBounds_toArray, List.set_cons_zero, List.set_cons_succ]
    refine wpZ_ready (rs := [15]) (by kernel_rfl) (by simp) ?_
    refine ReadyZ.last (o := ⟨none, .store 24 (.tmp 124) (.tmp 123), 0, "l05_locks.go:204", #[⟨14, .data⟩, ⟨13, .data⟩, ⟨13, .chain⟩, ⟨0, .phase⟩, ⟨1, .phase⟩, ⟨2, .phase⟩, ⟨3, .phase⟩, ⟨4, .phase⟩, ⟨5, .phase⟩, ⟨6, .phase⟩, ⟨7, .phase⟩, ⟨8, .phase⟩, ⟨9, .phase⟩, ⟨10, .phase⟩, ⟨11, .phase⟩, ⟨12, .phase⟩, ⟨13, .phase⟩], none⟩) rfl (fun K hK => ?_)
    have s67 := (HX6.out _ c67).1
    obtain ⟨z2, f2⟩ := blk_cell s67.hx 3 (x := .slice da X.ss.length dc) rfl
    go_simp
    refine hK.out _ _ ?_
    clear hK K
    (try simp only [Act.put, List.setIfInBounds_toArray, List.set_cons_zero, List.set_cons_succ])
    refine wpZ_done (by kernel_rfl) ?_ _
    refine NoPanic.normal ?_
    have h66 := HX6.out w6 (Below.refl _ _)
    have T7 := h66.1.sreloc c67 (OwnS.mono o67 h66.1.size)
    have h67 := HX6.out _ c67
    have Q7 : Hid ((w67.setCell ⟨b, 3, none⟩ (.slice a67 (putAt X.ss j (sn r D.2)).length k67)).heap[ab]? = some (.cells #[.int .i64 D.2.k, .int .i64 D.2.t, .int .i64 D.2.h, .int .i64 D.2.e] 55 (0, 0))) := (blk_far (kind_ne h67.2.1 h67.1.hx (by decide)) _ _).trans h67.2.1
    have HTF : Hid (TM wA (w67.setCell ⟨b, 3, none⟩ (.slice a67 (putAt X.ss j (sn r D.2)).length k67)) wA.heap.size b U (.slice xa qs.length xc) (.slice a67 (putAt X.ss j (sn r D.2)).length k67) qs) := by
     rw [← HU.out]; exact T7
    clear T7 h66 h67 s67 z2 f2 c67 o67 hHeld HX6 HS6 HOS
    generalize w67.setCell ⟨b, 3, none⟩ (.slice a67 (putAt X.ss j (sn r D.2)).length k67) = w7 at HTF Q7 ⊢
    have HS7 : Hid (∀ W : World, (∀ i, wA.heap.size ≤ i → W.heap[i]? = w7.heap[i]?) → (W.cell? ⟨b, 0, none⟩ = some (.int .i64 U.tm) ∧ W.cell? ⟨b, 1, none⟩ = some (.int .i64 U.nx) ∧ W.cell? ⟨b, 2, none⟩ = some (.slice xa qs.length xc) ∧ W.cell? ⟨b, 3, none⟩ = some (.slice a67 (putAt X.ss j (sn r D.2)).length k67)) ∧ W.cell? ⟨ab, 0, none⟩ = some (.int .i64 D.2.k) ∧ W.cell? ⟨ab, 1, none⟩ = some (.int .i64 D.2.t) ∧ W.cell? ⟨ab, 2, none⟩ = some (.int .i64 D.2.h) ∧ W.cell? ⟨ab, 3, none⟩ = some (.int .i64 D.2.e)) := fun W hW => by
     have e1 := (hW b hbA).trans HTF.out.hx
     have e2 := (hW ab hw5).trans Q7.out
     exact ⟨⟨(blk_cell e1 0 rfl).1, (blk_cell e1 1 rfl).1, (blk_cell e1 2 rfl).1, (blk_cell e1 3 rfl).1⟩, (blk_cell e2 0 rfl).1, (blk_cell e2 1 rfl).1, (blk_cell e2 2 rfl).1, (blk_cell e2 3 rfl).1⟩
    go_upto_region 17 with fail
    have hbx := HBX.out _ HTF.out.bel
    obtain ⟨zt0, ft0⟩ := blk_cell hbx.2.1 0 (x := .int .i64 0) rfl
    obtain ⟨zt1, ft1⟩ := blk_cell hbx.2.1 1 (x := .int .i64 0) rfl
    obtain ⟨zt2, ft2⟩ := blk_cell hbx.2.1 2 (x := .slice none 0 0) rfl
    obtain ⟨zt3, ft3⟩ := blk_cell hbx.2.1 3 (x := .slice none 0 0) rfl
    obtain ⟨za0, fa0⟩ := blk_cell hbx.2.2.1 0 (x := .int .i64 0) rfl
    obtain ⟨za1, fa1⟩ := blk_cell hbx.2.2.1 1 (x := .int .i64 0) rfl
    obtain ⟨za2, fa2⟩ := blk_cell hbx.2.2.1 2 (x := .int .i64 0) rfl
    obtain ⟨za3, fa3⟩ := blk_cell hbx.2.2.1 3 (x := .int .i64 0) rfl
    clear hbx
    refine wp_region_noPanic ?_
    refine wp_region_Z 3 (S := fun W => (W.cell? ⟨b, 0, none⟩ = some (.int .i64 U.tm) ∧ W.cell? ⟨b, 1, none⟩ = some (.int .i64 U.nx) ∧ W.cell? ⟨b, 2, none⟩ = some (.slice xa qs.length xc) ∧ W.cell? ⟨b, 3, none⟩ = some (.slice a67 (putAt X.ss j (sn r D.2)).length k67)) ∧ W.cell? ⟨ab, 0, none⟩ = some (.int .i64 D.2.k) ∧ W.cell? ⟨ab, 1, none⟩ = some (.int .i64 D.2.t) ∧ W.cell? ⟨ab, 2, none⟩ = some (.int .i64 D.2.h) ∧ W.cell? ⟨ab, 3, none⟩ = some (.int .i64 D.2.e)) (by kernel_rfl) (HS7.out _ (fun _ _ => rfl)) (fun hHeld => ?_)
    refine wpZ_take (i := 0) 2 (oi := ⟨some 125, .load 26 (.tmp 8), 26, "l05_locks.go:206", #[], none⟩) (v := ?_) rfl (by kernel_rfl) (by kernel_rfl) (by kernel_rfl) (by kernel_rfl) (fun _ _ _ h => h) (by kernel_rfl) (Or.inl ⟨by rfl, ?_⟩) hHeld ?_
    rotate_left
    ·intro wz hz; (try dsimp only at hz); obtain ⟨⟨y0, y1, y2, y3⟩, y4, y5, y6, y7⟩ := hz; go_simp; try (with_reducible rfl)
    simp only [Act.put, List.setIfInBounds_toArray, List.set_cons_zero, List.set_cons_succ]
    refine wpZ_take (i := 1) 2 (oi := ⟨some 126, .load 55 (.tmp 11), 55, "l05_locks.go:206", #[⟨2, .gcOnly .lateStores⟩], none⟩) (v := ?_) rfl (by kernel_rfl) (by kernel_rfl) (by kernel_rfl) (by kernel_rfl) (fun _ _ _ h => h) (by kernel_rfl) (Or.inl ⟨by rfl, ?_⟩) hHeld ?_
    rotate_left
    ·intro wz hz; (try dsimp only at hz); obtain ⟨⟨y0, y1, y2, y3⟩, y4, y5, y6, y7⟩ := hz; go_simp; try (with_reducible rfl)
    simp only [Act.put, List.setIfInBounds_toArray, List.set_cons_zero, List.set_cons_succ]
    refine wpZ_ready (rs := [2]) (by kernel_rfl) (by simp) ?_
    refine (ReadyZ.cons (o := ⟨none, .store 26 (.tmp 6) (.tmp 125), 0, "l05_locks.go:206", #[⟨0, .data⟩, ⟨0, .phase⟩, ⟨1, .textOnly .lateStores⟩], none⟩) rfl (fun K hK => ?_) ReadyZ.nil)
    go_simp
    refine hK.out _ _ ?_ (fun hHeld => ?_)
    ·exact HS7.out _ (fun i hi => far4 (w := w7.drew) (by omega) _ _ _ _)
    clear hK K
    (try simp only [Act.put, List.setIfInBounds_toArray, List.set_cons_zero, List.set_cons_succ])
    refine wpZ_ready (rs := [3]) (by kernel_rfl) (by simp) ?_
    refine ReadyZ.last (o := ⟨none, .store 55 (.tmp 7) (.tmp 126), 0, "l05_locks.go:206", #[⟨1, .data⟩, ⟨2, .chain⟩, ⟨0, .phase⟩, ⟨1, .phase⟩, ⟨2, .phase⟩], none⟩) rfl (fun K hK => ?_)
    go_simp
    refine hK.out _ _ ?_
    clear hK K
    (try simp only [Act.put, List.setIfInBounds_toArray, List.set_cons_zero, List.set_cons_succ])
    refine wpZ_done (by kernel_rfl) ?_ _
    refine NoPanic.normal ?_
    clear hHeld HS7
    go_wp2_with fail
    have S44 := (set44 (w := w7) (a := w.heap.size + 1 + 1) (b := w.heap.size + 1 + 1 + 1) (.int .i64 0) (.int .i64 0) (.slice none 0 0) (.slice none 0 0) (.int .i64 0) (.int .i64 0) (.int .i64 0) (.int .i64 0) (.int .i64 U.tm) (.int .i64 U.nx) ((.slice xa qs.length xc)) ((.slice a67 (putAt X.ss j (sn r D.2)).length k67)) (.int .i64 D.2.k) (.int .i64 D.2.t) (.int .i64 D.2.h) (.int .i64 D.2.e) (by omega) (HBX.out _ (HTF.out.bel)).2.1 (HBX.out _ (HTF.out.bel)).2.2.1).1
    obtain ⟨AF, BF, FF, LF⟩ := S44
    have KF : Hid (OwnL ((((((((w7.setCell ⟨w.heap.size + 1 + 1, 0, none⟩ (.int .i64 U.tm)).setCell ⟨w.heap.size + 1 + 1, 1, none⟩ (.int .i64 U.nx)).setCell ⟨w.heap.size + 1 + 1, 2, none⟩ ((.slice xa qs.length xc))).setCell ⟨w.heap.size + 1 + 1, 3, none⟩ ((.slice a67 (putAt X.ss j (sn r D.2)).length k67))).setCell ⟨w.heap.size + 1 + 1 + 1, 0, none⟩ (.int .i64 D.2.k)).setCell ⟨w.heap.size + 1 + 1 + 1, 1, none⟩ (.int .i64 D.2.t)).setCell ⟨w.heap.size + 1 + 1 + 1, 2, none⟩ (.int .i64 D.2.h)).setCell ⟨w.heap.size + 1 + 1 + 1, 3, none⟩ (.int .i64 D.2.e)) w.heap.size (.slice xa qs.length xc) qs ∧ (∀ p ∈ qs, Wa.OwnW ((((((((w7.setCell ⟨w.heap.size + 1 + 1, 0, none⟩ (.int .i64 U.tm)).setCell ⟨w.heap.size + 1 + 1, 1, none⟩ (.int .i64 U.nx)).setCell ⟨w.heap.size + 1 + 1, 2, none⟩ ((.slice xa qs.length xc))).setCell ⟨w.heap.size + 1 + 1, 3, none⟩ ((.slice a67 (putAt X.ss j (sn r D.2)).length k67))).setCell ⟨w.heap.size + 1 + 1 + 1, 0, none⟩ (.int .i64 D.2.k)).setCell ⟨w.heap.size + 1 + 1 + 1, 1, none⟩ (.int .i64 D.2.t)).setCell ⟨w.heap.size + 1 + 1 + 1, 2, none⟩ (.int .i64 D.2.h)).setCell ⟨w.heap.size + 1 + 1 + 1, 3, none⟩ (.int .i64 D.2.e)) w.heap.size (uV p) p.1.ws) ∧ Wa.OwnS ((((((((w7.setCell ⟨w.heap.size + 1 + 1, 0, none⟩ (.int .i64 U.tm)).setCell ⟨w.heap.size + 1 + 1, 1, none⟩ (.int .i64 U.nx)).setCell ⟨w.heap.size + 1 + 1, 2, none⟩ ((.slice xa qs.length xc))).setCell ⟨w.heap.size + 1 + 1, 3, none⟩ ((.slice a67 (putAt X.ss j (sn r D.2)).length k67))).setCell ⟨w.heap.size + 1 + 1 + 1, 0, none⟩ (.int .i64 D.2.k)).setCell ⟨w.heap.size + 1 + 1 + 1, 1, none⟩ (.int .i64 D.2.t)).setCell ⟨w.heap.size + 1 + 1 + 1, 2, none⟩ (.int .i64 D.2.h)).setCell ⟨w.heap.size + 1 + 1 + 1, 3, none⟩ (.int .i64 D.2.e)) w.heap.size (.slice a67 (putAt X.ss j (sn r D.2)).length k67) U.ss ∧ qs.map (·.1) = U.ls ∧ Apart qs) := TM.fin HTF.out (by omega) (fun j hj => FF j (by omega) (by omega))
    have LFH : Hid (Below w.heap.size w ((((((((w7.setCell ⟨w.heap.size + 1 + 1, 0, none⟩ (.int .i64 U.tm)).setCell ⟨w.heap.size + 1 + 1, 1, none⟩ (.int .i64 U.nx)).setCell ⟨w.heap.size + 1 + 1, 2, none⟩ ((.slice xa qs.length xc))).setCell ⟨w.heap.size + 1 + 1, 3, none⟩ ((.slice a67 (putAt X.ss j (sn r D.2)).length k67))).setCell ⟨w.heap.size + 1 + 1 + 1, 0, none⟩ (.int .i64 D.2.k)).setCell ⟨w.heap.size + 1 + 1 + 1, 1, none⟩ (.int .i64 D.2.t)).setCell ⟨w.heap.size + 1 + 1 + 1, 2, none⟩ (.int .i64 D.2.h)).setCell ⟨w.heap.size + 1 + 1 + 1, 3, none⟩ (.int .i64 D.2.e))) := LF (HBX.out _ (HTF.out.bel)).2.2.2 (by omega) (by omega)
    generalize ((((((((w7.setCell ⟨w.heap.size + 1 + 1, 0, none⟩ (.int .i64 U.tm)).setCell ⟨w.heap.size + 1 + 1, 1, none⟩ (.int .i64 U.nx)).setCell ⟨w.heap.size + 1 + 1, 2, none⟩ ((.slice xa qs.length xc))).setCell ⟨w.heap.size + 1 + 1, 3, none⟩ ((.slice a67 (putAt X.ss j (sn r D.2)).length k67))).setCell ⟨w.heap.size + 1 + 1 + 1, 0, none⟩ (.int .i64 D.2.k)).setCell ⟨w.heap.size + 1 + 1 + 1, 1, none⟩ (.int .i64 D.2.t)).setCell ⟨w.heap.size + 1 + 1 + 1, 2, none⟩ (.int .i64 D.2.h)).setCell ⟨w.heap.size + 1 + 1 + 1, 3, none⟩ (.int .i64 D.2.e)) = wf at AF BF KF LFH ⊢
    have d0 := (blk_cell AF 0 (x := .int .i64 U.tm) rfl).1
    have d1 := (blk_cell AF 1 (x := .int .i64 U.nx) rfl).1
    have d2 := (blk_cell AF 2 (x := (.slice xa qs.length xc)) rfl).1
    have d3 := (blk_cell AF 3 (x := (.slice a67 (putAt X.ss j (sn r D.2)).length k67)) rfl).1
    have e0 := (blk_cell BF 0 (x := .int .i64 D.2.k) rfl).1
    have e1 := (blk_cell BF 1 (x := .int .i64 D.2.t) rfl).1
    have e2 := (blk_cell BF 2 (x := .int .i64 D.2.h) rfl).1
    have e3 := (blk_cell BF 3 (x := .int .i64 D.2.e) rfl).1
    refine bodyPost_ret (v := .tuple #[.agg #[.int .i64 U.tm, .int .i64 U.nx, (.slice xa qs.length xc), (.slice a67 (putAt X.ss j (sn r D.2)).length k67)], .agg #[.int .i64 D.2.k, .int .i64 D.2.t, .int .i64 D.2.h, .int .i64 D.2.e]]) (by simp [results, Tryd.results81, go_sem, d0, d1, d2, d3, e0, e1, e2, e3]) rfl ?_
    refine ⟨⟨(.slice xa qs.length xc), (.slice a67 (putAt X.ss j (sn r D.2)).length k67), qs, ?_, KF.out.1, KF.out.2.1, ?_, ?_, KF.out.2.2.2.2⟩, (by first | exact LFH.out | exact LFH.out.drew)⟩
    ·rw [HAP.out]
    ·rw [HAP.out]; exact KF.out.2.2.1
    ·rw [HAP.out]; exact KF.out.2.2.2.1
end Go.Proofs.YtakfniknkejgpaaDoor.Ea
