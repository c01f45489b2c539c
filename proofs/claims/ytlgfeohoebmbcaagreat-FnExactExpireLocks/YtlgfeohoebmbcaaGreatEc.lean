/- l05Expire: time goes on in a table. -/
import Derived.Test.YtlgfeohoebmbcaaGreatEb
import Derived.Test.YtlgfeohoebmbcaaGreatLo
import Derived.BigQuiet
namespace Go.Proofs.YtlgfeohoebmbcaaGreat.Ea
open Go.RowKit Go.Proofs.YtlgfeohoebmbcaaGreat.Sl Go.Proofs.YtlgfeohoebmbcaaGreat.By Go.Proofs.YtlgfeohoebmbcaaGreat.Ap Go.Proofs.YtlgfeohoebmbcaaGreat.Tb Go.Proofs.YtlgfeohoebmbcaaGreat.Tw Go.Proofs.YtlgfeohoebmbcaaGreat.Mw Go.Proofs.YtlgfeohoebmbcaaGreat.Wa Go.Proofs.YtlgfeohoebmbcaaGreat.Tp Go.Proofs.YtlgfeohoebmbcaaGreat.Da
open Go.Proofs.YtlgfeohoebmbcaaGreat.Lo (LkA uV clL OwnL OwnL.kept OwnL.lt OwnL.below OwnL.row OwnL.slice OwnL.mono own_block kind_ne Apart l05Own_all)
open Go.Proofs.YtlgfeohoebmbcaaGreat.Tx (blk_cell blk_set blk_far blk_new bel_new)

/-- The locks when the first k have had their turn. -/
def mid (tm nx : Int) (ls : List Lk) (k : Nat) : List Lk := ls.mapIdx fun i y => if i < k then exK tm nx ls i y else y
theorem mid_at (tm nx : Int) (ls : List Lk) (k i : Nat) : (mid tm nx ls k)[i]? = (ls[i]?).map fun y => if i < k then exK tm nx ls i y else y := by unfold mid; rw [List.getElem?_mapIdx]
theorem mid_0 (tm nx : Int) (ls : List Lk) : mid tm nx ls 0 = ls := by
  apply List.ext_getElem? fun i => ?_
  rw [mid_at]
  cases ls[i]? <;> rfl
theorem mid_len (tm nx : Int) (ls : List Lk) (k : Nat) : (mid tm nx ls k).length = ls.length := by unfold mid; simp
theorem mid_all (tm nx : Int) (ls : List Lk) : mid tm nx ls ls.length = exL tm nx ls := by
  apply List.ext_getElem? fun i => ?_
  rw [mid_at]
  unfold exL
  rw [List.getElem?_mapIdx]
  cases h : ls[i]? with
  | none => rfl
  | some y => simp only [Option.map_some]; rw [if_pos (List.getElem?_eq_some_iff.1 h).1]
theorem mid_set {tm nx : Int} {ls : List Lk} {k : Nat} {y : Lk} (h : ls[k]? = some y) : mid tm nx ls (k + 1) = (mid tm nx ls k).set k (exK tm nx ls k y) := by
  apply List.ext_getElem? fun i => ?_
  rw [mid_at, List.getElem?_set, mid_at, mid_len]
  have hk := (List.getElem?_eq_some_iff.1 h).1
  by_cases e : k = i
  · subst e
    rw [if_pos rfl, if_pos hk, h]
    simp
  · rw [if_neg e]
    cases ls[i]? with
    | none => rfl
    | some z =>
      simp only [Option.map_some]
      by_cases hi : i < k
      · rw [if_pos hi, if_pos (by omega)]
      · rw [if_neg hi, if_neg (by omega)]
theorem mid_here {tm nx : Int} {ls : List Lk} {k : Nat} {y : Lk} (h : ls[k]? = some y) : (mid tm nx ls k)[k]? = some y := by rw [mid_at, h]; simp
theorem mid_same {tm nx : Int} {ls : List Lk} {k : Nat} {y : Lk} (h : ls[k]? = some y) (hd : Da.due tm y = false) : mid tm nx ls (k + 1) = mid tm nx ls k := by
  rw [mid_set h]
  unfold exK
  rw [hd]
  simp only [Bool.false_eq_true, if_false]
  apply List.ext_getElem? fun i => ?_
  rw [List.getElem?_set]
  by_cases e : k = i
  · subst e
    rw [if_pos rfl, mid_here h, mid_len, if_pos (List.getElem?_eq_some_iff.1 h).1]
  · rw [if_neg e]
def Tk (T : Tab) (M : Int) (k : Nat) : Tab := ⟨M, exN M T.nx T.ls k, mid M T.nx T.ls k, T.ss⟩
/-- What l05Expire leaves: a table in memory of its own. -/
def OwnT (w : World) (B : Nat) (T : Tab) (e : Ending) : Prop := ∃ ul us ps, e = .returned (tabV T.tm T.nx ul us) ∧ OwnL w B ul ps ∧ (∀ p ∈ ps, OwnW w B (uV p) p.1.ws) ∧ ps.map (·.1) = T.ls ∧ Apart ps ∧ OwnS w B us T.ss
set_option maxRecDepth 100000 in
set_option maxHeartbeats 3200000 in
theorem l05Expire_any (T : Tab) (vl vs : Value) (now : Int) (w : World) (hl : RowL w vl T.ls) (hs : RowS w vs T.ss) (hT : TOK T) (h0 : 0 ≤ now) (h1 : now ≤ 1000000000) (hn : T.nx ≤ 999990) :
    Calls Tryz.prog 41 #[tabV T.tm T.nx vl vs, .int .i64 now] w fun e w' => OwnT w' w.heap.size (exT T now) e ∧ Below w.heap.size w w' := by
  have HTK : Hid (TOK T) := hT
  have hl4 : T.ls.length ≤ 4 := hT.2.2.1
  have hs6 : T.ss.length ≤ 6 := hT.2.2.2.2.1
  have htm := inB_le hT.1
  have hnx := inB_le hT.2.1
  have HLK : Hid (∀ y ∈ T.ls, HdOK y) := fun y hy => by
    obtain ⟨i, hi, e⟩ := List.mem_iff_getElem.1 hy
    exact (hT.2.2.2.1 i y (by rw [List.getElem?_eq_getElem hi, e])).2.2.2
  have HWS : Hid (∀ y ∈ T.ls, y.ws.length ≤ 4 ∧ ∀ z ∈ y.ws, 1 ≤ z.l ∧ z.l ≤ 1000) := fun y hy => by
    rcases HLK.out y hy with ⟨_, _, h⟩ | ⟨_, _, _, h, hw⟩
    · have := List.length_eq_zero_iff.1 h
      rw [this]
      exact ⟨by simp, fun z hz => by cases hz⟩
    · refine ⟨h, fun z hz => ?_⟩
      obtain ⟨i, hi, e⟩ := List.mem_iff_getElem.1 hz
      exact inB_le (hw i z (by rw [List.getElem?_eq_getElem hi, e])).2.1
  have HX : Hid (∀ W, Below ((w.alloc (.cells #[.int .i64 T.tm, .int .i64 T.nx, vl, vs] 30)).alloc (.cells #[.int .i64 0, .int .i64 0, .slice none 0 0, .slice none 0 0] 30)).heap.size ((w.alloc (.cells #[.int .i64 T.tm, .int .i64 T.nx, vl, vs] 30)).alloc (.cells #[.int .i64 0, .int .i64 0, .slice none 0 0, .slice none 0 0] 30)) W → W.heap[w.heap.size]? = some (.cells #[.int .i64 T.tm, .int .i64 T.nx, vl, vs] 30 (0, 0)) ∧ W.heap[w.heap.size + 1]? = some (.cells #[.int .i64 0, .int .i64 0, .slice none 0 0, .slice none 0 0] 30 (0, 0)) ∧ RowL W vl T.ls ∧ RowS W vs T.ss ∧ Below w.heap.size w W) := fun W hW => by
    have e1 : (w.alloc (.cells #[.int .i64 T.tm, .int .i64 T.nx, vl, vs] 30)).heap.size = w.heap.size + 1 := by simp
    have b2 : Below w.heap.size w ((w.alloc (.cells #[.int .i64 T.tm, .int .i64 T.nx, vl, vs] 30)).alloc (.cells #[.int .i64 0, .int .i64 0, .slice none 0 0, .slice none 0 0] 30)) := (bel_new w _).trans ((bel_new _ _).mono (bel_new w _).size)
    have bb := b2.trans (hW.mono b2.size)
    refine ⟨?_, ?_, hl.below bb, hs.below bb, bb⟩
    · rw [hW.block _ (by simp; omega), (bel_new (w.alloc (.cells #[.int .i64 T.tm, .int .i64 T.nx, vl, vs] 30)) (.cells #[.int .i64 0, .int .i64 0, .slice none 0 0, .slice none 0 0] 30)).block _ (by simp)]; exact blk_new _ _ _
    · rw [hW.block _ (by simp), ← e1]; exact blk_new _ _ _
  have HOW : Hid (∀ W, RowL W vl T.ls → RowS W vs T.ss → Calls Tryz.prog 40 #[.agg #[.int .i64 T.tm, .int .i64 T.nx, vl, vs]] W fun e w' => ∃ ul us ps, e = .returned (.agg #[.int .i64 T.tm, .int .i64 T.nx, ul, us]) ∧ (OwnL w' W.heap.size ul ps ∧ (∀ p ∈ ps, OwnW w' W.heap.size (uV p) p.1.ws) ∧ ps.map (·.1) = T.ls ∧ Apart ps) ∧ OwnS w' W.heap.size us T.ss ∧ Below W.heap.size W w') := fun W a b => l05Own_all T.tm T.nx vl vs T.ls T.ss W a b (fun x hx => by have := (HWS.out x hx).1; omega) (by omega) (by omega)
  obtain ⟨la, lc, rfl⟩ := RowG.slice hl
  obtain ⟨sa, sc, rfl⟩ := RowG.slice hs
  clear hl hs hT
  unfold tabV
  go_enter Tryz.func41, Tryz.ntmps41
  go_upto_region 1 with fail
  generalize (w.alloc (.cells #[.int .i64 T.tm, .int .i64 T.nx, .slice la T.ls.length lc, .slice sa T.ss.length sc] 30)).alloc (.cells #[.int .i64 0, .int .i64 0, .slice none 0 0, .slice none 0 0] 30) = w2 at HX ⊢
  have c0 := (blk_cell (HX.out _ (Below.refl _ _)).1 0 rfl).1
  have c1 := (blk_cell (HX.out _ (Below.refl _ _)).1 1 rfl).1
  have c2 := (blk_cell (HX.out _ (Below.refl _ _)).1 2 rfl).1
  have c3 := (blk_cell (HX.out _ (Below.refl _ _)).1 3 rfl).1
  go_wp2_with fail
  refine (HOW.out _ (HX.out _ (Below.refl _ _)).2.2.1 (HX.out _ (Below.refl _ _)).2.2.2.1).mono ?_
  rintro e w3 ⟨ul, us, ps, rfl, ⟨o1, o2, o3, o4⟩, o5, b3⟩
  have hpl : ps.length = T.ls.length := by rw [← o3, List.length_map]
  obtain ⟨ua, uc, rfl⟩ := OwnL.slice o1
  obtain ⟨ta, tc, rfl⟩ := OwnS.slice o5
  have H4 : Hid (TM w2 (w3.alloc (.cells #[.int .i64 T.tm, .int .i64 T.nx, .slice ua ps.length uc, .slice ta T.ss.length tc] 30)) w2.heap.size w3.heap.size T (.slice ua ps.length uc) (.slice ta T.ss.length tc) ps) := ⟨blk_new _ _ _, o1.below (bel_new _ _), o5.below (bel_new _ _), fun p hp => (o2 p hp).below (bel_new _ _), o4, o3, b3.trans ((bel_new w3 _).mono b3.size), Nat.le_refl _, b3.size⟩
  rw [hpl] at H4 ⊢
  clear o1 o2 o3 o4 o5 b3 c0 c1 c2 c3 HOW
  go_upto_region 2 with fail
  generalize w3.alloc (.cells #[.int .i64 T.tm, .int .i64 T.nx, .slice ua T.ls.length uc, .slice ta T.ss.length tc] 30) = w4 at H4 ⊢
  generalize w3.heap.size = x at H4 ⊢
  obtain ⟨d0, f0⟩ := blk_cell H4.out.hx 0 (x := .int .i64 T.tm) rfl
  obtain ⟨M, hM⟩ : ∃ M, max T.tm now = M := ⟨_, rfl⟩
  have hM0 : 0 ≤ M ∧ M ≤ 1000000000 := by omega
  have H5 : Hid (TM w2 (w4.setCell ⟨x, 0, none⟩ (.int .i64 M)) w2.heap.size x (Tk T M 0) (.slice ua T.ls.length uc) (.slice ta T.ss.length tc) ps) := H4.out.box 0 _ rfl (mid_0 M T.nx T.ls) rfl
  have HMM : Hid (max T.tm now = M) := hM
  have HEX : Hid (exT T now = Tk T M T.ls.length) := by
    show _ = _
    unfold exT Tk
    rw [HMM.out, mid_all]
  go_upto_region 3 with fail
  try rw [HMM.out]
  generalize w4.setCell ⟨x, 0, none⟩ (.int .i64 M) = w5 at H5 ⊢
  clear d0 f0 H4 hM
  go_wp2_with fail
  go_loopw [6] (fun i wr => ∃ k : Nat, k ≤ T.ls.length ∧ i = .int .i64 k ∧ Hid (∃ ps, TM w2 wr w2.heap.size x (Tk T M k) (.slice ua T.ls.length uc) (.slice ta T.ss.length tc) ps)) (fun i _ => T.ls.length - (intOf i).toNat)
  case atStart => exact ⟨0, by omega, rfl, ⟨ps, H5.out⟩⟩
  case round =>
    clear H5 hpl ps
    obtain ⟨k, hk, rfl, HK⟩ := hrel
    obtain ⟨ps, hps⟩ := HK.out
    have H : Hid (TM w2 wr w2.heap.size x (Tk T M k) (.slice ua T.ls.length uc) (.slice ta T.ss.length tc) ps) := hps
    have x0 := (blk_cell hps.hx 0 (x := .int .i64 M) rfl).1
    have x2 := (blk_cell hps.hx 2 (x := .slice ua T.ls.length uc) rfl).1
    clear hps HK
    by_cases hlt : k < T.ls.length
    · obtain ⟨y, hy⟩ := Tw.get_at hlt
      have hkI : (k : Int) < (T.ls.length : Int) := by omega
      obtain ⟨p, hp, hpy⟩ := H.out.at (k := k) (y := y) (mid_here hy)
      obtain ⟨g, cap, hv, hgB, hgx, hcap, hcell⟩ := H.out.row hp
      injection hv with hv1 hv2 hv3
      subst hv1
      obtain ⟨m2, _⟩ := hcell 2 (.int .i64 p.1.h) rfl
      obtain ⟨m3, _⟩ := hcell 3 (.int .i64 p.1.e) rfl
      rw [hpy] at m2 m3
      have HP : Hid (ps[k]? = some p ∧ p.1 = y ∧ T.ls[k]? = some y) := ⟨hp, hpy, hy⟩
      have HHD := HLK.out y (Tw.mem_at hy)
      have hyh : y.h = -1 ∨ 0 ≤ y.h := by
        rcases HHD with ⟨h, _⟩ | ⟨_, h, _⟩
        · exact .inl h
        · exact .inr (inB_le h).1
      have hnk := exN_le (tm := M) (nx := T.nx) (ls := T.ls) k
      clear hcell hp hpy hy HHD hcap hgx hgB hv2 hv3
      go_upto_region 6 with fail
      by_cases hd1 : 0 ≤ y.h
      · by_cases hd2 : y.e ≤ M
        · have HD : Hid (Da.due M y = true) := by show _ = _; unfold Da.due; rw [decide_eq_true]; exact ⟨by omega, hd2⟩
          obtain ⟨X, hX, W, QI0, QO0⟩ := Qc.klass wr
          have QI : Hid (∀ w', Below wr.heap.size wr w' → ∃ x, w' = W x) := QI0
          have QO : Hid (∀ x, Below wr.heap.size wr (W x)) := QO0
          clear QI0 QO0
          have y0 := Qc.cell_all QO.out x0
          have y2 := Qc.cell_all QO.out x2
          have z2 := Qc.cell_all QO.out m2
          have z3 := Qc.cell_all QO.out m3
          refine Qc.region_class (W := W) (by kernel_rfl) (by kernel_rfl) (QI.out _ Qc.from_drew) ?_
          repeat (go_big_quiet_step (fail))
          refine wpQuiet_nil ?_
          rintro _ ⟨xq, rfl⟩
          have GQ : Hid (TM w2 (W xq) w2.heap.size x (Tk T M k) (.slice (some ⟨g, 0, none⟩) T.ls.length uc) (.slice ta T.ss.length tc) ps) := H.out.up (QO.out xq)
          clear y0 y2 z2 z3 QO QI H x0 x2 m2 m3
          generalize W xq = wq at GQ ⊢
          have HWP := HWS.out y (Tw.mem_at HP.out.2.2)
          have HF := l05Free_any GQ.out HP.out.1 hM0.1 hM0.2 (by show 1 ≤ exN M T.nx T.ls k; omega) (by show exN M T.nx T.ls k ≤ 999999; omega) (by rw [HP.out.2.1]; omega) (fun z hz => by rw [HP.out.2.1] at hz; have := HWP.2 z hz; omega)
          go_wp2_with fail
          refine HF.mono ?_
          rintro e w8 ⟨rfl, ⟨q, hq, t8⟩, _⟩
          have HS : Hid (TM w2 w8 w2.heap.size x (Tk T M (k + 1)) (.slice (some ⟨g, 0, none⟩) T.ls.length uc) (.slice ta T.ss.length tc) (ps.set k q)) := by
            have e1 : Tk T M (k + 1) = ⟨M, frN (exN M T.nx T.ls k) y, (mid M T.nx T.ls k).set k (frL M (exN M T.nx T.ls k) y), T.ss⟩ := by
              unfold Tk
              rw [mid_set HP.out.2.2, exN_succ HP.out.2.2, HD.out]
              unfold exK
              rw [HD.out]
              rfl
            rw [HP.out.2.1] at hq t8
            have e2 : q.1 = frL M (exN M T.nx T.ls k) y := hq
            rw [e2] at t8
            rw [e1]
            exact t8
          clear t8 hq HF GQ
          go_wp2_with fail
          first
            | exact ⟨⟨k + 1, by omega, by go_num, ⟨_, HS.out⟩⟩, by simp [intOf]; omega⟩
            | (go_roundw
               case rel => (repeat apply Exists.intro); exact ⟨⟨k + 1, by omega, by go_num, ⟨_, HS.out⟩⟩, rfl⟩
               case measure => simp [intOf]; omega)
        · have HD : Hid (Da.due M y = false) := by show _ = _; unfold Da.due; rw [decide_eq_false]; exact fun h => hd2 h.2
          obtain ⟨X, hX, W, QI0, QO0⟩ := Qc.klass wr
          have QI : Hid (∀ w', Below wr.heap.size wr w' → ∃ x, w' = W x) := QI0
          have QO : Hid (∀ x, Below wr.heap.size wr (W x)) := QO0
          clear QI0 QO0
          have y0 := Qc.cell_all QO.out x0
          have y2 := Qc.cell_all QO.out x2
          have z2 := Qc.cell_all QO.out m2
          have z3 := Qc.cell_all QO.out m3
          refine Qc.region_class (W := W) (by kernel_rfl) (by kernel_rfl) (QI.out _ Qc.from_drew) ?_
          repeat (go_big_quiet_step (fail))
          refine wpQuiet_nil ?_
          rintro _ ⟨xq, rfl⟩
          have GQ : Hid (TM w2 (W xq) w2.heap.size x (Tk T M k) (.slice (some ⟨g, 0, none⟩) T.ls.length uc) (.slice ta T.ss.length tc) ps) := H.out.up (QO.out xq)
          clear y0 y2 z2 z3 QO QI H x0 x2 m2 m3
          generalize W xq = wq at GQ ⊢
          have HS : Hid (Tk T M (k + 1) = Tk T M k) := by
            show _ = _
            unfold Tk
            rw [mid_same HP.out.2.2 HD.out, exN_succ HP.out.2.2, HD.out]
            rfl
          go_wp2_with fail
          exact ⟨⟨k + 1, by omega, by go_num, ⟨ps, by rw [HS.out]; exact GQ.out⟩⟩, by simp [intOf]; omega⟩
      · have HD : Hid (Da.due M y = false) := by show _ = _; unfold Da.due; rw [decide_eq_false]; exact fun h => h.1 (by omega)
        obtain ⟨X, hX, W, QI0, QO0⟩ := Qc.klass wr
        have QI : Hid (∀ w', Below wr.heap.size wr w' → ∃ x, w' = W x) := QI0
        have QO : Hid (∀ x, Below wr.heap.size wr (W x)) := QO0
        clear QI0 QO0
        have y0 := Qc.cell_all QO.out x0
        have y2 := Qc.cell_all QO.out x2
        have z2 := Qc.cell_all QO.out m2
        have z3 := Qc.cell_all QO.out m3
        refine Qc.region_class (W := W) (by kernel_rfl) (by kernel_rfl) (QI.out _ Qc.from_drew) ?_
        repeat (go_big_quiet_step (fail))
        refine wpQuiet_nil ?_
        rintro _ ⟨xq, rfl⟩
        have GQ : Hid (TM w2 (W xq) w2.heap.size x (Tk T M k) (.slice (some ⟨g, 0, none⟩) T.ls.length uc) (.slice ta T.ss.length tc) ps) := H.out.up (QO.out xq)
        clear y0 y2 z2 z3 QO QI H x0 x2 m2 m3
        generalize W xq = wq at GQ ⊢
        have HS : Hid (Tk T M (k + 1) = Tk T M k) := by
          show _ = _
          unfold Tk
          rw [mid_same HP.out.2.2 HD.out, exN_succ HP.out.2.2, HD.out]
          rfl
        go_wp2_with fail
        exact ⟨⟨k + 1, by omega, by go_num, ⟨ps, by rw [HS.out]; exact GQ.out⟩⟩, by simp [intOf]; omega⟩
    · obtain rfl : k = T.ls.length := by omega
      have x1 := (blk_cell H.out.hx 1 (x := .int .i64 (exN M T.nx T.ls T.ls.length)) rfl).1
      have x3 := (blk_cell H.out.hx 3 (x := .slice ta T.ss.length tc) rfl).1
      have AX : Hid (wr.heap[w.heap.size + 1]? = some (.cells #[.int .i64 0, .int .i64 0, .slice none 0 0, .slice none 0 0] 30 (0, 0)) ∧ Below w.heap.size w wr ∧ w.heap.size + 1 < w2.heap.size ∧ w.heap.size ≤ w2.heap.size) := by
        have hh := HX.out wr H.out.bel
        exact ⟨hh.2.1, hh.2.2.2.2, (Array.getElem?_eq_some_iff.1 (HX.out w2 (Below.refl _ _)).2.1).1, (HX.out w2 (Below.refl _ _)).2.2.2.2.size⟩
      obtain ⟨m0, n0⟩ := blk_cell AX.out.1 0 (x := .int .i64 0) rfl
      obtain ⟨m1, n1⟩ := blk_cell AX.out.1 1 (x := .int .i64 0) rfl
      obtain ⟨m2, n2⟩ := blk_cell AX.out.1 2 (x := .slice none 0 0) rfl
      obtain ⟨m3, n3⟩ := blk_cell AX.out.1 3 (x := .slice none 0 0) rfl
      have AF : ((((wr.setCell ⟨w.heap.size + 1, 0, none⟩ (.int .i64 M)).setCell ⟨w.heap.size + 1, 1, none⟩ (.int .i64 (exN M T.nx T.ls T.ls.length))).setCell ⟨w.heap.size + 1, 2, none⟩ (.slice ua T.ls.length uc)).setCell ⟨w.heap.size + 1, 3, none⟩ (.slice ta T.ss.length tc)).heap[w.heap.size + 1]? = some (.cells #[.int .i64 M, .int .i64 (exN M T.nx T.ls T.ls.length), .slice ua T.ls.length uc, .slice ta T.ss.length tc] 30 (0, 0)) := (blk_set (blk_set (blk_set (blk_set AX.out.1 _ _) _ _) _ _) _ _)
      have GF : Below w.heap.size w ((((wr.setCell ⟨w.heap.size + 1, 0, none⟩ (.int .i64 M)).setCell ⟨w.heap.size + 1, 1, none⟩ (.int .i64 (exN M T.nx T.ls T.ls.length))).setCell ⟨w.heap.size + 1, 2, none⟩ (.slice ua T.ls.length uc)).setCell ⟨w.heap.size + 1, 3, none⟩ (.slice ta T.ss.length tc)) := (Below.setCell (Below.setCell (Below.setCell (Below.setCell AX.out.2.1 (p := ⟨w.heap.size + 1, 0, none⟩) (Nat.le_succ _) (.int .i64 M)) (p := ⟨w.heap.size + 1, 1, none⟩) (Nat.le_succ _) (.int .i64 (exN M T.nx T.ls T.ls.length))) (p := ⟨w.heap.size + 1, 2, none⟩) (Nat.le_succ _) (.slice ua T.ls.length uc)) (p := ⟨w.heap.size + 1, 3, none⟩) (Nat.le_succ _) (.slice ta T.ss.length tc))
      have KF : Hid (∀ g, w2.heap.size ≤ g → ((((wr.setCell ⟨w.heap.size + 1, 0, none⟩ (.int .i64 M)).setCell ⟨w.heap.size + 1, 1, none⟩ (.int .i64 (exN M T.nx T.ls T.ls.length))).setCell ⟨w.heap.size + 1, 2, none⟩ (.slice ua T.ls.length uc)).setCell ⟨w.heap.size + 1, 3, none⟩ (.slice ta T.ss.length tc)).heap[g]? = wr.heap[g]?) := fun g' hg' => by
        have hne : ∀ g : Nat, w2.heap.size ≤ g → g ≠ w.heap.size + 1 := fun g hg => by have := AX.out.2.2.1; omega
        exact ((blk_far (hne g' hg') _ _).trans ((blk_far (hne g' hg') _ _).trans ((blk_far (hne g' hg') _ _).trans ((blk_far (hne g' hg') _ _).trans rfl))))
      have OF : Hid (OwnT ((((wr.setCell ⟨w.heap.size + 1, 0, none⟩ (.int .i64 M)).setCell ⟨w.heap.size + 1, 1, none⟩ (.int .i64 (exN M T.nx T.ls T.ls.length))).setCell ⟨w.heap.size + 1, 2, none⟩ (.slice ua T.ls.length uc)).setCell ⟨w.heap.size + 1, 3, none⟩ (.slice ta T.ss.length tc)) w.heap.size (exT T now) (.returned (tabV M (exN M T.nx T.ls T.ls.length) (.slice ua T.ls.length uc) (.slice ta T.ss.length tc)))) := by
        have hle := AX.out.2.2.2
        rw [HEX.out]
        refine ⟨_, _, ps, rfl, (H.out.ol.kept (fun g hg => KF.out g (H.out.ol.lt g hg).1)).mono hle, fun p hp => ((H.out.ow p hp).kept (fun g hg => KF.out g ((H.out.ow p hp).lt g hg).1)).mono hle, H.out.eq, H.out.ap, (H.out.os.kept (fun g hg => KF.out g (H.out.os.lt g hg).1)).mono hle⟩
      go_wp2_with fail
      generalize ((((wr.setCell ⟨w.heap.size + 1, 0, none⟩ (.int .i64 M)).setCell ⟨w.heap.size + 1, 1, none⟩ (.int .i64 (exN M T.nx T.ls T.ls.length))).setCell ⟨w.heap.size + 1, 2, none⟩ (.slice ua T.ls.length uc)).setCell ⟨w.heap.size + 1, 3, none⟩ (.slice ta T.ss.length tc)) = wf at AF GF OF ⊢
      have d0 := (blk_cell AF 0 (x := .int .i64 M) rfl).1
      have d1 := (blk_cell AF 1 (x := .int .i64 (exN M T.nx T.ls T.ls.length)) rfl).1
      have d2 := (blk_cell AF 2 (x := .slice ua T.ls.length uc) rfl).1
      have d3 := (blk_cell AF 3 (x := .slice ta T.ss.length tc) rfl).1
      exact bodyPost_ret (v := .agg #[.int .i64 M, .int .i64 (exN M T.nx T.ls T.ls.length), .slice ua T.ls.length uc, .slice ta T.ss.length tc]) (by simp [results, Tryz.results41, go_sem, d0, d1, d2, d3]) rfl ⟨OF.out, GF⟩
end Go.Proofs.YtlgfeohoebmbcaaGreat.Ea
