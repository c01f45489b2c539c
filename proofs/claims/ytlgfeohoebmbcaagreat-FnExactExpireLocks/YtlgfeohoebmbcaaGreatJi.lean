/- Time goes on in a book. -/
import Derived.Test.YtlgfeohoebmbcaaGreatJh
namespace Go.Proofs.YtlgfeohoebmbcaaGreat.Ji
open Go.RowKit Go.Proofs.YtlgfeohoebmbcaaGreat.Sl Go.Proofs.YtlgfeohoebmbcaaGreat.By Go.Proofs.YtlgfeohoebmbcaaGreat.Ap Go.Proofs.YtlgfeohoebmbcaaGreat.Tb Go.Proofs.YtlgfeohoebmbcaaGreat.Tw Go.Proofs.YtlgfeohoebmbcaaGreat.Mw Go.Proofs.YtlgfeohoebmbcaaGreat.Wa Go.Proofs.YtlgfeohoebmbcaaGreat.Bk Go.Proofs.YtlgfeohoebmbcaaGreat.Tp Go.Proofs.YtlgfeohoebmbcaaGreat.Da Go.Proofs.YtlgfeohoebmbcaaGreat.Ja Go.Proofs.YtlgfeohoebmbcaaGreat.Jb Go.Proofs.YtlgfeohoebmbcaaGreat.Jc
open Go.Proofs.YtlgfeohoebmbcaaGreat.Lo (LkA uV clL OwnL own_block kind_ne Apart nest2 OwnL.below OwnL.slice OwnL.kept OwnL.lt atL)
open Go.Proofs.YtlgfeohoebmbcaaGreat.Tx (blk_cell blk_set blk_far blk_new bel_new)
open Go.Proofs.YtlgfeohoebmbcaaGreat.Je Go.Proofs.YtlgfeohoebmbcaaGreat.Jf Go.Proofs.YtlgfeohoebmbcaaGreat.Jd Go.Proofs.YtlgfeohoebmbcaaGreat.Jh
open Go.Proofs.YtlgfeohoebmbcaaGreat.Ea (mid mid_at mid_0 mid_len mid_all mid_set mid_here mid_same Tk)
section
variable {w0 w w' : World} {B p bL bS : Nat} {T : Tab} {ps qs : List LkA}
/-- What the cells of locks in order hold, as long as a book's functions alone are at work. -/
theorem cellsL {W : World} {C : Nat} {v : Value} (ho : OwnL W C v ps) (h : BK w0 W B p bL bS T qs) : ∃ a cap, v = .slice a ps.length cap ∧ (ps.length = 0 ∨ ∃ g, a = some ⟨g, 0, none⟩ ∧ ps.length ≤ cap ∧ ∀ wr, Fx p bL bS W wr → ∀ (k : Nat) (x : LkA), ps[k]? = some x → ∀ j u, j < 5 → (clL x)[j]? = some u → wr.cell? ⟨g, k * 5 + j, none⟩ = some u) := by
  obtain ⟨hl, ⟨rfl, h0⟩ | ⟨g, cap, cur, rfl, hB, hg, hc, _, hs, htk⟩⟩ := ho
  · exact ⟨none, 0, by rw [h0], .inl h0⟩
  · refine ⟨_, cap, rfl, .inr ⟨g, rfl, hc, fun wr hf k x hx j u hj hu => ?_⟩⟩
    have hgp : g ≠ p := kind_ne hg h.hp (by decide)
    have hgL : g ≠ bL := fun e => by obtain ⟨es, c, hm⟩ := map_obj h.ml; rw [← e, hg] at hm; cases hm
    have hgS : g ≠ bS := fun e => by obtain ⟨es, c, hm⟩ := map_obj h.ms; rw [← e, hg] at hm; cases hm
    have hg2 := hf.block g _ hg hgp hgL hgS (fun cs => by intro e; cases e)
    have hkl := (List.getElem?_eq_some_iff.1 hx).1
    have h1 := atL ps k x j hx hj
    rw [← htk, List.getElem?_take, if_pos (by omega)] at h1
    rw [Joins.cell_of_block hg2, ← Array.getElem?_toList, h1, hu]
set_option maxRecDepth 100000 in
set_option maxHeartbeats 3200000 in
theorem goOn_any (h : BK w0 w B p bL bS T ps) (now : Int) (hT : TOK T) (h0 : 0 ≤ now) (h1 : now ≤ 1000000000) (hn : T.nx ≤ 999990) :
    Calls Tryz.prog 46 #[.pointer (some ⟨p, 0, none⟩), .int .i64 now] w fun e w' => e = .returned (.tuple #[]) ∧ (∃ qs, BK w0 w' B p bL bS (exT T now) qs) ∧ Fx p bL bS w w' := by
  obtain ⟨ht0, ht1, ht2, ht3, ht4, ht5⟩ := hT
  have hb0 := inB_le ht0
  have hb1 := inB_le ht1
  have HH : Hid (BK w0 w B p bL bS T ps) := h
  have HLK : Hid (∀ y ∈ T.ls, HdOK y) := fun y hy => by
    obtain ⟨k, hk⟩ := List.mem_iff_getElem?.1 hy
    exact (ht3 k y hk).2.2.2
  obtain ⟨M, hM⟩ : ∃ M, max T.tm now = M := ⟨_, rfl⟩
  have hM0 : 0 ≤ M ∧ M ≤ 1000000000 := by omega
  have HMM : Hid (max T.tm now = M) := hM
  have HEX : Hid (exT T now = Tk T M T.ls.length) := by
    show _ = _
    unfold exT Tk
    rw [HMM.out, mid_all]
  have H1 : Hid (BK w0 (w.setCell ⟨p, 0, none⟩ (.int .i64 M)) B p bL bS (Tk T M 0) ps ∧ Fx p bL bS w (w.setCell ⟨p, 0, none⟩ (.int .i64 M))) := ⟨h.box 0 _ (by unfold Tk; exact mid_0 M T.nx T.ls) rfl rfl, fxBox p bL bS w 0 _⟩
  obtain ⟨c0, f0⟩ := blk_cell h.hp 0 (x := .int .i64 T.tm) rfl
  clear h ht3 ht5
  go_enter Tryz.func46, Tryz.ntmps46
  go_upto_region 1 with fail
  try rw [HMM.out]
  generalize w.setCell ⟨p, 0, none⟩ (.int .i64 M) = w1 at H1 ⊢
  clear c0 f0 hM
  have HLN : Hid (ps.length = T.ls.length) := HH.out.len
  have c2 := (blk_cell H1.out.1.hp 2 (x := .map (some bL)) rfl).1
  have HIO := inOrderL_any bL w1 ps H1.out.1.ml (by rw [H1.out.1.eq]; exact H1.out.1.nm) (fun q hq => H1.out.1.sn q.1 (by rw [← H1.out.1.eq]; exact List.mem_map.2 ⟨q, hq, rfl⟩)) (by rw [HLN.out]; omega)
  go_upto_region 2 with (go_at_call 74; refine HIO.mono ?_; rintro e w2 ⟨v2, rfl, o2, b2⟩; obtain ⟨a2, k2, rfl, hc2⟩ := cellsL o2 (H1.out.1.up b2); have H2 : Hid (BK w0 w2 B p bL bS (Tk T M 0) ps ∧ Fx p bL bS w w2 ∧ (ps.length = 0 ∨ ∃ g, a2 = some ⟨g, 0, none⟩ ∧ ps.length ≤ k2 ∧ ∀ wr, Fx p bL bS w2 wr → ∀ (k : Nat) (x : LkA), ps[k]? = some x → ∀ j u, j < 5 → (clL x)[j]? = some u → wr.cell? ⟨g, k * 5 + j, none⟩ = some u)) := ⟨H1.out.1.up b2, H1.out.2.trans (Fx.of_below b2), hc2⟩; clear o2 b2 hc2 c2)
  rw [HLN.out]
  clear HIO H1
  go_loopw [21] (fun i wr => ∃ k : Nat, k ≤ T.ls.length ∧ i = .int .i64 k ∧ Hid (∃ qs, BK w0 wr B p bL bS (Tk T M k) qs ∧ (∀ j, k ≤ j → qs[j]? = ps[j]?) ∧ Fx p bL bS w2 wr)) (fun i _ => T.ls.length - (intOf i).toNat)
  case atStart => exact ⟨0, by omega, rfl, ps, H2.out.1, fun _ _ => rfl, Fx.refl _ _ _ _⟩
  case round =>
    obtain ⟨k, hk, rfl, HK⟩ := hrel
    by_cases hlt : k < T.ls.length
    · obtain ⟨y0, hy⟩ := Tw.get_at hlt
      obtain ⟨g, rfl, hcap, hcl⟩ := H2.out.2.2.resolve_left (by rw [HLN.out]; omega)
      obtain ⟨qs, hqs⟩ := HK.out
      have HQ : Hid (BK w0 wr B p bL bS (Tk T M k) qs ∧ (∀ j, k ≤ j → qs[j]? = ps[j]?) ∧ Fx p bL bS w2 wr) := hqs
      obtain ⟨x, hx⟩ := Tw.get_at (xs := ps) (k := k) (by rw [HLN.out]; exact hlt)
      have hxy : x.1 = y0 := by
        have := congrArg (fun l => l[k]?) HH.out.eq
        simp only [List.getElem?_map, hx, hy, Option.map_some, Option.some.injEq] at this
        exact this
      obtain ⟨y, ua, uc⟩ := x
      dsimp only at hxy
      subst hxy
      have HX : Hid (T.ls[k]? = some y ∧ qs[k]? = some (y, ua, uc)) := ⟨hy, (HQ.out.2.1 k (Nat.le_refl _)).trans hx⟩
      have hc := hcl wr HQ.out.2.2 k (y, ua, uc) hx
      have c0 : wr.cell? ⟨g, k * 5, none⟩ = some (.string y.n) := hc 0 (.string y.n) (by decide) rfl
      have c1 := hc 1 (.int .i64 y.t) (by decide) rfl
      have c2 := hc 2 (.int .i64 y.h) (by decide) rfl
      have c3 := hc 3 (.int .i64 y.e) (by decide) rfl
      have c4 := hc 4 (.slice ua y.ws.length uc) (by decide) rfl
      clear hc hcl hqs hx hy HK
      go_upto_region 4 with fail
      have H3 : Hid (BK w0 (wr.alloc (.cells #[.string y.n, .int .i64 y.t, .int .i64 y.h, .int .i64 y.e, .slice ua y.ws.length uc] 95)) B p bL bS (Tk T M k) qs ∧ Fx p bL bS w2 (wr.alloc (.cells #[.string y.n, .int .i64 y.t, .int .i64 y.h, .int .i64 y.e, .slice ua y.ws.length uc] 95)) ∧ (wr.alloc (.cells #[.string y.n, .int .i64 y.t, .int .i64 y.h, .int .i64 y.e, .slice ua y.ws.length uc] 95)).heap[wr.heap.size]? = some (.cells #[.string y.n, .int .i64 y.t, .int .i64 y.h, .int .i64 y.e, .slice ua y.ws.length uc] 95 (0, 0)) ∧ p < wr.heap.size ∧ B ≤ wr.heap.size) := ⟨HQ.out.1.up (bel_new _ _), HQ.out.2.2.trans (Fx.of_below (bel_new _ _)), blk_new _ _ _, HQ.out.1.plt, HQ.out.1.size⟩
      clear c0 c1 c2 c3 c4
      generalize wr.alloc (.cells #[.string y.n, .int .i64 y.t, .int .i64 y.h, .int .i64 y.e, .slice ua y.ws.length uc] 95) = w3 at H3 ⊢
      generalize wr.heap.size = lb at H3 ⊢
      have l0 := (blk_cell H3.out.2.2.1 0 (x := .string y.n) rfl).1
      have l1 := (blk_cell H3.out.2.2.1 1 (x := .int .i64 y.t) rfl).1
      have l2 := (blk_cell H3.out.2.2.1 2 (x := .int .i64 y.h) rfl).1
      have l3 := (blk_cell H3.out.2.2.1 3 (x := .int .i64 y.e) rfl).1
      have l4 := (blk_cell H3.out.2.2.1 4 (x := .slice ua y.ws.length uc) rfl).1
      have p0 := (blk_cell H3.out.1.hp 0 (x := .int .i64 M) rfl).1
      have p2 := (blk_cell H3.out.1.hp 2 (x := .map (some bL)) rfl).1
      have hnk := exN_le (tm := M) (nx := T.nx) (ls := T.ls) k
      have HHD := HLK.out y (Tw.mem_at HX.out.1)
      by_cases hd1 : y.h = -1
      · have hb1 : (y.h != -1) = false := by simp [hd1]
        have HD : Hid (Da.due M y = false) := by show _ = _; unfold Da.due; rw [decide_eq_false]; exact fun h => h.1 hd1
        obtain ⟨X, hX, W, QI0, QO0⟩ := Qc.klass w3
        have QI : Hid (∀ w', Below w3.heap.size w3 w' → ∃ x, w' = W x) := QI0
        have QO : Hid (∀ x, Below w3.heap.size w3 (W x)) := QO0
        clear QI0 QO0
        have y0 := Qc.cell_all QO.out p0
        have z2 := Qc.cell_all QO.out l2
        have z3 := Qc.cell_all QO.out l3
        refine Qc.region_class (W := W) (by kernel_rfl) (by kernel_rfl) (QI.out _ Qc.from_drew) ?_
        repeat (go_big_quiet_step (fail))
        refine wpQuiet_nil ?_
        rintro _ ⟨xq, rfl⟩
        have H4 : Hid (BK w0 (W xq) B p bL bS (Tk T M k) qs ∧ Fx p bL bS w2 (W xq) ∧ (W xq).heap[lb]? = some (.cells #[.string y.n, .int .i64 y.t, .int .i64 y.h, .int .i64 y.e, .slice ua y.ws.length uc] 95 (0, 0))) := ⟨H3.out.1.up (QO.out xq), H3.out.2.1.trans (Fx.of_below (QO.out xq)), ((QO.out xq).block lb (Array.getElem?_eq_some_iff.1 H3.out.2.2.1).1).trans H3.out.2.2.1⟩
        have HPB : Hid (p < lb ∧ B ≤ lb) := H3.out.2.2.2
        clear y0 z2 z3 QO QI H3 l0 l1 l2 l3 l4 p0 p2
        generalize W xq = w4 at H4 ⊢
        have HS : Hid (BK w0 w4 B p bL bS (Tk T M (k + 1)) qs ∧ (∀ j, k + 1 ≤ j → qs[j]? = ps[j]?) ∧ Fx p bL bS w2 w4) := by
          have e1 : Tk T M (k + 1) = Tk T M k := by
            unfold Tk
            rw [mid_same HX.out.1 HD.out, exN_succ HX.out.1, HD.out]
            rfl
          rw [e1]
          exact ⟨H4.out.1, fun j hj => HQ.out.2.1 j (by omega), H4.out.2.1⟩
        clear H4 HQ
        go_wp2_with fail
        first
          | exact ⟨⟨k + 1, by omega, by go_num, ⟨_, HS.out⟩⟩, by simp [intOf]; omega⟩
          | (go_roundw
             case rel => (repeat apply Exists.intro); exact ⟨⟨k + 1, by omega, by go_num, ⟨_, HS.out⟩⟩, rfl⟩
             case measure => simp [intOf]; omega)
      · have hb1 : (y.h != -1) = true := by simp [hd1]
        by_cases hd2 : y.e ≤ M
        · have hb2 : decide (y.e ≤ M) = true := by simp [hd2]
          have HD : Hid (Da.due M y = true) := by show _ = _; unfold Da.due; rw [decide_eq_true]; exact ⟨hd1, hd2⟩
          obtain ⟨X, hX, W, QI0, QO0⟩ := Qc.klass w3
          have QI : Hid (∀ w', Below w3.heap.size w3 w' → ∃ x, w' = W x) := QI0
          have QO : Hid (∀ x, Below w3.heap.size w3 (W x)) := QO0
          clear QI0 QO0
          have y0 := Qc.cell_all QO.out p0
          have z2 := Qc.cell_all QO.out l2
          have z3 := Qc.cell_all QO.out l3
          refine Qc.region_class (W := W) (by kernel_rfl) (by kernel_rfl) (QI.out _ Qc.from_drew) ?_
          repeat (go_big_quiet_step (fail))
          refine wpQuiet_nil ?_
          rintro _ ⟨xq, rfl⟩
          have H4 : Hid (BK w0 (W xq) B p bL bS (Tk T M k) qs ∧ Fx p bL bS w2 (W xq) ∧ (W xq).heap[lb]? = some (.cells #[.string y.n, .int .i64 y.t, .int .i64 y.h, .int .i64 y.e, .slice ua y.ws.length uc] 95 (0, 0))) := ⟨H3.out.1.up (QO.out xq), H3.out.2.1.trans (Fx.of_below (QO.out xq)), ((QO.out xq).block lb (Array.getElem?_eq_some_iff.1 H3.out.2.2.1).1).trans H3.out.2.2.1⟩
          have HPB : Hid (p < lb ∧ B ≤ lb) := H3.out.2.2.2
          clear y0 z2 z3 QO QI H3 l0 l1 l2 l3 l4 p0 p2
          generalize W xq = w4 at H4 ⊢
          have HWS : Hid (∀ z ∈ y.ws, 0 ≤ z.l ∧ z.l ≤ 1000) := fun z hz => by
            rcases HHD with ⟨_, _, h3⟩ | ⟨_, _, _, _, h5⟩
            · rw [List.length_eq_zero_iff.1 h3] at hz; cases hz
            · obtain ⟨i, hi⟩ := List.mem_iff_getElem?.1 hz
              have := inB_le (h5 i z hi).2.1
              omega
          have HWL : Hid (y.ws.length ≤ 4) := by
            rcases HHD with ⟨_, _, h3⟩ | ⟨_, _, _, h4, _⟩
            · show _ ≤ _; rw [h3]; exact Nat.zero_le _
            · exact h4
          have HQL : Hid (qs.length ≤ 1000) := by show _ ≤ _; rw [H4.out.1.len]; show (mid M T.nx T.ls k).length ≤ _; rw [mid_len]; omega
          have HGF : Hid (∀ W, Below w4.heap.size w4 W → Calls Tryz.prog 75 #[.pointer (some ⟨p, 0, none⟩), .agg #[.string y.n, .int .i64 y.t, .int .i64 y.h, .int .i64 y.e, .slice ua y.ws.length uc]] W fun e w5 => ∃ ua' uc' w6, e = .returned (lkV (frL M (exN M T.nx T.ls k) y) (.slice ua' (frL M (exN M T.nx T.ls k) y).ws.length uc')) ∧ (Instr.mapUpdate 98 (.map (some bL)) (.string y.n) (lkV (frL M (exN M T.nx T.ls k) y) (.slice ua' (frL M (exN M T.nx T.ls k) y).ws.length uc'))).run Tryz.prog w5 = .ok () w6 ∧ (w5.cell? ⟨lb, 0, none⟩ = some (.string y.n) ∧ w5.cell? ⟨lb, 1, none⟩ = some (.int .i64 y.t) ∧ w5.cell? ⟨lb, 2, none⟩ = some (.int .i64 y.h) ∧ w5.cell? ⟨lb, 3, none⟩ = some (.int .i64 y.e) ∧ w5.cell? ⟨lb, 4, none⟩ = some (.slice ua y.ws.length uc) ∧ w5.cell? ⟨p, 2, none⟩ = some (.map (some bL))) ∧ (w6.cell? ⟨lb, 0, none⟩ = some (.string y.n) ∧ w6.cell? ⟨lb, 1, none⟩ = some (.int .i64 y.t) ∧ w6.cell? ⟨lb, 2, none⟩ = some (.int .i64 y.h) ∧ w6.cell? ⟨lb, 3, none⟩ = some (.int .i64 y.e) ∧ w6.cell? ⟨lb, 4, none⟩ = some (.slice ua y.ws.length uc) ∧ w6.cell? ⟨p, 2, none⟩ = some (.map (some bL))) ∧ Hid ((∃ rs, BK w0 w6 B p bL bS (Tk T M (k + 1)) rs ∧ ∀ j, k + 1 ≤ j → rs[j]? = ps[j]?) ∧ Fx p bL bS w2 w6)) := fun W hW => by
            refine (free_any (H4.out.1.up hW) y ua uc ((H4.out.1.up hW).ow (y, ua, uc) (List.mem_of_getElem? HX.out.2)) HWS.out hM0.1 hM0.2 (by show 1 ≤ exN M T.nx T.ls k; omega) (by show exN M T.nx T.ls k ≤ 999999; omega) (by have := HWL.out; omega)).mono ?_
            rintro e w5 ⟨ua', uc', rfl, ho, hbk, hb5, hx5⟩
            have hne : p ≠ lb := by have := HPB.out; omega
            have hlb : w5.heap[lb]? = some (.cells #[.string y.n, .int .i64 y.t, .int .i64 y.h, .int .i64 y.e, .slice ua y.ws.length uc] 95 (0, 0)) := (hx5.block lb (Nat.lt_of_lt_of_le (Array.getElem?_eq_some_iff.1 H4.out.2.2).1 hW.size) (Ne.symm hne)).trans ((hW.block lb (Array.getElem?_eq_some_iff.1 H4.out.2.2).1).trans H4.out.2.2)
            obtain ⟨w6, hrun, hb6, hf6, hg6⟩ := bk_setL hb5 (k := k) (q := (y, ua, uc)) (q' := ((frL M (exN M T.nx T.ls k) y), ua', uc')) HX.out.2 (frL_name y) ho (H4.out.1.ap.set HX.out.2 hbk) HQL.out
            have hrun' : (Instr.mapUpdate 98 (.map (some bL)) (.string y.n) (lkV (frL M (exN M T.nx T.ls k) y) (.slice ua' (frL M (exN M T.nx T.ls k) y).ws.length uc'))).run Tryz.prog w5 = .ok () w6 := by
              have e0 := hrun
              rw [show ((frL M (exN M T.nx T.ls k) y), ua', uc').1.n = y.n from frL_name y] at e0
              exact e0
            have hlL : lb ≠ bL := fun e => by obtain ⟨es, c, hm⟩ := map_obj hb5.ml; rw [← e, hlb] at hm; cases hm
            have hlb6 := (hg6.block lb (Array.getElem?_eq_some_iff.1 hlb).1 (fun e => hlL (by injection e))).trans hlb
            refine ⟨ua', uc', w6, rfl, hrun', ⟨(blk_cell hlb 0 rfl).1, (blk_cell hlb 1 rfl).1, (blk_cell hlb 2 rfl).1, (blk_cell hlb 3 rfl).1, (blk_cell hlb 4 rfl).1, (blk_cell hb5.hp 2 rfl).1⟩, ⟨(blk_cell hlb6 0 rfl).1, (blk_cell hlb6 1 rfl).1, (blk_cell hlb6 2 rfl).1, (blk_cell hlb6 3 rfl).1, (blk_cell hlb6 4 rfl).1, (blk_cell hb6.hp 2 rfl).1⟩, ⟨⟨qs.set k ((frL M (exN M T.nx T.ls k) y), ua', uc'), ?_, fun j hj => ?_⟩, H4.out.2.1.trans ((Fx.of_below hW).trans (hx5.fx.trans hf6))⟩⟩
            · have e1 : Tk T M (k + 1) = ⟨M, frN (exN M T.nx T.ls k) y, (mid M T.nx T.ls k).set k (frL M (exN M T.nx T.ls k) y), T.ss⟩ := by
                unfold Tk
                rw [mid_set HX.out.1, exN_succ HX.out.1, HD.out]
                unfold exK
                rw [HD.out]
                rfl
              rw [e1]
              exact hb6
            · rw [List.getElem?_set_ne (by omega)]
              exact HQ.out.2.1 j (by omega)
          have l0 := (blk_cell H4.out.2.2 0 (x := .string y.n) rfl).1
          have l1 := (blk_cell H4.out.2.2 1 (x := .int .i64 y.t) rfl).1
          have l2 := (blk_cell H4.out.2.2 2 (x := .int .i64 y.h) rfl).1
          have l3 := (blk_cell H4.out.2.2 3 (x := .int .i64 y.e) rfl).1
          have l4 := (blk_cell H4.out.2.2 4 (x := .slice ua y.ws.length uc) rfl).1
          have p2 := (blk_cell H4.out.1.hp 2 (x := .map (some bL)) rfl).1
          clear HD HHD
          go_upto_region 5 with fail
          go_region_held_law (fun W => W.cell? ⟨lb, 0, none⟩ = some (.string y.n) ∧ W.cell? ⟨lb, 1, none⟩ = some (.int .i64 y.t) ∧ W.cell? ⟨lb, 2, none⟩ = some (.int .i64 y.h) ∧ W.cell? ⟨lb, 3, none⟩ = some (.int .i64 y.e) ∧ W.cell? ⟨lb, 4, none⟩ = some (.slice ua y.ws.length uc) ∧ W.cell? ⟨p, 2, none⟩ = some (.map (some bL))) (first | exact ⟨l0, l1, l2, l3, l4, p2⟩ | assumption) ((go_at_call 75; refine (HGF.out _ (by first | exact Below.refl _ _ | exact (Below.refl _ _).drew)).mono ?_; rintro e w5 ⟨ua', uc', w6, rfl, hrun, hs5, hs6, H6⟩))
          all_goals
            obtain ⟨⟨rs, hrs, hrj⟩, hrf⟩ := H6.out
            have HS : Hid (BK w0 w6 B p bL bS (Tk T M (k + 1)) rs ∧ (∀ j, k + 1 ≤ j → rs[j]? = ps[j]?) ∧ Fx p bL bS w2 w6) := ⟨hrs, hrj, hrf⟩
            clear H6 hrs hrj hrf hs5 hs6 hrun l0 l1 l2 l3 l4 p2 H4 HQ
            go_wp2_with fail
            first
              | exact ⟨⟨k + 1, by omega, by go_num, ⟨_, HS.out⟩⟩, by simp [intOf]; omega⟩
              | (go_roundw
                 case rel => (repeat apply Exists.intro); exact ⟨⟨k + 1, by omega, by go_num, ⟨_, HS.out⟩⟩, rfl⟩
                 case measure => simp [intOf]; omega)
        · have hb2 : decide (y.e ≤ M) = false := by simp [hd2]
          have HD : Hid (Da.due M y = false) := by show _ = _; unfold Da.due; rw [decide_eq_false]; exact fun h => hd2 h.2
          obtain ⟨X, hX, W, QI0, QO0⟩ := Qc.klass w3
          have QI : Hid (∀ w', Below w3.heap.size w3 w' → ∃ x, w' = W x) := QI0
          have QO : Hid (∀ x, Below w3.heap.size w3 (W x)) := QO0
          clear QI0 QO0
          have y0 := Qc.cell_all QO.out p0
          have z2 := Qc.cell_all QO.out l2
          have z3 := Qc.cell_all QO.out l3
          refine Qc.region_class (W := W) (by kernel_rfl) (by kernel_rfl) (QI.out _ Qc.from_drew) ?_
          repeat (go_big_quiet_step (fail))
          refine wpQuiet_nil ?_
          rintro _ ⟨xq, rfl⟩
          have H4 : Hid (BK w0 (W xq) B p bL bS (Tk T M k) qs ∧ Fx p bL bS w2 (W xq) ∧ (W xq).heap[lb]? = some (.cells #[.string y.n, .int .i64 y.t, .int .i64 y.h, .int .i64 y.e, .slice ua y.ws.length uc] 95 (0, 0))) := ⟨H3.out.1.up (QO.out xq), H3.out.2.1.trans (Fx.of_below (QO.out xq)), ((QO.out xq).block lb (Array.getElem?_eq_some_iff.1 H3.out.2.2.1).1).trans H3.out.2.2.1⟩
          have HPB : Hid (p < lb ∧ B ≤ lb) := H3.out.2.2.2
          clear y0 z2 z3 QO QI H3 l0 l1 l2 l3 l4 p0 p2
          generalize W xq = w4 at H4 ⊢
          have HS : Hid (BK w0 w4 B p bL bS (Tk T M (k + 1)) qs ∧ (∀ j, k + 1 ≤ j → qs[j]? = ps[j]?) ∧ Fx p bL bS w2 w4) := by
            have e1 : Tk T M (k + 1) = Tk T M k := by
              unfold Tk
              rw [mid_same HX.out.1 HD.out, exN_succ HX.out.1, HD.out]
              rfl
            rw [e1]
            exact ⟨H4.out.1, fun j hj => HQ.out.2.1 j (by omega), H4.out.2.1⟩
          clear H4 HQ
          go_wp2_with fail
          first
            | exact ⟨⟨k + 1, by omega, by go_num, ⟨_, HS.out⟩⟩, by simp [intOf]; omega⟩
            | (go_roundw
               case rel => (repeat apply Exists.intro); exact ⟨⟨k + 1, by omega, by go_num, ⟨_, HS.out⟩⟩, rfl⟩
               case measure => simp [intOf]; omega)
    · obtain rfl : k = T.ls.length := by omega
      obtain ⟨qs, hqs⟩ := HK.out
      have HE : Hid ((∃ qs, BK w0 wr B p bL bS (exT T now) qs) ∧ Fx p bL bS w wr) := ⟨⟨qs, by rw [HEX.out]; exact hqs.1⟩, H2.out.2.1.trans hqs.2.2⟩
      clear HK hqs
      go_wp2_with fail
      go_end0
      exact ⟨rfl, HE.out⟩
end
end Go.Proofs.YtlgfeohoebmbcaaGreat.Ji
