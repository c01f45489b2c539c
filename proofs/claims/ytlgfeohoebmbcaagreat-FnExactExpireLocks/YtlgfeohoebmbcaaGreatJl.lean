/- ExpireLocks of the program. -/
import Derived.Test.YtlgfeohoebmbcaaGreatJk
namespace Go.Proofs.YtlgfeohoebmbcaaGreat.Jl
open Go.RowKit Go.Proofs.YtlgfeohoebmbcaaGreat.Sl Go.Proofs.YtlgfeohoebmbcaaGreat.By Go.Proofs.YtlgfeohoebmbcaaGreat.Ap Go.Proofs.YtlgfeohoebmbcaaGreat.Tb Go.Proofs.YtlgfeohoebmbcaaGreat.Tw Go.Proofs.YtlgfeohoebmbcaaGreat.Mw Go.Proofs.YtlgfeohoebmbcaaGreat.Wa Go.Proofs.YtlgfeohoebmbcaaGreat.Bk Go.Proofs.YtlgfeohoebmbcaaGreat.Tp Go.Proofs.YtlgfeohoebmbcaaGreat.Da Go.Proofs.YtlgfeohoebmbcaaGreat.Ja Go.Proofs.YtlgfeohoebmbcaaGreat.Jb Go.Proofs.YtlgfeohoebmbcaaGreat.Jc
open Go.Proofs.YtlgfeohoebmbcaaGreat.Lo (LkA uV clL OwnL own_block kind_ne Apart nest2 OwnL.below OwnL.slice OwnL.kept OwnL.lt OwnL.mono atL)
open Go.Proofs.YtlgfeohoebmbcaaGreat.Tx (blk_cell blk_set blk_far blk_new bel_new)
open Go.Proofs.YtlgfeohoebmbcaaGreat.Je Go.Proofs.YtlgfeohoebmbcaaGreat.Jf Go.Proofs.YtlgfeohoebmbcaaGreat.Jd Go.Proofs.YtlgfeohoebmbcaaGreat.Jg Go.Proofs.YtlgfeohoebmbcaaGreat.Jh Go.Proofs.YtlgfeohoebmbcaaGreat.Ji Go.Proofs.YtlgfeohoebmbcaaGreat.Jj Go.Proofs.YtlgfeohoebmbcaaGreat.Jk Go.Proofs.YtlgfeohoebmbcaaGreat.Rq
/-- No table. -/
def t00 : Tab := ⟨0, 0, [], []⟩
/-- The table that is told: where the step is taken, where the tokens are used up, else. -/
noncomputable def stT (T : Tab) (now : Int) (T' : Tab) : Tab := if sfC T now = 0 then T' else if sfC T now = 13 then T else t00
theorem sf_0 {T : Tab} {now : Int} (h : sfC T now = 0) : TOK T ∧ (0 ≤ now ∧ now ≤ 1000000000) ∧ T.nx ≤ 999000 := by
  unfold sfC at h
  split at h
  · omega
  · split at h
    · omega
    · split at h
      · omega
      · rename_i h1 h2 h3
        exact ⟨Lp.tok_true (by simpa using h1), inB_le (by simpa using h2), by omega⟩
theorem sf_13 {T : Tab} {now : Int} (h : sfC T now = 13) : TOK T := by
  unfold sfC at h
  split at h
  · omega
  · rename_i h1
    exact Lp.tok_true (by simpa using h1)
theorem sf_in (T : Tab) (now : Int) : sfC T now = 0 ∨ sfC T now = 1 ∨ sfC T now = 4 ∨ sfC T now = 13 := by
  unfold sfC
  split
  · exact .inr (.inl rfl)
  · split
    · exact .inr (.inr (.inl rfl))
    · split
      · exact .inr (.inr (.inr rfl))
      · exact .inl rfl
theorem tabO_mono {w : World} {B B' : Nat} {vl vs : Value} {T : Tab} {ps : List LkA} (h : TabO w B vl vs T ps) (hb : B' ≤ B) : TabO w B' vl vs T ps := ⟨h.ol.mono hb, h.os.mono hb, fun q hq => (h.ow q hq).mono hb, h.ap, h.eq⟩
theorem tabO_kept {w w' : World} {B : Nat} {vl vs : Value} {T : Tab} {ps : List LkA} (h : TabO w B vl vs T ps) (hk : ∀ g, B ≤ g → g < w.heap.size → w'.heap[g]? = w.heap[g]?) : TabO w' B vl vs T ps := ⟨h.ol.kept fun g hg => hk g (h.ol.lt g hg).1 (h.ol.lt g hg).2, h.os.kept fun g hg => hk g (h.os.lt g hg).1 (h.os.lt g hg).2, fun q hq => (h.ow q hq).kept fun g hg => hk g ((h.ow q hq).lt g hg).1 ((h.ow q hq).lt g hg).2, h.ap, h.eq⟩
theorem tabO_nil (w : World) (B : Nat) : TabO w B (.slice none 0 0) (.slice none 0 0) t00 [] := ⟨World.ownsRow_nil _ _ _ _, OwnS.nil _ _, fun q hq => (by cases hq), fun i j x y hx => (by simp at hx), rfl⟩
theorem pc_nn {ss : List Sn} (h : SsOK ss) : ∀ k, k ≤ ss.length → 0 ≤ pc ss k
  | 0, _ => by simp [pc]
  | k + 1, hk => by
    obtain ⟨y, hy⟩ := Tw.get_at (xs := ss) (k := k) (by omega)
    rw [pc_succ hy]
    have h1 := pc_nn h k (by omega)
    have h2 := inB_le (h k y hy).1
    omega
/-- What a right table's book wants. -/
theorem tok_bk {T : Tab} (h : TOK T) : (NmA T.ls ∧ ClA T.ss ∧ (∀ x ∈ T.ls, x.n.size ≤ 1000000) ∧ ∀ s ∈ T.ss, 0 ≤ s.c ∧ s.c ≤ 255) ∧ (∀ x ∈ T.ls, x.n.size ≤ 1048576 ∧ x.ws.length ≤ 1000) ∧ T.ls.length ≤ 4 ∧ T.ss.length ≤ 6 := by
  obtain ⟨_, _, h2, h3, h4, h5⟩ := h
  have hn : ∀ x ∈ T.ls, x.n.size ≤ 1000000 := fun x hx => by
    obtain ⟨k, hk⟩ := List.mem_iff_getElem?.1 hx
    have := (h3 k x hk).2.1
    unfold opB at this
    simp at this
    omega
  refine ⟨⟨NmA.of h3, ClA.of h5, hn, fun s hs => ?_⟩, fun x hx => ⟨by have := hn x hx; omega, ?_⟩, h2, h4⟩
  · obtain ⟨k, hk⟩ := List.mem_iff_getElem?.1 hs
    have h6 := inB_le (h5 k s hk).1
    have := pc_nn h5 k (by have := (List.getElem?_eq_some_iff.1 hk).1; omega)
    omega
  · obtain ⟨k, hk⟩ := List.mem_iff_getElem?.1 hx
    rcases (h3 k x hk).2.2.2 with ⟨_, _, h6⟩ | ⟨_, _, _, h6, _⟩
    · omega
    · omega
/-- A right table is opened: the book is at work. -/
theorem open_any {T : Tab} (hT : TOK T) (vl vs : Value) (w : World) (hl : RowL w vl T.ls) (hs : RowS w vs T.ss) :
    Calls Tryz.prog 45 #[tabV T.tm T.nx vl vs] w fun e w' => ∃ bL bS p qs, e = .returned (.pointer (some ⟨p, 0, none⟩)) ∧ BK w w' w.heap.size p bL bS T qs := by
  obtain ⟨⟨h1, h2, h3, h4⟩, h5, h6, h7⟩ := tok_bk hT
  refine (openBook_ap T.tm T.nx vl vs T.ls T.ss w hl hs h5 h4 (by omega) (by omega)).mono ?_
  rintro e w' ⟨b, bL, bS, p, ps, rfl, ho, he⟩
  obtain ⟨qs, hq⟩ := ho.bk he h1 h2 h3 h4
  exact ⟨bL, bS, p, qs, rfl, hq⟩
theorem exT_len (T : Tab) (now : Int) : (exT T now).ls.length = T.ls.length ∧ (exT T now).ss = T.ss := ⟨exL_len, rfl⟩
theorem table2_any {w0 w : World} {B p bL bS : Nat} {T : Tab} {ps : List LkA} (h : BK w0 w B p bL bS T ps) (hl : T.ls.length ≤ 4) (hs : T.ss.length ≤ 6) :
    Calls Tryz.prog 47 #[.pointer (some ⟨p, 0, none⟩)] w fun e w' => ∃ a8 c8 a9 c9, e = .returned (.agg #[.int .i64 T.tm, .int .i64 T.nx, .slice a8 T.ls.length c8, .slice a9 T.ss.length c9]) ∧ Hid (TabO w' B (.slice a8 T.ls.length c8) (.slice a9 T.ss.length c9) T ps ∧ Below B w0 w') := by
  refine (table_any h hl hs).mono ?_
  rintro e w' ⟨vl, vs, rfl, ht, hb⟩
  have hln : ps.length = T.ls.length := h.len
  obtain ⟨a8, c8, rfl⟩ := OwnL.slice ht.ol
  obtain ⟨a9, c9, rfl⟩ := OwnS.slice ht.os
  rw [hln] at ht ⊢
  exact ⟨a8, c8, a9, c9, rfl, ht, h.bel.trans (hb.mono h.size)⟩
set_option maxRecDepth 100000 in
set_option maxHeartbeats 3200000 in
theorem implExpireLocks_any (T : Tab) (vl vs : Value) (now : Int) (w : World) (hl : RowL w vl T.ls) (hs : RowS w vs T.ss) (hw : ∀ x ∈ T.ls, x.n.size ≤ 1048576 ∧ x.ws.length ≤ 1048576) (hy1 : T.ls.length ≤ 1048576) (hy2 : T.ss.length ≤ 1048576) :
    Calls Tryz.prog 10 #[tabV T.tm T.nx vl vs, .int .i64 now] w fun e w' => ∃ ul us ps, e = .returned (.tuple #[tabV (stT T now (exT T now)).tm (stT T now (exT T now)).nx ul us, .int .i64 (sfC T now)]) ∧ TabO w' w.heap.size ul us (stT T now (exT T now)) ps ∧ Below w.heap.size w w' := by
  obtain ⟨la, lc, rfl⟩ := RowG.slice hl
  obtain ⟨sa, sc, rfl⟩ := RowG.slice hs
  have HSF : Hid (∀ W, Below w.heap.size w W → Calls Tryz.prog 44 #[.agg #[.int .i64 T.tm, .int .i64 T.nx, .slice la T.ls.length lc, .slice sa T.ss.length sc], .int .i64 now] W fun e w' => e = .returned (.int .i64 (sfC T now)) ∧ Below W.heap.size W w') := fun W hW => stepFault_any T _ _ now W (hl.below hW) (hs.below hW) hw hy1 hy2
  have HRW : Hid (RowL w (.slice la T.ls.length lc) T.ls ∧ RowS w (.slice sa T.ss.length sc) T.ss) := ⟨hl, hs⟩
  have HB : Hid (Below w.heap.size w ((w.alloc (.cells #[.int .i64 T.tm, .int .i64 T.nx, .slice la T.ls.length lc, .slice sa T.ss.length sc] 30)).alloc (.cells #[.int .i64 0, .int .i64 0, .slice none 0 0, .slice none 0 0] 30)) ∧ ((w.alloc (.cells #[.int .i64 T.tm, .int .i64 T.nx, .slice la T.ls.length lc, .slice sa T.ss.length sc] 30)).alloc (.cells #[.int .i64 0, .int .i64 0, .slice none 0 0, .slice none 0 0] 30)).heap[w.heap.size]? = some (.cells #[.int .i64 T.tm, .int .i64 T.nx, .slice la T.ls.length lc, .slice sa T.ss.length sc] 30 (0, 0)) ∧ ((w.alloc (.cells #[.int .i64 T.tm, .int .i64 T.nx, .slice la T.ls.length lc, .slice sa T.ss.length sc] 30)).alloc (.cells #[.int .i64 0, .int .i64 0, .slice none 0 0, .slice none 0 0] 30)).heap[w.heap.size + 1]? = some (.cells #[.int .i64 0, .int .i64 0, .slice none 0 0, .slice none 0 0] 30 (0, 0))) := ⟨bel2 _ _ _, (nest2 w _ _).1, (nest2 w _ _).2⟩
  clear hl hs hw
  unfold tabV
  go_enter Tryz.func10, Tryz.ntmps10
  go_upto_region 1 with fail
  generalize (w.alloc (.cells #[.int .i64 T.tm, .int .i64 T.nx, .slice la T.ls.length lc, .slice sa T.ss.length sc] 30)).alloc (.cells #[.int .i64 0, .int .i64 0, .slice none 0 0, .slice none 0 0] 30) = w1 at HB ⊢
  have c0 := (blk_cell HB.out.2.1 0 (x := .int .i64 T.tm) rfl).1
  have c1 := (blk_cell HB.out.2.1 1 (x := .int .i64 T.nx) rfl).1
  have c2 := (blk_cell HB.out.2.1 2 (x := .slice la T.ls.length lc) rfl).1
  have c3 := (blk_cell HB.out.2.1 3 (x := .slice sa T.ss.length sc) rfl).1
  go_upto_region 2 with (go_at_call 44; refine (HSF.out _ HB.out.1).mono ?_; rintro e w2 ⟨rfl, b2⟩; have B2 : Hid (Below w.heap.size w w2 ∧ w2.heap[w.heap.size]? = some (.cells #[.int .i64 T.tm, .int .i64 T.nx, .slice la T.ls.length lc, .slice sa T.ss.length sc] 30 (0, 0)) ∧ w2.heap[w.heap.size + 1]? = some (.cells #[.int .i64 0, .int .i64 0, .slice none 0 0, .slice none 0 0] 30 (0, 0))) := ⟨HB.out.1.trans (b2.mono HB.out.1.size), (b2.block _ (Array.getElem?_eq_some_iff.1 HB.out.2.1).1).trans HB.out.2.1, (b2.block _ (Array.getElem?_eq_some_iff.1 HB.out.2.2).1).trans HB.out.2.2⟩; clear b2)
  clear HB HSF c0 c1 c2 c3
  have c0 := (blk_cell B2.out.2.1 0 (x := .int .i64 T.tm) rfl).1
  have c1 := (blk_cell B2.out.2.1 1 (x := .int .i64 T.nx) rfl).1
  have c2 := (blk_cell B2.out.2.1 2 (x := .slice la T.ls.length lc) rfl).1
  have c3 := (blk_cell B2.out.2.1 3 (x := .slice sa T.ss.length sc) rfl).1
  have HRS : Hid (∀ W, Below (w.heap.size + 2) w2 W → W.heap[w.heap.size + 1]? = some (.cells #[.int .i64 0, .int .i64 0, .slice none 0 0, .slice none 0 0] 30 (0, 0))) := fun W hW => (hW.block _ (by omega)).trans B2.out.2.2
  have HSZ : Hid (w.heap.size + 2 ≤ w2.heap.size) := (Array.getElem?_eq_some_iff.1 B2.out.2.2).1
  have HOP : Hid (TOK T → Calls Tryz.prog 45 #[.agg #[.int .i64 T.tm, .int .i64 T.nx, .slice la T.ls.length lc, .slice sa T.ss.length sc]] w2 fun e w' => ∃ bL bS p qs, e = .returned (.pointer (some ⟨p, 0, none⟩)) ∧ BK w2 w' w2.heap.size p bL bS T qs) := fun hT => open_any hT _ _ w2 (HRW.out.1.below B2.out.1) (HRW.out.2.below B2.out.1)
  rcases sf_in T now with h0 | h1 | h4 | h13
  · have HST : Hid (stT T now (exT T now) = exT T now) := by show _ = _; unfold stT; rw [if_pos h0]
    have HCD : Hid (sfC T now = 0) := h0
    obtain ⟨hT, hnow, hnx⟩ := sf_0 h0
    obtain ⟨_, _, hln1, hln2⟩ := tok_bk hT
    rw [HCD.out]
    go_upto_region 7 with (first | (go_at_call 45; refine (HOP.out hT).mono ?_; rintro e w3 ⟨bL, bS, p, qs, rfl, hb3⟩; have H3 : Hid (BK w2 w3 w2.heap.size p bL bS T qs) := hb3; clear hb3) | (go_at_call 46; refine (goOn_any H3.out now hT hnow.1 hnow.2 (by omega)).mono ?_; rintro e w4 ⟨rfl, ⟨qs', hb4⟩, hf4⟩; have H4 : Hid (BK w2 w4 w2.heap.size p bL bS (exT T now) qs') := hb4; clear hb4 hf4))
    clear c0 c1 c2 c3
    have HTB := table2_any H4.out (by rw [(exT_len T now).1]; exact hln1) (by rw [(exT_len T now).2]; exact hln2)
    go_wp2_with (go_at_call 47; refine HTB.mono ?_; rintro e w5 ⟨a8, c8, a9, c9, rfl, H5⟩; have HR5 := HRS.out w5 (H5.out.2.mono HSZ.out); obtain ⟨r0, s0⟩ := blk_cell HR5 0 (x := .int .i64 0) rfl; obtain ⟨r1, s1⟩ := blk_cell HR5 1 (x := .int .i64 0) rfl; obtain ⟨r2, s2⟩ := blk_cell HR5 2 (x := .slice none 0 0) rfl; obtain ⟨r3, s3⟩ := blk_cell HR5 3 (x := .slice none 0 0) rfl)
    have HF : Hid (((((w5.setCell ⟨w.heap.size + 1, 0, none⟩ (.int .i64 (exT T now).tm)).setCell ⟨w.heap.size + 1, 1, none⟩ (.int .i64 (exT T now).nx)).setCell ⟨w.heap.size + 1, 2, none⟩ (.slice a8 (exT T now).ls.length c8)).setCell ⟨w.heap.size + 1, 3, none⟩ (.slice a9 (exT T now).ss.length c9)).heap[w.heap.size + 1]? = some (.cells #[.int .i64 (exT T now).tm, .int .i64 (exT T now).nx, .slice a8 (exT T now).ls.length c8, .slice a9 (exT T now).ss.length c9] 30 (0, 0)) ∧ TabO ((((w5.setCell ⟨w.heap.size + 1, 0, none⟩ (.int .i64 (exT T now).tm)).setCell ⟨w.heap.size + 1, 1, none⟩ (.int .i64 (exT T now).nx)).setCell ⟨w.heap.size + 1, 2, none⟩ (.slice a8 (exT T now).ls.length c8)).setCell ⟨w.heap.size + 1, 3, none⟩ (.slice a9 (exT T now).ss.length c9)) w.heap.size (.slice a8 (exT T now).ls.length c8) (.slice a9 (exT T now).ss.length c9) (exT T now) qs' ∧ Below w.heap.size w ((((w5.setCell ⟨w.heap.size + 1, 0, none⟩ (.int .i64 (exT T now).tm)).setCell ⟨w.heap.size + 1, 1, none⟩ (.int .i64 (exT T now).nx)).setCell ⟨w.heap.size + 1, 2, none⟩ (.slice a8 (exT T now).ls.length c8)).setCell ⟨w.heap.size + 1, 3, none⟩ (.slice a9 (exT T now).ss.length c9))) := by
      have far : ∀ k, k ≠ w.heap.size + 1 → ((((w5.setCell ⟨w.heap.size + 1, 0, none⟩ (.int .i64 (exT T now).tm)).setCell ⟨w.heap.size + 1, 1, none⟩ (.int .i64 (exT T now).nx)).setCell ⟨w.heap.size + 1, 2, none⟩ (.slice a8 (exT T now).ls.length c8)).setCell ⟨w.heap.size + 1, 3, none⟩ (.slice a9 (exT T now).ss.length c9)).heap[k]? = w5.heap[k]? := fun k hk => (blk_far hk 3 _).trans ((blk_far hk 2 _).trans ((blk_far hk 1 _).trans (blk_far hk 0 _)))
      have hle : w.heap.size ≤ w.heap.size + 1 := Nat.le_succ _
      exact ⟨blk_set (blk_set (blk_set (blk_set HR5 0 _) 1 _) 2 _) 3 _, tabO_mono (tabO_kept (tabO_mono H5.out.1 HSZ.out) fun g hg _ => far g (by omega)) (by omega), Below.setCell (Below.setCell (Below.setCell (Below.setCell (B2.out.1.trans (H5.out.2.mono B2.out.1.size)) (p := ⟨w.heap.size + 1, 0, none⟩) hle _) (p := ⟨w.heap.size + 1, 1, none⟩) hle _) (p := ⟨w.heap.size + 1, 2, none⟩) hle _) (p := ⟨w.heap.size + 1, 3, none⟩) hle _⟩
    go_wp2_with fail
    generalize ((((w5.setCell ⟨w.heap.size + 1, 0, none⟩ (.int .i64 (exT T now).tm)).setCell ⟨w.heap.size + 1, 1, none⟩ (.int .i64 (exT T now).nx)).setCell ⟨w.heap.size + 1, 2, none⟩ (.slice a8 (exT T now).ls.length c8)).setCell ⟨w.heap.size + 1, 3, none⟩ (.slice a9 (exT T now).ss.length c9)) = wf at HF ⊢
    have d0 := (blk_cell HF.out.1 0 (x := .int .i64 (exT T now).tm) rfl).1
    have d1 := (blk_cell HF.out.1 1 (x := .int .i64 (exT T now).nx) rfl).1
    have d2 := (blk_cell HF.out.1 2 (x := .slice a8 (exT T now).ls.length c8) rfl).1
    have d3 := (blk_cell HF.out.1 3 (x := .slice a9 (exT T now).ss.length c9) rfl).1
    exact bodyPost_ret (v := .tuple #[.agg #[.int .i64 (exT T now).tm, .int .i64 (exT T now).nx, .slice a8 (exT T now).ls.length c8, .slice a9 (exT T now).ss.length c9], .int .i64 0]) (by simp [results, Tryz.results10, go_sem, d0, d1, d2, d3]) rfl ⟨_, _, qs', (by rw [HST.out, HCD.out]; try rfl), by rw [HST.out]; exact HF.out.2.1, HF.out.2.2⟩
  · have HST : Hid (stT T now (exT T now) = t00) := by show _ = _; unfold stT; rw [if_neg (by omega), if_neg (by omega)]
    have HCD : Hid (sfC T now = 1) := h1
    rw [HCD.out]
    obtain ⟨r0, s0⟩ := blk_cell B2.out.2.2 0 (x := .int .i64 0) rfl
    obtain ⟨r1, s1⟩ := blk_cell B2.out.2.2 1 (x := .int .i64 0) rfl
    obtain ⟨r2, s2⟩ := blk_cell B2.out.2.2 2 (x := .slice none 0 0) rfl
    obtain ⟨r3, s3⟩ := blk_cell B2.out.2.2 3 (x := .slice none 0 0) rfl
    have HF : Hid (((((w2.setCell ⟨w.heap.size + 1, 0, none⟩ (.int .i64 0)).setCell ⟨w.heap.size + 1, 1, none⟩ (.int .i64 0)).setCell ⟨w.heap.size + 1, 2, none⟩ (.slice none 0 0)).setCell ⟨w.heap.size + 1, 3, none⟩ (.slice none 0 0)).heap[w.heap.size + 1]? = some (.cells #[.int .i64 0, .int .i64 0, .slice none 0 0, .slice none 0 0] 30 (0, 0)) ∧ TabO ((((w2.setCell ⟨w.heap.size + 1, 0, none⟩ (.int .i64 0)).setCell ⟨w.heap.size + 1, 1, none⟩ (.int .i64 0)).setCell ⟨w.heap.size + 1, 2, none⟩ (.slice none 0 0)).setCell ⟨w.heap.size + 1, 3, none⟩ (.slice none 0 0)) w.heap.size (.slice none 0 0) (.slice none 0 0) t00 [] ∧ Below w.heap.size w ((((w2.setCell ⟨w.heap.size + 1, 0, none⟩ (.int .i64 0)).setCell ⟨w.heap.size + 1, 1, none⟩ (.int .i64 0)).setCell ⟨w.heap.size + 1, 2, none⟩ (.slice none 0 0)).setCell ⟨w.heap.size + 1, 3, none⟩ (.slice none 0 0))) := by
      have far : ∀ k, k ≠ w.heap.size + 1 → ((((w2.setCell ⟨w.heap.size + 1, 0, none⟩ (.int .i64 0)).setCell ⟨w.heap.size + 1, 1, none⟩ (.int .i64 0)).setCell ⟨w.heap.size + 1, 2, none⟩ (.slice none 0 0)).setCell ⟨w.heap.size + 1, 3, none⟩ (.slice none 0 0)).heap[k]? = w2.heap[k]? := fun k hk => (blk_far hk 3 _).trans ((blk_far hk 2 _).trans ((blk_far hk 1 _).trans (blk_far hk 0 _)))
      have hle : w.heap.size ≤ w.heap.size + 1 := Nat.le_succ _
      exact ⟨blk_set (blk_set (blk_set (blk_set B2.out.2.2 0 _) 1 _) 2 _) 3 _, tabO_mono (tabO_kept (tabO_nil w2 (w.heap.size + 2)) fun g hg _ => far g (by omega)) (by omega), Below.setCell (Below.setCell (Below.setCell (Below.setCell B2.out.1 (p := ⟨w.heap.size + 1, 0, none⟩) hle _) (p := ⟨w.heap.size + 1, 1, none⟩) hle _) (p := ⟨w.heap.size + 1, 2, none⟩) hle _) (p := ⟨w.heap.size + 1, 3, none⟩) hle _⟩
    go_wp2_with fail
    generalize ((((w2.setCell ⟨w.heap.size + 1, 0, none⟩ (.int .i64 0)).setCell ⟨w.heap.size + 1, 1, none⟩ (.int .i64 0)).setCell ⟨w.heap.size + 1, 2, none⟩ (.slice none 0 0)).setCell ⟨w.heap.size + 1, 3, none⟩ (.slice none 0 0)) = wf at HF ⊢
    have d0 := (blk_cell HF.out.1 0 (x := .int .i64 0) rfl).1
    have d1 := (blk_cell HF.out.1 1 (x := .int .i64 0) rfl).1
    have d2 := (blk_cell HF.out.1 2 (x := .slice none 0 0) rfl).1
    have d3 := (blk_cell HF.out.1 3 (x := .slice none 0 0) rfl).1
    exact bodyPost_ret (v := .tuple #[.agg #[.int .i64 0, .int .i64 0, .slice none 0 0, .slice none 0 0], .int .i64 1]) (by simp [results, Tryz.results10, go_sem, d0, d1, d2, d3]) rfl ⟨_, _, [], (by rw [HST.out, HCD.out]; try rfl), by rw [HST.out]; exact HF.out.2.1, HF.out.2.2⟩
  · have HST : Hid (stT T now (exT T now) = t00) := by show _ = _; unfold stT; rw [if_neg (by omega), if_neg (by omega)]
    have HCD : Hid (sfC T now = 4) := h4
    rw [HCD.out]
    obtain ⟨r0, s0⟩ := blk_cell B2.out.2.2 0 (x := .int .i64 0) rfl
    obtain ⟨r1, s1⟩ := blk_cell B2.out.2.2 1 (x := .int .i64 0) rfl
    obtain ⟨r2, s2⟩ := blk_cell B2.out.2.2 2 (x := .slice none 0 0) rfl
    obtain ⟨r3, s3⟩ := blk_cell B2.out.2.2 3 (x := .slice none 0 0) rfl
    have HF : Hid (((((w2.setCell ⟨w.heap.size + 1, 0, none⟩ (.int .i64 0)).setCell ⟨w.heap.size + 1, 1, none⟩ (.int .i64 0)).setCell ⟨w.heap.size + 1, 2, none⟩ (.slice none 0 0)).setCell ⟨w.heap.size + 1, 3, none⟩ (.slice none 0 0)).heap[w.heap.size + 1]? = some (.cells #[.int .i64 0, .int .i64 0, .slice none 0 0, .slice none 0 0] 30 (0, 0)) ∧ TabO ((((w2.setCell ⟨w.heap.size + 1, 0, none⟩ (.int .i64 0)).setCell ⟨w.heap.size + 1, 1, none⟩ (.int .i64 0)).setCell ⟨w.heap.size + 1, 2, none⟩ (.slice none 0 0)).setCell ⟨w.heap.size + 1, 3, none⟩ (.slice none 0 0)) w.heap.size (.slice none 0 0) (.slice none 0 0) t00 [] ∧ Below w.heap.size w ((((w2.setCell ⟨w.heap.size + 1, 0, none⟩ (.int .i64 0)).setCell ⟨w.heap.size + 1, 1, none⟩ (.int .i64 0)).setCell ⟨w.heap.size + 1, 2, none⟩ (.slice none 0 0)).setCell ⟨w.heap.size + 1, 3, none⟩ (.slice none 0 0))) := by
      have far : ∀ k, k ≠ w.heap.size + 1 → ((((w2.setCell ⟨w.heap.size + 1, 0, none⟩ (.int .i64 0)).setCell ⟨w.heap.size + 1, 1, none⟩ (.int .i64 0)).setCell ⟨w.heap.size + 1, 2, none⟩ (.slice none 0 0)).setCell ⟨w.heap.size + 1, 3, none⟩ (.slice none 0 0)).heap[k]? = w2.heap[k]? := fun k hk => (blk_far hk 3 _).trans ((blk_far hk 2 _).trans ((blk_far hk 1 _).trans (blk_far hk 0 _)))
      have hle : w.heap.size ≤ w.heap.size + 1 := Nat.le_succ _
      exact ⟨blk_set (blk_set (blk_set (blk_set B2.out.2.2 0 _) 1 _) 2 _) 3 _, tabO_mono (tabO_kept (tabO_nil w2 (w.heap.size + 2)) fun g hg _ => far g (by omega)) (by omega), Below.setCell (Below.setCell (Below.setCell (Below.setCell B2.out.1 (p := ⟨w.heap.size + 1, 0, none⟩) hle _) (p := ⟨w.heap.size + 1, 1, none⟩) hle _) (p := ⟨w.heap.size + 1, 2, none⟩) hle _) (p := ⟨w.heap.size + 1, 3, none⟩) hle _⟩
    go_wp2_with fail
    generalize ((((w2.setCell ⟨w.heap.size + 1, 0, none⟩ (.int .i64 0)).setCell ⟨w.heap.size + 1, 1, none⟩ (.int .i64 0)).setCell ⟨w.heap.size + 1, 2, none⟩ (.slice none 0 0)).setCell ⟨w.heap.size + 1, 3, none⟩ (.slice none 0 0)) = wf at HF ⊢
    have d0 := (blk_cell HF.out.1 0 (x := .int .i64 0) rfl).1
    have d1 := (blk_cell HF.out.1 1 (x := .int .i64 0) rfl).1
    have d2 := (blk_cell HF.out.1 2 (x := .slice none 0 0) rfl).1
    have d3 := (blk_cell HF.out.1 3 (x := .slice none 0 0) rfl).1
    exact bodyPost_ret (v := .tuple #[.agg #[.int .i64 0, .int .i64 0, .slice none 0 0, .slice none 0 0], .int .i64 4]) (by simp [results, Tryz.results10, go_sem, d0, d1, d2, d3]) rfl ⟨_, _, [], (by rw [HST.out, HCD.out]; try rfl), by rw [HST.out]; exact HF.out.2.1, HF.out.2.2⟩
  · have HST : Hid (stT T now (exT T now) = T) := by show _ = _; unfold stT; rw [if_neg (by omega), if_pos h13]
    have HCD : Hid (sfC T now = 13) := h13
    have hT := sf_13 h13
    obtain ⟨_, _, hln1, hln2⟩ := tok_bk hT
    rw [HCD.out]
    go_upto_region 7 with (first | (go_at_call 45; refine (HOP.out hT).mono ?_; rintro e w3 ⟨bL, bS, p, qs, rfl, hb3⟩; have H3 : Hid (BK w2 w3 w2.heap.size p bL bS T qs) := hb3; clear hb3))
    clear c0 c1 c2 c3
    have HTB := table2_any H3.out (by exact hln1) (by exact hln2)
    go_wp2_with (go_at_call 47; refine HTB.mono ?_; rintro e w5 ⟨a8, c8, a9, c9, rfl, H5⟩; have HR5 := HRS.out w5 (H5.out.2.mono HSZ.out); obtain ⟨r0, s0⟩ := blk_cell HR5 0 (x := .int .i64 0) rfl; obtain ⟨r1, s1⟩ := blk_cell HR5 1 (x := .int .i64 0) rfl; obtain ⟨r2, s2⟩ := blk_cell HR5 2 (x := .slice none 0 0) rfl; obtain ⟨r3, s3⟩ := blk_cell HR5 3 (x := .slice none 0 0) rfl)
    have HF : Hid (((((w5.setCell ⟨w.heap.size + 1, 0, none⟩ (.int .i64 T.tm)).setCell ⟨w.heap.size + 1, 1, none⟩ (.int .i64 T.nx)).setCell ⟨w.heap.size + 1, 2, none⟩ (.slice a8 T.ls.length c8)).setCell ⟨w.heap.size + 1, 3, none⟩ (.slice a9 T.ss.length c9)).heap[w.heap.size + 1]? = some (.cells #[.int .i64 T.tm, .int .i64 T.nx, .slice a8 T.ls.length c8, .slice a9 T.ss.length c9] 30 (0, 0)) ∧ TabO ((((w5.setCell ⟨w.heap.size + 1, 0, none⟩ (.int .i64 T.tm)).setCell ⟨w.heap.size + 1, 1, none⟩ (.int .i64 T.nx)).setCell ⟨w.heap.size + 1, 2, none⟩ (.slice a8 T.ls.length c8)).setCell ⟨w.heap.size + 1, 3, none⟩ (.slice a9 T.ss.length c9)) w.heap.size (.slice a8 T.ls.length c8) (.slice a9 T.ss.length c9) T qs ∧ Below w.heap.size w ((((w5.setCell ⟨w.heap.size + 1, 0, none⟩ (.int .i64 T.tm)).setCell ⟨w.heap.size + 1, 1, none⟩ (.int .i64 T.nx)).setCell ⟨w.heap.size + 1, 2, none⟩ (.slice a8 T.ls.length c8)).setCell ⟨w.heap.size + 1, 3, none⟩ (.slice a9 T.ss.length c9))) := by
      have far : ∀ k, k ≠ w.heap.size + 1 → ((((w5.setCell ⟨w.heap.size + 1, 0, none⟩ (.int .i64 T.tm)).setCell ⟨w.heap.size + 1, 1, none⟩ (.int .i64 T.nx)).setCell ⟨w.heap.size + 1, 2, none⟩ (.slice a8 T.ls.length c8)).setCell ⟨w.heap.size + 1, 3, none⟩ (.slice a9 T.ss.length c9)).heap[k]? = w5.heap[k]? := fun k hk => (blk_far hk 3 _).trans ((blk_far hk 2 _).trans ((blk_far hk 1 _).trans (blk_far hk 0 _)))
      have hle : w.heap.size ≤ w.heap.size + 1 := Nat.le_succ _
      exact ⟨blk_set (blk_set (blk_set (blk_set HR5 0 _) 1 _) 2 _) 3 _, tabO_mono (tabO_kept (tabO_mono H5.out.1 HSZ.out) fun g hg _ => far g (by omega)) (by omega), Below.setCell (Below.setCell (Below.setCell (Below.setCell (B2.out.1.trans (H5.out.2.mono B2.out.1.size)) (p := ⟨w.heap.size + 1, 0, none⟩) hle _) (p := ⟨w.heap.size + 1, 1, none⟩) hle _) (p := ⟨w.heap.size + 1, 2, none⟩) hle _) (p := ⟨w.heap.size + 1, 3, none⟩) hle _⟩
    go_wp2_with fail
    generalize ((((w5.setCell ⟨w.heap.size + 1, 0, none⟩ (.int .i64 T.tm)).setCell ⟨w.heap.size + 1, 1, none⟩ (.int .i64 T.nx)).setCell ⟨w.heap.size + 1, 2, none⟩ (.slice a8 T.ls.length c8)).setCell ⟨w.heap.size + 1, 3, none⟩ (.slice a9 T.ss.length c9)) = wf at HF ⊢
    have d0 := (blk_cell HF.out.1 0 (x := .int .i64 T.tm) rfl).1
    have d1 := (blk_cell HF.out.1 1 (x := .int .i64 T.nx) rfl).1
    have d2 := (blk_cell HF.out.1 2 (x := .slice a8 T.ls.length c8) rfl).1
    have d3 := (blk_cell HF.out.1 3 (x := .slice a9 T.ss.length c9) rfl).1
    exact bodyPost_ret (v := .tuple #[.agg #[.int .i64 T.tm, .int .i64 T.nx, .slice a8 T.ls.length c8, .slice a9 T.ss.length c9], .int .i64 13]) (by simp [results, Tryz.results10, go_sem, d0, d1, d2, d3]) rfl ⟨_, _, qs, (by rw [HST.out, HCD.out]; try rfl), by rw [HST.out]; exact HF.out.2.1, HF.out.2.2⟩
end Go.Proofs.YtlgfeohoebmbcaaGreat.Jl
