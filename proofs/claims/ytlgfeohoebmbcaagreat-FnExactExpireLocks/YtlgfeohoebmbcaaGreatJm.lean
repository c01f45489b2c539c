/- ExpireLocks of the specification. -/
import Derived.Test.YtlgfeohoebmbcaaGreatJl
import Derived.Test.YtlgfeohoebmbcaaGreatEc
import Derived.Test.YtlgfeohoebmbcaaGreatTq
namespace Go.Proofs.YtlgfeohoebmbcaaGreat.Jm
open Go.RowKit Go.Proofs.YtlgfeohoebmbcaaGreat.Sl Go.Proofs.YtlgfeohoebmbcaaGreat.By Go.Proofs.YtlgfeohoebmbcaaGreat.Ap Go.Proofs.YtlgfeohoebmbcaaGreat.Tb Go.Proofs.YtlgfeohoebmbcaaGreat.Tw Go.Proofs.YtlgfeohoebmbcaaGreat.Mw Go.Proofs.YtlgfeohoebmbcaaGreat.Wa Go.Proofs.YtlgfeohoebmbcaaGreat.Bk Go.Proofs.YtlgfeohoebmbcaaGreat.Tp Go.Proofs.YtlgfeohoebmbcaaGreat.Da Go.Proofs.YtlgfeohoebmbcaaGreat.Ja Go.Proofs.YtlgfeohoebmbcaaGreat.Jb Go.Proofs.YtlgfeohoebmbcaaGreat.Jc
open Go.Proofs.YtlgfeohoebmbcaaGreat.Lo (LkA uV clL OwnL own_block kind_ne Apart nest2 OwnL.below OwnL.slice OwnL.kept OwnL.lt OwnL.mono OwnL.row l05Own_any)
open Go.Proofs.YtlgfeohoebmbcaaGreat.Tx (blk_cell blk_set blk_far blk_new bel_new)
open Go.Proofs.YtlgfeohoebmbcaaGreat.Jj Go.Proofs.YtlgfeohoebmbcaaGreat.Jk Go.Proofs.YtlgfeohoebmbcaaGreat.Jl Go.Proofs.YtlgfeohoebmbcaaGreat.Rq
open Go.Proofs.YtlgfeohoebmbcaaGreat.Ea (OwnT l05Expire_any)
open Go.Proofs.YtlgfeohoebmbcaaGreat.Tq (specTableOK_any)
/-- A table that is only read. -/
def TabR (w : World) (vl vs : Value) (T : Tab) : Prop := RowL w vl T.ls ∧ RowS w vs T.ss
theorem TabR.below {w w' : World} {vl vs : Value} {T : Tab} (h : TabR w vl vs T) (hb : Below w.heap.size w w') : TabR w' vl vs T := ⟨h.1.below hb, h.2.below hb⟩
theorem TabR.nil (w : World) : TabR w (.slice none 0 0) (.slice none 0 0) t00 := ⟨⟨none, 0, rfl, .inl rfl⟩, ⟨none, 0, rfl, .inl rfl⟩⟩
/-- A table in memory of one's own: as the specification's functions leave it. -/
structure TabE (w : World) (B : Nat) (vl vs : Value) (T : Tab) (ps : List LkA) : Prop where
  ol : OwnL w B vl ps
  os : OwnS w B vs T.ss
  ow : ∀ q ∈ ps, OwnW w B (uV q) q.1.ws
  eq : ps.map (·.1) = T.ls
theorem TabE.row {w : World} {B : Nat} {vl vs : Value} {T : Tab} {ps : List LkA} (h : TabE w B vl vs T ps) : TabR w vl vs T := ⟨by rw [← h.eq]; exact h.ol.row fun q hq => (h.ow q hq).row, h.os.row⟩
theorem TabE.kept {w w' : World} {B : Nat} {vl vs : Value} {T : Tab} {ps : List LkA} (h : TabE w B vl vs T ps) (hk : ∀ g, B ≤ g → g < w.heap.size → w'.heap[g]? = w.heap[g]?) : TabE w' B vl vs T ps := ⟨h.ol.kept fun g hg => hk g (h.ol.lt g hg).1 (h.ol.lt g hg).2, h.os.kept fun g hg => hk g (h.os.lt g hg).1 (h.os.lt g hg).2, fun q hq => (h.ow q hq).kept fun g hg => hk g ((h.ow q hq).lt g hg).1 ((h.ow q hq).lt g hg).2, h.eq⟩
theorem TabE.nil (w : World) (B : Nat) : TabE w B (.slice none 0 0) (.slice none 0 0) t00 [] := ⟨World.ownsRow_nil _ _ _ _, OwnS.nil _ _, fun q hq => (by cases hq), rfl⟩
theorem own_tab {T : Tab} (vl vs : Value) (w : World) (h : TabR w vl vs T) (hw : ∀ x ∈ T.ls, x.ws.length ≤ 1000) (hy1 : T.ls.length ≤ 1000) (hy2 : T.ss.length ≤ 1000) :
    Calls Tryz.prog 40 #[tabV T.tm T.nx vl vs] w fun e w' => ∃ a c a' c' ps, e = .returned (.agg #[.int .i64 T.tm, .int .i64 T.nx, .slice a T.ls.length c, .slice a' T.ss.length c']) ∧ Hid (TabE w' w.heap.size (.slice a T.ls.length c) (.slice a' T.ss.length c') T ps ∧ Below w.heap.size w w') := by
  refine (Lo.l05Own_all T.tm T.nx vl vs T.ls T.ss w h.1 h.2 hw hy1 hy2).mono ?_
  rintro e w' ⟨ul, us, ps, rfl, ⟨o1, o2, o3, _⟩, o4, b⟩
  obtain ⟨a, c, rfl⟩ := OwnL.slice o1
  obtain ⟨a', c', rfl⟩ := OwnS.slice o4
  have hl : ps.length = T.ls.length := by rw [← o3, List.length_map]
  rw [hl] at o1 ⊢
  exact ⟨a, c, a', c', ps, rfl, ⟨o1, o4, o2, o3⟩, b⟩
theorem expire_tab {T : Tab} (hT : TOK T) (vl vs : Value) (now : Int) (w : World) (h : TabR w vl vs T) (h0 : 0 ≤ now) (h1 : now ≤ 1000000000) (hn : T.nx ≤ 999990) :
    Calls Tryz.prog 41 #[tabV T.tm T.nx vl vs, .int .i64 now] w fun e w' => ∃ a c a' c' ps, e = .returned (.agg #[.int .i64 (exT T now).tm, .int .i64 (exT T now).nx, .slice a (exT T now).ls.length c, .slice a' (exT T now).ss.length c']) ∧ Hid (TabE w' w.heap.size (.slice a (exT T now).ls.length c) (.slice a' (exT T now).ss.length c') (exT T now) ps ∧ Below w.heap.size w w') := by
  refine (l05Expire_any T vl vs now w h.1 h.2 hT h0 h1 hn).mono ?_
  rintro e w' ⟨⟨ul, us, ps, rfl, o1, o2, o3, _, o4⟩, b⟩
  obtain ⟨a, c, rfl⟩ := OwnL.slice o1
  obtain ⟨a', c', rfl⟩ := OwnS.slice o4
  have hl : ps.length = (exT T now).ls.length := by rw [← o3, List.length_map]
  rw [hl] at o1 ⊢
  exact ⟨a, c, a', c', ps, rfl, ⟨o1, o4, o2, o3⟩, b⟩
theorem in_b (x a b : Int) (w : World) : Calls Tryz.prog 39 #[.int .i64 x, .int .i64 a, .int .i64 b] w fun e w' => e = .returned (.bool (inB x a b)) ∧ w' = w := l01In_any x a b w
set_option maxRecDepth 100000 in
set_option maxHeartbeats 3200000 in
theorem specExpireLocks_any (T : Tab) (vl vs : Value) (now : Int) (w : World) (hl : RowL w vl T.ls) (hs : RowS w vs T.ss) (hw : ∀ x ∈ T.ls, x.n.size ≤ 1048576 ∧ x.ws.length ≤ 1048576) (hy1 : T.ls.length ≤ 1048576) (hy2 : T.ss.length ≤ 1048576) :
    Calls Tryz.prog 8 #[tabV T.tm T.nx vl vs, .int .i64 now] w fun e w' => ∃ ul us, e = .returned (.tuple #[tabV (stT T now (exT T now)).tm (stT T now (exT T now)).nx ul us, .int .i64 (sfC T now)]) ∧ TabR w' ul us (stT T now (exT T now)) ∧ Below w.heap.size w w' := by
  obtain ⟨la, lc, rfl⟩ := RowG.slice hl
  obtain ⟨sa, sc, rfl⟩ := RowG.slice hs
  have HTO : Hid (∀ W, Below w.heap.size w W → Calls Tryz.prog 38 #[.agg #[.int .i64 T.tm, .int .i64 T.nx, .slice la T.ls.length lc, .slice sa T.ss.length sc]] W fun e w' => e = .returned (.bool (bOf (TOK T))) ∧ Below W.heap.size W w') := fun W hW => specTableOK_any T.tm T.nx _ _ T.ls T.ss W (hl.below hW) (hs.below hW) hw hy1 hy2
  have HRW : Hid (TabR w (.slice la T.ls.length lc) (.slice sa T.ss.length sc) T) := ⟨hl, hs⟩
  have HB : Hid (Below w.heap.size w ((w.alloc (.cells #[.int .i64 T.tm, .int .i64 T.nx, .slice la T.ls.length lc, .slice sa T.ss.length sc] 30)).alloc (.cells #[.int .i64 0, .int .i64 0, .slice none 0 0, .slice none 0 0] 30)) ∧ ((w.alloc (.cells #[.int .i64 T.tm, .int .i64 T.nx, .slice la T.ls.length lc, .slice sa T.ss.length sc] 30)).alloc (.cells #[.int .i64 0, .int .i64 0, .slice none 0 0, .slice none 0 0] 30)).heap[w.heap.size]? = some (.cells #[.int .i64 T.tm, .int .i64 T.nx, .slice la T.ls.length lc, .slice sa T.ss.length sc] 30 (0, 0)) ∧ ((w.alloc (.cells #[.int .i64 T.tm, .int .i64 T.nx, .slice la T.ls.length lc, .slice sa T.ss.length sc] 30)).alloc (.cells #[.int .i64 0, .int .i64 0, .slice none 0 0, .slice none 0 0] 30)).heap[w.heap.size + 1]? = some (.cells #[.int .i64 0, .int .i64 0, .slice none 0 0, .slice none 0 0] 30 (0, 0))) := ⟨bel2 _ _ _, (nest2 w _ _).1, (nest2 w _ _).2⟩
  clear hl hs hw
  unfold tabV
  go_enter Tryz.func8, Tryz.ntmps8
  go_upto_region 1 with fail
  generalize (w.alloc (.cells #[.int .i64 T.tm, .int .i64 T.nx, .slice la T.ls.length lc, .slice sa T.ss.length sc] 30)).alloc (.cells #[.int .i64 0, .int .i64 0, .slice none 0 0, .slice none 0 0] 30) = w1 at HB ⊢
  have c0 := (blk_cell HB.out.2.1 0 (x := .int .i64 T.tm) rfl).1
  have c1 := (blk_cell HB.out.2.1 1 (x := .int .i64 T.nx) rfl).1
  have c2 := (blk_cell HB.out.2.1 2 (x := .slice la T.ls.length lc) rfl).1
  have c3 := (blk_cell HB.out.2.1 3 (x := .slice sa T.ss.length sc) rfl).1
  cases hK : bOf (TOK T) with
  | false =>
    have HCD : Hid (sfC T now = 1) := by show _ = _; unfold sfC; rw [if_pos hK]
    have HST : Hid (stT T now (exT T now) = t00) := by show _ = _; unfold stT; rw [if_neg (by rw [HCD.out]; decide), if_neg (by rw [HCD.out]; decide)]
    go_wp2_with (first | (go_at_call 38; refine (HTO.out _ HB.out.1).mono ?_; rintro e w2 ⟨rfl, b2⟩; have B2 : Hid (Below w.heap.size w w2 ∧ w2.heap[w.heap.size]? = some (.cells #[.int .i64 T.tm, .int .i64 T.nx, .slice la T.ls.length lc, .slice sa T.ss.length sc] 30 (0, 0)) ∧ w2.heap[w.heap.size + 1]? = some (.cells #[.int .i64 0, .int .i64 0, .slice none 0 0, .slice none 0 0] 30 (0, 0))) := ⟨HB.out.1.trans (b2.mono HB.out.1.size), (b2.block _ (Array.getElem?_eq_some_iff.1 HB.out.2.1).1).trans HB.out.2.1, (b2.block _ (Array.getElem?_eq_some_iff.1 HB.out.2.2).1).trans HB.out.2.2⟩; clear b2; rw [hK]; have d0 := (blk_cell B2.out.2.1 0 (x := .int .i64 T.tm) rfl).1; have d1 := (blk_cell B2.out.2.1 1 (x := .int .i64 T.nx) rfl).1; have d2 := (blk_cell B2.out.2.1 2 (x := .slice la T.ls.length lc) rfl).1; have d3 := (blk_cell B2.out.2.1 3 (x := .slice sa T.ss.length sc) rfl).1; obtain ⟨r0, s0⟩ := blk_cell B2.out.2.2 0 (x := .int .i64 0) rfl; obtain ⟨r1, s1⟩ := blk_cell B2.out.2.2 1 (x := .int .i64 0) rfl; obtain ⟨r2, s2⟩ := blk_cell B2.out.2.2 2 (x := .slice none 0 0) rfl; obtain ⟨r3, s3⟩ := blk_cell B2.out.2.2 3 (x := .slice none 0 0) rfl))
    have HF : Hid (((((w2.setCell ⟨w.heap.size + 1, 0, none⟩ (.int .i64 0)).setCell ⟨w.heap.size + 1, 1, none⟩ (.int .i64 0)).setCell ⟨w.heap.size + 1, 2, none⟩ (.slice none 0 0)).setCell ⟨w.heap.size + 1, 3, none⟩ (.slice none 0 0)).heap[w.heap.size + 1]? = some (.cells #[.int .i64 0, .int .i64 0, .slice none 0 0, .slice none 0 0] 30 (0, 0)) ∧ TabR ((((w2.setCell ⟨w.heap.size + 1, 0, none⟩ (.int .i64 0)).setCell ⟨w.heap.size + 1, 1, none⟩ (.int .i64 0)).setCell ⟨w.heap.size + 1, 2, none⟩ (.slice none 0 0)).setCell ⟨w.heap.size + 1, 3, none⟩ (.slice none 0 0)) (.slice none 0 0) (.slice none 0 0) t00 ∧ Below w.heap.size w ((((w2.setCell ⟨w.heap.size + 1, 0, none⟩ (.int .i64 0)).setCell ⟨w.heap.size + 1, 1, none⟩ (.int .i64 0)).setCell ⟨w.heap.size + 1, 2, none⟩ (.slice none 0 0)).setCell ⟨w.heap.size + 1, 3, none⟩ (.slice none 0 0))) := by
      have far : ∀ k, k ≠ w.heap.size + 1 → ((((w2.setCell ⟨w.heap.size + 1, 0, none⟩ (.int .i64 0)).setCell ⟨w.heap.size + 1, 1, none⟩ (.int .i64 0)).setCell ⟨w.heap.size + 1, 2, none⟩ (.slice none 0 0)).setCell ⟨w.heap.size + 1, 3, none⟩ (.slice none 0 0)).heap[k]? = w2.heap[k]? := fun k hk => (blk_far hk 3 _).trans ((blk_far hk 2 _).trans ((blk_far hk 1 _).trans (blk_far hk 0 _)))
      have hle : w.heap.size ≤ w.heap.size + 1 := Nat.le_succ _
      have h2 := (Array.getElem?_eq_some_iff.1 B2.out.2.2).1
      exact ⟨blk_set (blk_set (blk_set (blk_set B2.out.2.2 0 _) 1 _) 2 _) 3 _, ((TabE.nil w2 (w.heap.size + 2)).kept fun g hg _ => far g (by omega)).row, Below.setCell (Below.setCell (Below.setCell (Below.setCell B2.out.1 (p := ⟨w.heap.size + 1, 0, none⟩) hle _) (p := ⟨w.heap.size + 1, 1, none⟩) hle _) (p := ⟨w.heap.size + 1, 2, none⟩) hle _) (p := ⟨w.heap.size + 1, 3, none⟩) hle _⟩
    generalize ((((w2.setCell ⟨w.heap.size + 1, 0, none⟩ (.int .i64 0)).setCell ⟨w.heap.size + 1, 1, none⟩ (.int .i64 0)).setCell ⟨w.heap.size + 1, 2, none⟩ (.slice none 0 0)).setCell ⟨w.heap.size + 1, 3, none⟩ (.slice none 0 0)) = wf at HF ⊢
    have f0 := (blk_cell HF.out.1 0 (x := .int .i64 0) rfl).1
    have f1 := (blk_cell HF.out.1 1 (x := .int .i64 0) rfl).1
    have f2 := (blk_cell HF.out.1 2 (x := .slice none 0 0) rfl).1
    have f3 := (blk_cell HF.out.1 3 (x := .slice none 0 0) rfl).1
    exact bodyPost_ret (v := .tuple #[.agg #[.int .i64 0, .int .i64 0, .slice none 0 0, .slice none 0 0], .int .i64 1]) (by simp [results, Tryz.results8, go_sem, f0, f1, f2, f3]) rfl ⟨_, _, (by rw [HST.out, HCD.out]; try rfl), by rw [HST.out]; exact HF.out.2.1, HF.out.2.2⟩
  | true =>
    have hTok : TOK T := Lp.tok_true hK
    obtain ⟨_, htw, hln1, hln2⟩ := tok_bk hTok
    have HTW : Hid ((∀ x ∈ T.ls, x.ws.length ≤ 1000) ∧ T.ls.length ≤ 1000 ∧ T.ss.length ≤ 1000) := ⟨fun x hx => (htw x hx).2, by omega, by omega⟩
    clear htw
    cases hI : inB now 0 1000000000 with
    | false =>
      have HCD : Hid (sfC T now = 4) := by show _ = _; unfold sfC; rw [if_neg (by rw [hK]; decide), if_pos hI]
      have HST : Hid (stT T now (exT T now) = t00) := by show _ = _; unfold stT; rw [if_neg (by rw [HCD.out]; decide), if_neg (by rw [HCD.out]; decide)]
      go_wp2_with (first | (go_at_call 38; refine (HTO.out _ HB.out.1).mono ?_; rintro e w2 ⟨rfl, b2⟩; have B2 : Hid (Below w.heap.size w w2 ∧ w2.heap[w.heap.size]? = some (.cells #[.int .i64 T.tm, .int .i64 T.nx, .slice la T.ls.length lc, .slice sa T.ss.length sc] 30 (0, 0)) ∧ w2.heap[w.heap.size + 1]? = some (.cells #[.int .i64 0, .int .i64 0, .slice none 0 0, .slice none 0 0] 30 (0, 0))) := ⟨HB.out.1.trans (b2.mono HB.out.1.size), (b2.block _ (Array.getElem?_eq_some_iff.1 HB.out.2.1).1).trans HB.out.2.1, (b2.block _ (Array.getElem?_eq_some_iff.1 HB.out.2.2).1).trans HB.out.2.2⟩; clear b2; rw [hK]; have d0 := (blk_cell B2.out.2.1 0 (x := .int .i64 T.tm) rfl).1; have d1 := (blk_cell B2.out.2.1 1 (x := .int .i64 T.nx) rfl).1; have d2 := (blk_cell B2.out.2.1 2 (x := .slice la T.ls.length lc) rfl).1; have d3 := (blk_cell B2.out.2.1 3 (x := .slice sa T.ss.length sc) rfl).1; obtain ⟨r0, s0⟩ := blk_cell B2.out.2.2 0 (x := .int .i64 0) rfl; obtain ⟨r1, s1⟩ := blk_cell B2.out.2.2 1 (x := .int .i64 0) rfl; obtain ⟨r2, s2⟩ := blk_cell B2.out.2.2 2 (x := .slice none 0 0) rfl; obtain ⟨r3, s3⟩ := blk_cell B2.out.2.2 3 (x := .slice none 0 0) rfl) | (go_at_call 39; refine (in_b _ _ _ _).mono ?_; rintro e w3 ⟨rfl, hw3⟩; rw [hw3, hI]; clear hw3))
      have HF : Hid (((((w2.setCell ⟨w.heap.size + 1, 0, none⟩ (.int .i64 0)).setCell ⟨w.heap.size + 1, 1, none⟩ (.int .i64 0)).setCell ⟨w.heap.size + 1, 2, none⟩ (.slice none 0 0)).setCell ⟨w.heap.size + 1, 3, none⟩ (.slice none 0 0)).heap[w.heap.size + 1]? = some (.cells #[.int .i64 0, .int .i64 0, .slice none 0 0, .slice none 0 0] 30 (0, 0)) ∧ TabR ((((w2.setCell ⟨w.heap.size + 1, 0, none⟩ (.int .i64 0)).setCell ⟨w.heap.size + 1, 1, none⟩ (.int .i64 0)).setCell ⟨w.heap.size + 1, 2, none⟩ (.slice none 0 0)).setCell ⟨w.heap.size + 1, 3, none⟩ (.slice none 0 0)) (.slice none 0 0) (.slice none 0 0) t00 ∧ Below w.heap.size w ((((w2.setCell ⟨w.heap.size + 1, 0, none⟩ (.int .i64 0)).setCell ⟨w.heap.size + 1, 1, none⟩ (.int .i64 0)).setCell ⟨w.heap.size + 1, 2, none⟩ (.slice none 0 0)).setCell ⟨w.heap.size + 1, 3, none⟩ (.slice none 0 0))) := by
        have far : ∀ k, k ≠ w.heap.size + 1 → ((((w2.setCell ⟨w.heap.size + 1, 0, none⟩ (.int .i64 0)).setCell ⟨w.heap.size + 1, 1, none⟩ (.int .i64 0)).setCell ⟨w.heap.size + 1, 2, none⟩ (.slice none 0 0)).setCell ⟨w.heap.size + 1, 3, none⟩ (.slice none 0 0)).heap[k]? = w2.heap[k]? := fun k hk => (blk_far hk 3 _).trans ((blk_far hk 2 _).trans ((blk_far hk 1 _).trans (blk_far hk 0 _)))
        have hle : w.heap.size ≤ w.heap.size + 1 := Nat.le_succ _
        have h2 := (Array.getElem?_eq_some_iff.1 B2.out.2.2).1
        exact ⟨blk_set (blk_set (blk_set (blk_set B2.out.2.2 0 _) 1 _) 2 _) 3 _, ((TabE.nil w2 (w.heap.size + 2)).kept fun g hg _ => far g (by omega)).row, Below.setCell (Below.setCell (Below.setCell (Below.setCell B2.out.1 (p := ⟨w.heap.size + 1, 0, none⟩) hle _) (p := ⟨w.heap.size + 1, 1, none⟩) hle _) (p := ⟨w.heap.size + 1, 2, none⟩) hle _) (p := ⟨w.heap.size + 1, 3, none⟩) hle _⟩
      generalize ((((w2.setCell ⟨w.heap.size + 1, 0, none⟩ (.int .i64 0)).setCell ⟨w.heap.size + 1, 1, none⟩ (.int .i64 0)).setCell ⟨w.heap.size + 1, 2, none⟩ (.slice none 0 0)).setCell ⟨w.heap.size + 1, 3, none⟩ (.slice none 0 0)) = wf at HF ⊢
      have f0 := (blk_cell HF.out.1 0 (x := .int .i64 0) rfl).1
      have f1 := (blk_cell HF.out.1 1 (x := .int .i64 0) rfl).1
      have f2 := (blk_cell HF.out.1 2 (x := .slice none 0 0) rfl).1
      have f3 := (blk_cell HF.out.1 3 (x := .slice none 0 0) rfl).1
      exact bodyPost_ret (v := .tuple #[.agg #[.int .i64 0, .int .i64 0, .slice none 0 0, .slice none 0 0], .int .i64 4]) (by simp [results, Tryz.results8, go_sem, f0, f1, f2, f3]) rfl ⟨_, _, (by rw [HST.out, HCD.out]; try rfl), by rw [HST.out]; exact HF.out.2.1, HF.out.2.2⟩
    | true =>
      have hnow := inB_le hI
      by_cases hN : 999000 < T.nx
      · have HCD : Hid (sfC T now = 13) := by show _ = _; unfold sfC; rw [if_neg (by rw [hK]; decide), if_neg (by rw [hI]; decide), if_pos hN]
        have HST : Hid (stT T now (exT T now) = T) := by show _ = _; unfold stT; rw [if_neg (by rw [HCD.out]; decide), if_pos HCD.out]
        go_wp2_with (first | (go_at_call 38; refine (HTO.out _ HB.out.1).mono ?_; rintro e w2 ⟨rfl, b2⟩; have B2 : Hid (Below w.heap.size w w2 ∧ w2.heap[w.heap.size]? = some (.cells #[.int .i64 T.tm, .int .i64 T.nx, .slice la T.ls.length lc, .slice sa T.ss.length sc] 30 (0, 0)) ∧ w2.heap[w.heap.size + 1]? = some (.cells #[.int .i64 0, .int .i64 0, .slice none 0 0, .slice none 0 0] 30 (0, 0))) := ⟨HB.out.1.trans (b2.mono HB.out.1.size), (b2.block _ (Array.getElem?_eq_some_iff.1 HB.out.2.1).1).trans HB.out.2.1, (b2.block _ (Array.getElem?_eq_some_iff.1 HB.out.2.2).1).trans HB.out.2.2⟩; clear b2; rw [hK]; have d0 := (blk_cell B2.out.2.1 0 (x := .int .i64 T.tm) rfl).1; have d1 := (blk_cell B2.out.2.1 1 (x := .int .i64 T.nx) rfl).1; have d2 := (blk_cell B2.out.2.1 2 (x := .slice la T.ls.length lc) rfl).1; have d3 := (blk_cell B2.out.2.1 3 (x := .slice sa T.ss.length sc) rfl).1; obtain ⟨r0, s0⟩ := blk_cell B2.out.2.2 0 (x := .int .i64 0) rfl; obtain ⟨r1, s1⟩ := blk_cell B2.out.2.2 1 (x := .int .i64 0) rfl; obtain ⟨r2, s2⟩ := blk_cell B2.out.2.2 2 (x := .slice none 0 0) rfl; obtain ⟨r3, s3⟩ := blk_cell B2.out.2.2 3 (x := .slice none 0 0) rfl) | (go_at_call 39; refine (in_b _ _ _ _).mono ?_; rintro e w3 ⟨rfl, hw3⟩; rw [hw3, hI]; clear hw3) | (go_at_call 40; (refine (own_tab _ _ _ (HRW.out.below B2.out.1) HTW.out.1 HTW.out.2.1 HTW.out.2.2).mono ?_; rintro e w5 ⟨a8, c8, a9, c9, ps, rfl, H5⟩; have HR5 : Hid (w5.heap[w.heap.size + 1]? = some (.cells #[.int .i64 0, .int .i64 0, .slice none 0 0, .slice none 0 0] 30 (0, 0))) := (H5.out.2.block _ (Array.getElem?_eq_some_iff.1 B2.out.2.2).1).trans B2.out.2.2; obtain ⟨r0, s0⟩ := blk_cell HR5.out 0 (x := .int .i64 0) rfl; obtain ⟨r1, s1⟩ := blk_cell HR5.out 1 (x := .int .i64 0) rfl; obtain ⟨r2, s2⟩ := blk_cell HR5.out 2 (x := .slice none 0 0) rfl; obtain ⟨r3, s3⟩ := blk_cell HR5.out 3 (x := .slice none 0 0) rfl)))
        have HF : Hid (((((w5.setCell ⟨w.heap.size + 1, 0, none⟩ (.int .i64 T.tm)).setCell ⟨w.heap.size + 1, 1, none⟩ (.int .i64 T.nx)).setCell ⟨w.heap.size + 1, 2, none⟩ (.slice a8 T.ls.length c8)).setCell ⟨w.heap.size + 1, 3, none⟩ (.slice a9 T.ss.length c9)).heap[w.heap.size + 1]? = some (.cells #[.int .i64 T.tm, .int .i64 T.nx, .slice a8 T.ls.length c8, .slice a9 T.ss.length c9] 30 (0, 0)) ∧ TabR ((((w5.setCell ⟨w.heap.size + 1, 0, none⟩ (.int .i64 T.tm)).setCell ⟨w.heap.size + 1, 1, none⟩ (.int .i64 T.nx)).setCell ⟨w.heap.size + 1, 2, none⟩ (.slice a8 T.ls.length c8)).setCell ⟨w.heap.size + 1, 3, none⟩ (.slice a9 T.ss.length c9)) (.slice a8 T.ls.length c8) (.slice a9 T.ss.length c9) T ∧ Below w.heap.size w ((((w5.setCell ⟨w.heap.size + 1, 0, none⟩ (.int .i64 T.tm)).setCell ⟨w.heap.size + 1, 1, none⟩ (.int .i64 T.nx)).setCell ⟨w.heap.size + 1, 2, none⟩ (.slice a8 T.ls.length c8)).setCell ⟨w.heap.size + 1, 3, none⟩ (.slice a9 T.ss.length c9))) := by
          have far : ∀ k, k ≠ w.heap.size + 1 → ((((w5.setCell ⟨w.heap.size + 1, 0, none⟩ (.int .i64 T.tm)).setCell ⟨w.heap.size + 1, 1, none⟩ (.int .i64 T.nx)).setCell ⟨w.heap.size + 1, 2, none⟩ (.slice a8 T.ls.length c8)).setCell ⟨w.heap.size + 1, 3, none⟩ (.slice a9 T.ss.length c9)).heap[k]? = w5.heap[k]? := fun k hk => (blk_far hk 3 _).trans ((blk_far hk 2 _).trans ((blk_far hk 1 _).trans (blk_far hk 0 _)))
          have hle : w.heap.size ≤ w.heap.size + 1 := Nat.le_succ _
          have h2 := (Array.getElem?_eq_some_iff.1 B2.out.2.2).1
          exact ⟨blk_set (blk_set (blk_set (blk_set HR5.out 0 _) 1 _) 2 _) 3 _, (H5.out.1.kept fun g hg _ => far g (by omega)).row, Below.setCell (Below.setCell (Below.setCell (Below.setCell (B2.out.1.trans (H5.out.2.mono B2.out.1.size)) (p := ⟨w.heap.size + 1, 0, none⟩) hle _) (p := ⟨w.heap.size + 1, 1, none⟩) hle _) (p := ⟨w.heap.size + 1, 2, none⟩) hle _) (p := ⟨w.heap.size + 1, 3, none⟩) hle _⟩
        generalize ((((w5.setCell ⟨w.heap.size + 1, 0, none⟩ (.int .i64 T.tm)).setCell ⟨w.heap.size + 1, 1, none⟩ (.int .i64 T.nx)).setCell ⟨w.heap.size + 1, 2, none⟩ (.slice a8 T.ls.length c8)).setCell ⟨w.heap.size + 1, 3, none⟩ (.slice a9 T.ss.length c9)) = wf at HF ⊢
        have f0 := (blk_cell HF.out.1 0 (x := .int .i64 T.tm) rfl).1
        have f1 := (blk_cell HF.out.1 1 (x := .int .i64 T.nx) rfl).1
        have f2 := (blk_cell HF.out.1 2 (x := .slice a8 T.ls.length c8) rfl).1
        have f3 := (blk_cell HF.out.1 3 (x := .slice a9 T.ss.length c9) rfl).1
        exact bodyPost_ret (v := .tuple #[.agg #[.int .i64 T.tm, .int .i64 T.nx, .slice a8 T.ls.length c8, .slice a9 T.ss.length c9], .int .i64 13]) (by simp [results, Tryz.results8, go_sem, f0, f1, f2, f3]) rfl ⟨_, _, (by rw [HST.out, HCD.out]; try rfl), by rw [HST.out]; exact HF.out.2.1, HF.out.2.2⟩
      · have HCD : Hid (sfC T now = 0) := by show _ = _; unfold sfC; rw [if_neg (by rw [hK]; decide), if_neg (by rw [hI]; decide), if_neg hN]
        have HST : Hid (stT T now (exT T now) = exT T now) := by show _ = _; unfold stT; rw [if_pos HCD.out]
        go_wp2_with (first | (go_at_call 38; refine (HTO.out _ HB.out.1).mono ?_; rintro e w2 ⟨rfl, b2⟩; have B2 : Hid (Below w.heap.size w w2 ∧ w2.heap[w.heap.size]? = some (.cells #[.int .i64 T.tm, .int .i64 T.nx, .slice la T.ls.length lc, .slice sa T.ss.length sc] 30 (0, 0)) ∧ w2.heap[w.heap.size + 1]? = some (.cells #[.int .i64 0, .int .i64 0, .slice none 0 0, .slice none 0 0] 30 (0, 0))) := ⟨HB.out.1.trans (b2.mono HB.out.1.size), (b2.block _ (Array.getElem?_eq_some_iff.1 HB.out.2.1).1).trans HB.out.2.1, (b2.block _ (Array.getElem?_eq_some_iff.1 HB.out.2.2).1).trans HB.out.2.2⟩; clear b2; rw [hK]; have d0 := (blk_cell B2.out.2.1 0 (x := .int .i64 T.tm) rfl).1; have d1 := (blk_cell B2.out.2.1 1 (x := .int .i64 T.nx) rfl).1; have d2 := (blk_cell B2.out.2.1 2 (x := .slice la T.ls.length lc) rfl).1; have d3 := (blk_cell B2.out.2.1 3 (x := .slice sa T.ss.length sc) rfl).1; obtain ⟨r0, s0⟩ := blk_cell B2.out.2.2 0 (x := .int .i64 0) rfl; obtain ⟨r1, s1⟩ := blk_cell B2.out.2.2 1 (x := .int .i64 0) rfl; obtain ⟨r2, s2⟩ := blk_cell B2.out.2.2 2 (x := .slice none 0 0) rfl; obtain ⟨r3, s3⟩ := blk_cell B2.out.2.2 3 (x := .slice none 0 0) rfl) | (go_at_call 39; refine (in_b _ _ _ _).mono ?_; rintro e w3 ⟨rfl, hw3⟩; rw [hw3, hI]; clear hw3) | (go_at_call 41; (refine (expire_tab hTok _ _ now _ (HRW.out.below B2.out.1) hnow.1 hnow.2 (by omega)).mono ?_; rintro e w5 ⟨a8, c8, a9, c9, ps, rfl, H5⟩; have HR5 : Hid (w5.heap[w.heap.size + 1]? = some (.cells #[.int .i64 0, .int .i64 0, .slice none 0 0, .slice none 0 0] 30 (0, 0))) := (H5.out.2.block _ (Array.getElem?_eq_some_iff.1 B2.out.2.2).1).trans B2.out.2.2; obtain ⟨r0, s0⟩ := blk_cell HR5.out 0 (x := .int .i64 0) rfl; obtain ⟨r1, s1⟩ := blk_cell HR5.out 1 (x := .int .i64 0) rfl; obtain ⟨r2, s2⟩ := blk_cell HR5.out 2 (x := .slice none 0 0) rfl; obtain ⟨r3, s3⟩ := blk_cell HR5.out 3 (x := .slice none 0 0) rfl)))
        have HF : Hid (((((w5.setCell ⟨w.heap.size + 1, 0, none⟩ (.int .i64 (exT T now).tm)).setCell ⟨w.heap.size + 1, 1, none⟩ (.int .i64 (exT T now).nx)).setCell ⟨w.heap.size + 1, 2, none⟩ (.slice a8 (exT T now).ls.length c8)).setCell ⟨w.heap.size + 1, 3, none⟩ (.slice a9 (exT T now).ss.length c9)).heap[w.heap.size + 1]? = some (.cells #[.int .i64 (exT T now).tm, .int .i64 (exT T now).nx, .slice a8 (exT T now).ls.length c8, .slice a9 (exT T now).ss.length c9] 30 (0, 0)) ∧ TabR ((((w5.setCell ⟨w.heap.size + 1, 0, none⟩ (.int .i64 (exT T now).tm)).setCell ⟨w.heap.size + 1, 1, none⟩ (.int .i64 (exT T now).nx)).setCell ⟨w.heap.size + 1, 2, none⟩ (.slice a8 (exT T now).ls.length c8)).setCell ⟨w.heap.size + 1, 3, none⟩ (.slice a9 (exT T now).ss.length c9)) (.slice a8 (exT T now).ls.length c8) (.slice a9 (exT T now).ss.length c9) (exT T now) ∧ Below w.heap.size w ((((w5.setCell ⟨w.heap.size + 1, 0, none⟩ (.int .i64 (exT T now).tm)).setCell ⟨w.heap.size + 1, 1, none⟩ (.int .i64 (exT T now).nx)).setCell ⟨w.heap.size + 1, 2, none⟩ (.slice a8 (exT T now).ls.length c8)).setCell ⟨w.heap.size + 1, 3, none⟩ (.slice a9 (exT T now).ss.length c9))) := by
          have far : ∀ k, k ≠ w.heap.size + 1 → ((((w5.setCell ⟨w.heap.size + 1, 0, none⟩ (.int .i64 (exT T now).tm)).setCell ⟨w.heap.size + 1, 1, none⟩ (.int .i64 (exT T now).nx)).setCell ⟨w.heap.size + 1, 2, none⟩ (.slice a8 (exT T now).ls.length c8)).setCell ⟨w.heap.size + 1, 3, none⟩ (.slice a9 (exT T now).ss.length c9)).heap[k]? = w5.heap[k]? := fun k hk => (blk_far hk 3 _).trans ((blk_far hk 2 _).trans ((blk_far hk 1 _).trans (blk_far hk 0 _)))
          have hle : w.heap.size ≤ w.heap.size + 1 := Nat.le_succ _
          have h2 := (Array.getElem?_eq_some_iff.1 B2.out.2.2).1
          exact ⟨blk_set (blk_set (blk_set (blk_set HR5.out 0 _) 1 _) 2 _) 3 _, (H5.out.1.kept fun g hg _ => far g (by omega)).row, Below.setCell (Below.setCell (Below.setCell (Below.setCell (B2.out.1.trans (H5.out.2.mono B2.out.1.size)) (p := ⟨w.heap.size + 1, 0, none⟩) hle _) (p := ⟨w.heap.size + 1, 1, none⟩) hle _) (p := ⟨w.heap.size + 1, 2, none⟩) hle _) (p := ⟨w.heap.size + 1, 3, none⟩) hle _⟩
        generalize ((((w5.setCell ⟨w.heap.size + 1, 0, none⟩ (.int .i64 (exT T now).tm)).setCell ⟨w.heap.size + 1, 1, none⟩ (.int .i64 (exT T now).nx)).setCell ⟨w.heap.size + 1, 2, none⟩ (.slice a8 (exT T now).ls.length c8)).setCell ⟨w.heap.size + 1, 3, none⟩ (.slice a9 (exT T now).ss.length c9)) = wf at HF ⊢
        have f0 := (blk_cell HF.out.1 0 (x := .int .i64 (exT T now).tm) rfl).1
        have f1 := (blk_cell HF.out.1 1 (x := .int .i64 (exT T now).nx) rfl).1
        have f2 := (blk_cell HF.out.1 2 (x := .slice a8 (exT T now).ls.length c8) rfl).1
        have f3 := (blk_cell HF.out.1 3 (x := .slice a9 (exT T now).ss.length c9) rfl).1
        exact bodyPost_ret (v := .tuple #[.agg #[.int .i64 (exT T now).tm, .int .i64 (exT T now).nx, .slice a8 (exT T now).ls.length c8, .slice a9 (exT T now).ss.length c9], .int .i64 0]) (by simp [results, Tryz.results8, go_sem, f0, f1, f2, f3]) rfl ⟨_, _, (by rw [HST.out, HCD.out]; try rfl), by rw [HST.out]; exact HF.out.2.1, HF.out.2.2⟩
end Go.Proofs.YtlgfeohoebmbcaaGreat.Jm
