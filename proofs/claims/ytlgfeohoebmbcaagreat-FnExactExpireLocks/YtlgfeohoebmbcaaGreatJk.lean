/- What may stop a step, before it is taken. -/
import Derived.Test.YtlgfeohoebmbcaaGreatJj
import Derived.Test.YtlgfeohoebmbcaaGreatTr
namespace Go.Proofs.YtlgfeohoebmbcaaGreat.Jk
open Go.RowKit Go.Proofs.YtlgfeohoebmbcaaGreat.Sl Go.Proofs.YtlgfeohoebmbcaaGreat.By Go.Proofs.YtlgfeohoebmbcaaGreat.Ap Go.Proofs.YtlgfeohoebmbcaaGreat.Tb Go.Proofs.YtlgfeohoebmbcaaGreat.Tw Go.Proofs.YtlgfeohoebmbcaaGreat.Mw Go.Proofs.YtlgfeohoebmbcaaGreat.Wa Go.Proofs.YtlgfeohoebmbcaaGreat.Bk Go.Proofs.YtlgfeohoebmbcaaGreat.Tp Go.Proofs.YtlgfeohoebmbcaaGreat.Da Go.Proofs.YtlgfeohoebmbcaaGreat.Ja Go.Proofs.YtlgfeohoebmbcaaGreat.Jb Go.Proofs.YtlgfeohoebmbcaaGreat.Jc
open Go.Proofs.YtlgfeohoebmbcaaGreat.Lo (LkA uV clL OwnL own_block kind_ne Apart nest2 OwnL.below OwnL.slice OwnL.kept OwnL.lt OwnL.mono atL)
open Go.Proofs.YtlgfeohoebmbcaaGreat.Tx (blk_cell blk_set blk_far blk_new bel_new)
open Go.Proofs.YtlgfeohoebmbcaaGreat.Je Go.Proofs.YtlgfeohoebmbcaaGreat.Jf Go.Proofs.YtlgfeohoebmbcaaGreat.Jd Go.Proofs.YtlgfeohoebmbcaaGreat.Jh Go.Proofs.YtlgfeohoebmbcaaGreat.Ji Go.Proofs.YtlgfeohoebmbcaaGreat.Jj Go.Proofs.YtlgfeohoebmbcaaGreat.Rq
/-- The code of a step that is not taken; 0 if it is. -/
noncomputable def sfC (T : Tab) (now : Int) : Int := if bOf (TOK T) = false then 1 else if inB now 0 1000000000 = false then 4 else if 999000 < T.nx then 13 else 0
theorem timeOK_any (now : Int) (w : World) : Calls Tryz.prog 73 #[.int .i64 now] w fun e w' => e = .returned (.bool (inB now 0 1000000000)) ∧ w' = w := by
  go_enter Tryz.func73, Tryz.ntmps73
  go_wp2_with (go_at_call 82; refine (within_any _ _ _ _).mono ?_; rintro e w1 ⟨rfl, rfl⟩)
  go_ret
  exact ⟨rfl, rfl⟩
set_option maxRecDepth 100000 in
set_option maxHeartbeats 1600000 in
theorem stepFault_any (T : Tab) (vl vs : Value) (now : Int) (w : World) (hl : RowL w vl T.ls) (hs : RowS w vs T.ss) (hw : ∀ x ∈ T.ls, x.n.size ≤ 1048576 ∧ x.ws.length ≤ 1048576) (hy1 : T.ls.length ≤ 1048576) (hy2 : T.ss.length ≤ 1048576) :
    Calls Tryz.prog 44 #[tabV T.tm T.nx vl vs, .int .i64 now] w fun e w' => e = .returned (.int .i64 (sfC T now)) ∧ Below w.heap.size w w' := by
  obtain ⟨la, lc, rfl⟩ := RowG.slice hl
  obtain ⟨sa, sc, rfl⟩ := RowG.slice hs
  have HOK : Hid (∀ W, Below w.heap.size w W → Calls Tryz.prog 72 #[.agg #[.int .i64 T.tm, .int .i64 T.nx, .slice la T.ls.length lc, .slice sa T.ss.length sc]] W fun e w' => e = .returned (.bool (bOf (TOK T))) ∧ Below W.heap.size W w') := fun W hW => implTableOK_any T.tm T.nx _ _ T.ls T.ss W (hl.below hW) (hs.below hW) hw hy1 hy2
  have HB : Hid (Below w.heap.size w (w.alloc (.cells #[.int .i64 T.tm, .int .i64 T.nx, .slice la T.ls.length lc, .slice sa T.ss.length sc] 30)) ∧ (w.alloc (.cells #[.int .i64 T.tm, .int .i64 T.nx, .slice la T.ls.length lc, .slice sa T.ss.length sc] 30)).heap[w.heap.size]? = some (.cells #[.int .i64 T.tm, .int .i64 T.nx, .slice la T.ls.length lc, .slice sa T.ss.length sc] 30 (0, 0))) := ⟨bel_new _ _, blk_new _ _ _⟩
  clear hl hs hw
  unfold tabV
  go_enter Tryz.func44, Tryz.ntmps44
  go_upto_region 1 with fail
  generalize w.alloc (.cells #[.int .i64 T.tm, .int .i64 T.nx, .slice la T.ls.length lc, .slice sa T.ss.length sc] 30) = w1 at HB ⊢
  have c0 := (blk_cell HB.out.2 0 (x := .int .i64 T.tm) rfl).1
  have c1 := (blk_cell HB.out.2 1 (x := .int .i64 T.nx) rfl).1
  have c2 := (blk_cell HB.out.2 2 (x := .slice la T.ls.length lc) rfl).1
  have c3 := (blk_cell HB.out.2 3 (x := .slice sa T.ss.length sc) rfl).1
  cases hK : bOf (TOK T) with
  | false =>
    have HE : Hid (sfC T now = 1) := by show _ = _; unfold sfC; rw [if_pos hK]
    rw [hK] at HOK
    go_wp2_with (go_at_call 72; refine (HOK.out _ HB.out.1).mono ?_; rintro e w2 ⟨rfl, b2⟩; have B2 : Hid (Below w.heap.size w w2 ∧ w2.heap[w.heap.size]? = some (.cells #[.int .i64 T.tm, .int .i64 T.nx, .slice la T.ls.length lc, .slice sa T.ss.length sc] 30 (0, 0))) := ⟨HB.out.1.trans (b2.mono HB.out.1.size), (b2.block _ (Array.getElem?_eq_some_iff.1 HB.out.2).1).trans HB.out.2⟩; have d1 := (blk_cell B2.out.2 1 (x := .int .i64 T.nx) rfl).1; clear b2)
    go_ret
    exact ⟨by rw [HE.out]; rfl, B2.out.1⟩
  | true =>
    rw [hK] at HOK
    cases hI : inB now 0 1000000000 with
    | false =>
      have HE : Hid (sfC T now = 4) := by show _ = _; unfold sfC; rw [if_neg (by rw [hK]; decide), if_pos hI]
      go_wp2_with (first | (go_at_call 72; refine (HOK.out _ HB.out.1).mono ?_; rintro e w2 ⟨rfl, b2⟩; have B2 : Hid (Below w.heap.size w w2 ∧ w2.heap[w.heap.size]? = some (.cells #[.int .i64 T.tm, .int .i64 T.nx, .slice la T.ls.length lc, .slice sa T.ss.length sc] 30 (0, 0))) := ⟨HB.out.1.trans (b2.mono HB.out.1.size), (b2.block _ (Array.getElem?_eq_some_iff.1 HB.out.2).1).trans HB.out.2⟩; have d1 := (blk_cell B2.out.2 1 (x := .int .i64 T.nx) rfl).1; clear b2) | (go_at_call 73; refine (timeOK_any _ _).mono ?_; rintro e w3 ⟨rfl, rfl⟩; rw [hI]))
      go_ret
      exact ⟨by rw [HE.out]; rfl, B2.out.1⟩
    | true =>
      by_cases hN : 999000 < T.nx
      · have HE : Hid (sfC T now = 13) := by show _ = _; unfold sfC; rw [if_neg (by rw [hK]; decide), if_neg (by rw [hI]; decide), if_pos hN]
        go_wp2_with (first | (go_at_call 72; refine (HOK.out _ HB.out.1).mono ?_; rintro e w2 ⟨rfl, b2⟩; have B2 : Hid (Below w.heap.size w w2 ∧ w2.heap[w.heap.size]? = some (.cells #[.int .i64 T.tm, .int .i64 T.nx, .slice la T.ls.length lc, .slice sa T.ss.length sc] 30 (0, 0))) := ⟨HB.out.1.trans (b2.mono HB.out.1.size), (b2.block _ (Array.getElem?_eq_some_iff.1 HB.out.2).1).trans HB.out.2⟩; have d1 := (blk_cell B2.out.2 1 (x := .int .i64 T.nx) rfl).1; clear b2) | (go_at_call 73; refine (timeOK_any _ _).mono ?_; rintro e w3 ⟨rfl, rfl⟩; rw [hI]))
        go_ret
        exact ⟨by rw [HE.out]; rfl, B2.out.1⟩
      · have HE : Hid (sfC T now = 0) := by show _ = _; unfold sfC; rw [if_neg (by rw [hK]; decide), if_neg (by rw [hI]; decide), if_neg hN]
        go_wp2_with (first | (go_at_call 72; refine (HOK.out _ HB.out.1).mono ?_; rintro e w2 ⟨rfl, b2⟩; have B2 : Hid (Below w.heap.size w w2 ∧ w2.heap[w.heap.size]? = some (.cells #[.int .i64 T.tm, .int .i64 T.nx, .slice la T.ls.length lc, .slice sa T.ss.length sc] 30 (0, 0))) := ⟨HB.out.1.trans (b2.mono HB.out.1.size), (b2.block _ (Array.getElem?_eq_some_iff.1 HB.out.2).1).trans HB.out.2⟩; have d1 := (blk_cell B2.out.2 1 (x := .int .i64 T.nx) rfl).1; clear b2) | (go_at_call 73; refine (timeOK_any _ _).mono ?_; rintro e w3 ⟨rfl, rfl⟩; rw [hI]))
        go_ret
        exact ⟨by rw [HE.out]; rfl, B2.out.1⟩
end Go.Proofs.YtlgfeohoebmbcaaGreat.Jk
