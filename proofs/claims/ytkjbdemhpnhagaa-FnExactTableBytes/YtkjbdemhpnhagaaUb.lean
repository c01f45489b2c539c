/- TableBytes of the specification. -/
import Derived.Test.YtkjbdemhpnhagaaPs
import Derived.Test.YtkjbdemhpnhagaaTq
namespace Go.Proofs.Ytkjbdemhpnhagaa.Ub
open Go.RowKit Go.Proofs.Ytkjbdemhpnhagaa.Sl Go.Proofs.Ytkjbdemhpnhagaa.By Go.Proofs.Ytkjbdemhpnhagaa.Ap Go.Proofs.Ytkjbdemhpnhagaa.Tx Go.Proofs.Ytkjbdemhpnhagaa.Tb Go.Proofs.Ytkjbdemhpnhagaa.Tw Go.Proofs.Ytkjbdemhpnhagaa.Rq Go.Proofs.Ytkjbdemhpnhagaa.Tp Go.Proofs.Ytkjbdemhpnhagaa.Tq Go.Proofs.Ytkjbdemhpnhagaa.Pu Go.Proofs.Ytkjbdemhpnhagaa.Pt Go.Proofs.Ytkjbdemhpnhagaa.Ps

set_option maxRecDepth 100000 in
set_option maxHeartbeats 1600000 in
theorem specTableBytes_any (tm nx : Int) (vl vs : Value) (ls : List Lk) (ss : List Sn) (w : World) (hl : RowL w vl ls) (hs : RowS w vs ss) (hw : ∀ x ∈ ls, x.n.size ≤ 1048576 ∧ x.ws.length ≤ 1048576) (hy1 : ls.length ≤ 1048576) (hy2 : ss.length ≤ 1048576) :
    Calls Try.prog 19 #[tabV tm nx vl vs] w fun e w' => ∃ v, e = .returned (.tuple #[v, .int .i64 (tbCode tm nx ls ss)]) ∧ OwnB 5 w' w.heap.size v (tbOut tm nx ls ss) ∧ Below w.heap.size w w' := by
  obtain ⟨la, lc, rfl⟩ := RowG.slice hl
  obtain ⟨sa, sc, rfl⟩ := RowG.slice hs
  have HX : Hid (∀ W, Below (w.alloc (.cells #[.int .i64 tm, .int .i64 nx, .slice la ls.length lc, .slice sa ss.length sc] 31)).heap.size (w.alloc (.cells #[.int .i64 tm, .int .i64 nx, .slice la ls.length lc, .slice sa ss.length sc] 31)) W → (W.cell? ⟨w.heap.size, 0, none⟩ = some (.int .i64 tm) ∧ W.cell? ⟨w.heap.size, 1, none⟩ = some (.int .i64 nx) ∧ W.cell? ⟨w.heap.size, 2, none⟩ = some (.slice la ls.length lc) ∧ W.cell? ⟨w.heap.size, 3, none⟩ = some (.slice sa ss.length sc)) ∧ RowL W (.slice la ls.length lc) ls ∧ RowS W (.slice sa ss.length sc) ss ∧ w.heap.size < W.heap.size ∧ Below w.heap.size w W) := fun W hW => by
    have h1 := (hW.block w.heap.size (by simp)).trans (heap_alloc_new w _)
    exact ⟨⟨(blk_cell h1 0 rfl).1, (blk_cell h1 1 rfl).1, (blk_cell h1 2 rfl).1, (blk_cell h1 3 rfl).1⟩, (hl.below (bel_new _ _)).below hW, (hs.below (bel_new _ _)).below hW, (Array.getElem?_eq_some_iff.1 h1).1, (bel_new w _).trans (hW.mono (by simp))⟩
  have HOK : Hid (∀ W, RowL W (.slice la ls.length lc) ls → RowS W (.slice sa ss.length sc) ss → Calls Try.prog 9 #[.agg #[.int .i64 tm, .int .i64 nx, .slice la ls.length lc, .slice sa ss.length sc]] W fun e w' => e = .returned (.bool (bOf (TOK ⟨tm, nx, ls, ss⟩))) ∧ Below W.heap.size W w') := fun W h1 h2 => specTableOK_any tm nx _ _ ls ss W h1 h2 hw hy1 hy2
  clear hl hs hw
  unfold tabV
  cases htk : bOf (TOK ⟨tm, nx, ls, ss⟩) with
  | false =>
    have HC : Hid (tbCode tm nx ls ss = 1 ∧ tbOut tm nx ls ss = []) := ⟨by unfold tbCode; rw [htk]; rfl, by unfold tbOut; rw [htk]; rfl⟩
    rw [htk] at HOK
    clear htk
    go_enter Try.func19, Try.ntmps19
    go_upto_region 1 with fail
    generalize w.alloc (.cells #[.int .i64 tm, .int .i64 nx, .slice la ls.length lc, .slice sa ss.length sc] 31) = wb at HX ⊢
    obtain ⟨⟨x0, x1, x2, x3⟩, r1, r2, _, rb⟩ := HX.out wb (Below.refl _ _)
    have HR : Hid (RowL wb (.slice la ls.length lc) ls ∧ RowS wb (.slice sa ss.length sc) ss ∧ Below w.heap.size w wb) := ⟨r1, r2, rb⟩
    clear r1 r2 rb
    go_wp2_with fail
    refine (HOK.out _ HR.out.1 HR.out.2.1).mono ?_
    rintro e w1 ⟨rfl, b1⟩
    have HB1 : Hid (Below w.heap.size w w1) := HR.out.2.2.trans (b1.mono HR.out.2.2.size)
    clear b1
    go_wp2_with fail
    go_ret2
    exact ⟨_, ret_tup HC.out.1.symm, by rw [HC.out.2]; exact own_lit _ w1 _ [] 0 rfl HB1.out.size (by decide), HB1.out.trans ((bel_new w1 _).mono HB1.out.size)⟩
  | true =>
    have HC : Hid (tbCode tm nx ls ss = 0 ∧ tbOut tm nx ls ss = tabBs tm nx ls ss) := ⟨by unfold tbCode; rw [htk]; rfl, by unfold tbOut; rw [htk]; rfl⟩
    have HBD : Hid (Bnd ls ss) := tok_bnd (tok_true htk)
    rw [htk] at HOK
    clear htk
    go_enter Try.func19, Try.ntmps19
    go_upto_region 1 with fail
    generalize w.alloc (.cells #[.int .i64 tm, .int .i64 nx, .slice la ls.length lc, .slice sa ss.length sc] 31) = wb at HX ⊢
    obtain ⟨⟨x0, x1, x2, x3⟩, r1, r2, _, rb⟩ := HX.out wb (Below.refl _ _)
    have HR : Hid (RowL wb (.slice la ls.length lc) ls ∧ RowS wb (.slice sa ss.length sc) ss ∧ Below w.heap.size w wb) := ⟨r1, r2, rb⟩
    clear r1 r2 rb
    go_wp2_with fail
    refine (HOK.out _ HR.out.1 HR.out.2.1).mono ?_
    rintro e w1 ⟨rfl, b1⟩
    have B1 : Hid (Below wb.heap.size wb w1) := b1
    clear b1 x0 x1 x2 x3
    obtain ⟨⟨x0, x1, x2, x3⟩, r1, r2, _, rb⟩ := HX.out w1 B1.out
    have HR1 : Hid (RowL w1 (.slice la ls.length lc) ls ∧ RowS w1 (.slice sa ss.length sc) ss ∧ Below w.heap.size w w1) := ⟨r1, r2, rb⟩
    clear r1 r2 rb
    go_wp2_with fail
    refine (l05Bytes_any tm nx _ _ ls ss w1 HR1.out.1 HR1.out.2.1 HBD.out).mono ?_
    rintro e w2 ⟨v2, rfl, o2, b2⟩
    have HO : Hid (OwnB 5 w2 w.heap.size v2 (tabBs tm nx ls ss) ∧ Below w.heap.size w w2) := ⟨own_le o2 HR1.out.2.2.size, HR1.out.2.2.trans (b2.mono HR1.out.2.2.size)⟩
    clear o2 b2 x0 x1 x2 x3
    go_wp2_with fail
    go_ret2
    exact ⟨_, ret_tup HC.out.1.symm, by rw [HC.out.2]; exact HO.out.1, HO.out.2⟩
end Go.Proofs.Ytkjbdemhpnhagaa.Ub
