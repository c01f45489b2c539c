/- What the specification's LockAt answers. -/
import Derived.Test.YtkjbdemhpnhagaaLp
import Derived.Test.YtkjbdemhpnhagaaLo
namespace Go.Proofs.Ytkjbdemhpnhagaa.Lq
open Go.RowKit Go.Proofs.Ytkjbdemhpnhagaa.Sl Go.Proofs.Ytkjbdemhpnhagaa.By Go.Proofs.Ytkjbdemhpnhagaa.Ap Go.Proofs.Ytkjbdemhpnhagaa.Tb Go.Proofs.Ytkjbdemhpnhagaa.Tw Go.Proofs.Ytkjbdemhpnhagaa.Mw Go.Proofs.Ytkjbdemhpnhagaa.Wa Go.Proofs.Ytkjbdemhpnhagaa.Bk Go.Proofs.Ytkjbdemhpnhagaa.Tp Go.Proofs.Ytkjbdemhpnhagaa.Tq Go.Proofs.Ytkjbdemhpnhagaa.Lo Go.Proofs.Ytkjbdemhpnhagaa.Lp
open Go.Proofs.Ytkjbdemhpnhagaa.Tx (blk_cell blk_set blk_far blk_new bel_new)

set_option maxRecDepth 100000 in
theorem field2 (tm nx : Int) (a : Option Addr) (l c : Nat) (v : Value) (W : World) : (Instr.field 31 (.agg #[.int .i64 tm, .int .i64 nx, .slice a l c, v]) 2).run Try.prog W = .ok (.slice a l c) W := by
  simp [Instr.field, asAgg, go_sem]
set_option maxRecDepth 100000 in
set_option maxHeartbeats 3200000 in
theorem specLockAt_any (tm nx : Int) (vl vs : Value) (ls : List Lk) (ss : List Sn) (n : ByteArray) (w : World) (hl : RowL w vl ls) (hs : RowS w vs ss) (hw : ∀ x ∈ ls, x.n.size ≤ 1048576 ∧ x.ws.length ≤ 1048576) (hy1 : ls.length ≤ 1048576) (hy2 : ss.length ≤ 1048576) (hn : n.size ≤ 1048576) :
    Calls Try.prog 13 #[tabV tm nx vl vs, .string n] w fun e w' => ∃ u, e = .returned (.tuple #[lkV (lAns tm nx ls ss n).1 u, .int .i64 (lAns tm nx ls ss n).2]) ∧ RowW w' u (lAns tm nx ls ss n).1.ws ∧ Below w.heap.size w w' := by
  obtain ⟨la, lc, rfl⟩ := RowG.slice hl
  obtain ⟨sa, sc, rfl⟩ := RowG.slice hs
  have HX : Hid (∀ W, Below ((w.alloc (.cells #[.int .i64 tm, .int .i64 nx, .slice la ls.length lc, .slice sa ss.length sc] 31)).alloc (.cells #[.string ⟨#[]⟩, .int .i64 0, .int .i64 0, .int .i64 0, .slice none 0 0] 37)).heap.size ((w.alloc (.cells #[.int .i64 tm, .int .i64 nx, .slice la ls.length lc, .slice sa ss.length sc] 31)).alloc (.cells #[.string ⟨#[]⟩, .int .i64 0, .int .i64 0, .int .i64 0, .slice none 0 0] 37)) W → W.heap[w.heap.size]? = some (.cells #[.int .i64 tm, .int .i64 nx, .slice la ls.length lc, .slice sa ss.length sc] 31 (0, 0)) ∧ W.heap[w.heap.size + 1]? = some (.cells #[.string ⟨#[]⟩, .int .i64 0, .int .i64 0, .int .i64 0, .slice none 0 0] 37 (0, 0)) ∧ (RowL W (.slice la ls.length lc) ls ∧ RowS W (.slice sa ss.length sc) ss) ∧ Below w.heap.size w W) := by
    intro W hW
    have hb := two_new w (.cells #[.int .i64 tm, .int .i64 nx, .slice la ls.length lc, .slice sa ss.length sc] 31) (.cells #[.string ⟨#[]⟩, .int .i64 0, .int .i64 0, .int .i64 0, .slice none 0 0] 37)
    have k := nest2 w (.cells #[.int .i64 tm, .int .i64 nx, .slice la ls.length lc, .slice sa ss.length sc] 31) (.cells #[.string ⟨#[]⟩, .int .i64 0, .int .i64 0, .int .i64 0, .slice none 0 0] 37)
    have kz : ((w.alloc (.cells #[.int .i64 tm, .int .i64 nx, .slice la ls.length lc, .slice sa ss.length sc] 31)).alloc (.cells #[.string ⟨#[]⟩, .int .i64 0, .int .i64 0, .int .i64 0, .slice none 0 0] 37)).heap.size = w.heap.size + 1 + 1 := by rw [Bk.size_new, Bk.size_new]
    exact ⟨(hW.block _ (by omega)).trans k.1, (hW.block _ (by omega)).trans k.2, ⟨(hl.below hb).below hW, (hs.below hb).below hW⟩, hb.trans (hW.mono (by omega))⟩
  have HS1 : Hid (((w.alloc (.cells #[.int .i64 tm, .int .i64 nx, .slice la ls.length lc, .slice sa ss.length sc] 31)).alloc (.cells #[.string ⟨#[]⟩, .int .i64 0, .int .i64 0, .int .i64 0, .slice none 0 0] 37)).heap.size = w.heap.size + 2) := by show _ = _; rw [Bk.size_new, Bk.size_new]
  have HOK : Hid (∀ W, RowL W (.slice la ls.length lc) ls → RowS W (.slice sa ss.length sc) ss → Calls Try.prog 9 #[.agg #[.int .i64 tm, .int .i64 nx, .slice la ls.length lc, .slice sa ss.length sc]] W fun e w' => e = .returned (.bool (bOf (TOK ⟨tm, nx, ls, ss⟩))) ∧ Below W.heap.size W w') := fun W h1 h2 => specTableOK_any tm nx _ _ ls ss W h1 h2 hw hy1 hy2
  have HW : Hid (∀ x ∈ ls, x.n.size ≤ 1048576 ∧ x.ws.length ≤ 1048576) := hw
  clear hl hs hw
  unfold tabV
  by_cases hlong : n.size > 65536
  · have HA : Hid (lAns tm nx ls ss n = (l0, 2)) := ans_long hlong
    have hgt : ¬ (n.size : Int) ≤ 65536 := by omega
    have hgt' : (65536 : Int) < (n.size : Int) := by omega
    go_enter Try.func13, Try.ntmps13
    go_upto_region 1 with fail
    generalize ((w.alloc (.cells #[.int .i64 tm, .int .i64 nx, .slice la ls.length lc, .slice sa ss.length sc] 31)).alloc (.cells #[.string ⟨#[]⟩, .int .i64 0, .int .i64 0, .int .i64 0, .slice none 0 0] 37)) = w1 at HX HS1 ⊢
    have AX := (HX.out w1 (Below.refl _ _)).2.1
    have BW := (HX.out w1 (Below.refl _ _)).2.2.2
    obtain ⟨m0, n0⟩ := blk_cell AX 0 (x := .string ⟨#[]⟩) rfl
    obtain ⟨m1, n1⟩ := blk_cell AX 1 (x := .int .i64 0) rfl
    obtain ⟨m2, n2⟩ := blk_cell AX 2 (x := .int .i64 0) rfl
    obtain ⟨m3, n3⟩ := blk_cell AX 3 (x := .int .i64 0) rfl
    obtain ⟨m4, n4⟩ := blk_cell AX 4 (x := .slice none 0 0) rfl
    have AF : (((((w1.setCell ⟨w.heap.size + 1, 0, none⟩ (.string ⟨#[]⟩)).setCell ⟨w.heap.size + 1, 1, none⟩ (.int .i64 0)).setCell ⟨w.heap.size + 1, 2, none⟩ (.int .i64 0)).setCell ⟨w.heap.size + 1, 3, none⟩ (.int .i64 0)).setCell ⟨w.heap.size + 1, 4, none⟩ (.slice none 0 0)).heap[w.heap.size + 1]? = some (.cells #[.string ⟨#[]⟩, .int .i64 0, .int .i64 0, .int .i64 0, .slice none 0 0] 37 (0, 0)) := (blk_set (blk_set (blk_set (blk_set (blk_set AX 0 (.string ⟨#[]⟩)) 1 (.int .i64 0)) 2 (.int .i64 0)) 3 (.int .i64 0)) 4 (.slice none 0 0))
    have GF : Below w.heap.size w (((((w1.setCell ⟨w.heap.size + 1, 0, none⟩ (.string ⟨#[]⟩)).setCell ⟨w.heap.size + 1, 1, none⟩ (.int .i64 0)).setCell ⟨w.heap.size + 1, 2, none⟩ (.int .i64 0)).setCell ⟨w.heap.size + 1, 3, none⟩ (.int .i64 0)).setCell ⟨w.heap.size + 1, 4, none⟩ (.slice none 0 0)) := (Below.setCell (Below.setCell (Below.setCell (Below.setCell (Below.setCell BW (p := ⟨w.heap.size + 1, 0, none⟩) (Nat.le_succ _) (.string ⟨#[]⟩)) (p := ⟨w.heap.size + 1, 1, none⟩) (Nat.le_succ _) (.int .i64 0)) (p := ⟨w.heap.size + 1, 2, none⟩) (Nat.le_succ _) (.int .i64 0)) (p := ⟨w.heap.size + 1, 3, none⟩) (Nat.le_succ _) (.int .i64 0)) (p := ⟨w.heap.size + 1, 4, none⟩) (Nat.le_succ _) (.slice none 0 0))
    have RF : Hid (RowW (((((w1.setCell ⟨w.heap.size + 1, 0, none⟩ (.string ⟨#[]⟩)).setCell ⟨w.heap.size + 1, 1, none⟩ (.int .i64 0)).setCell ⟨w.heap.size + 1, 2, none⟩ (.int .i64 0)).setCell ⟨w.heap.size + 1, 3, none⟩ (.int .i64 0)).setCell ⟨w.heap.size + 1, 4, none⟩ (.slice none 0 0)) (.slice none 0 0) (lAns tm nx ls ss n).1.ws) := by
      show RowW (((((w1.setCell ⟨w.heap.size + 1, 0, none⟩ (.string ⟨#[]⟩)).setCell ⟨w.heap.size + 1, 1, none⟩ (.int .i64 0)).setCell ⟨w.heap.size + 1, 2, none⟩ (.int .i64 0)).setCell ⟨w.heap.size + 1, 3, none⟩ (.int .i64 0)).setCell ⟨w.heap.size + 1, 4, none⟩ (.slice none 0 0)) (.slice none 0 0) (lAns tm nx ls ss n).1.ws
      rw [HA.out]
      exact (OwnW.nil _ 0).row
    go_wp2_with fail
    generalize (((((w1.setCell ⟨w.heap.size + 1, 0, none⟩ (.string ⟨#[]⟩)).setCell ⟨w.heap.size + 1, 1, none⟩ (.int .i64 0)).setCell ⟨w.heap.size + 1, 2, none⟩ (.int .i64 0)).setCell ⟨w.heap.size + 1, 3, none⟩ (.int .i64 0)).setCell ⟨w.heap.size + 1, 4, none⟩ (.slice none 0 0)) = wf at AF RF GF ⊢
    have d0 := (blk_cell AF 0 (x := .string ⟨#[]⟩) rfl).1
    have d1 := (blk_cell AF 1 (x := .int .i64 0) rfl).1
    have d2 := (blk_cell AF 2 (x := .int .i64 0) rfl).1
    have d3 := (blk_cell AF 3 (x := .int .i64 0) rfl).1
    have d4 := (blk_cell AF 4 (x := .slice none 0 0) rfl).1
    exact bodyPost_ret (v := .tuple #[.agg #[.string ⟨#[]⟩, .int .i64 0, .int .i64 0, .int .i64 0, .slice none 0 0], .int .i64 2]) (by simp [results, Try.results13, go_sem, d0, d1, d2, d3, d4]) rfl ⟨_, by rw [HA.out]; rfl, RF.out, GF⟩
  have hle : (n.size : Int) ≤ 65536 := by omega
  have hle' : ¬ (65536 : Int) < (n.size : Int) := by omega
  cases htk : bOf (TOK ⟨tm, nx, ls, ss⟩) with
  | false =>
    have HA : Hid (lAns tm nx ls ss n = (l0, 1)) := ans_bad hlong htk
    rw [htk] at HOK
    clear htk
    go_enter Try.func13, Try.ntmps13
    go_upto_region 1 with fail
    generalize ((w.alloc (.cells #[.int .i64 tm, .int .i64 nx, .slice la ls.length lc, .slice sa ss.length sc] 31)).alloc (.cells #[.string ⟨#[]⟩, .int .i64 0, .int .i64 0, .int .i64 0, .slice none 0 0] 37)) = w1 at HX HS1 ⊢
    have t0 := (blk_cell (HX.out w1 (Below.refl _ _)).1 0 (x := .int .i64 tm) rfl).1
    have t1 := (blk_cell (HX.out w1 (Below.refl _ _)).1 1 (x := .int .i64 nx) rfl).1
    have t2 := (blk_cell (HX.out w1 (Below.refl _ _)).1 2 (x := .slice la ls.length lc) rfl).1
    have t3 := (blk_cell (HX.out w1 (Below.refl _ _)).1 3 (x := .slice sa ss.length sc) rfl).1
    have HR : Hid (RowL w1 (.slice la ls.length lc) ls ∧ RowS w1 (.slice sa ss.length sc) ss) := (HX.out w1 (Below.refl _ _)).2.2.1
    go_wp2_with fail
    refine (HOK.out _ HR.out.1 HR.out.2).mono ?_
    rintro e w2 ⟨rfl, b2⟩
    have B2 : Hid (Below w1.heap.size w1 w2) := b2
    clear b2 t0 t1 t2 t3 HR
    have AX := (HX.out w2 B2.out).2.1
    have BW := (HX.out w2 B2.out).2.2.2
    obtain ⟨m0, n0⟩ := blk_cell AX 0 (x := .string ⟨#[]⟩) rfl
    obtain ⟨m1, n1⟩ := blk_cell AX 1 (x := .int .i64 0) rfl
    obtain ⟨m2, n2⟩ := blk_cell AX 2 (x := .int .i64 0) rfl
    obtain ⟨m3, n3⟩ := blk_cell AX 3 (x := .int .i64 0) rfl
    obtain ⟨m4, n4⟩ := blk_cell AX 4 (x := .slice none 0 0) rfl
    have AF : (((((w2.setCell ⟨w.heap.size + 1, 0, none⟩ (.string ⟨#[]⟩)).setCell ⟨w.heap.size + 1, 1, none⟩ (.int .i64 0)).setCell ⟨w.heap.size + 1, 2, none⟩ (.int .i64 0)).setCell ⟨w.heap.size + 1, 3, none⟩ (.int .i64 0)).setCell ⟨w.heap.size + 1, 4, none⟩ (.slice none 0 0)).heap[w.heap.size + 1]? = some (.cells #[.string ⟨#[]⟩, .int .i64 0, .int .i64 0, .int .i64 0, .slice none 0 0] 37 (0, 0)) := (blk_set (blk_set (blk_set (blk_set (blk_set AX 0 (.string ⟨#[]⟩)) 1 (.int .i64 0)) 2 (.int .i64 0)) 3 (.int .i64 0)) 4 (.slice none 0 0))
    have GF : Below w.heap.size w (((((w2.setCell ⟨w.heap.size + 1, 0, none⟩ (.string ⟨#[]⟩)).setCell ⟨w.heap.size + 1, 1, none⟩ (.int .i64 0)).setCell ⟨w.heap.size + 1, 2, none⟩ (.int .i64 0)).setCell ⟨w.heap.size + 1, 3, none⟩ (.int .i64 0)).setCell ⟨w.heap.size + 1, 4, none⟩ (.slice none 0 0)) := (Below.setCell (Below.setCell (Below.setCell (Below.setCell (Below.setCell BW (p := ⟨w.heap.size + 1, 0, none⟩) (Nat.le_succ _) (.string ⟨#[]⟩)) (p := ⟨w.heap.size + 1, 1, none⟩) (Nat.le_succ _) (.int .i64 0)) (p := ⟨w.heap.size + 1, 2, none⟩) (Nat.le_succ _) (.int .i64 0)) (p := ⟨w.heap.size + 1, 3, none⟩) (Nat.le_succ _) (.int .i64 0)) (p := ⟨w.heap.size + 1, 4, none⟩) (Nat.le_succ _) (.slice none 0 0))
    have RF : Hid (RowW (((((w2.setCell ⟨w.heap.size + 1, 0, none⟩ (.string ⟨#[]⟩)).setCell ⟨w.heap.size + 1, 1, none⟩ (.int .i64 0)).setCell ⟨w.heap.size + 1, 2, none⟩ (.int .i64 0)).setCell ⟨w.heap.size + 1, 3, none⟩ (.int .i64 0)).setCell ⟨w.heap.size + 1, 4, none⟩ (.slice none 0 0)) (.slice none 0 0) (lAns tm nx ls ss n).1.ws) := by
      show RowW (((((w2.setCell ⟨w.heap.size + 1, 0, none⟩ (.string ⟨#[]⟩)).setCell ⟨w.heap.size + 1, 1, none⟩ (.int .i64 0)).setCell ⟨w.heap.size + 1, 2, none⟩ (.int .i64 0)).setCell ⟨w.heap.size + 1, 3, none⟩ (.int .i64 0)).setCell ⟨w.heap.size + 1, 4, none⟩ (.slice none 0 0)) (.slice none 0 0) (lAns tm nx ls ss n).1.ws
      rw [HA.out]
      exact (OwnW.nil _ 0).row
    go_wp2_with fail
    generalize (((((w2.setCell ⟨w.heap.size + 1, 0, none⟩ (.string ⟨#[]⟩)).setCell ⟨w.heap.size + 1, 1, none⟩ (.int .i64 0)).setCell ⟨w.heap.size + 1, 2, none⟩ (.int .i64 0)).setCell ⟨w.heap.size + 1, 3, none⟩ (.int .i64 0)).setCell ⟨w.heap.size + 1, 4, none⟩ (.slice none 0 0)) = wf at AF RF GF ⊢
    have d0 := (blk_cell AF 0 (x := .string ⟨#[]⟩) rfl).1
    have d1 := (blk_cell AF 1 (x := .int .i64 0) rfl).1
    have d2 := (blk_cell AF 2 (x := .int .i64 0) rfl).1
    have d3 := (blk_cell AF 3 (x := .int .i64 0) rfl).1
    have d4 := (blk_cell AF 4 (x := .slice none 0 0) rfl).1
    exact bodyPost_ret (v := .tuple #[.agg #[.string ⟨#[]⟩, .int .i64 0, .int .i64 0, .int .i64 0, .slice none 0 0], .int .i64 1]) (by simp [results, Try.results13, go_sem, d0, d1, d2, d3, d4]) rfl ⟨_, by rw [HA.out]; rfl, RF.out, GF⟩
  | true =>
    obtain ⟨y1, y2, y3, y4⟩ := tok_small (tok_true htk)
    have HY : Hid ((∀ x ∈ ls, x.ws.length ≤ 4) ∧ (∀ s ∈ ss, 0 ≤ s.c ∧ s.c ≤ 255) ∧ LsOK nx ls) := ⟨y3, y4, (tok_true htk).2.2.2.1⟩
    have HTK : Hid (bOf (TOK ⟨tm, nx, ls, ss⟩) = true ∧ ¬ n.size > 65536) := ⟨htk, hlong⟩
    rw [htk] at HOK
    clear htk y3 y4 hlong
    go_enter Try.func13, Try.ntmps13
    go_upto_region 1 with fail
    generalize ((w.alloc (.cells #[.int .i64 tm, .int .i64 nx, .slice la ls.length lc, .slice sa ss.length sc] 31)).alloc (.cells #[.string ⟨#[]⟩, .int .i64 0, .int .i64 0, .int .i64 0, .slice none 0 0] 37)) = w1 at HX HS1 ⊢
    have t0 := (blk_cell (HX.out w1 (Below.refl _ _)).1 0 (x := .int .i64 tm) rfl).1
    have t1 := (blk_cell (HX.out w1 (Below.refl _ _)).1 1 (x := .int .i64 nx) rfl).1
    have t2 := (blk_cell (HX.out w1 (Below.refl _ _)).1 2 (x := .slice la ls.length lc) rfl).1
    have t3 := (blk_cell (HX.out w1 (Below.refl _ _)).1 3 (x := .slice sa ss.length sc) rfl).1
    have HR : Hid (RowL w1 (.slice la ls.length lc) ls ∧ RowS w1 (.slice sa ss.length sc) ss) := (HX.out w1 (Below.refl _ _)).2.2.1
    go_wp2_with fail
    refine (HOK.out _ HR.out.1 HR.out.2).mono ?_
    rintro e w2 ⟨rfl, b2⟩
    have B2 : Hid (Below w1.heap.size w1 w2) := b2
    clear b2 t0 t1 t2 t3 HR
    have t0 := (blk_cell (HX.out w2 B2.out).1 0 (x := .int .i64 tm) rfl).1
    have t1 := (blk_cell (HX.out w2 B2.out).1 1 (x := .int .i64 nx) rfl).1
    have t2 := (blk_cell (HX.out w2 B2.out).1 2 (x := .slice la ls.length lc) rfl).1
    have t3 := (blk_cell (HX.out w2 B2.out).1 3 (x := .slice sa ss.length sc) rfl).1
    have HR : Hid (RowL w2 (.slice la ls.length lc) ls) := (HX.out w2 B2.out).2.2.1.1
    go_wp2_with fail
    refine (Lf.l05Find_any tm nx _ _ ls n _ HR.out hy1).mono ?_
    rintro e w3 ⟨r, rfl, hf, b3⟩
    have B3 : Hid (Below w1.heap.size w1 w3) := B2.out.trans (b3.mono B2.out.size)
    clear b3 t0 t1 t2 t3 HR B2
    rcases hf with ⟨k, x, rfl, hx, hxn, _⟩ | ⟨rfl, hnone⟩
    · have HA : Hid (lAns tm nx ls ss n = (x, 0)) := ans_at HTK.out.2 HTK.out.1 hx hxn
      have HXK : Hid (ls[k]? = some x) := hx
      have hkl := lt_at hx
      have hk0 : ¬ (k : Int) < 0 := by omega
      clear hx hxn
      have t0 := (blk_cell (HX.out w3 B3.out).1 0 (x := .int .i64 tm) rfl).1
      have t1 := (blk_cell (HX.out w3 B3.out).1 1 (x := .int .i64 nx) rfl).1
      have t2 := (blk_cell (HX.out w3 B3.out).1 2 (x := .slice la ls.length lc) rfl).1
      have t3 := (blk_cell (HX.out w3 B3.out).1 3 (x := .slice sa ss.length sc) rfl).1
      have HR : Hid (RowL w3 (.slice la ls.length lc) ls ∧ RowS w3 (.slice sa ss.length sc) ss) := (HX.out w3 B3.out).2.2.1
      go_wp2_with fail
      refine (l05Own_any tm nx _ _ ls ss _ HR.out.1 HR.out.2 (fun x hx => by have := HY.out.1 x hx; omega) (by omega) (by omega)).mono ?_
      rintro e w4 ⟨ul, us, ps, rfl, ⟨ho, hw, hps⟩, hss, b4⟩
      obtain ⟨ka, kc, rfl⟩ := RowG.slice hss
      have B4 : Hid (Below w1.heap.size w1 w4) := B3.out.trans (b4.mono B3.out.size)
      have HPK : ∃ q, ps[k]? = some q ∧ q.1 = x := by
        have h := HXK.out
        rw [← hps, List.getElem?_map] at h
        exact Option.map_eq_some_iff.1 h
      obtain ⟨⟨x', ua, uc⟩, hq, rfl⟩ := HPK
      have hrow := ho.row (fun p hp => (hw p hp).row)
      rw [hps] at hrow
      have hu0 : OwnW w4 w3.heap.size (.slice ua x'.ws.length uc) x'.ws := hw _ (mem_at hq)
      obtain ⟨ha, hc, rfl⟩ := RowG.slice hrow
      have hqe : ∃ hb, ha = some ⟨hb, 0, none⟩ ∧ (∀ j v, (clL (x', ua, uc))[j]? = some v → j < 5 → w4.cell? ⟨hb, 0 + k * 5 + j, none⟩ = some v) := OwnL.at_ ho hq
      obtain ⟨hb, rfl, hcell⟩ := hqe
      have e0 : w4.cell? ⟨hb, 0 + k * 5, none⟩ = some (.string x'.n) := hcell 0 _ rfl (by decide)
      have e1 : w4.cell? ⟨hb, 0 + k * 5 + 1, none⟩ = some (.int .i64 x'.t) := hcell 1 _ rfl (by decide)
      have e2 : w4.cell? ⟨hb, 0 + k * 5 + 2, none⟩ = some (.int .i64 x'.h) := hcell 2 _ rfl (by decide)
      have e3 : w4.cell? ⟨hb, 0 + k * 5 + 3, none⟩ = some (.int .i64 x'.e) := hcell 3 _ rfl (by decide)
      have e4 : w4.cell? ⟨hb, 0 + k * 5 + 4, none⟩ = some (.slice ua x'.ws.length uc) := hcell 4 _ rfl (by decide)
      have HU : Hid (OwnW w4 w3.heap.size (.slice ua x'.ws.length uc) x'.ws ∧ w1.heap.size ≤ w3.heap.size) := ⟨hu0, B3.out.size⟩
      clear ho hw hps hrow hu0 hcell hq b4 hss t0 t1 t2 t3 HR B3
      have AX := (HX.out w4 B4.out).2.1
      have BW := (HX.out w4 B4.out).2.2.2
      have HS : Hid (w.heap.size + 1 < w3.heap.size) := by have h1 := HU.out.2; have h2 := HS1.out; show _ < _; omega
      rw [Nat.zero_add] at e0 e1 e2 e3 e4
      unfold tabV
      have hF : ∀ W, (Instr.field 31 (.agg #[.int .i64 tm, .int .i64 nx, .slice (some ⟨hb, 0, none⟩) ls.length hc, .slice ka ss.length kc]) 2).run Try.prog W = .ok (.slice (some ⟨hb, 0, none⟩) ls.length hc) W := fun W => field2 tm nx _ _ _ _ W
      have HB : Hid (∀ g, (Value.slice ua x'.ws.length uc).ownBlock = some g → w.heap.size + 1 < g) := fun g hg => by have h1 := (HU.out.1.lt g hg).1; have h2 := HS.out; omega
      obtain ⟨m0, n0⟩ := blk_cell AX 0 (x := .string ⟨#[]⟩) rfl
      obtain ⟨m1, n1⟩ := blk_cell AX 1 (x := .int .i64 0) rfl
      obtain ⟨m2, n2⟩ := blk_cell AX 2 (x := .int .i64 0) rfl
      obtain ⟨m3, n3⟩ := blk_cell AX 3 (x := .int .i64 0) rfl
      obtain ⟨m4, n4⟩ := blk_cell AX 4 (x := .slice none 0 0) rfl
      have AF : (((((w4.setCell ⟨w.heap.size + 1, 0, none⟩ (.string x'.n)).setCell ⟨w.heap.size + 1, 1, none⟩ (.int .i64 x'.t)).setCell ⟨w.heap.size + 1, 2, none⟩ (.int .i64 x'.h)).setCell ⟨w.heap.size + 1, 3, none⟩ (.int .i64 x'.e)).setCell ⟨w.heap.size + 1, 4, none⟩ (.slice ua x'.ws.length uc)).heap[w.heap.size + 1]? = some (.cells #[.string x'.n, .int .i64 x'.t, .int .i64 x'.h, .int .i64 x'.e, .slice ua x'.ws.length uc] 37 (0, 0)) := (blk_set (blk_set (blk_set (blk_set (blk_set AX 0 (.string x'.n)) 1 (.int .i64 x'.t)) 2 (.int .i64 x'.h)) 3 (.int .i64 x'.e)) 4 (.slice ua x'.ws.length uc))
      have GF : Below w.heap.size w (((((w4.setCell ⟨w.heap.size + 1, 0, none⟩ (.string x'.n)).setCell ⟨w.heap.size + 1, 1, none⟩ (.int .i64 x'.t)).setCell ⟨w.heap.size + 1, 2, none⟩ (.int .i64 x'.h)).setCell ⟨w.heap.size + 1, 3, none⟩ (.int .i64 x'.e)).setCell ⟨w.heap.size + 1, 4, none⟩ (.slice ua x'.ws.length uc)) := (Below.setCell (Below.setCell (Below.setCell (Below.setCell (Below.setCell BW (p := ⟨w.heap.size + 1, 0, none⟩) (Nat.le_succ _) (.string x'.n)) (p := ⟨w.heap.size + 1, 1, none⟩) (Nat.le_succ _) (.int .i64 x'.t)) (p := ⟨w.heap.size + 1, 2, none⟩) (Nat.le_succ _) (.int .i64 x'.h)) (p := ⟨w.heap.size + 1, 3, none⟩) (Nat.le_succ _) (.int .i64 x'.e)) (p := ⟨w.heap.size + 1, 4, none⟩) (Nat.le_succ _) (.slice ua x'.ws.length uc))
      have RF : Hid (RowW (((((w4.setCell ⟨w.heap.size + 1, 0, none⟩ (.string x'.n)).setCell ⟨w.heap.size + 1, 1, none⟩ (.int .i64 x'.t)).setCell ⟨w.heap.size + 1, 2, none⟩ (.int .i64 x'.h)).setCell ⟨w.heap.size + 1, 3, none⟩ (.int .i64 x'.e)).setCell ⟨w.heap.size + 1, 4, none⟩ (.slice ua x'.ws.length uc)) (.slice ua x'.ws.length uc) (lAns tm nx ls ss n).1.ws) := by
        show RowW (((((w4.setCell ⟨w.heap.size + 1, 0, none⟩ (.string x'.n)).setCell ⟨w.heap.size + 1, 1, none⟩ (.int .i64 x'.t)).setCell ⟨w.heap.size + 1, 2, none⟩ (.int .i64 x'.h)).setCell ⟨w.heap.size + 1, 3, none⟩ (.int .i64 x'.e)).setCell ⟨w.heap.size + 1, 4, none⟩ (.slice ua x'.ws.length uc)) (.slice ua x'.ws.length uc) (lAns tm nx ls ss n).1.ws
        rw [HA.out]
        exact (OwnW.kept (OwnW.kept (OwnW.kept (OwnW.kept (OwnW.kept HU.out.1 (fun g hg => blk_far (by have := (HB.out g hg); omega) _ _)) (fun g hg => blk_far (by have := (HB.out g hg); omega) _ _)) (fun g hg => blk_far (by have := (HB.out g hg); omega) _ _)) (fun g hg => blk_far (by have := (HB.out g hg); omega) _ _)) (fun g hg => blk_far (by have := (HB.out g hg); omega) _ _)).row
      go_wp2_with fail
      generalize (((((w4.setCell ⟨w.heap.size + 1, 0, none⟩ (.string x'.n)).setCell ⟨w.heap.size + 1, 1, none⟩ (.int .i64 x'.t)).setCell ⟨w.heap.size + 1, 2, none⟩ (.int .i64 x'.h)).setCell ⟨w.heap.size + 1, 3, none⟩ (.int .i64 x'.e)).setCell ⟨w.heap.size + 1, 4, none⟩ (.slice ua x'.ws.length uc)) = wf at AF RF GF ⊢
      have d0 := (blk_cell AF 0 (x := .string x'.n) rfl).1
      have d1 := (blk_cell AF 1 (x := .int .i64 x'.t) rfl).1
      have d2 := (blk_cell AF 2 (x := .int .i64 x'.h) rfl).1
      have d3 := (blk_cell AF 3 (x := .int .i64 x'.e) rfl).1
      have d4 := (blk_cell AF 4 (x := .slice ua x'.ws.length uc) rfl).1
      exact bodyPost_ret (v := .tuple #[.agg #[.string x'.n, .int .i64 x'.t, .int .i64 x'.h, .int .i64 x'.e, .slice ua x'.ws.length uc], .int .i64 0]) (by simp [results, Try.results13, go_sem, d0, d1, d2, d3, d4]) rfl ⟨_, by rw [HA.out]; rfl, RF.out, GF⟩
    · have HA : Hid (lAns tm nx ls ss n = (l0, 5)) := ans_none HTK.out.2 HTK.out.1 (fun x hx => by obtain ⟨j, hj⟩ := List.mem_iff_getElem?.1 hx; exact hnone j x hj)
      clear hnone
      have AX := (HX.out w3 B3.out).2.1
      have BW := (HX.out w3 B3.out).2.2.2
      obtain ⟨m0, n0⟩ := blk_cell AX 0 (x := .string ⟨#[]⟩) rfl
      obtain ⟨m1, n1⟩ := blk_cell AX 1 (x := .int .i64 0) rfl
      obtain ⟨m2, n2⟩ := blk_cell AX 2 (x := .int .i64 0) rfl
      obtain ⟨m3, n3⟩ := blk_cell AX 3 (x := .int .i64 0) rfl
      obtain ⟨m4, n4⟩ := blk_cell AX 4 (x := .slice none 0 0) rfl
      have AF : (((((w3.setCell ⟨w.heap.size + 1, 0, none⟩ (.string ⟨#[]⟩)).setCell ⟨w.heap.size + 1, 1, none⟩ (.int .i64 0)).setCell ⟨w.heap.size + 1, 2, none⟩ (.int .i64 0)).setCell ⟨w.heap.size + 1, 3, none⟩ (.int .i64 0)).setCell ⟨w.heap.size + 1, 4, none⟩ (.slice none 0 0)).heap[w.heap.size + 1]? = some (.cells #[.string ⟨#[]⟩, .int .i64 0, .int .i64 0, .int .i64 0, .slice none 0 0] 37 (0, 0)) := (blk_set (blk_set (blk_set (blk_set (blk_set AX 0 (.string ⟨#[]⟩)) 1 (.int .i64 0)) 2 (.int .i64 0)) 3 (.int .i64 0)) 4 (.slice none 0 0))
      have GF : Below w.heap.size w (((((w3.setCell ⟨w.heap.size + 1, 0, none⟩ (.string ⟨#[]⟩)).setCell ⟨w.heap.size + 1, 1, none⟩ (.int .i64 0)).setCell ⟨w.heap.size + 1, 2, none⟩ (.int .i64 0)).setCell ⟨w.heap.size + 1, 3, none⟩ (.int .i64 0)).setCell ⟨w.heap.size + 1, 4, none⟩ (.slice none 0 0)) := (Below.setCell (Below.setCell (Below.setCell (Below.setCell (Below.setCell BW (p := ⟨w.heap.size + 1, 0, none⟩) (Nat.le_succ _) (.string ⟨#[]⟩)) (p := ⟨w.heap.size + 1, 1, none⟩) (Nat.le_succ _) (.int .i64 0)) (p := ⟨w.heap.size + 1, 2, none⟩) (Nat.le_succ _) (.int .i64 0)) (p := ⟨w.heap.size + 1, 3, none⟩) (Nat.le_succ _) (.int .i64 0)) (p := ⟨w.heap.size + 1, 4, none⟩) (Nat.le_succ _) (.slice none 0 0))
      have RF : Hid (RowW (((((w3.setCell ⟨w.heap.size + 1, 0, none⟩ (.string ⟨#[]⟩)).setCell ⟨w.heap.size + 1, 1, none⟩ (.int .i64 0)).setCell ⟨w.heap.size + 1, 2, none⟩ (.int .i64 0)).setCell ⟨w.heap.size + 1, 3, none⟩ (.int .i64 0)).setCell ⟨w.heap.size + 1, 4, none⟩ (.slice none 0 0)) (.slice none 0 0) (lAns tm nx ls ss n).1.ws) := by
        show RowW (((((w3.setCell ⟨w.heap.size + 1, 0, none⟩ (.string ⟨#[]⟩)).setCell ⟨w.heap.size + 1, 1, none⟩ (.int .i64 0)).setCell ⟨w.heap.size + 1, 2, none⟩ (.int .i64 0)).setCell ⟨w.heap.size + 1, 3, none⟩ (.int .i64 0)).setCell ⟨w.heap.size + 1, 4, none⟩ (.slice none 0 0)) (.slice none 0 0) (lAns tm nx ls ss n).1.ws
        rw [HA.out]
        exact (OwnW.nil _ 0).row
      go_wp2_with fail
      generalize (((((w3.setCell ⟨w.heap.size + 1, 0, none⟩ (.string ⟨#[]⟩)).setCell ⟨w.heap.size + 1, 1, none⟩ (.int .i64 0)).setCell ⟨w.heap.size + 1, 2, none⟩ (.int .i64 0)).setCell ⟨w.heap.size + 1, 3, none⟩ (.int .i64 0)).setCell ⟨w.heap.size + 1, 4, none⟩ (.slice none 0 0)) = wf at AF RF GF ⊢
      have d0 := (blk_cell AF 0 (x := .string ⟨#[]⟩) rfl).1
      have d1 := (blk_cell AF 1 (x := .int .i64 0) rfl).1
      have d2 := (blk_cell AF 2 (x := .int .i64 0) rfl).1
      have d3 := (blk_cell AF 3 (x := .int .i64 0) rfl).1
      have d4 := (blk_cell AF 4 (x := .slice none 0 0) rfl).1
      exact bodyPost_ret (v := .tuple #[.agg #[.string ⟨#[]⟩, .int .i64 0, .int .i64 0, .int .i64 0, .slice none 0 0], .int .i64 5]) (by simp [results, Try.results13, go_sem, d0, d1, d2, d3, d4]) rfl ⟨_, by rw [HA.out]; rfl, RF.out, GF⟩
end Go.Proofs.Ytkjbdemhpnhagaa.Lq
