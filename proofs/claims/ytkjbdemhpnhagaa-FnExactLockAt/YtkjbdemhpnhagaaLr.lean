/- What the program's LockAt answers. -/
import Derived.Test.YtkjbdemhpnhagaaLp
namespace Go.Proofs.Ytkjbdemhpnhagaa.Lq
open Go.RowKit Go.Proofs.Ytkjbdemhpnhagaa.Sl Go.Proofs.Ytkjbdemhpnhagaa.By Go.Proofs.Ytkjbdemhpnhagaa.Ap Go.Proofs.Ytkjbdemhpnhagaa.Tb Go.Proofs.Ytkjbdemhpnhagaa.Tw Go.Proofs.Ytkjbdemhpnhagaa.Mw Go.Proofs.Ytkjbdemhpnhagaa.Wa Go.Proofs.Ytkjbdemhpnhagaa.Bk Go.Proofs.Ytkjbdemhpnhagaa.Tp Go.Proofs.Ytkjbdemhpnhagaa.Tq Go.Proofs.Ytkjbdemhpnhagaa.Lo Go.Proofs.Ytkjbdemhpnhagaa.Lp
open Go.Proofs.Ytkjbdemhpnhagaa.Tx (blk_cell blk_set blk_far blk_new bel_new)

theorem rv_inv {v v' : Value} {d : DataW Value} {ps : List MemPlace} (h : RV v = some (d, ps)) (hd : d = .held v') : v = v' := by
  unfold RV at h
  injection h with h
  injection h with h1 h2
  rw [hd] at h1
  injection h1
theorem dL_gL (ps : List (Lk × Value)) : dL ps = gL (.map []) ps := rfl
set_option maxRecDepth 100000 in
set_option maxHeartbeats 3200000 in
theorem implLockAt_any (tm nx : Int) (vl vs : Value) (ls : List Lk) (ss : List Sn) (n : ByteArray) (w : World) (hl : RowL w vl ls) (hs : RowS w vs ss) (hw : ∀ x ∈ ls, x.n.size ≤ 1048576 ∧ x.ws.length ≤ 1048576) (hy1 : ls.length ≤ 1048576) (hy2 : ss.length ≤ 1048576) (hn : n.size ≤ 1048576) :
    Calls Try.prog 14 #[tabV tm nx vl vs, .string n] w fun e w' => ∃ u, e = .returned (.tuple #[lkV (lAns tm nx ls ss n).1 u, .int .i64 (lAns tm nx ls ss n).2]) ∧ OwnW w' w.heap.size u (lAns tm nx ls ss n).1.ws ∧ Below w.heap.size w w' := by
  obtain ⟨la, lc, rfl⟩ := RowG.slice hl
  obtain ⟨sa, sc, rfl⟩ := RowG.slice hs
  have HX : Hid (∀ W, Below ((w.alloc (.cells #[.int .i64 tm, .int .i64 nx, .slice la ls.length lc, .slice sa ss.length sc] 31)).alloc (.cells #[.string ⟨#[]⟩, .int .i64 0, .int .i64 0, .int .i64 0, .slice none 0 0] 37)).heap.size ((w.alloc (.cells #[.int .i64 tm, .int .i64 nx, .slice la ls.length lc, .slice sa ss.length sc] 31)).alloc (.cells #[.string ⟨#[]⟩, .int .i64 0, .int .i64 0, .int .i64 0, .slice none 0 0] 37)) W → W.heap[w.heap.size]? = some (.cells #[.int .i64 tm, .int .i64 nx, .slice la ls.length lc, .slice sa ss.length sc] 31 (0, 0)) ∧ W.heap[w.heap.size + 1]? = some (.cells #[.string ⟨#[]⟩, .int .i64 0, .int .i64 0, .int .i64 0, .slice none 0 0] 37 (0, 0)) ∧ (RowL W (.slice la ls.length lc) ls ∧ RowS W (.slice sa ss.length sc) ss) ∧ Below w.heap.size w W) := by
    intro W hW
    have hb := two_new w (.cells #[.int .i64 tm, .int .i64 nx, .slice la ls.length lc, .slice sa ss.length sc] 31) (.cells #[.string ⟨#[]⟩, .int .i64 0, .int .i64 0, .int .i64 0, .slice none 0 0] 37)
    have k := nest2 w (.cells #[.int .i64 tm, .int .i64 nx, .slice la ls.length lc, .slice sa ss.length sc] 31) (.cells #[.string ⟨#[]⟩, .int .i64 0, .int .i64 0, .int .i64 0, .slice none 0 0] 37)
    have kz : ((w.alloc (.cells #[.int .i64 tm, .int .i64 nx, .slice la ls.length lc, .slice sa ss.length sc] 31)).alloc (.cells #[.string ⟨#[]⟩, .int .i64 0, .int .i64 0, .int .i64 0, .slice none 0 0] 37)).heap.size = w.heap.size + 1 + 1 := by rw [Bk.size_new, Bk.size_new]
    exact ⟨(hW.block _ (by omega)).trans k.1, (hW.block _ (by omega)).trans k.2, ⟨(hl.below hb).below hW, (hs.below hb).below hW⟩, hb.trans (hW.mono (by omega))⟩
  have HS1 : Hid (((w.alloc (.cells #[.int .i64 tm, .int .i64 nx, .slice la ls.length lc, .slice sa ss.length sc] 31)).alloc (.cells #[.string ⟨#[]⟩, .int .i64 0, .int .i64 0, .int .i64 0, .slice none 0 0] 37)).heap.size = w.heap.size + 2) := by show _ = _; rw [Bk.size_new, Bk.size_new]
  have HOK : Hid (∀ W, RowL W (.slice la ls.length lc) ls → RowS W (.slice sa ss.length sc) ss → Calls Try.prog 11 #[.agg #[.int .i64 tm, .int .i64 nx, .slice la ls.length lc, .slice sa ss.length sc]] W fun e w' => e = .returned (.bool (bOf (TOK ⟨tm, nx, ls, ss⟩))) ∧ Below W.heap.size W w') := fun W h1 h2 => implTableOK_any tm nx _ _ ls ss W h1 h2 hw hy1 hy2
  have HW : Hid (∀ x ∈ ls, x.n.size ≤ 1048576 ∧ x.ws.length ≤ 1048576) := hw
  clear hl hs hw
  unfold tabV
  by_cases hlong : n.size > 65536
  · have HA : Hid (lAns tm nx ls ss n = (l0, 2)) := ans_long hlong
    have hgt : ¬ (n.size : Int) ≤ 65536 := by omega
    have hgt' : (65536 : Int) < (n.size : Int) := by omega
    go_enter Try.func14, Try.ntmps14
    go_upto_region 1 with fail
    generalize ((w.alloc (.cells #[.int .i64 tm, .int .i64 nx, .slice la ls.length lc, .slice sa ss.length sc] 31)).alloc (.cells #[.string ⟨#[]⟩, .int .i64 0, .int .i64 0, .int .i64 0, .slice none 0 0] 37)) = w1 at HX HS1 ⊢
    have AX := (HX.out w1 (Below.refl _ _)).2.1
    have BW := (HX.out w1 (Below.refl _ _)).2.2.2
    obtain ⟨m0, n0⟩ := blk_cell AX 0 (x := .string ⟨#[]⟩) rfl
    obtain ⟨m1, n1⟩ := blk_cell AX 1 (x := .int .i64 0) rfl
    obtain ⟨m2, n2⟩ := blk_cell AX 2 (x := .int .i64 0) rfl
    obtain ⟨m3, n3⟩ := blk_cell AX 3 (x := .int .i64 0) rfl
    obtain ⟨m4, n4⟩ := blk_cell AX 4 (x := .slice none 0 0) rfl
    have AF : (((((w1.setCell ⟨w.heap.size + 1, 0, none⟩ (.string ⟨#[]⟩)).setCell ⟨w.heap.size + 1, 1, none⟩ (.int .i64 0)).setCell ⟨w.heap.size + 1, 2, none⟩ (.int .i64 0)).setCell ⟨w.heap.size + 1, 3, none⟩ (.int .i64 0)).setCell ⟨w.heap.size + 1, 4, none⟩ (.slice none 0 0)).heap[w.heap.size + 1]? = some (.cells #[.string ⟨#[]⟩, .int .i64 0, .int .i64 0, .int .i64 0, .slice none 0 0] 37 (0, 0)) := (blk_set (blk_set (blk_set (blk_set (blk_set AX 0 (.string ⟨#[]⟩)) 1 (.int .i64 0)) 2 (.int .i64 0)) 3 (.int .i64 0)) 4 (.slice none 0 0))
    have GF : Below w.heap.size w (((((w1.setCell ⟨w.heap.size + 1, 0, none⟩ (.string ⟨#[]⟩)).setCell ⟨w.heap.size + 1, 1, none⟩ (.int .i64 0)).setCell ⟨w.heap.size + 1, 2, none⟩ (.int .i64 0)).setCell ⟨w.heap.size + 1, 3, none⟩ (.int .i64 0)).setCell ⟨w.heap.size + 1, 4, none⟩ (.slice none 0 0)) := (Below.setCell (Below.setCell (Below.setCell (Below.setCell (Below.setCell BW (p := ⟨w.heap.size + 1, 0, none⟩) (Nat.le_succ _) (.string ⟨#[]⟩)) (p := ⟨w.heap.size + 1, 1, none⟩) (Nat.le_succ _) (.int .i64 0)) (p := ⟨w.heap.size + 1, 2, none⟩) (Nat.le_succ _) (.int .i64 0)) (p := ⟨w.heap.size + 1, 3, none⟩) (Nat.le_succ _) (.int .i64 0)) (p := ⟨w.heap.size + 1, 4, none⟩) (Nat.le_succ _) (.slice none 0 0))
    have RF : Hid (OwnW (((((w1.setCell ⟨w.heap.size + 1, 0, none⟩ (.string ⟨#[]⟩)).setCell ⟨w.heap.size + 1, 1, none⟩ (.int .i64 0)).setCell ⟨w.heap.size + 1, 2, none⟩ (.int .i64 0)).setCell ⟨w.heap.size + 1, 3, none⟩ (.int .i64 0)).setCell ⟨w.heap.size + 1, 4, none⟩ (.slice none 0 0)) w.heap.size (.slice none 0 0) (lAns tm nx ls ss n).1.ws) := by
      show OwnW (((((w1.setCell ⟨w.heap.size + 1, 0, none⟩ (.string ⟨#[]⟩)).setCell ⟨w.heap.size + 1, 1, none⟩ (.int .i64 0)).setCell ⟨w.heap.size + 1, 2, none⟩ (.int .i64 0)).setCell ⟨w.heap.size + 1, 3, none⟩ (.int .i64 0)).setCell ⟨w.heap.size + 1, 4, none⟩ (.slice none 0 0)) w.heap.size (.slice none 0 0) (lAns tm nx ls ss n).1.ws
      rw [HA.out]
      exact OwnW.nil _ _
    go_wp2_with fail
    generalize (((((w1.setCell ⟨w.heap.size + 1, 0, none⟩ (.string ⟨#[]⟩)).setCell ⟨w.heap.size + 1, 1, none⟩ (.int .i64 0)).setCell ⟨w.heap.size + 1, 2, none⟩ (.int .i64 0)).setCell ⟨w.heap.size + 1, 3, none⟩ (.int .i64 0)).setCell ⟨w.heap.size + 1, 4, none⟩ (.slice none 0 0)) = wf at AF RF GF ⊢
    have d0 := (blk_cell AF 0 (x := .string ⟨#[]⟩) rfl).1
    have d1 := (blk_cell AF 1 (x := .int .i64 0) rfl).1
    have d2 := (blk_cell AF 2 (x := .int .i64 0) rfl).1
    have d3 := (blk_cell AF 3 (x := .int .i64 0) rfl).1
    have d4 := (blk_cell AF 4 (x := .slice none 0 0) rfl).1
    exact bodyPost_ret (v := .tuple #[.agg #[.string ⟨#[]⟩, .int .i64 0, .int .i64 0, .int .i64 0, .slice none 0 0], .int .i64 2]) (by simp [results, Try.results14, go_sem, d0, d1, d2, d3, d4]) rfl ⟨_, by rw [HA.out]; rfl, RF.out, GF⟩
  have hle : (n.size : Int) ≤ 65536 := by omega
  have hle' : ¬ (65536 : Int) < (n.size : Int) := by omega
  cases htk : bOf (TOK ⟨tm, nx, ls, ss⟩) with
  | false =>
    have HA : Hid (lAns tm nx ls ss n = (l0, 1)) := ans_bad hlong htk
    rw [htk] at HOK
    clear htk
    go_enter Try.func14, Try.ntmps14
    go_upto_region 1 with fail
    generalize ((w.alloc (.cells #[.int .i64 tm, .int .i64 nx, .slice la ls.length lc, .slice sa ss.length sc] 31)).alloc (.cells #[.string ⟨#[]⟩, .int .i64 0, .int .i64 0, .int .i64 0, .slice none 0 0] 37)) = w1 at HX HS1 ⊢
    have t0 := (blk_cell (HX.out w1 (Below.refl _ _)).1 0 (x := .int .i64 tm) rfl).1
    have t1 := (blk_cell (HX.out w1 (Below.refl _ _)).1 1 (x := .int .i64 nx) rfl).1
    have t2 := (blk_cell (HX.out w1 (Below.refl _ _)).1 2 (x := .slice la ls.length lc) rfl).1
    have t3 := (blk_cell (HX.out w1 (Below.refl _ _)).1 3 (x := .slice sa ss.length sc) rfl).1
    have HR : Hid (RowL w1 (.slice la ls.length lc) ls ∧ RowS w1 (.slice sa ss.length sc) ss) := (HX.out w1 (Below.refl _ _)).2.2.1
    go_wp2_with fail
    refine (HOK.out _ HR.out.1 HR.out.2).mono ?_
    rintro e w2 ⟨rfl, b2⟩
    have B2 : Hid (Below w1.heap.size w1 w2) := b2
    clear b2 t0 t1 t2 t3 HR
    have AX := (HX.out w2 B2.out).2.1
    have BW := (HX.out w2 B2.out).2.2.2
    obtain ⟨m0, n0⟩ := blk_cell AX 0 (x := .string ⟨#[]⟩) rfl
    obtain ⟨m1, n1⟩ := blk_cell AX 1 (x := .int .i64 0) rfl
    obtain ⟨m2, n2⟩ := blk_cell AX 2 (x := .int .i64 0) rfl
    obtain ⟨m3, n3⟩ := blk_cell AX 3 (x := .int .i64 0) rfl
    obtain ⟨m4, n4⟩ := blk_cell AX 4 (x := .slice none 0 0) rfl
    have AF : (((((w2.setCell ⟨w.heap.size + 1, 0, none⟩ (.string ⟨#[]⟩)).setCell ⟨w.heap.size + 1, 1, none⟩ (.int .i64 0)).setCell ⟨w.heap.size + 1, 2, none⟩ (.int .i64 0)).setCell ⟨w.heap.size + 1, 3, none⟩ (.int .i64 0)).setCell ⟨w.heap.size + 1, 4, none⟩ (.slice none 0 0)).heap[w.heap.size + 1]? = some (.cells #[.string ⟨#[]⟩, .int .i64 0, .int .i64 0, .int .i64 0, .slice none 0 0] 37 (0, 0)) := (blk_set (blk_set (blk_set (blk_set (blk_set AX 0 (.string ⟨#[]⟩)) 1 (.int .i64 0)) 2 (.int .i64 0)) 3 (.int .i64 0)) 4 (.slice none 0 0))
    have GF : Below w.heap.size w (((((w2.setCell ⟨w.heap.size + 1, 0, none⟩ (.string ⟨#[]⟩)).setCell ⟨w.heap.size + 1, 1, none⟩ (.int .i64 0)).setCell ⟨w.heap.size + 1, 2, none⟩ (.int .i64 0)).setCell ⟨w.heap.size + 1, 3, none⟩ (.int .i64 0)).setCell ⟨w.heap.size + 1, 4, none⟩ (.slice none 0 0)) := (Below.setCell (Below.setCell (Below.setCell (Below.setCell (Below.setCell BW (p := ⟨w.heap.size + 1, 0, none⟩) (Nat.le_succ _) (.string ⟨#[]⟩)) (p := ⟨w.heap.size + 1, 1, none⟩) (Nat.le_succ _) (.int .i64 0)) (p := ⟨w.heap.size + 1, 2, none⟩) (Nat.le_succ _) (.int .i64 0)) (p := ⟨w.heap.size + 1, 3, none⟩) (Nat.le_succ _) (.int .i64 0)) (p := ⟨w.heap.size + 1, 4, none⟩) (Nat.le_succ _) (.slice none 0 0))
    have RF : Hid (OwnW (((((w2.setCell ⟨w.heap.size + 1, 0, none⟩ (.string ⟨#[]⟩)).setCell ⟨w.heap.size + 1, 1, none⟩ (.int .i64 0)).setCell ⟨w.heap.size + 1, 2, none⟩ (.int .i64 0)).setCell ⟨w.heap.size + 1, 3, none⟩ (.int .i64 0)).setCell ⟨w.heap.size + 1, 4, none⟩ (.slice none 0 0)) w.heap.size (.slice none 0 0) (lAns tm nx ls ss n).1.ws) := by
      show OwnW (((((w2.setCell ⟨w.heap.size + 1, 0, none⟩ (.string ⟨#[]⟩)).setCell ⟨w.heap.size + 1, 1, none⟩ (.int .i64 0)).setCell ⟨w.heap.size + 1, 2, none⟩ (.int .i64 0)).setCell ⟨w.heap.size + 1, 3, none⟩ (.int .i64 0)).setCell ⟨w.heap.size + 1, 4, none⟩ (.slice none 0 0)) w.heap.size (.slice none 0 0) (lAns tm nx ls ss n).1.ws
      rw [HA.out]
      exact OwnW.nil _ _
    go_wp2_with fail
    generalize (((((w2.setCell ⟨w.heap.size + 1, 0, none⟩ (.string ⟨#[]⟩)).setCell ⟨w.heap.size + 1, 1, none⟩ (.int .i64 0)).setCell ⟨w.heap.size + 1, 2, none⟩ (.int .i64 0)).setCell ⟨w.heap.size + 1, 3, none⟩ (.int .i64 0)).setCell ⟨w.heap.size + 1, 4, none⟩ (.slice none 0 0)) = wf at AF RF GF ⊢
    have d0 := (blk_cell AF 0 (x := .string ⟨#[]⟩) rfl).1
    have d1 := (blk_cell AF 1 (x := .int .i64 0) rfl).1
    have d2 := (blk_cell AF 2 (x := .int .i64 0) rfl).1
    have d3 := (blk_cell AF 3 (x := .int .i64 0) rfl).1
    have d4 := (blk_cell AF 4 (x := .slice none 0 0) rfl).1
    exact bodyPost_ret (v := .tuple #[.agg #[.string ⟨#[]⟩, .int .i64 0, .int .i64 0, .int .i64 0, .slice none 0 0], .int .i64 1]) (by simp [results, Try.results14, go_sem, d0, d1, d2, d3, d4]) rfl ⟨_, by rw [HA.out]; rfl, RF.out, GF⟩
  | true =>
    obtain ⟨y1, y2, y3, y4⟩ := tok_small (tok_true htk)
    have HY : Hid ((∀ x ∈ ls, x.ws.length ≤ 4) ∧ (∀ s ∈ ss, 0 ≤ s.c ∧ s.c ≤ 255) ∧ LsOK nx ls) := ⟨y3, y4, (tok_true htk).2.2.2.1⟩
    have HTK : Hid (bOf (TOK ⟨tm, nx, ls, ss⟩) = true ∧ ¬ n.size > 65536) := ⟨htk, hlong⟩
    rw [htk] at HOK
    clear htk y3 y4 hlong
    go_enter Try.func14, Try.ntmps14
    go_upto_region 1 with fail
    generalize ((w.alloc (.cells #[.int .i64 tm, .int .i64 nx, .slice la ls.length lc, .slice sa ss.length sc] 31)).alloc (.cells #[.string ⟨#[]⟩, .int .i64 0, .int .i64 0, .int .i64 0, .slice none 0 0] 37)) = w1 at HX HS1 ⊢
    have t0 := (blk_cell (HX.out w1 (Below.refl _ _)).1 0 (x := .int .i64 tm) rfl).1
    have t1 := (blk_cell (HX.out w1 (Below.refl _ _)).1 1 (x := .int .i64 nx) rfl).1
    have t2 := (blk_cell (HX.out w1 (Below.refl _ _)).1 2 (x := .slice la ls.length lc) rfl).1
    have t3 := (blk_cell (HX.out w1 (Below.refl _ _)).1 3 (x := .slice sa ss.length sc) rfl).1
    have HR : Hid (RowL w1 (.slice la ls.length lc) ls ∧ RowS w1 (.slice sa ss.length sc) ss) := (HX.out w1 (Below.refl _ _)).2.2.1
    go_wp2_with fail
    refine (HOK.out _ HR.out.1 HR.out.2).mono ?_
    rintro e w2 ⟨rfl, b2⟩
    have B2 : Hid (Below w1.heap.size w1 w2) := b2
    clear b2 t0 t1 t2 t3 HR
    have t0 := (blk_cell (HX.out w2 B2.out).1 0 (x := .int .i64 tm) rfl).1
    have t1 := (blk_cell (HX.out w2 B2.out).1 1 (x := .int .i64 nx) rfl).1
    have t2 := (blk_cell (HX.out w2 B2.out).1 2 (x := .slice la ls.length lc) rfl).1
    have t3 := (blk_cell (HX.out w2 B2.out).1 3 (x := .slice sa ss.length sc) rfl).1
    have HR : Hid (RowL w2 (.slice la ls.length lc) ls ∧ RowS w2 (.slice sa ss.length sc) ss) := (HX.out w2 B2.out).2.2.1
    have hzz : ∀ W, (zeroValue 37).run Try.prog W = .ok (.agg #[.string ⟨#[]⟩, .int .i64 0, .int .i64 0, .int .i64 0, .slice none 0 0]) W := fun W => by
      have hq : Try.t37.zero = some (.agg #[.string ⟨#[]⟩, .int .i64 0, .int .i64 0, .int .i64 0, .slice none 0 0]) := by kernel_rfl
      simp [zeroValue, hq]
    go_wp2_with fail
    refine (openBook_any tm nx _ _ ls ss _ HR.out.1 HR.out.2 (fun x hx => ⟨(HW.out x hx).1, by have := HY.out.1 x hx; omega⟩) HY.out.2.1 (by omega) (by omega)).mono ?_
    rintro e w3 ⟨b, bL, bS, p, ps, rfl, hop, hps⟩
    have B3 : Hid (Below w1.heap.size w1 w3) := B2.out.trans (hop.bel.mono B2.out.size)
    have HO : Hid (Bk.Op w2 w3 tm nx (.slice la ls.length lc) (.slice sa ss.length sc) b bL bS p ps ss ∧ ps.map (·.1) = ls ∧ w1.heap.size ≤ w2.heap.size) := ⟨hop, hps, B2.out.size⟩
    clear hop hps t0 t1 t2 t3 HR B2
    have ep := (blk_cell HO.out.1.hp 2 (x := .map (some bL)) rfl).1
    have AX := (HX.out w3 B3.out).2.1
    have BW := (HX.out w3 B3.out).2.2.2
    by_cases hex : ∃ x ∈ ls, x.n = n
    · obtain ⟨x, hxm, hxn⟩ := hex
      obtain ⟨k, hx⟩ := List.mem_iff_getElem?.1 hxm
      have HA : Hid (lAns tm nx ls ss n = (x, 0)) := ans_at HTK.out.2 HTK.out.1 hx hxn
      have HPK : ∃ q, ps[k]? = some q ∧ q.1 = x := by
        have h := hx
        rw [← HO.out.2.1, List.getElem?_map] at h
        exact Option.map_eq_some_iff.1 h
      obtain ⟨⟨x', u⟩, hq, hqx⟩ := HPK
      dsimp only at hqx
      subst hqx
      have hu0 : OwnW w3 (p + 1) u x'.ws := HO.out.1.ow _ (mem_at hq)
      obtain ⟨ua, uc, rfl⟩ := OwnW.slice hu0
      have HLK : Hid ((dL ps).atKey (kS n) (.held (.agg #[.string ⟨#[]⟩, .int .i64 0, .int .i64 0, .int .i64 0, .slice none 0 0])) = .held (.agg #[.string x'.n, .int .i64 x'.t, .int .i64 x'.h, .int .i64 x'.e, .slice ua x'.ws.length uc]) ∧ Maps.has (dL ps) (kS n) = true) := by
        have h := gL_hit (.held (.agg #[.string ⟨#[]⟩, .int .i64 0, .int .i64 0, .int .i64 0, .slice none 0 0])) ps (.map []) k _ Maps.isMap_empty hq (fun j z hj hz => by
          have hz' : ls[j]? = some z.1 := by rw [← HO.out.2.1, List.getElem?_map, hz]; rfl
          exact fun e => names_ne HY.out.2.2 hx hz' hj e.symm)
        dsimp only at h
        rw [hxn] at h
        exact h
      have HB : Hid (∀ g, (Value.slice ua x'.ws.length uc).ownBlock = some g → w.heap.size + 1 < g) := fun g hg => by have h1 := (hu0.lt g hg).1; have h2 := HO.out.1.lt; have h3 := HO.out.2.2; have h4 := HS1.out; omega
      have HU : Hid (OwnW w3 (p + 1) (.slice ua x'.ws.length uc) x'.ws ∧ w.heap.size ≤ p + 1) := ⟨hu0, by have h2 := HO.out.1.lt; have h3 := HO.out.2.2; have h4 := HS1.out; omega⟩
      clear hu0 hq hxm hx hxn
      have AXo := fun o => (Below.heap_alloc w3 o _ (Array.getElem?_eq_some_iff.1 AX).1).trans AX
      go_upto_region 6 with (at_lookup; go_must (refine wpList_lookup_own_ok (H := Value) _ rfl _ _ 76 rfl 9 37 (Maps.string_keyed Try.underlying9) Try.underlying76 RV (hzz _) (.held (.agg #[.string ⟨#[]⟩, .int .i64 0, .int .i64 0, .int .i64 0, .slice none 0 0])) [] rfl bL ps.length (dL ps) rfl (by first | exact HO.out.1.ml | exact map_kept HO.out.1.ml (Below.heap_alloc _ _ _ (by have := HO.out.1.lt; have := HO.out.1.pl; omega))) (.string n) (kS n) rfl (WideMaps.keyOf_string_mk Try.underlying9 (by unfold maxLen; omega)) ?_; intro v qs hv; rw [rv_inv hv HLK.out.1, HLK.out.2]; clear hv))
      have H4 : Hid ((w3.alloc (.cells #[.string x'.n, .int .i64 x'.t, .int .i64 x'.h, .int .i64 x'.e, .slice ua x'.ws.length uc] 37)).heap[w3.heap.size]? = some (.cells #[.string x'.n, .int .i64 x'.t, .int .i64 x'.h, .int .i64 x'.e, .slice ua x'.ws.length uc] 37 (0, 0)) ∧ (w3.alloc (.cells #[.string x'.n, .int .i64 x'.t, .int .i64 x'.h, .int .i64 x'.e, .slice ua x'.ws.length uc] 37)).heap[w.heap.size + 1]? = some (.cells #[.string ⟨#[]⟩, .int .i64 0, .int .i64 0, .int .i64 0, .slice none 0 0] 37 (0, 0)) ∧ OwnW (w3.alloc (.cells #[.string x'.n, .int .i64 x'.t, .int .i64 x'.h, .int .i64 x'.e, .slice ua x'.ws.length uc] 37)) w.heap.size (.slice ua x'.ws.length uc) x'.ws ∧ Below w.heap.size w (w3.alloc (.cells #[.string x'.n, .int .i64 x'.t, .int .i64 x'.h, .int .i64 x'.e, .slice ua x'.ws.length uc] 37))) := ⟨blk_new _ _ _, AXo _, (HU.out.1.alloc _).mono HU.out.2, BW.alloc BW.size _⟩
      clear AX BW AXo ep HU HO HLK hzz
      generalize w3.alloc (.cells #[.string x'.n, .int .i64 x'.t, .int .i64 x'.h, .int .i64 x'.e, .slice ua x'.ws.length uc] 37) = w4 at H4 ⊢
      generalize w3.heap.size = y at H4 ⊢
      have e0 := (blk_cell H4.out.1 0 (x := .string x'.n) rfl).1
      have e1 := (blk_cell H4.out.1 1 (x := .int .i64 x'.t) rfl).1
      have e2 := (blk_cell H4.out.1 2 (x := .int .i64 x'.h) rfl).1
      have e3 := (blk_cell H4.out.1 3 (x := .int .i64 x'.e) rfl).1
      have e4 := (blk_cell H4.out.1 4 (x := .slice ua x'.ws.length uc) rfl).1
      have AX := H4.out.2.1
      have BW := H4.out.2.2.2
      have HU : Hid (OwnW w4 w.heap.size (.slice ua x'.ws.length uc) x'.ws) := H4.out.2.2.1
      obtain ⟨m0, n0⟩ := blk_cell AX 0 (x := .string ⟨#[]⟩) rfl
      obtain ⟨m1, n1⟩ := blk_cell AX 1 (x := .int .i64 0) rfl
      obtain ⟨m2, n2⟩ := blk_cell AX 2 (x := .int .i64 0) rfl
      obtain ⟨m3, n3⟩ := blk_cell AX 3 (x := .int .i64 0) rfl
      obtain ⟨m4, n4⟩ := blk_cell AX 4 (x := .slice none 0 0) rfl
      have AF : (((((w4.setCell ⟨w.heap.size + 1, 0, none⟩ (.string x'.n)).setCell ⟨w.heap.size + 1, 1, none⟩ (.int .i64 x'.t)).setCell ⟨w.heap.size + 1, 2, none⟩ (.int .i64 x'.h)).setCell ⟨w.heap.size + 1, 3, none⟩ (.int .i64 x'.e)).setCell ⟨w.heap.size + 1, 4, none⟩ (.slice ua x'.ws.length uc)).heap[w.heap.size + 1]? = some (.cells #[.string x'.n, .int .i64 x'.t, .int .i64 x'.h, .int .i64 x'.e, .slice ua x'.ws.length uc] 37 (0, 0)) := (blk_set (blk_set (blk_set (blk_set (blk_set AX 0 (.string x'.n)) 1 (.int .i64 x'.t)) 2 (.int .i64 x'.h)) 3 (.int .i64 x'.e)) 4 (.slice ua x'.ws.length uc))
      have GF : Below w.heap.size w (((((w4.setCell ⟨w.heap.size + 1, 0, none⟩ (.string x'.n)).setCell ⟨w.heap.size + 1, 1, none⟩ (.int .i64 x'.t)).setCell ⟨w.heap.size + 1, 2, none⟩ (.int .i64 x'.h)).setCell ⟨w.heap.size + 1, 3, none⟩ (.int .i64 x'.e)).setCell ⟨w.heap.size + 1, 4, none⟩ (.slice ua x'.ws.length uc)) := (Below.setCell (Below.setCell (Below.setCell (Below.setCell (Below.setCell BW (p := ⟨w.heap.size + 1, 0, none⟩) (Nat.le_succ _) (.string x'.n)) (p := ⟨w.heap.size + 1, 1, none⟩) (Nat.le_succ _) (.int .i64 x'.t)) (p := ⟨w.heap.size + 1, 2, none⟩) (Nat.le_succ _) (.int .i64 x'.h)) (p := ⟨w.heap.size + 1, 3, none⟩) (Nat.le_succ _) (.int .i64 x'.e)) (p := ⟨w.heap.size + 1, 4, none⟩) (Nat.le_succ _) (.slice ua x'.ws.length uc))
      have RF : Hid (OwnW (((((w4.setCell ⟨w.heap.size + 1, 0, none⟩ (.string x'.n)).setCell ⟨w.heap.size + 1, 1, none⟩ (.int .i64 x'.t)).setCell ⟨w.heap.size + 1, 2, none⟩ (.int .i64 x'.h)).setCell ⟨w.heap.size + 1, 3, none⟩ (.int .i64 x'.e)).setCell ⟨w.heap.size + 1, 4, none⟩ (.slice ua x'.ws.length uc)) w.heap.size (.slice ua x'.ws.length uc) (lAns tm nx ls ss n).1.ws) := by
        show OwnW (((((w4.setCell ⟨w.heap.size + 1, 0, none⟩ (.string x'.n)).setCell ⟨w.heap.size + 1, 1, none⟩ (.int .i64 x'.t)).setCell ⟨w.heap.size + 1, 2, none⟩ (.int .i64 x'.h)).setCell ⟨w.heap.size + 1, 3, none⟩ (.int .i64 x'.e)).setCell ⟨w.heap.size + 1, 4, none⟩ (.slice ua x'.ws.length uc)) w.heap.size (.slice ua x'.ws.length uc) (lAns tm nx ls ss n).1.ws
        rw [HA.out]
        exact (OwnW.kept (OwnW.kept (OwnW.kept (OwnW.kept (OwnW.kept HU.out (fun g hg => blk_far (by have := (HB.out g hg); omega) _ _)) (fun g hg => blk_far (by have := (HB.out g hg); omega) _ _)) (fun g hg => blk_far (by have := (HB.out g hg); omega) _ _)) (fun g hg => blk_far (by have := (HB.out g hg); omega) _ _)) (fun g hg => blk_far (by have := (HB.out g hg); omega) _ _))
      go_wp2_with fail
      generalize (((((w4.setCell ⟨w.heap.size + 1, 0, none⟩ (.string x'.n)).setCell ⟨w.heap.size + 1, 1, none⟩ (.int .i64 x'.t)).setCell ⟨w.heap.size + 1, 2, none⟩ (.int .i64 x'.h)).setCell ⟨w.heap.size + 1, 3, none⟩ (.int .i64 x'.e)).setCell ⟨w.heap.size + 1, 4, none⟩ (.slice ua x'.ws.length uc)) = wf at AF RF GF ⊢
      have d0 := (blk_cell AF 0 (x := .string x'.n) rfl).1
      have d1 := (blk_cell AF 1 (x := .int .i64 x'.t) rfl).1
      have d2 := (blk_cell AF 2 (x := .int .i64 x'.h) rfl).1
      have d3 := (blk_cell AF 3 (x := .int .i64 x'.e) rfl).1
      have d4 := (blk_cell AF 4 (x := .slice ua x'.ws.length uc) rfl).1
      exact bodyPost_ret (v := .tuple #[.agg #[.string x'.n, .int .i64 x'.t, .int .i64 x'.h, .int .i64 x'.e, .slice ua x'.ws.length uc], .int .i64 0]) (by simp [results, Try.results14, go_sem, d0, d1, d2, d3, d4]) rfl ⟨_, by rw [HA.out]; rfl, RF.out, GF⟩
    · have HA : Hid (lAns tm nx ls ss n = (l0, 5)) := ans_none HTK.out.2 HTK.out.1 (fun x hx e => hex ⟨x, hx, e⟩)
      have HLK : Hid ((dL ps).atKey (kS n) (.held (.agg #[.string ⟨#[]⟩, .int .i64 0, .int .i64 0, .int .i64 0, .slice none 0 0])) = .held (.agg #[.string ⟨#[]⟩, .int .i64 0, .int .i64 0, .int .i64 0, .slice none 0 0]) ∧ Maps.has (dL ps) (kS n) = false) := by
        have h := gL_miss n (.held (.agg #[.string ⟨#[]⟩, .int .i64 0, .int .i64 0, .int .i64 0, .slice none 0 0])) ps (.map []) (fun q hq e => hex ⟨q.1, by rw [← HO.out.2.1]; exact List.mem_map_of_mem hq, e⟩)
        exact ⟨h.1.trans rfl, h.2.trans rfl⟩
      clear hex
      have AXo := fun o => (Below.heap_alloc w3 o _ (Array.getElem?_eq_some_iff.1 AX).1).trans AX
      go_upto_region 6 with (at_lookup; go_must (refine wpList_lookup_own_ok (H := Value) _ rfl _ _ 76 rfl 9 37 (Maps.string_keyed Try.underlying9) Try.underlying76 RV (hzz _) (.held (.agg #[.string ⟨#[]⟩, .int .i64 0, .int .i64 0, .int .i64 0, .slice none 0 0])) [] rfl bL ps.length (dL ps) rfl (by first | exact HO.out.1.ml | exact map_kept HO.out.1.ml (Below.heap_alloc _ _ _ (by have := HO.out.1.lt; have := HO.out.1.pl; omega))) (.string n) (kS n) rfl (WideMaps.keyOf_string_mk Try.underlying9 (by unfold maxLen; omega)) ?_; intro v qs hv; rw [rv_inv hv HLK.out.1, HLK.out.2]; clear hv))
      have H4 : Hid ((w3.alloc (.cells #[.string ⟨#[]⟩, .int .i64 0, .int .i64 0, .int .i64 0, .slice none 0 0] 37)).heap[w.heap.size + 1]? = some (.cells #[.string ⟨#[]⟩, .int .i64 0, .int .i64 0, .int .i64 0, .slice none 0 0] 37 (0, 0)) ∧ Below w.heap.size w (w3.alloc (.cells #[.string ⟨#[]⟩, .int .i64 0, .int .i64 0, .int .i64 0, .slice none 0 0] 37))) := ⟨AXo _, BW.alloc BW.size _⟩
      clear AX BW AXo ep HO HLK hzz
      generalize w3.alloc (.cells #[.string ⟨#[]⟩, .int .i64 0, .int .i64 0, .int .i64 0, .slice none 0 0] 37) = w4 at H4 ⊢
      have AX := H4.out.1
      have BW := H4.out.2
      obtain ⟨m0, n0⟩ := blk_cell AX 0 (x := .string ⟨#[]⟩) rfl
      obtain ⟨m1, n1⟩ := blk_cell AX 1 (x := .int .i64 0) rfl
      obtain ⟨m2, n2⟩ := blk_cell AX 2 (x := .int .i64 0) rfl
      obtain ⟨m3, n3⟩ := blk_cell AX 3 (x := .int .i64 0) rfl
      obtain ⟨m4, n4⟩ := blk_cell AX 4 (x := .slice none 0 0) rfl
      have AF : (((((w4.setCell ⟨w.heap.size + 1, 0, none⟩ (.string ⟨#[]⟩)).setCell ⟨w.heap.size + 1, 1, none⟩ (.int .i64 0)).setCell ⟨w.heap.size + 1, 2, none⟩ (.int .i64 0)).setCell ⟨w.heap.size + 1, 3, none⟩ (.int .i64 0)).setCell ⟨w.heap.size + 1, 4, none⟩ (.slice none 0 0)).heap[w.heap.size + 1]? = some (.cells #[.string ⟨#[]⟩, .int .i64 0, .int .i64 0, .int .i64 0, .slice none 0 0] 37 (0, 0)) := (blk_set (blk_set (blk_set (blk_set (blk_set AX 0 (.string ⟨#[]⟩)) 1 (.int .i64 0)) 2 (.int .i64 0)) 3 (.int .i64 0)) 4 (.slice none 0 0))
      have GF : Below w.heap.size w (((((w4.setCell ⟨w.heap.size + 1, 0, none⟩ (.string ⟨#[]⟩)).setCell ⟨w.heap.size + 1, 1, none⟩ (.int .i64 0)).setCell ⟨w.heap.size + 1, 2, none⟩ (.int .i64 0)).setCell ⟨w.heap.size + 1, 3, none⟩ (.int .i64 0)).setCell ⟨w.heap.size + 1, 4, none⟩ (.slice none 0 0)) := (Below.setCell (Below.setCell (Below.setCell (Below.setCell (Below.setCell BW (p := ⟨w.heap.size + 1, 0, none⟩) (Nat.le_succ _) (.string ⟨#[]⟩)) (p := ⟨w.heap.size + 1, 1, none⟩) (Nat.le_succ _) (.int .i64 0)) (p := ⟨w.heap.size + 1, 2, none⟩) (Nat.le_succ _) (.int .i64 0)) (p := ⟨w.heap.size + 1, 3, none⟩) (Nat.le_succ _) (.int .i64 0)) (p := ⟨w.heap.size + 1, 4, none⟩) (Nat.le_succ _) (.slice none 0 0))
      have RF : Hid (OwnW (((((w4.setCell ⟨w.heap.size + 1, 0, none⟩ (.string ⟨#[]⟩)).setCell ⟨w.heap.size + 1, 1, none⟩ (.int .i64 0)).setCell ⟨w.heap.size + 1, 2, none⟩ (.int .i64 0)).setCell ⟨w.heap.size + 1, 3, none⟩ (.int .i64 0)).setCell ⟨w.heap.size + 1, 4, none⟩ (.slice none 0 0)) w.heap.size (.slice none 0 0) (lAns tm nx ls ss n).1.ws) := by
        show OwnW (((((w4.setCell ⟨w.heap.size + 1, 0, none⟩ (.string ⟨#[]⟩)).setCell ⟨w.heap.size + 1, 1, none⟩ (.int .i64 0)).setCell ⟨w.heap.size + 1, 2, none⟩ (.int .i64 0)).setCell ⟨w.heap.size + 1, 3, none⟩ (.int .i64 0)).setCell ⟨w.heap.size + 1, 4, none⟩ (.slice none 0 0)) w.heap.size (.slice none 0 0) (lAns tm nx ls ss n).1.ws
        rw [HA.out]
        exact OwnW.nil _ _
      go_wp2_with fail
      generalize (((((w4.setCell ⟨w.heap.size + 1, 0, none⟩ (.string ⟨#[]⟩)).setCell ⟨w.heap.size + 1, 1, none⟩ (.int .i64 0)).setCell ⟨w.heap.size + 1, 2, none⟩ (.int .i64 0)).setCell ⟨w.heap.size + 1, 3, none⟩ (.int .i64 0)).setCell ⟨w.heap.size + 1, 4, none⟩ (.slice none 0 0)) = wf at AF RF GF ⊢
      have d0 := (blk_cell AF 0 (x := .string ⟨#[]⟩) rfl).1
      have d1 := (blk_cell AF 1 (x := .int .i64 0) rfl).1
      have d2 := (blk_cell AF 2 (x := .int .i64 0) rfl).1
      have d3 := (blk_cell AF 3 (x := .int .i64 0) rfl).1
      have d4 := (blk_cell AF 4 (x := .slice none 0 0) rfl).1
      exact bodyPost_ret (v := .tuple #[.agg #[.string ⟨#[]⟩, .int .i64 0, .int .i64 0, .int .i64 0, .slice none 0 0], .int .i64 5]) (by simp [results, Try.results14, go_sem, d0, d1, d2, d3, d4]) rfl ⟨_, by rw [HA.out]; rfl, RF.out, GF⟩
end Go.Proofs.Ytkjbdemhpnhagaa.Lq
