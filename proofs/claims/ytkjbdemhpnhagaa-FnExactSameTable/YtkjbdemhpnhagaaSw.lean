/- SameTable of the program and of the specification. -/
import Derived.Test.YtkjbdemhpnhagaaSm
import Derived.Test.YtkjbdemhpnhagaaIn
import Derived.Test.YtkjbdemhpnhagaaTq
import Derived.Test.YtkjbdemhpnhagaaPs
namespace Go.Proofs.Ytkjbdemhpnhagaa.Sw
open Go.RowKit Go.Proofs.Ytkjbdemhpnhagaa.Sl Go.Proofs.Ytkjbdemhpnhagaa.By Go.Proofs.Ytkjbdemhpnhagaa.Ap Go.Proofs.Ytkjbdemhpnhagaa.Tx Go.Proofs.Ytkjbdemhpnhagaa.Tb Go.Proofs.Ytkjbdemhpnhagaa.Tw Go.Proofs.Ytkjbdemhpnhagaa.Rq Go.Proofs.Ytkjbdemhpnhagaa.Tp Go.Proofs.Ytkjbdemhpnhagaa.Tq Go.Proofs.Ytkjbdemhpnhagaa.Pu Go.Proofs.Ytkjbdemhpnhagaa.Pt Go.Proofs.Ytkjbdemhpnhagaa.Ps Go.Proofs.Ytkjbdemhpnhagaa.In Go.Proofs.Ytkjbdemhpnhagaa.Sm

def Alike (tm nx : Int) (ls : List Lk) (ss : List Sn) (tm' nx' : Int) (ls' : List Lk) (ss' : List Sn) : Prop := tm = tm' ∧ nx = nx' ∧ ls = ls' ∧ ss = ss'
/-- What SameTable answers. -/
noncomputable def sOut (tm nx : Int) (ls : List Lk) (ss : List Sn) (tm' nx' : Int) (ls' : List Lk) (ss' : List Sn) : Bool := bOf (TOK ⟨tm, nx, ls, ss⟩ ∧ TOK ⟨tm', nx', ls', ss'⟩ ∧ Alike tm nx ls ss tm' nx' ls' ss')
noncomputable def sCode (tm nx : Int) (ls : List Lk) (ss : List Sn) (tm' nx' : Int) (ls' : List Lk) (ss' : List Sn) : Int := if bOf (TOK ⟨tm, nx, ls, ss⟩) && bOf (TOK ⟨tm', nx', ls', ss'⟩) then 0 else 1
theorem ret_bi {b d : Bool} {a c : Int} (h : b = d ∧ a = c) : Ending.returned (.tuple #[.bool b, .int .i64 a]) = .returned (.tuple #[.bool d, .int .i64 c]) := by rw [h.1, h.2]
theorem bys_str (xs : List Int) (h : ∀ x ∈ xs, 0 ≤ x ∧ x ≤ 255) : bys (strOfNums xs) = xs := by
  unfold bys
  rw [strOfNums_data, List.map_map]
  apply List.ext_getElem?
  intro i
  rw [List.getElem?_map]
  cases hx : xs[i]? with
  | none => rfl
  | some x =>
    have := h x (List.mem_of_getElem? hx)
    simp only [Option.map_some, Function.comp_apply]
    congr 1
    rw [UInt8.toNat_ofNat_of_lt' (by unfold UInt8.size; omega)]
    omega
theorem str_alike {tm nx tm' nx' : Int} {ls ls' : List Lk} {ss ss' : List Sn} (h : TOK ⟨tm, nx, ls, ss⟩) (g : TOK ⟨tm', nx', ls', ss'⟩) : ((strOfNums (tabBs tm nx ls ss)).toList == (strOfNums (tabBs tm' nx' ls' ss')).toList) = bOf (Alike tm nx ls ss tm' nx' ls' ss') := by
  rw [list_eq_bytes]
  by_cases hh : Alike tm nx ls ss tm' nx' ls' ss'
  · rw [bOf_true hh]
    obtain ⟨rfl, rfl, rfl, rfl⟩ := hh
    exact bOf_true rfl
  · rw [bOf_false hh, bOf_false]
    intro he
    have := congrArg bys he
    rw [bys_str _ (tabBs_range _ _ _ _), bys_str _ (tabBs_range _ _ _ _)] at this
    exact hh (tab_inj h g this)
set_option maxRecDepth 100000 in
set_option maxHeartbeats 3200000 in
theorem implSameTable_any (tm nx tm' nx' : Int) (vl vs vl' vs' : Value) (ls ls' : List Lk) (ss ss' : List Sn) (w : World) (hl : RowL w vl ls) (hs : RowS w vs ss) (hw : ∀ x ∈ ls, x.n.size ≤ 1048576 ∧ x.ws.length ≤ 1048576) (hy1 : ls.length ≤ 1048576) (hy2 : ss.length ≤ 1048576) (hl' : RowL w vl' ls') (hs' : RowS w vs' ss') (hw' : ∀ x ∈ ls', x.n.size ≤ 1048576 ∧ x.ws.length ≤ 1048576) (hy1' : ls'.length ≤ 1048576) (hy2' : ss'.length ≤ 1048576) :
    Calls Try.prog 29 #[tabV tm nx vl vs, tabV tm' nx' vl' vs'] w fun e w' => e = .returned (.tuple #[.bool (sOut tm nx ls ss tm' nx' ls' ss'), .int .i64 (sCode tm nx ls ss tm' nx' ls' ss')]) ∧ Below w.heap.size w w' := by
  obtain ⟨la, lc, rfl⟩ := RowG.slice hl
  obtain ⟨sa, sc, rfl⟩ := RowG.slice hs
  obtain ⟨la', lc', rfl⟩ := RowG.slice hl'
  obtain ⟨sa', sc', rfl⟩ := RowG.slice hs'
  have HX : Hid (∀ W, Below ((w.alloc (.cells #[.int .i64 tm, .int .i64 nx, .slice la ls.length lc, .slice sa ss.length sc] 31)).alloc (.cells #[.int .i64 tm', .int .i64 nx', .slice la' ls'.length lc', .slice sa' ss'.length sc'] 31)).heap.size ((w.alloc (.cells #[.int .i64 tm, .int .i64 nx, .slice la ls.length lc, .slice sa ss.length sc] 31)).alloc (.cells #[.int .i64 tm', .int .i64 nx', .slice la' ls'.length lc', .slice sa' ss'.length sc'] 31)) W → ((W.cell? ⟨w.heap.size, 0, none⟩ = some (.int .i64 tm) ∧ W.cell? ⟨w.heap.size, 1, none⟩ = some (.int .i64 nx) ∧ W.cell? ⟨w.heap.size, 2, none⟩ = some (.slice la ls.length lc) ∧ W.cell? ⟨w.heap.size, 3, none⟩ = some (.slice sa ss.length sc)) ∧ (W.cell? ⟨w.heap.size + 1, 0, none⟩ = some (.int .i64 tm') ∧ W.cell? ⟨w.heap.size + 1, 1, none⟩ = some (.int .i64 nx') ∧ W.cell? ⟨w.heap.size + 1, 2, none⟩ = some (.slice la' ls'.length lc') ∧ W.cell? ⟨w.heap.size + 1, 3, none⟩ = some (.slice sa' ss'.length sc'))) ∧ ((RowL W (.slice la ls.length lc) ls ∧ RowS W (.slice sa ss.length sc) ss) ∧ (RowL W (.slice la' ls'.length lc') ls' ∧ RowS W (.slice sa' ss'.length sc') ss')) ∧ Below w.heap.size w W) := fun W hW => by
    obtain ⟨h1, h2, h3⟩ := two hW
    have b0 := two_new w (.cells #[.int .i64 tm, .int .i64 nx, .slice la ls.length lc, .slice sa ss.length sc] 31) (.cells #[.int .i64 tm', .int .i64 nx', .slice la' ls'.length lc', .slice sa' ss'.length sc'] 31)
    exact ⟨⟨⟨(blk_cell h1 0 rfl).1, (blk_cell h1 1 rfl).1, (blk_cell h1 2 rfl).1, (blk_cell h1 3 rfl).1⟩, ⟨(blk_cell h2 0 rfl).1, (blk_cell h2 1 rfl).1, (blk_cell h2 2 rfl).1, (blk_cell h2 3 rfl).1⟩⟩, ⟨⟨(hl.below b0).below hW, (hs.below b0).below hW⟩, ⟨(hl'.below b0).below hW, (hs'.below b0).below hW⟩⟩, h3⟩
  have HW : Hid ((∀ x ∈ ls, x.n.size ≤ 1048576 ∧ x.ws.length ≤ 1048576) ∧ ∀ x ∈ ls', x.n.size ≤ 1048576 ∧ x.ws.length ≤ 1048576) := ⟨hw, hw'⟩
  have HOC : Hid (sOut tm nx ls ss tm' nx' ls' ss' = bOf (TOK ⟨tm, nx, ls, ss⟩ ∧ TOK ⟨tm', nx', ls', ss'⟩ ∧ Alike tm nx ls ss tm' nx' ls' ss') ∧ sCode tm nx ls ss tm' nx' ls' ss' = if bOf (TOK ⟨tm, nx, ls, ss⟩) && bOf (TOK ⟨tm', nx', ls', ss'⟩) then 0 else 1) := ⟨rfl, rfl⟩
  clear hl hs hw hl' hs' hw'
  unfold tabV
  go_enter Try.func29, Try.ntmps29
  go_upto_region 1 with fail
  generalize (w.alloc (.cells #[.int .i64 tm, .int .i64 nx, .slice la ls.length lc, .slice sa ss.length sc] 31)).alloc (.cells #[.int .i64 tm', .int .i64 nx', .slice la' ls'.length lc', .slice sa' ss'.length sc'] 31) = wb at HX ⊢
  have HOK1 : Hid (∀ W, Below wb.heap.size wb W → Calls Try.prog 11 #[.agg #[.int .i64 tm, .int .i64 nx, .slice la ls.length lc, .slice sa ss.length sc]] W fun e w' => e = .returned (.bool (bOf (TOK ⟨tm, nx, ls, ss⟩))) ∧ Below wb.heap.size wb w') := fun W hW => (implTableOK_any tm nx _ _ ls ss W (HX.out W hW).2.1.1.1 (HX.out W hW).2.1.1.2 HW.out.1 hy1 hy2).mono fun e w' ⟨he, hb⟩ => ⟨he, hW.trans (hb.mono hW.size)⟩
  have HOK2 : Hid (∀ W, Below wb.heap.size wb W → Calls Try.prog 11 #[.agg #[.int .i64 tm', .int .i64 nx', .slice la' ls'.length lc', .slice sa' ss'.length sc']] W fun e w' => e = .returned (.bool (bOf (TOK ⟨tm', nx', ls', ss'⟩))) ∧ Below wb.heap.size wb w') := fun W hW => (implTableOK_any tm' nx' _ _ ls' ss' W (HX.out W hW).2.1.2.1 (HX.out W hW).2.1.2.2 HW.out.2 hy1' hy2').mono fun e w' ⟨he, hb⟩ => ⟨he, hW.trans (hb.mono hW.size)⟩
  obtain ⟨⟨⟨x0, x1, x2, x3⟩, ⟨z0, z1, z2, z3⟩⟩, _, _⟩ := HX.out wb (Below.refl _ _)
  cases h1 : bOf (TOK ⟨tm, nx, ls, ss⟩) with
  | false =>
    have HF : Hid (sOut tm nx ls ss tm' nx' ls' ss' = false ∧ sCode tm nx ls ss tm' nx' ls' ss' = 1) := ⟨by rw [HOC.out.1]; exact bOf_false (fun h => (by rw [bOf_true h.1] at h1; cases h1)), by rw [HOC.out.2, h1]; rfl⟩
    rw [h1] at HOK1
    clear h1
    go_wp2_with (go_at_call 11; refine (HOK1.out _ (Below.refl _ _)).mono ?_; rintro e w1 ⟨rfl, b1⟩; have B1 : Hid (Below wb.heap.size wb w1) := b1; clear b1)
    go_ret2
    exact ⟨ret_bi ⟨HF.out.1.symm, HF.out.2.symm⟩, (HX.out _ B1.out).2.2⟩
  | true =>
  cases h2 : bOf (TOK ⟨tm', nx', ls', ss'⟩) with
  | false =>
    have HF : Hid (sOut tm nx ls ss tm' nx' ls' ss' = false ∧ sCode tm nx ls ss tm' nx' ls' ss' = 1) := ⟨by rw [HOC.out.1]; exact bOf_false (fun h => (by rw [bOf_true h.2.1] at h2; cases h2)), by rw [HOC.out.2, h1, h2]; rfl⟩
    rw [h1] at HOK1
    rw [h2] at HOK2
    clear h1 h2
    go_wp2_with fail
    refine (HOK1.out _ (Below.refl _ _)).mono ?_
    rintro e w1 ⟨rfl, b1⟩
    have B1 : Hid (Below wb.heap.size wb w1) := b1
    clear b1 x0 x1 x2 x3 z0 z1 z2 z3
    obtain ⟨⟨⟨x0, x1, x2, x3⟩, ⟨z0, z1, z2, z3⟩⟩, _, _⟩ := HX.out w1 B1.out
    go_wp2_with fail
    refine (HOK2.out _ B1.out).mono ?_
    rintro e w2 ⟨rfl, b2⟩
    have G2 : Hid (Below w.heap.size w w2) := (HX.out _ b2).2.2
    clear b2
    go_wp2_with fail
    go_ret2
    exact ⟨ret_bi ⟨HF.out.1.symm, HF.out.2.symm⟩, G2.out⟩
  | true =>
  have HTK : Hid (TOK ⟨tm, nx, ls, ss⟩ ∧ TOK ⟨tm', nx', ls', ss'⟩) := ⟨tok_true h1, tok_true h2⟩
  have HC : Hid (sCode tm nx ls ss tm' nx' ls' ss' = 0) := by show _ = _; rw [HOC.out.2, h1, h2]; rfl
  have HO : Hid (sOut tm nx ls ss tm' nx' ls' ss' = bOf (Alike tm nx ls ss tm' nx' ls' ss')) := by
    show _ = _
    rw [HOC.out.1]
    by_cases h : Alike tm nx ls ss tm' nx' ls' ss'
    · rw [bOf_true h, bOf_true ⟨HTK.out.1, HTK.out.2, h⟩]
    · rw [bOf_false h, bOf_false fun hh => h hh.2.2]
  rw [h1] at HOK1
  rw [h2] at HOK2
  clear h1 h2
  go_wp2_with fail
  refine (HOK1.out _ (Below.refl _ _)).mono ?_
  rintro e w1 ⟨rfl, b1⟩
  have B1 : Hid (Below wb.heap.size wb w1) := b1
  clear b1 x0 x1 x2 x3 z0 z1 z2 z3
  obtain ⟨⟨⟨x0, x1, x2, x3⟩, ⟨z0, z1, z2, z3⟩⟩, _, _⟩ := HX.out w1 B1.out
  go_wp2_with fail
  refine (HOK2.out _ B1.out).mono ?_
  rintro e w2 ⟨rfl, b2⟩
  have B2 : Hid (Below wb.heap.size wb w2) := b2
  clear b2 x0 x1 x2 x3 z0 z1 z2 z3 HOK1 HOK2 B1
  obtain ⟨⟨⟨x0, x1, x2, x3⟩, ⟨z0, z1, z2, z3⟩⟩, _, _⟩ := HX.out w2 B2.out
  have HEL : Hid (Calls Try.prog 59 #[.slice la ls.length lc, .slice la' ls'.length lc', .func (.func 60) #[] #[]] w2 fun e w' => e = .returned (.bool (bOf (ls = ls'))) ∧ Below wb.heap.size wb w') := (eqL_any _ _ ls ls' w2 (HX.out _ B2.out).2.1.1.1 (HX.out _ B2.out).2.1.2.1 hy1 (fun x hx => (HW.out.1 x hx).2)).mono fun e w' ⟨he, hb⟩ => ⟨he, B2.out.trans (hb.mono B2.out.size)⟩
  have HES : Hid (∀ W, Below wb.heap.size wb W → Calls Try.prog 61 #[.slice sa ss.length sc, .slice sa' ss'.length sc'] W fun e w' => e = .returned (.bool (bOf (ss = ss'))) ∧ Below wb.heap.size wb w') := fun W hW => (eqS_any _ _ ss ss' W (HX.out W hW).2.1.1.2 (HX.out W hW).2.1.2.2 hy2).mono fun e w' ⟨he, hb⟩ => ⟨he, hW.trans (hb.mono hW.size)⟩
  have G2 : Hid (Below w.heap.size w w2) := (HX.out _ B2.out).2.2
  by_cases k1 : tm = tm'
  · have k1' : (tm == tm') = true := by simpa using k1
    by_cases k2 : nx = nx'
    · have k2' : (nx == nx') = true := by simpa using k2
      cases k3 : bOf (ls = ls') with
      | false =>
        have HF : Hid (sOut tm nx ls ss tm' nx' ls' ss' = false) := HO.out.trans (bOf_false fun h => by rw [bOf_true h.2.2.1] at k3; cases k3)
        rw [k3] at HEL
        clear k1 k2 k3
        go_wp2_with (go_at_call 59; refine HEL.out.mono ?_; rintro e w3 ⟨rfl, b3⟩; have B3 : Hid (Below wb.heap.size wb w3) := b3; clear b3)
        go_ret2
        exact ⟨ret_bi ⟨HF.out.symm, HC.out.symm⟩, (HX.out _ B3.out).2.2⟩
      | true =>
        have HF : Hid (sOut tm nx ls ss tm' nx' ls' ss' = bOf (ss = ss')) := by
          show _ = _
          rw [HO.out]
          by_cases hh : ss = ss'
          · rw [bOf_true hh, bOf_true ⟨k1, k2, tok_true k3, hh⟩]
          · rw [bOf_false hh, bOf_false fun h => hh h.2.2.2]
        rw [k3] at HEL
        obtain ⟨bb, HBB⟩ : ∃ bb, Hid (bOf (ss = ss') = bb) := ⟨_, rfl⟩
        rw [HBB.out] at HES HF
        clear k1 k2 k3
        go_wp2_with fail
        refine HEL.out.mono ?_
        rintro e w3 ⟨rfl, b3⟩
        have B3 : Hid (Below wb.heap.size wb w3) := b3
        clear b3 x0 x1 x2 x3 z0 z1 z2 z3
        obtain ⟨⟨⟨x0, x1, x2, x3⟩, ⟨z0, z1, z2, z3⟩⟩, _, _⟩ := HX.out w3 B3.out
        go_wp2_with fail
        refine (HES.out _ B3.out).mono ?_
        rintro e w4 ⟨rfl, b4⟩
        have G4 : Hid (Below w.heap.size w w4) := (HX.out _ b4).2.2
        clear b4
        go_wp2_with fail
        go_ret2
        exact ⟨ret_bi ⟨HF.out.symm, HC.out.symm⟩, G4.out⟩
    · have k2' : (nx == nx') = false := by simpa using k2
      have HF : Hid (sOut tm nx ls ss tm' nx' ls' ss' = false) := HO.out.trans (bOf_false fun h => k2 h.2.1)
      clear k1 k2
      go_wp2_with fail
      go_ret2
      exact ⟨ret_bi ⟨HF.out.symm, HC.out.symm⟩, G2.out⟩
  · have k1' : (tm == tm') = false := by simpa using k1
    have HF : Hid (sOut tm nx ls ss tm' nx' ls' ss' = false) := HO.out.trans (bOf_false fun h => k1 h.1)
    clear k1
    go_wp2_with fail
    go_ret2
    exact ⟨ret_bi ⟨HF.out.symm, HC.out.symm⟩, G2.out⟩
set_option maxRecDepth 100000 in
set_option maxHeartbeats 3200000 in
theorem specSameTable_any (tm nx tm' nx' : Int) (vl vs vl' vs' : Value) (ls ls' : List Lk) (ss ss' : List Sn) (w : World) (hl : RowL w vl ls) (hs : RowS w vs ss) (hw : ∀ x ∈ ls, x.n.size ≤ 1048576 ∧ x.ws.length ≤ 1048576) (hy1 : ls.length ≤ 1048576) (hy2 : ss.length ≤ 1048576) (hl' : RowL w vl' ls') (hs' : RowS w vs' ss') (hw' : ∀ x ∈ ls', x.n.size ≤ 1048576 ∧ x.ws.length ≤ 1048576) (hy1' : ls'.length ≤ 1048576) (hy2' : ss'.length ≤ 1048576) :
    Calls Try.prog 28 #[tabV tm nx vl vs, tabV tm' nx' vl' vs'] w fun e w' => e = .returned (.tuple #[.bool (sOut tm nx ls ss tm' nx' ls' ss'), .int .i64 (sCode tm nx ls ss tm' nx' ls' ss')]) ∧ Below w.heap.size w w' := by
  obtain ⟨la, lc, rfl⟩ := RowG.slice hl
  obtain ⟨sa, sc, rfl⟩ := RowG.slice hs
  obtain ⟨la', lc', rfl⟩ := RowG.slice hl'
  obtain ⟨sa', sc', rfl⟩ := RowG.slice hs'
  have HX : Hid (∀ W, Below ((w.alloc (.cells #[.int .i64 tm, .int .i64 nx, .slice la ls.length lc, .slice sa ss.length sc] 31)).alloc (.cells #[.int .i64 tm', .int .i64 nx', .slice la' ls'.length lc', .slice sa' ss'.length sc'] 31)).heap.size ((w.alloc (.cells #[.int .i64 tm, .int .i64 nx, .slice la ls.length lc, .slice sa ss.length sc] 31)).alloc (.cells #[.int .i64 tm', .int .i64 nx', .slice la' ls'.length lc', .slice sa' ss'.length sc'] 31)) W → ((W.cell? ⟨w.heap.size, 0, none⟩ = some (.int .i64 tm) ∧ W.cell? ⟨w.heap.size, 1, none⟩ = some (.int .i64 nx) ∧ W.cell? ⟨w.heap.size, 2, none⟩ = some (.slice la ls.length lc) ∧ W.cell? ⟨w.heap.size, 3, none⟩ = some (.slice sa ss.length sc)) ∧ (W.cell? ⟨w.heap.size + 1, 0, none⟩ = some (.int .i64 tm') ∧ W.cell? ⟨w.heap.size + 1, 1, none⟩ = some (.int .i64 nx') ∧ W.cell? ⟨w.heap.size + 1, 2, none⟩ = some (.slice la' ls'.length lc') ∧ W.cell? ⟨w.heap.size + 1, 3, none⟩ = some (.slice sa' ss'.length sc'))) ∧ ((RowL W (.slice la ls.length lc) ls ∧ RowS W (.slice sa ss.length sc) ss) ∧ (RowL W (.slice la' ls'.length lc') ls' ∧ RowS W (.slice sa' ss'.length sc') ss')) ∧ Below w.heap.size w W) := fun W hW => by
    obtain ⟨h1, h2, h3⟩ := two hW
    have b0 := two_new w (.cells #[.int .i64 tm, .int .i64 nx, .slice la ls.length lc, .slice sa ss.length sc] 31) (.cells #[.int .i64 tm', .int .i64 nx', .slice la' ls'.length lc', .slice sa' ss'.length sc'] 31)
    exact ⟨⟨⟨(blk_cell h1 0 rfl).1, (blk_cell h1 1 rfl).1, (blk_cell h1 2 rfl).1, (blk_cell h1 3 rfl).1⟩, ⟨(blk_cell h2 0 rfl).1, (blk_cell h2 1 rfl).1, (blk_cell h2 2 rfl).1, (blk_cell h2 3 rfl).1⟩⟩, ⟨⟨(hl.below b0).below hW, (hs.below b0).below hW⟩, ⟨(hl'.below b0).below hW, (hs'.below b0).below hW⟩⟩, h3⟩
  have HW : Hid ((∀ x ∈ ls, x.n.size ≤ 1048576 ∧ x.ws.length ≤ 1048576) ∧ ∀ x ∈ ls', x.n.size ≤ 1048576 ∧ x.ws.length ≤ 1048576) := ⟨hw, hw'⟩
  have HOC : Hid (sOut tm nx ls ss tm' nx' ls' ss' = bOf (TOK ⟨tm, nx, ls, ss⟩ ∧ TOK ⟨tm', nx', ls', ss'⟩ ∧ Alike tm nx ls ss tm' nx' ls' ss') ∧ sCode tm nx ls ss tm' nx' ls' ss' = if bOf (TOK ⟨tm, nx, ls, ss⟩) && bOf (TOK ⟨tm', nx', ls', ss'⟩) then 0 else 1) := ⟨rfl, rfl⟩
  clear hl hs hw hl' hs' hw'
  unfold tabV
  go_enter Try.func28, Try.ntmps28
  go_upto_region 1 with fail
  generalize (w.alloc (.cells #[.int .i64 tm, .int .i64 nx, .slice la ls.length lc, .slice sa ss.length sc] 31)).alloc (.cells #[.int .i64 tm', .int .i64 nx', .slice la' ls'.length lc', .slice sa' ss'.length sc'] 31) = wb at HX ⊢
  have HOK1 : Hid (∀ W, Below wb.heap.size wb W → Calls Try.prog 9 #[.agg #[.int .i64 tm, .int .i64 nx, .slice la ls.length lc, .slice sa ss.length sc]] W fun e w' => e = .returned (.bool (bOf (TOK ⟨tm, nx, ls, ss⟩))) ∧ Below wb.heap.size wb w') := fun W hW => (specTableOK_any tm nx _ _ ls ss W (HX.out W hW).2.1.1.1 (HX.out W hW).2.1.1.2 HW.out.1 hy1 hy2).mono fun e w' ⟨he, hb⟩ => ⟨he, hW.trans (hb.mono hW.size)⟩
  have HOK2 : Hid (∀ W, Below wb.heap.size wb W → Calls Try.prog 9 #[.agg #[.int .i64 tm', .int .i64 nx', .slice la' ls'.length lc', .slice sa' ss'.length sc']] W fun e w' => e = .returned (.bool (bOf (TOK ⟨tm', nx', ls', ss'⟩))) ∧ Below wb.heap.size wb w') := fun W hW => (specTableOK_any tm' nx' _ _ ls' ss' W (HX.out W hW).2.1.2.1 (HX.out W hW).2.1.2.2 HW.out.2 hy1' hy2').mono fun e w' ⟨he, hb⟩ => ⟨he, hW.trans (hb.mono hW.size)⟩
  obtain ⟨⟨⟨x0, x1, x2, x3⟩, ⟨z0, z1, z2, z3⟩⟩, _, _⟩ := HX.out wb (Below.refl _ _)
  cases h1 : bOf (TOK ⟨tm, nx, ls, ss⟩) with
  | false =>
    have HF : Hid (sOut tm nx ls ss tm' nx' ls' ss' = false ∧ sCode tm nx ls ss tm' nx' ls' ss' = 1) := ⟨by rw [HOC.out.1]; exact bOf_false (fun h => (by rw [bOf_true h.1] at h1; cases h1)), by rw [HOC.out.2, h1]; rfl⟩
    rw [h1] at HOK1
    clear h1
    go_wp2_with (go_at_call 9; refine (HOK1.out _ (Below.refl _ _)).mono ?_; rintro e w1 ⟨rfl, b1⟩; have B1 : Hid (Below wb.heap.size wb w1) := b1; clear b1)
    go_ret2
    exact ⟨ret_bi ⟨HF.out.1.symm, HF.out.2.symm⟩, (HX.out _ B1.out).2.2⟩
  | true =>
  cases h2 : bOf (TOK ⟨tm', nx', ls', ss'⟩) with
  | false =>
    have HF : Hid (sOut tm nx ls ss tm' nx' ls' ss' = false ∧ sCode tm nx ls ss tm' nx' ls' ss' = 1) := ⟨by rw [HOC.out.1]; exact bOf_false (fun h => (by rw [bOf_true h.2.1] at h2; cases h2)), by rw [HOC.out.2, h1, h2]; rfl⟩
    rw [h1] at HOK1
    rw [h2] at HOK2
    clear h1 h2
    go_wp2_with fail
    refine (HOK1.out _ (Below.refl _ _)).mono ?_
    rintro e w1 ⟨rfl, b1⟩
    have B1 : Hid (Below wb.heap.size wb w1) := b1
    clear b1 x0 x1 x2 x3 z0 z1 z2 z3
    obtain ⟨⟨⟨x0, x1, x2, x3⟩, ⟨z0, z1, z2, z3⟩⟩, _, _⟩ := HX.out w1 B1.out
    go_wp2_with fail
    refine (HOK2.out _ B1.out).mono ?_
    rintro e w2 ⟨rfl, b2⟩
    have G2 : Hid (Below w.heap.size w w2) := (HX.out _ b2).2.2
    clear b2
    go_wp2_with fail
    go_ret2
    exact ⟨ret_bi ⟨HF.out.1.symm, HF.out.2.symm⟩, G2.out⟩
  | true =>
  have HTK : Hid (TOK ⟨tm, nx, ls, ss⟩ ∧ TOK ⟨tm', nx', ls', ss'⟩) := ⟨tok_true h1, tok_true h2⟩
  have HC : Hid (sCode tm nx ls ss tm' nx' ls' ss' = 0) := by show _ = _; rw [HOC.out.2, h1, h2]; rfl
  have HO : Hid (sOut tm nx ls ss tm' nx' ls' ss' = bOf (Alike tm nx ls ss tm' nx' ls' ss')) := by
    show _ = _
    rw [HOC.out.1]
    by_cases h : Alike tm nx ls ss tm' nx' ls' ss'
    · rw [bOf_true h, bOf_true ⟨HTK.out.1, HTK.out.2, h⟩]
    · rw [bOf_false h, bOf_false fun hh => h hh.2.2]
  rw [h1] at HOK1
  rw [h2] at HOK2
  clear h1 h2
  go_wp2_with fail
  refine (HOK1.out _ (Below.refl _ _)).mono ?_
  rintro e w1 ⟨rfl, b1⟩
  have B1 : Hid (Below wb.heap.size wb w1) := b1
  clear b1 x0 x1 x2 x3 z0 z1 z2 z3
  obtain ⟨⟨⟨x0, x1, x2, x3⟩, ⟨z0, z1, z2, z3⟩⟩, _, _⟩ := HX.out w1 B1.out
  go_wp2_with fail
  refine (HOK2.out _ B1.out).mono ?_
  rintro e w2 ⟨rfl, b2⟩
  have B2 : Hid (Below wb.heap.size wb w2) := b2
  clear b2 x0 x1 x2 x3 z0 z1 z2 z3 HOK1 HOK2 B1
  obtain ⟨⟨⟨x0, x1, x2, x3⟩, ⟨z0, z1, z2, z3⟩⟩, _, _⟩ := HX.out w2 B2.out
  have HST := str_alike HTK.out.1 HTK.out.2
  obtain ⟨za, HZA⟩ : ∃ za, Hid (tabBs tm nx ls ss = za) := ⟨_, rfl⟩
  obtain ⟨zb, HZB⟩ : ∃ zb, Hid (tabBs tm' nx' ls' ss' = zb) := ⟨_, rfl⟩
  obtain ⟨bb, HBB⟩ : ∃ bb, Hid (bOf (Alike tm nx ls ss tm' nx' ls' ss') = bb) := ⟨_, rfl⟩
  obtain ⟨sx, HSX⟩ : ∃ sx, Hid (strOfNums za = sx) := ⟨_, rfl⟩
  obtain ⟨sy, HSY⟩ : ∃ sy, Hid (strOfNums zb = sy) := ⟨_, rfl⟩
  rw [HZA.out, HZB.out, HBB.out, HSX.out, HSY.out] at HST
  have HL1 : Hid (∀ W, Below w2.heap.size w2 W → Calls Try.prog 50 #[.agg #[.int .i64 tm, .int .i64 nx, .slice la ls.length lc, .slice sa ss.length sc]] W fun e w' => ∃ v, e = .returned v ∧ OwnB 5 w' W.heap.size v za ∧ Below W.heap.size W w') := fun W hW => by
    have hW2 := B2.out.trans (hW.mono B2.out.size)
    rw [← HZA.out]
    exact l05Bytes_any tm nx _ _ ls ss W (HX.out W hW2).2.1.1.1 (HX.out W hW2).2.1.1.2 (tok_bnd HTK.out.1)
  have HL2 : Hid (∀ W, Below w2.heap.size w2 W → Calls Try.prog 50 #[.agg #[.int .i64 tm', .int .i64 nx', .slice la' ls'.length lc', .slice sa' ss'.length sc']] W fun e w' => ∃ v, e = .returned v ∧ OwnB 5 w' W.heap.size v zb ∧ Below W.heap.size W w') := fun W hW => by
    have hW2 := B2.out.trans (hW.mono B2.out.size)
    rw [← HZB.out]
    exact l05Bytes_any tm' nx' _ _ ls' ss' W (HX.out W hW2).2.1.2.1 (HX.out W hW2).2.1.2.2 (tok_bnd HTK.out.2)
  have HCV : Hid (∀ W b v, OwnB 5 W b v za → (convert 44 9 v).run Try.prog W = .ok (.string sx) W) := fun W b v h => by rw [← HSX.out]; exact By.run_convert_own (P := Try.prog) W b 44 5 9 Try.underlying44 Try.underlying5 Try.underlying9 v _ h
  have HCW : Hid (∀ W b v, OwnB 5 W b v zb → (convert 44 9 v).run Try.prog W = .ok (.string sy) W) := fun W b v h => by rw [← HSY.out]; exact By.run_convert_own (P := Try.prog) W b 44 5 9 Try.underlying44 Try.underlying5 Try.underlying9 v _ h
  have HSA : Hid (∀ W, Below w2.heap.size w2 W → (W.cell? ⟨w.heap.size, 0, none⟩ = some (.int .i64 tm) ∧ W.cell? ⟨w.heap.size, 1, none⟩ = some (.int .i64 nx) ∧ W.cell? ⟨w.heap.size, 2, none⟩ = some (.slice la ls.length lc) ∧ W.cell? ⟨w.heap.size, 3, none⟩ = some (.slice sa ss.length sc)) ∧ (W.cell? ⟨w.heap.size + 1, 0, none⟩ = some (.int .i64 tm') ∧ W.cell? ⟨w.heap.size + 1, 1, none⟩ = some (.int .i64 nx') ∧ W.cell? ⟨w.heap.size + 1, 2, none⟩ = some (.slice la' ls'.length lc') ∧ W.cell? ⟨w.heap.size + 1, 3, none⟩ = some (.slice sa' ss'.length sc'))) := fun W hW => (HX.out W (B2.out.trans (hW.mono B2.out.size))).1
  have HGB : Hid (∀ W, Below w2.heap.size w2 W → Below w.heap.size w W) := fun W hW => (HX.out W (B2.out.trans (hW.mono B2.out.size))).2.2
  clear HX HOC HW B2
  go_upto_region 3 with fail
  go_region_held_law (fun W => (W.cell? ⟨w.heap.size, 0, none⟩ = some (.int .i64 tm) ∧ W.cell? ⟨w.heap.size, 1, none⟩ = some (.int .i64 nx) ∧ W.cell? ⟨w.heap.size, 2, none⟩ = some (.slice la ls.length lc) ∧ W.cell? ⟨w.heap.size, 3, none⟩ = some (.slice sa ss.length sc)) ∧ (W.cell? ⟨w.heap.size + 1, 0, none⟩ = some (.int .i64 tm') ∧ W.cell? ⟨w.heap.size + 1, 1, none⟩ = some (.int .i64 nx') ∧ W.cell? ⟨w.heap.size + 1, 2, none⟩ = some (.slice la' ls'.length lc') ∧ W.cell? ⟨w.heap.size + 1, 3, none⟩ = some (.slice sa' ss'.length sc'))) (first | exact HSA.out _ Qc.from_drew | exact HSA.out _ q2.out | exact HSA.out _ q1.out)
    (first
      | (go_simp; go_at_call 50; (with_reducible refine (HL1.out _ Qc.from_drew).mono ?_); rintro e u1 ⟨v1, rfl, o1, b1⟩; have q1x := (Ap.ordB rfl b1).1; have q1 : Hid (Below w2.heap.size w2 u1) := q1x; have cv1 := HCV.out u1 _ v1 o1; clear b1 q1x; try go_simp)
      | (go_simp; go_at_call 50; (with_reducible refine (HL2.out _ q1.out).mono ?_); rintro e u2 ⟨v2, rfl, o2, b2⟩; have q2x := q1.out.trans (b2.mono q1.out.size); have q2 : Hid (Below w2.heap.size w2 u2) := q2x; have cv2 := HCW.out u2 _ v2 o2; have cv3 := HCV.out u2 _ v1 (own_below o1 b2); clear b2 q2x; try go_simp))
  all_goals
    have G9 := HGB.out _ q2.out
    go_wp2_with fail
    go_ret2
    exact ⟨ret_bi ⟨by rw [HO.out, HBB.out], HC.out.symm⟩, G9⟩
end Go.Proofs.Ytkjbdemhpnhagaa.Sw
