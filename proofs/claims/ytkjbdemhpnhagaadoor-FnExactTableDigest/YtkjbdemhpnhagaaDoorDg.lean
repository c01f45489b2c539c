/- TableDigest of the program and of the specification. -/
import Derived.Test.YtkjbdemhpnhagaaDoorPs
import Derived.Test.YtkjbdemhpnhagaaDoorTq
import Derived.Test.YtkjbdemhpnhagaaDoorHo
import Derived.Test.YtkjbdemhpnhagaaDoorShaL
import Derived.Test.YtkjbdemhpnhagaaDoorFp
namespace Go.Proofs.YtkjbdemhpnhagaaDoor.Dg
open Go.RowKit Go.Proofs.YtkjbdemhpnhagaaDoor.Sl Go.Proofs.YtkjbdemhpnhagaaDoor.By Go.Proofs.YtkjbdemhpnhagaaDoor.Ap Go.Proofs.YtkjbdemhpnhagaaDoor.Tx Go.Proofs.YtkjbdemhpnhagaaDoor.Sh Go.Proofs.YtkjbdemhpnhagaaDoor.Ho Go.Proofs.YtkjbdemhpnhagaaDoor.Fu Go.Proofs.YtkjbdemhpnhagaaDoor.Tb Go.Proofs.YtkjbdemhpnhagaaDoor.Tw Go.Proofs.YtkjbdemhpnhagaaDoor.Rq Go.Proofs.YtkjbdemhpnhagaaDoor.Tp Go.Proofs.YtkjbdemhpnhagaaDoor.Tq Go.Proofs.YtkjbdemhpnhagaaDoor.Pu Go.Proofs.YtkjbdemhpnhagaaDoor.Pt Go.Proofs.YtkjbdemhpnhagaaDoor.Ps

def bTb : ByteArray := ⟨#[116, 97, 98, 108, 101]⟩
def iTb : List Int := [116, 97, 98, 108, 101]
theorem tb_bys : bys bTb = iTb := rfl
/-- What TableDigest answers. -/
noncomputable def dgOut (tm nx : Int) (ls : List Lk) (ss : List Sn) : ByteArray := if bOf (TOK ⟨tm, nx, ls, ss⟩) then hashS (iTb ++ tabBs tm nx ls ss) else ⟨#[]⟩
theorem ret_sc {s t : ByteArray} {a b : Int} (h : s = t ∧ a = b) : Ending.returned (.tuple #[.string s, .int .i64 a]) = .returned (.tuple #[.string t, .int .i64 b]) := by rw [h.1, h.2]
theorem tabBs_le {tm nx : Int} {ls : List Lk} {ss : List Sn} (h : Bnd ls ss) : (tabBs tm nx ls ss).length ≤ 1000 := by
  obtain ⟨h1, h2, h3, _⟩ := h
  have := lsBs_le ls fun x hx => ⟨(h3 x hx).1, (h3 x hx).2.1⟩
  unfold tabBs
  simp only [List.length_append, nums_length, ssBs_len]
  omega
theorem hash1_any (v : Value) (xs : List Int) (w : World) (h : RowB w v xs) (hl : xs.length ≤ 65536) :
    Calls Tryd.prog 12 #[v] w fun e w' => e = .returned (.string (hashS xs)) ∧ Below w.heap.size w w' := by
  have e : hashS xs = strOfNums (sha xs) := if_neg (by omega)
  rw [e]
  exact l01Hash_any v xs w h hl
set_option maxRecDepth 100000 in
set_option maxHeartbeats 800000 in
theorem implTableDigest_any (tm nx : Int) (vl vs : Value) (ls : List Lk) (ss : List Sn) (w : World) (hl : RowL w vl ls) (hs : RowS w vs ss) (hw : ∀ x ∈ ls, x.n.size ≤ 1048576 ∧ x.ws.length ≤ 1048576) (hy1 : ls.length ≤ 1048576) (hy2 : ss.length ≤ 1048576) (hK : KTab w) (hp : 0 < w.heap.size) :
    Calls Tryd.prog 7 #[tabV tm nx vl vs] w fun e w' => e = .returned (.tuple #[.string (dgOut tm nx ls ss), .int .i64 (tbCode tm nx ls ss)]) ∧ Below w.heap.size w w' := by
  obtain ⟨la, lc, rfl⟩ := RowG.slice hl
  obtain ⟨sa, sc, rfl⟩ := RowG.slice hs
  have HR : Hid (RowL w (.slice la ls.length lc) ls ∧ RowS w (.slice sa ss.length sc) ss ∧ KTab w) := ⟨hl, hs, hK⟩
  have HW : Hid (∀ x ∈ ls, x.n.size ≤ 1048576 ∧ x.ws.length ≤ 1048576) := hw
  have HB0 : Hid (Below w.heap.size w (w.alloc (.cells #[.int .i64 tm, .int .i64 nx, .slice la ls.length lc, .slice sa ss.length sc] 32))) := bel_new _ _
  clear hl hs hw hK
  unfold tabV
  cases htk : bOf (TOK ⟨tm, nx, ls, ss⟩) with
  | false =>
    have HC : Hid (tbCode tm nx ls ss = 1 ∧ dgOut tm nx ls ss = ⟨#[]⟩) := ⟨by unfold tbCode; rw [htk]; rfl, by unfold dgOut; rw [htk]; rfl⟩
    clear htk
    go_enter Tryd.func7, Tryd.ntmps7
    go_wp2_with fail
    refine (implTableBytes_any tm nx _ _ ls ss _ (HR.out.1.below HB0.out) (HR.out.2.1.below HB0.out) HW.out hy1 hy2).mono ?_
    rintro e w1 ⟨v1, rfl, o1, b1⟩
    have B1 : Hid (Below w.heap.size w w1) := HB0.out.trans (b1.mono HB0.out.size)
    clear o1 b1
    rw [HC.out.1]
    go_wp2_with fail
    go_ret2
    exact ⟨ret_sc ⟨HC.out.2.symm, HC.out.1.symm⟩, B1.out⟩
  | true =>
    have HC : Hid (tbCode tm nx ls ss = 0 ∧ dgOut tm nx ls ss = hashS (iTb ++ tabBs tm nx ls ss) ∧ tbOut tm nx ls ss = tabBs tm nx ls ss) := ⟨by unfold tbCode; rw [htk]; rfl, by unfold dgOut; rw [htk]; rfl, by unfold tbOut; rw [htk]; rfl⟩
    have HLE : Hid ((tabBs tm nx ls ss).length ≤ 1000) := tabBs_le (tok_bnd (tok_true htk))
    have HCT : Hid (cat [bTb, strOfNums (tabBs tm nx ls ss)] = iTb ++ tabBs tm nx ls ss) := by
      show _ = _
      unfold cat
      simp only [List.flatMap_cons, List.flatMap_nil, List.append_nil]
      rw [bys_str _ (tabBs_range tm nx ls ss), tb_bys]
    clear htk
    go_enter Tryd.func7, Tryd.ntmps7
    go_wp2_with fail
    refine (implTableBytes_any tm nx _ _ ls ss _ (HR.out.1.below HB0.out) (HR.out.2.1.below HB0.out) HW.out hy1 hy2).mono ?_
    rintro e w1 ⟨v1, rfl, o1, b1⟩
    have B1 : Hid (Below w.heap.size w w1) := HB0.out.trans (b1.mono HB0.out.size)
    rw [HC.out.2.2] at o1
    have hcv := By.run_convert_own (P := Tryd.prog) w1 _ 40 5 9 Tryd.underlying40 Tryd.underlying5 Tryd.underlying9 v1 _ o1
    rw [HC.out.1]
    clear o1 b1
    obtain ⟨z, HZ⟩ : ∃ z, Hid (strOfNums (tabBs tm nx ls ss) = z) := ⟨_, rfl⟩
    rw [HZ.out] at hcv HCT
    go_wp2_with fail
    refine (hashOf_lit w1 _ 2 rfl _ [bTb, z] rfl rfl (by decide) (by decide) (by rw [HCT.out, List.length_append]; have := HLE.out; have : iTb.length = 5 := rfl; omega) (HR.out.2.2.below B1.out hp) (Nat.lt_of_lt_of_le hp B1.out.size)).mono ?_
    rintro e w2 ⟨rfl, b2⟩
    rw [HCT.out]
    have B2 : Hid (Below w.heap.size w w2) := B1.out.trans (b2.mono B1.out.size)
    clear b2 hcv
    generalize hashS (iTb ++ tabBs tm nx ls ss) = q at HC
    go_wp2_with fail
    go_ret2
    exact ⟨ret_sc ⟨HC.out.2.1.symm, HC.out.1.symm⟩, B2.out⟩
set_option maxRecDepth 100000 in
set_option maxHeartbeats 800000 in
theorem specTableDigest_any (tm nx : Int) (vl vs : Value) (ls : List Lk) (ss : List Sn) (w : World) (hl : RowL w vl ls) (hs : RowS w vs ss) (hw : ∀ x ∈ ls, x.n.size ≤ 1048576 ∧ x.ws.length ≤ 1048576) (hy1 : ls.length ≤ 1048576) (hy2 : ss.length ≤ 1048576) :
    Calls Tryd.prog 5 #[tabV tm nx vl vs] w fun e w' => e = .returned (.tuple #[.string (dgOut tm nx ls ss), .int .i64 (tbCode tm nx ls ss)]) ∧ Below w.heap.size w w' := by
  obtain ⟨i0, hi0, hz0, hz1, hz2⟩ := info_parts Sl.info5
  obtain ⟨la, lc, rfl⟩ := RowG.slice hl
  obtain ⟨sa, sc, rfl⟩ := RowG.slice hs
  have HX : Hid (∀ W, Below (w.alloc (.cells #[.int .i64 tm, .int .i64 nx, .slice la ls.length lc, .slice sa ss.length sc] 32)).heap.size (w.alloc (.cells #[.int .i64 tm, .int .i64 nx, .slice la ls.length lc, .slice sa ss.length sc] 32)) W → (W.cell? ⟨w.heap.size, 0, none⟩ = some (.int .i64 tm) ∧ W.cell? ⟨w.heap.size, 1, none⟩ = some (.int .i64 nx) ∧ W.cell? ⟨w.heap.size, 2, none⟩ = some (.slice la ls.length lc) ∧ W.cell? ⟨w.heap.size, 3, none⟩ = some (.slice sa ss.length sc)) ∧ RowL W (.slice la ls.length lc) ls ∧ RowS W (.slice sa ss.length sc) ss ∧ Below w.heap.size w W) := fun W hW => by
    have h1 := (hW.block w.heap.size (by simp)).trans (heap_alloc_new w _)
    exact ⟨⟨(blk_cell h1 0 rfl).1, (blk_cell h1 1 rfl).1, (blk_cell h1 2 rfl).1, (blk_cell h1 3 rfl).1⟩, (hl.below (bel_new _ _)).below hW, (hs.below (bel_new _ _)).below hW, (bel_new w _).trans (hW.mono (by simp))⟩
  have HW : Hid (∀ x ∈ ls, x.n.size ≤ 1048576 ∧ x.ws.length ≤ 1048576) := hw
  clear hl hs hw
  unfold tabV
  cases htk : bOf (TOK ⟨tm, nx, ls, ss⟩) with
  | false =>
    have HC : Hid (tbCode tm nx ls ss = 1 ∧ dgOut tm nx ls ss = ⟨#[]⟩ ∧ bOf (TOK ⟨tm, nx, ls, ss⟩) = false) := ⟨by unfold tbCode; rw [htk]; rfl, by unfold dgOut; rw [htk]; rfl, htk⟩
    clear htk
    go_enter Tryd.func5, Tryd.ntmps5
    go_upto_region 1 with fail
    generalize w.alloc (.cells #[.int .i64 tm, .int .i64 nx, .slice la ls.length lc, .slice sa ss.length sc] 32) = wb at HX ⊢
    obtain ⟨⟨x0, x1, x2, x3⟩, r1, r2, rb⟩ := HX.out wb (Below.refl _ _)
    have HR : Hid (RowL wb (.slice la ls.length lc) ls ∧ RowS wb (.slice sa ss.length sc) ss ∧ Below w.heap.size w wb) := ⟨r1, r2, rb⟩
    clear r1 r2 rb
    go_wp2_with fail
    refine (specTableOK_any tm nx _ _ ls ss _ HR.out.1 HR.out.2.1 HW.out hy1 hy2).mono ?_
    rintro e w1 ⟨rfl, b1⟩
    have B1 : Hid (Below w.heap.size w w1) := HR.out.2.2.trans (b1.mono HR.out.2.2.size)
    clear b1
    rw [HC.out.2.2]
    go_wp2_with fail
    go_ret2
    exact ⟨ret_sc ⟨HC.out.2.1.symm, HC.out.1.symm⟩, B1.out⟩
  | true =>
    have HC : Hid (tbCode tm nx ls ss = 0 ∧ dgOut tm nx ls ss = hashS (iTb ++ tabBs tm nx ls ss) ∧ bOf (TOK ⟨tm, nx, ls, ss⟩) = true) := ⟨by unfold tbCode; rw [htk]; rfl, by unfold dgOut; rw [htk]; rfl, htk⟩
    have HLE : Hid ((tabBs tm nx ls ss).length ≤ 1000) := tabBs_le (tok_bnd (tok_true htk))
    have HBD : Hid (Bnd ls ss) := tok_bnd (tok_true htk)
    clear htk
    go_enter Tryd.func5, Tryd.ntmps5
    go_upto_region 1 with fail
    generalize w.alloc (.cells #[.int .i64 tm, .int .i64 nx, .slice la ls.length lc, .slice sa ss.length sc] 32) = wb at HX ⊢
    obtain ⟨⟨x0, x1, x2, x3⟩, r1, r2, rb⟩ := HX.out wb (Below.refl _ _)
    have HR : Hid (RowL wb (.slice la ls.length lc) ls ∧ RowS wb (.slice sa ss.length sc) ss ∧ Below w.heap.size w wb) := ⟨r1, r2, rb⟩
    clear r1 r2 rb
    go_wp2_with fail
    refine (specTableOK_any tm nx _ _ ls ss _ HR.out.1 HR.out.2.1 HW.out hy1 hy2).mono ?_
    rintro e w1 ⟨rfl, b1⟩
    rw [HC.out.2.2]
    have HX1 : Hid (∀ W, Below w1.heap.size w1 W → (W.cell? ⟨w.heap.size, 0, none⟩ = some (.int .i64 tm) ∧ W.cell? ⟨w.heap.size, 1, none⟩ = some (.int .i64 nx) ∧ W.cell? ⟨w.heap.size, 2, none⟩ = some (.slice la ls.length lc) ∧ W.cell? ⟨w.heap.size, 3, none⟩ = some (.slice sa ss.length sc)) ∧ RowL W (.slice la ls.length lc) ls ∧ RowS W (.slice sa ss.length sc) ss ∧ Below w.heap.size w W) := fun W hW => HX.out W (b1.trans (hW.mono b1.size))
    have hk0 := Lib.run_convert_bytes_const (P := Tryd.prog) w1 40 5 #[.int .u8 116, .int .u8 97, .int .u8 98, .int .u8 108, .int .u8 101] 5 5 Tryd.underlying40 Tryd.underlying5
    have HO : Hid (OwnF (w1.alloc (.cells #[.int .u8 116, .int .u8 97, .int .u8 98, .int .u8 108, .int .u8 101] 5 (5, 6))) w1.heap.size (.slice (some ⟨w1.heap.size, 0, none⟩) 5 5) iTb) := full_lit w1 iTb 5 rfl _ rfl _
    have HBK : Hid (Below w1.heap.size w1 (w1.alloc (.cells #[.int .u8 116, .int .u8 97, .int .u8 98, .int .u8 108, .int .u8 101] 5 (5, 6)))) := bel_new _ _
    obtain ⟨⟨y0, y1, y2, y3⟩, _, _, _⟩ := HX1.out _ HBK.out
    clear b1 x0 x1 x2 x3 HR HX
    go_wp2_with fail
    refine (l05Bytes_any tm nx _ _ ls ss _ (HX1.out _ HBK.out).2.1 (HX1.out _ HBK.out).2.2.1 HBD.out).mono ?_
    rintro e w2 ⟨v2, rfl, o2, b2⟩
    have O2 : Hid (OwnF w2 w1.heap.size (.slice (some ⟨w1.heap.size, 0, none⟩) 5 5) iTb) := OwnF.below HO.out b2
    have R2 : Hid (RowB w2 v2 (tabBs tm nx ls ss)) := own_rowB o2 (tabBs_range tm nx ls ss)
    have B2 : Hid (Below w1.heap.size w1 w2) := HBK.out.trans (b2.mono HBK.out.size)
    have HNE : Hid (tabBs tm nx ls ss ≠ []) := fun e => by unfold tabBs at e; have := congrArg List.length e; simp only [List.length_append, nums_length, List.length_nil] at this; omega
    clear o2 b2 HO hk0 y0 y1 y2 y3
    obtain ⟨v3, w3, hap, o3, k3⟩ := run_rowF (P := Tryd.prog) 40 40 Tryd.underlying40 hi0 hz0 hz1 hz2 w1.heap.size w2 _ v2 iTb (tabBs tm nx ls ss) O2.out B2.out.size R2.out HNE.out (by have := HLE.out; have : iTb.length = 5 := rfl; omega)
    go_wp2_with (at_builtin; go_must (refine wpList_plain (by rfl) fun K hK => ?_; refine wp_app (by rfl) (by rfl) (by rfl) hap (hK _ _ ?_)))
    have B3 : Hid (Below w.heap.size w w3) := (HX1.out w3 (B2.out.trans k3)).2.2.2
    have R3 : Hid (RowB w3 v3 (iTb ++ tabBs tm nx ls ss)) := own_rowB o3 (range_append (by decide) (tabBs_range tm nx ls ss))
    have HN : Hid ((iTb ++ tabBs tm nx ls ss).length ≤ 65536) := by show _ ≤ _; rw [List.length_append]; have := HLE.out; have : iTb.length = 5 := rfl; omega
    clear o3 k3 O2 R2 B2 hap
    go_wp2_with fail
    refine (hash1_any v3 _ w3 R3.out HN.out).mono ?_
    rintro e w4 ⟨rfl, b4⟩
    have B4 : Hid (Below w.heap.size w w4) := B3.out.trans (b4.mono B3.out.size)
    clear b4
    generalize hashS (iTb ++ tabBs tm nx ls ss) = q at HC
    go_wp2_with fail
    go_ret2
    exact ⟨ret_sc ⟨HC.out.2.1.symm, HC.out.1.symm⟩, B4.out⟩
end Go.Proofs.YtkjbdemhpnhagaaDoor.Dg
