/- Texts put together: Fp, Dg, Htf. -/
import Derived.Test.YtakfniknkejgpaaDoorMt20
import Derived.Test.YtakfniknkejgpaaDoorMt10
import Derived.Test.YtakfniknkejgpaaDoorMt11
import Derived.Test.YtakfniknkejgpaaDoorMt12
import Derived.Test.YtakfniknkejgpaaDoorMt18
import Derived.Test.YtakfniknkejgpaaDoorMt13
import Derived.Test.YtakfniknkejgpaaDoorMt14
import Derived.Test.YtakfniknkejgpaaDoorMt15
import Derived.Test.YtakfniknkejgpaaDoorMt17
/- A number's bytes behind a constant's: impl.putNumber onto '[]byte("..")'. -/
namespace Go.Proofs.YtakfniknkejgpaaDoor.Fu
open Go.RowKit Go.Proofs.YtakfniknkejgpaaDoor.Sl Go.Proofs.YtakfniknkejgpaaDoor.By Go.Proofs.YtakfniknkejgpaaDoor.Ap Go.Proofs.YtakfniknkejgpaaDoor.Tx Go.Proofs.YtakfniknkejgpaaDoor.Ho Go.Proofs.YtakfniknkejgpaaDoor.Fz Go.Proofs.YtakfniknkejgpaaDoor.Pu

theorem run_rowF {P : Program} {i : TypeInfo} (t ty : TypeId) (ht : P.underlying t = some (.slice 5)) (hi : P.info? 5 = some i) (hz : i.zero = some (.int .u8 0)) (hsize : i.size = 1) (hby : i.bytes = 1)
 (B : Nat) (W : World) (v u : Value) (zs xs : List Int) (hown : OwnF W B v zs) (hB : B ≤ W.heap.size) (hu : RowB W u xs) (hne : xs ≠ []) (hlen : zs.length + xs.length ≤ 1000000000) :
 ∃ v' w', (Builtin.append_ #[t, t] ty #[v, u]).run P W = .ok v' w' ∧ OwnB 5 w' B v' (zs ++ xs) ∧ Below B W w' := by
 rcases hown with hown | ⟨g, rfl, hg, hlt, hc⟩
 ·obtain ⟨v', w', h1, h2, h3⟩ := run_row (P := P) t ty ht hi hz hsize hby B W v u zs xs hown hB hu (by omega)
  exact ⟨v', w', h1, h2, h3.below hown hB⟩
 ·obtain ⟨a, c, rfl, hu, hrx⟩ := hu
  rcases hu with hu | ⟨b, off, rfl, hcx, hbx, hcell⟩
  ·exact absurd hu hne
  have hpos : 0 < xs.length := by cases xs with | nil => exact absurd rfl hne | cons x l => simp
  have hnews : ∀ j v, (xs.map (Value.int .u8))[j]? = some v → W.cell? ((⟨b, off, none⟩ : Addr).add j) = some v := by
   intro j v hj
   have hj' : j < xs.length := by have := (List.getElem?_eq_some_iff.1 hj).1; simpa using this
   rw [addr_add, hcell j hj', ← hj, List.getElem?_map, nth8 hj']
   rfl
  have holds : ∀ j u, (zs.map (Value.int .u8))[j]? = some u → W.cell? ((⟨g, 0, none⟩ : Addr).add j) = some u := by
   intro j u hj
   have hj' : j < zs.length := by have := (List.getElem?_eq_some_iff.1 hj).1; simpa using this
   rw [addr_add, Nat.zero_add, hc j hj', ← hj, List.getElem?_map, nth8 hj']
   rfl
  have hr := run_append_grow (P := P) W t ty 5 i (.int .u8 0) ht hi hz ⟨g, 0, none⟩ zs.length zs.length (zs.map (Value.int .u8)) (by rw [hsize]; simp) holds ⟨b, off, none⟩ xs.length c (xs.map (Value.int .u8)) (by rw [hsize]; simp) hnews (by omega) (by omega) (by rw [hby]; exact growslice_fits (by omega) (by omega))
  refine ⟨_, _, hr, ?_, ⟨rfl, rfl, rfl, by simp, fun k hk => heap_alloc_old W.drew _ (show k < W.heap.size by omega)⟩⟩
  have hge := grownCap_ge W (zs.length + xs.length) zs.length 5
  have hcm : grownCap W (zs.length + xs.length) zs.length 5 ≤ maxLen := grownCap_le_maxLen W _ _ _ (by unfold maxLen; omega)
  have hl : (zs ++ xs).length = zs.length + xs.length := List.length_append
  unfold OwnB
  rw [hl, List.map_append]
  have hlen2 : (zs.map (Value.int .u8) ++ xs.map (Value.int .u8)).length = (zs.length + xs.length) * 1 := by simp
  refine ⟨hlen2, .inr ⟨W.heap.size, _, _, rfl, hB, heap_alloc_new W.drew _, hge, hcm, ?_, ?_⟩⟩
  ·have hz1 : (Value.int IntKind.u8 0).cells.size = 1 := rfl
   simp only [Array.size_append, List.size_toArray, size_zeroCells, hz1, List.length_map]
   omega
  ·simp only [Array.toList_append, List.append_assoc]
   rw [← List.append_assoc, ← hlen2]
   exact List.take_left
end Go.Proofs.YtakfniknkejgpaaDoor.Fu

/- TableDigest of the program and of the specification. -/
namespace Go.Proofs.YtakfniknkejgpaaDoor.Dg
open Go.RowKit Go.Proofs.YtakfniknkejgpaaDoor.Sl Go.Proofs.YtakfniknkejgpaaDoor.By Go.Proofs.YtakfniknkejgpaaDoor.Ap Go.Proofs.YtakfniknkejgpaaDoor.Tx Go.Proofs.YtakfniknkejgpaaDoor.Sh Go.Proofs.YtakfniknkejgpaaDoor.Ho Go.Proofs.YtakfniknkejgpaaDoor.Fu Go.Proofs.YtakfniknkejgpaaDoor.Tb Go.Proofs.YtakfniknkejgpaaDoor.Tw Go.Proofs.YtakfniknkejgpaaDoor.Rq Go.Proofs.YtakfniknkejgpaaDoor.Tp Go.Proofs.YtakfniknkejgpaaDoor.Tq Go.Proofs.YtakfniknkejgpaaDoor.Pu Go.Proofs.YtakfniknkejgpaaDoor.Pt Go.Proofs.YtakfniknkejgpaaDoor.Ps

def bTb : ByteArray := ⟨#[116, 97, 98, 108, 101]⟩
def iTb : List Int := [116, 97, 98, 108, 101]
theorem tb_bys : bys bTb = iTb := rfl
noncomputable def dgOut (tm nx : Int) (ls : List Lk) (ss : List Sn) : ByteArray := if bOf (TOK ⟨tm, nx, ls, ss⟩) then hashS (iTb ++ tabBs tm nx ls ss) else ⟨#[]⟩
theorem ret_sc {s t : ByteArray} {a b : Int} (h : s = t ∧ a = b) : Ending.returned (.tuple #[.string s, .int .i64 a]) = .returned (.tuple #[.string t, .int .i64 b]) := by rw [h.1, h.2]
theorem tabBs_le {tm nx : Int} {ls : List Lk} {ss : List Sn} (h : Bnd ls ss) : (tabBs tm nx ls ss).length ≤ 1000 := by
 obtain ⟨h1, h2, h3, _⟩ := h
 have := lsBs_le ls fun x hx => ⟨(h3 x hx).1, (h3 x hx).2.1⟩
 unfold tabBs
 simp only [List.length_append, nums_length, ssBs_len]
 omega
theorem hash1_any (v : Value) (xs : List Int) (w : World) (h : RowB w v xs) (hl : xs.length ≤ 65536) :
 Calls Tryd.prog 34 #[v] w fun e w' => e = .returned (.string (hashS xs)) ∧ Below w.heap.size w w' := by
 have e : hashS xs = strOfNums (sha xs) := if_neg (by omega)
 rw [e]
 exact l01Hash_any v xs w h hl
set_option maxRecDepth 100000 in
set_option maxHeartbeats 800000 in
theorem implTableDigest_any (tm nx : Int) (vl vs : Value) (ls : List Lk) (ss : List Sn) (w : World) (hl : RowL w vl ls) (hs : RowS w vs ss) (hw : ∀ x ∈ ls, x.n.size ≤ 1048576 ∧ x.ws.length ≤ 1048576) (hy1 : ls.length ≤ 1048576) (hy2 : ss.length ≤ 1048576) (hK : KTab w) (hp : 0 < w.heap.size) :
 Calls Tryd.prog 9 #[tabV tm nx vl vs] w fun e w' => e = .returned (.tuple #[.string (dgOut tm nx ls ss), .int .i64 (tbCode tm nx ls ss)]) ∧ Below w.heap.size w w' := by
 obtain ⟨la, lc, rfl⟩ := RowG.slice hl
 obtain ⟨sa, sc, rfl⟩ := RowG.slice hs
 have HR : Hid (RowL w (.slice la ls.length lc) ls ∧ RowS w (.slice sa ss.length sc) ss ∧ KTab w) := ⟨hl, hs, hK⟩
 have HW : Hid (∀ x ∈ ls, x.n.size ≤ 1048576 ∧ x.ws.length ≤ 1048576) := hw
 have HB0 : Hid (Below w.heap.size w (w.alloc (.cells #[.int .i64 tm, .int .i64 nx, .slice la ls.length lc, .slice sa ss.length sc] 26))) := bel_new _ _
 clear hl hs hw hK
 unfold tabV
 cases htk : bOf (TOK ⟨tm, nx, ls, ss⟩) with
 | false =>
   have HC : Hid (tbCode tm nx ls ss = 1 ∧ dgOut tm nx ls ss = ⟨#[]⟩) := ⟨by unfold tbCode; rw [htk]; rfl, by unfold dgOut; rw [htk]; rfl⟩
   clear htk
   go_enter Tryd.func9, Tryd.ntmps9
   go_wp2_with fail
   refine (implTableBytes_any tm nx _ _ ls ss _ (HR.out.1.below HB0.out) (HR.out.2.1.below HB0.out) HW.out hy1 hy2).mono ?_
   rintro e w1 ⟨v1, rfl, o1, b1⟩
   have B1 : Hid (Below w.heap.size w w1) := HB0.out.trans (b1.mono HB0.out.size)
   clear o1 b1
   rw [HC.out.1]
   go_wp2_with fail
   go_ret2
   exact ⟨ret_sc ⟨HC.out.2.symm, HC.out.1.symm⟩, B1.out⟩
 | true =>
   have HC : Hid (tbCode tm nx ls ss = 0 ∧ dgOut tm nx ls ss = hashS (iTb ++ tabBs tm nx ls ss) ∧ tbOut tm nx ls ss = tabBs tm nx ls ss) := ⟨by unfold tbCode; rw [htk]; rfl, by unfold dgOut; rw [htk]; rfl, by unfold tbOut; rw [htk]; rfl⟩
   have HLE : Hid ((tabBs tm nx ls ss).length ≤ 1000) := tabBs_le (tok_bnd (tok_true htk))
   have HCT : Hid (cat [bTb, strOfNums (tabBs tm nx ls ss)] = iTb ++ tabBs tm nx ls ss) := by
    show _ = _
    unfold cat
    simp only [List.flatMap_cons, List.flatMap_nil, List.append_nil]
    rw [bys_str _ (tabBs_range tm nx ls ss), tb_bys]
   clear htk
   go_enter Tryd.func9, Tryd.ntmps9
   go_wp2_with fail
   refine (implTableBytes_any tm nx _ _ ls ss _ (HR.out.1.below HB0.out) (HR.out.2.1.below HB0.out) HW.out hy1 hy2).mono ?_
   rintro e w1 ⟨v1, rfl, o1, b1⟩
   have B1 : Hid (Below w.heap.size w w1) := HB0.out.trans (b1.mono HB0.out.size)
   rw [HC.out.2.2] at o1
   have hcv := By.run_convert_own (P := Tryd.prog) w1 _ 22 5 9 Tryd.underlying22 Tryd.underlying5 Tryd.underlying9 v1 _ o1
   rw [HC.out.1]
   clear o1 b1
   obtain ⟨z, HZ⟩ : ∃ z, Hid (strOfNums (tabBs tm nx ls ss) = z) := ⟨_, rfl⟩
   rw [HZ.out] at hcv HCT
   go_wp2_with fail
   refine (hashOf_lit w1 _ 2 rfl _ [bTb, z] rfl rfl (by decide) (by decide) (by rw [HCT.out, List.length_append]; have := HLE.out; have : iTb.length = 5 := rfl; omega) (HR.out.2.2.below B1.out hp) (Nat.lt_of_lt_of_le hp B1.out.size)).mono ?_
   rintro e w2 ⟨rfl, b2⟩
   rw [HCT.out]
   have B2 : Hid (Below w.heap.size w w2) := B1.out.trans (b2.mono B1.out.size)
   clear b2 hcv
   generalize hashS (iTb ++ tabBs tm nx ls ss) = q at HC
   go_wp2_with fail
   go_ret2
   exact ⟨ret_sc ⟨HC.out.2.1.symm, HC.out.1.symm⟩, B2.out⟩
set_option maxRecDepth 100000 in
set_option maxHeartbeats 800000 in
theorem specTableDigest_any (tm nx : Int) (vl vs : Value) (ls : List Lk) (ss : List Sn) (w : World) (hl : RowL w vl ls) (hs : RowS w vs ss) (hw : ∀ x ∈ ls, x.n.size ≤ 1048576 ∧ x.ws.length ≤ 1048576) (hy1 : ls.length ≤ 1048576) (hy2 : ss.length ≤ 1048576) :
 Calls Tryd.prog 10 #[tabV tm nx vl vs] w fun e w' => e = .returned (.tuple #[.string (dgOut tm nx ls ss), .int .i64 (tbCode tm nx ls ss)]) ∧ Below w.heap.size w w' := by
 obtain ⟨i0, hi0, hz0, hz1, hz2⟩ := info_parts Sl.info5
 obtain ⟨la, lc, rfl⟩ := RowG.slice hl
 obtain ⟨sa, sc, rfl⟩ := RowG.slice hs
 have HX : Hid (∀ W, Below (w.alloc (.cells #[.int .i64 tm, .int .i64 nx, .slice la ls.length lc, .slice sa ss.length sc] 26)).heap.size (w.alloc (.cells #[.int .i64 tm, .int .i64 nx, .slice la ls.length lc, .slice sa ss.length sc] 26)) W → (W.cell? ⟨w.heap.size, 0, none⟩ = some (.int .i64 tm) ∧ W.cell? ⟨w.heap.size, 1, none⟩ = some (.int .i64 nx) ∧ W.cell? ⟨w.heap.size, 2, none⟩ = some (.slice la ls.length lc) ∧ W.cell? ⟨w.heap.size, 3, none⟩ = some (.slice sa ss.length sc)) ∧ RowL W (.slice la ls.length lc) ls ∧ RowS W (.slice sa ss.length sc) ss ∧ Below w.heap.size w W) := fun W hW => by
  have h1 := (hW.block w.heap.size (by simp)).trans (heap_alloc_new w _)
  exact ⟨⟨(blk_cell h1 0 rfl).1, (blk_cell h1 1 rfl).1, (blk_cell h1 2 rfl).1, (blk_cell h1 3 rfl).1⟩, (hl.below (bel_new _ _)).below hW, (hs.below (bel_new _ _)).below hW, (bel_new w _).trans (hW.mono (by simp))⟩
 have HW : Hid (∀ x ∈ ls, x.n.size ≤ 1048576 ∧ x.ws.length ≤ 1048576) := hw
 clear hl hs hw
 unfold tabV
 cases htk : bOf (TOK ⟨tm, nx, ls, ss⟩) with
 | false =>
   have HC : Hid (tbCode tm nx ls ss = 1 ∧ dgOut tm nx ls ss = ⟨#[]⟩ ∧ bOf (TOK ⟨tm, nx, ls, ss⟩) = false) := ⟨by unfold tbCode; rw [htk]; rfl, by unfold dgOut; rw [htk]; rfl, htk⟩
   clear htk
   go_enter Tryd.func10, Tryd.ntmps10
   go_upto_region 1 with fail
   generalize w.alloc (.cells #[.int .i64 tm, .int .i64 nx, .slice la ls.length lc, .slice sa ss.length sc] 26) = wb at HX ⊢
   obtain ⟨⟨x0, x1, x2, x3⟩, r1, r2, rb⟩ := HX.out wb (Below.refl _ _)
   have HR : Hid (RowL wb (.slice la ls.length lc) ls ∧ RowS wb (.slice sa ss.length sc) ss ∧ Below w.heap.size w wb) := ⟨r1, r2, rb⟩
   clear r1 r2 rb
   go_wp2_with fail
   refine (specTableOK_any tm nx _ _ ls ss _ HR.out.1 HR.out.2.1 HW.out hy1 hy2).mono ?_
   rintro e w1 ⟨rfl, b1⟩
   have B1 : Hid (Below w.heap.size w w1) := HR.out.2.2.trans (b1.mono HR.out.2.2.size)
   clear b1
   rw [HC.out.2.2]
   go_wp2_with fail
   go_ret2
   exact ⟨ret_sc ⟨HC.out.2.1.symm, HC.out.1.symm⟩, B1.out⟩
 | true =>
   have HC : Hid (tbCode tm nx ls ss = 0 ∧ dgOut tm nx ls ss = hashS (iTb ++ tabBs tm nx ls ss) ∧ bOf (TOK ⟨tm, nx, ls, ss⟩) = true) := ⟨by unfold tbCode; rw [htk]; rfl, by unfold dgOut; rw [htk]; rfl, htk⟩
   have HLE : Hid ((tabBs tm nx ls ss).length ≤ 1000) := tabBs_le (tok_bnd (tok_true htk))
   have HBD : Hid (Bnd ls ss) := tok_bnd (tok_true htk)
   clear htk
   go_enter Tryd.func10, Tryd.ntmps10
   go_upto_region 1 with fail
   generalize w.alloc (.cells #[.int .i64 tm, .int .i64 nx, .slice la ls.length lc, .slice sa ss.length sc] 26) = wb at HX ⊢
   obtain ⟨⟨x0, x1, x2, x3⟩, r1, r2, rb⟩ := HX.out wb (Below.refl _ _)
   have HR : Hid (RowL wb (.slice la ls.length lc) ls ∧ RowS wb (.slice sa ss.length sc) ss ∧ Below w.heap.size w wb) := ⟨r1, r2, rb⟩
   clear r1 r2 rb
   go_wp2_with fail
   refine (specTableOK_any tm nx _ _ ls ss _ HR.out.1 HR.out.2.1 HW.out hy1 hy2).mono ?_
   rintro e w1 ⟨rfl, b1⟩
   rw [HC.out.2.2]
   have HX1 : Hid (∀ W, Below w1.heap.size w1 W → (W.cell? ⟨w.heap.size, 0, none⟩ = some (.int .i64 tm) ∧ W.cell? ⟨w.heap.size, 1, none⟩ = some (.int .i64 nx) ∧ W.cell? ⟨w.heap.size, 2, none⟩ = some (.slice la ls.length lc) ∧ W.cell? ⟨w.heap.size, 3, none⟩ = some (.slice sa ss.length sc)) ∧ RowL W (.slice la ls.length lc) ls ∧ RowS W (.slice sa ss.length sc) ss ∧ Below w.heap.size w W) := fun W hW => HX.out W (b1.trans (hW.mono b1.size))
   have hk0 := Lib.run_convert_bytes_const (P := Tryd.prog) w1 22 5 #[.int .u8 116, .int .u8 97, .int .u8 98, .int .u8 108, .int .u8 101] 5 5 Tryd.underlying22 Tryd.underlying5
   have HO : Hid (OwnF (w1.alloc (.cells #[.int .u8 116, .int .u8 97, .int .u8 98, .int .u8 108, .int .u8 101] 5 (5, 6))) w1.heap.size (.slice (some ⟨w1.heap.size, 0, none⟩) 5 5) iTb) := full_lit w1 iTb 5 rfl _ rfl _
   have HBK : Hid (Below w1.heap.size w1 (w1.alloc (.cells #[.int .u8 116, .int .u8 97, .int .u8 98, .int .u8 108, .int .u8 101] 5 (5, 6)))) := bel_new _ _
   obtain ⟨⟨y0, y1, y2, y3⟩, _, _, _⟩ := HX1.out _ HBK.out
   clear b1 x0 x1 x2 x3 HR HX
   go_wp2_with fail
   refine (l05Bytes_any tm nx _ _ ls ss _ (HX1.out _ HBK.out).2.1 (HX1.out _ HBK.out).2.2.1 HBD.out).mono ?_
   rintro e w2 ⟨v2, rfl, o2, b2⟩
   have O2 : Hid (OwnF w2 w1.heap.size (.slice (some ⟨w1.heap.size, 0, none⟩) 5 5) iTb) := OwnF.below HO.out b2
   have R2 : Hid (RowB w2 v2 (tabBs tm nx ls ss)) := own_rowB o2 (tabBs_range tm nx ls ss)
   have B2 : Hid (Below w1.heap.size w1 w2) := HBK.out.trans (b2.mono HBK.out.size)
   have HNE : Hid (tabBs tm nx ls ss ≠ []) := fun e => by unfold tabBs at e; have := congrArg List.length e; simp only [List.length_append, nums_length, List.length_nil] at this; omega
   clear o2 b2 HO hk0 y0 y1 y2 y3
   obtain ⟨v3, w3, hap, o3, k3⟩ := run_rowF (P := Tryd.prog) 22 22 Tryd.underlying22 hi0 hz0 hz1 hz2 w1.heap.size w2 _ v2 iTb (tabBs tm nx ls ss) O2.out B2.out.size R2.out HNE.out (by have := HLE.out; have : iTb.length = 5 := rfl; omega)
   go_wp2_with (at_builtin; go_must (refine wpList_plain (by rfl) fun K hK => ?_; refine wp_app (by rfl) (by rfl) (by rfl) hap (hK _ _ ?_)))
   have B3 : Hid (Below w.heap.size w w3) := (HX1.out w3 (B2.out.trans k3)).2.2.2
   have R3 : Hid (RowB w3 v3 (iTb ++ tabBs tm nx ls ss)) := own_rowB o3 (range_append (by decide) (tabBs_range tm nx ls ss))
   have HN : Hid ((iTb ++ tabBs tm nx ls ss).length ≤ 65536) := by show _ ≤ _; rw [List.length_append]; have := HLE.out; have : iTb.length = 5 := rfl; omega
   clear o3 k3 O2 R2 B2 hap
   go_wp2_with fail
   refine (hash1_any v3 _ w3 R3.out HN.out).mono ?_
   rintro e w4 ⟨rfl, b4⟩
   have B4 : Hid (Below w.heap.size w w4) := B3.out.trans (b4.mono B3.out.size)
   clear b4
   generalize hashS (iTb ++ tabBs tm nx ls ss) = q at HC
   go_wp2_with fail
   go_ret2
   exact ⟨ret_sc ⟨HC.out.2.1.symm, HC.out.1.symm⟩, B4.out⟩
end Go.Proofs.YtakfniknkejgpaaDoor.Dg

/- What tables' functions answer at right tables; that two are the same. -/
namespace Go.Proofs.YtakfniknkejgpaaDoor.Ht
open Go.RowKit Go.Proofs.YtakfniknkejgpaaDoor.Sl Go.Proofs.YtakfniknkejgpaaDoor.By Go.Proofs.YtakfniknkejgpaaDoor.Ap Go.Proofs.YtakfniknkejgpaaDoor.Rr Go.Proofs.YtakfniknkejgpaaDoor.Tb Go.Proofs.YtakfniknkejgpaaDoor.Tw Go.Proofs.YtakfniknkejgpaaDoor.Tp Go.Proofs.YtakfniknkejgpaaDoor.Pu Go.Proofs.YtakfniknkejgpaaDoor.Pt Go.Proofs.YtakfniknkejgpaaDoor.Ur Go.Proofs.YtakfniknkejgpaaDoor.Rq
open Go.Proofs.YtakfniknkejgpaaDoor.Sh (KTab)
theorem implBytes_ok {T : Tab} (hT : TOK T) {u v : Value} {W : World} (h : RowL W u T.ls ∧ RowS W v T.ss) : Calls Tryd.prog 6 #[tV T u v] W fun e w' => ∃ x, e = .returned (.tuple #[x, .int .i64 0]) ∧ RowB w' x (tabB T) ∧ Below W.heap.size W w' := by
 obtain ⟨a1, a2, a3⟩ := tok_hw hT
 refine (implTableBytes_any T.tm T.nx u v T.ls T.ss W h.1 h.2 a1 a2 a3).mono ?_
 rintro e w' ⟨x, rfl, o, b⟩
 rw [(tb_ok hT).1] at o
 exact ⟨x, by rw [(tb_ok hT).2], own_rowB o (tabB_range T), b⟩
noncomputable def dgT (T : Tab) : ByteArray := Dg.dgOut T.tm T.nx T.ls T.ss
theorem implDigest_ok {T : Tab} (hT : TOK T) {u v : Value} {W : World} (h : RowL W u T.ls ∧ RowS W v T.ss) (hK : KTab W) (hp : 0 < W.heap.size) : Calls Tryd.prog 9 #[tV T u v] W fun e w' => e = .returned (.tuple #[.string (dgT T), .int .i64 0]) ∧ Below W.heap.size W w' := by
 obtain ⟨a1, a2, a3⟩ := tok_hw hT
 refine (Dg.implTableDigest_any T.tm T.nx u v T.ls T.ss W h.1 h.2 a1 a2 a3 hK hp).mono ?_
 rintro e w' ⟨rfl, b⟩
 exact ⟨by rw [(tb_ok hT).2]; rfl, b⟩
theorem specDigest_ok {T : Tab} (hT : TOK T) {u v : Value} {W : World} (h : RowL W u T.ls ∧ RowS W v T.ss) : Calls Tryd.prog 10 #[tV T u v] W fun e w' => e = .returned (.tuple #[.string (dgT T), .int .i64 0]) ∧ Below W.heap.size W w' := by
 obtain ⟨a1, a2, a3⟩ := tok_hw hT
 refine (Dg.specTableDigest_any T.tm T.nx u v T.ls T.ss W h.1 h.2 a1 a2 a3).mono ?_
 rintro e w' ⟨rfl, b⟩
 exact ⟨by rw [(tb_ok hT).2]; rfl, b⟩
theorem mem_in {w : World} {B : Nat} {u v : Value} {ms : List Lo.LkA} {ls : List Lk} {ss : List Sn} (h : Mem w B u v ms ss) (hm : ms.map (·.1) = ls) : ∀ W, Below w.heap.size w W → RowL W u ls ∧ RowS W v ss := fun W hW => by
 have := Mem.rows (h.kept (W' := W) fun g _ hl => hW.block g hl)
 rw [hm] at this
 exact this
def ReadP (xs : List Int) (w : World) (e : Ending) (w' : World) : Prop := ∃ a2 c2 a3 c3, e = .returned (.tuple #[tV (rtT xs) (.slice a2 (rtT xs).ls.length c2) (.slice a3 (rtT xs).ss.length c3), .int .i64 (rtC xs)]) ∧ InT w' (.slice a2 (rtT xs).ls.length c2) (.slice a3 (rtT xs).ss.length c3) (rtT xs) ∧ Below w.heap.size w w'
theorem readP_of {xs : List Int} {w w' : World} {u2 u3 : Value} {B : Nat} {ms : List Lo.LkA} (h : ms.map (·.1) = (rtT xs).ls ∧ Mem w' B u2 u3 ms (rtT xs).ss) (hb : Below w.heap.size w w') : ReadP xs w (.returned (.tuple #[tabV (rtT xs).tm (rtT xs).nx u2 u3, .int .i64 (rtC xs)])) w' := by
 have hi := mem_in h.2 h.1
 obtain ⟨h1, h2⟩ := hi w' (Below.refl _ _)
 obtain ⟨a2, c2, rfl⟩ := RowG.slice h1
 obtain ⟨a3, c3, rfl⟩ := RowG.slice h2
 exact ⟨a2, c2, a3, c3, rfl, hi, hb⟩
theorem implRead_ok (v : Value) (xs : List Int) (w : World) (h : RowB w v xs) : Calls Tryd.prog 8 #[v] w fun e w' => ReadP xs w e w' := by
 refine (implReadTable_any v xs w h).mono ?_
 rintro e w' ⟨u2, u3, ms, rfl, hm, hb⟩
 exact readP_of hm hb
theorem specRead_ok (v : Value) (xs : List Int) (w : World) (h : RowB w v xs) : Calls Tryd.prog 12 #[v] w fun e w' => ReadP xs w e w' := by
 refine (Us.specReadTable_any v xs w h).mono ?_
 rintro e w' ⟨u2, u3, ms, rfl, hm, hb⟩
 exact readP_of hm hb
end Go.Proofs.YtakfniknkejgpaaDoor.Ht
