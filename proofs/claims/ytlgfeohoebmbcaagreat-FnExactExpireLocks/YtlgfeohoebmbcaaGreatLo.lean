/- l05Own: a table in memory of its own. -/
import Derived.Test.YtlgfeohoebmbcaaGreatOw
import Derived.Deep.RegionLaw
import Derived.Deep.RegionHeldLaw
namespace Go.Proofs.YtlgfeohoebmbcaaGreat.Lo
open Go.RowKit Go.Proofs.YtlgfeohoebmbcaaGreat.Sl Go.Proofs.YtlgfeohoebmbcaaGreat.By Go.Proofs.YtlgfeohoebmbcaaGreat.Ap Go.Proofs.YtlgfeohoebmbcaaGreat.Tb Go.Proofs.YtlgfeohoebmbcaaGreat.Tw Go.Proofs.YtlgfeohoebmbcaaGreat.Mw Go.Proofs.YtlgfeohoebmbcaaGreat.Wa Go.Proofs.YtlgfeohoebmbcaaGreat.Bk Go.Proofs.YtlgfeohoebmbcaaGreat.Tp
open Go.Proofs.YtlgfeohoebmbcaaGreat.Tx (blk_cell blk_set blk_far blk_new bel_new)

set_option maxRecDepth 100000 in
set_option maxHeartbeats 6400000 in
theorem l05Own_all (tm nx : Int) (vl vs : Value) (ls : List Lk) (ss : List Sn) (w : World) (hl : RowL w vl ls) (hs : RowS w vs ss) (hw : ∀ x ∈ ls, x.ws.length ≤ 1000) (hy1 : ls.length ≤ 1000) (hy2 : ss.length ≤ 1000) :
    Calls Tryz.prog 40 #[tabV tm nx vl vs] w fun e w' => ∃ ul us ps, e = .returned (tabV tm nx ul us) ∧ (OwnL w' w.heap.size ul ps ∧ (∀ p ∈ ps, OwnW w' w.heap.size (uV p) p.1.ws) ∧ ps.map (·.1) = ls ∧ Apart ps) ∧ OwnS w' w.heap.size us ss ∧ Below w.heap.size w w' := by
  obtain ⟨la, lc, rfl⟩ := RowG.slice hl
  obtain ⟨sa, sc, rfl⟩ := RowG.slice hs
  unfold tabV
  go_enter Tryz.func40, Tryz.ntmps40
  go_upto_region 1 with fail
  have HX : Hid ((∀ W, Below ((w.alloc (.cells #[.int .i64 tm, .int .i64 nx, .slice la ls.length lc, .slice sa ss.length sc] 30)).alloc (.cells #[.int .i64 0, .int .i64 0, .slice none 0 0, .slice none 0 0] 30)).heap.size ((w.alloc (.cells #[.int .i64 tm, .int .i64 nx, .slice la ls.length lc, .slice sa ss.length sc] 30)).alloc (.cells #[.int .i64 0, .int .i64 0, .slice none 0 0, .slice none 0 0] 30)) W → W.heap[w.heap.size]? = some (.cells #[.int .i64 tm, .int .i64 nx, .slice la ls.length lc, .slice sa ss.length sc] 30 (0, 0)) ∧ W.heap[w.heap.size + 1]? = some (.cells #[.int .i64 0, .int .i64 0, .slice none 0 0, .slice none 0 0] 30 (0, 0)) ∧ RowL W (.slice la ls.length lc) ls ∧ RowS W (.slice sa ss.length sc) ss ∧ Below w.heap.size w W)) := by
    intro W hW
    have k1 := size_new w (.cells #[.int .i64 tm, .int .i64 nx, .slice la ls.length lc, .slice sa ss.length sc] 30)
    have k2 := size_new (w.alloc (.cells #[.int .i64 tm, .int .i64 nx, .slice la ls.length lc, .slice sa ss.length sc] 30)) (.cells #[.int .i64 0, .int .i64 0, .slice none 0 0, .slice none 0 0] 30)
    have hb2 := (bel_new w (.cells #[.int .i64 tm, .int .i64 nx, .slice la ls.length lc, .slice sa ss.length sc] 30)).alloc (by rw [k1]; omega) (.cells #[.int .i64 0, .int .i64 0, .slice none 0 0, .slice none 0 0] 30)
    refine ⟨(hW.block _ (by omega)).trans ((Below.heap_alloc _ _ _ (by omega)).trans (blk_new _ _ _)), (hW.block _ (by omega)).trans ?_, (hl.below hb2).below hW, (hs.below hb2).below hW, hb2.trans (hW.mono (by omega))⟩
    have := blk_new (w.alloc (.cells #[.int .i64 tm, .int .i64 nx, .slice la ls.length lc, .slice sa ss.length sc] 30)) #[.int .i64 0, .int .i64 0, .slice none 0 0, .slice none 0 0] 30
    rw [k1] at this
    exact this
  have HS1 : Hid (((w.alloc (.cells #[.int .i64 tm, .int .i64 nx, .slice la ls.length lc, .slice sa ss.length sc] 30)).alloc (.cells #[.int .i64 0, .int .i64 0, .slice none 0 0, .slice none 0 0] 30)).heap.size = w.heap.size + 2) := by
    show _ = _
    rw [size_new, size_new]
  generalize (w.alloc (.cells #[.int .i64 tm, .int .i64 nx, .slice la ls.length lc, .slice sa ss.length sc] 30)).alloc (.cells #[.int .i64 0, .int .i64 0, .slice none 0 0, .slice none 0 0] 30) = w1 at HX HS1 ⊢
  have HL : Hid (RowL w (.slice la ls.length lc) ls ∧ RowS w (.slice sa ss.length sc) ss) := ⟨hl, hs⟩
  have HW : Hid (∀ x ∈ ls, x.ws.length ≤ 1000) := hw
  clear hl hs hw
  obtain ⟨i0, hi0, hz0, hz1, hz2⟩ := info_parts infoS
  have x0 := (blk_cell (HX.out w1 (Below.refl _ _)).1 0 (x := .int .i64 tm) rfl).1
  have x1 := (blk_cell (HX.out w1 (Below.refl _ _)).1 1 (x := .int .i64 nx) rfl).1
  have x3 := (blk_cell (HX.out w1 (Below.refl _ _)).1 3 (x := .slice sa ss.length sc) rfl).1
  have hbl : w.heap.size < w1.heap.size := by rw [HS1.out]; omega
  have hxs : ∀ W, Below w1.heap.size w1 W → RowS W (.slice sa ss.length sc) ss := fun W hW => (HX.out W hW).2.2.2.1
  have HK : Hid (∀ W, Below w1.heap.size w1 W → (W.cell? ⟨w.heap.size, 0, none⟩ = some (.int .i64 tm) ∧ W.cell? ⟨w.heap.size, 1, none⟩ = some (.int .i64 nx) ∧ W.cell? ⟨w.heap.size, 3, none⟩ = some (.slice sa ss.length sc))) := fun W hW => ⟨(blk_cell (HX.out W hW).1 0 rfl).1, (blk_cell (HX.out W hW).1 1 rfl).1, (blk_cell (HX.out W hW).1 3 rfl).1⟩
  go_cut [3] (fun px wx => Fin w1 tm nx ss px wx)
  case first =>
    go_region_held_law (fun W => W.cell? ⟨w.heap.size, 0, none⟩ = some (.int .i64 tm) ∧ W.cell? ⟨w.heap.size, 1, none⟩ = some (.int .i64 nx) ∧ W.cell? ⟨w.heap.size, 3, none⟩ = some (.slice sa ss.length sc)) ((refine HK.out _ ?_; repeat (first | with_reducible exact B5.out | with_reducible exact Below.refl _ _ | with_reducible refine Below.drew ?_ | with_reducible refine belA ?_ _ | (with_reducible refine belS ?_ _ _ _ (by first | omega | (have := B5.out.size; omega))))))
      ((refine step_appS (by rfl) _ _ 28 (by rfl) Tryz.underlying28 hi0 hz0 hz1 hz2 w1 _ (.slice sa ss.length sc) ss _ (by rfl) (by rfl) (by first | exact nest1 _ _ | exact (nest2 _ _ _).1 | exact (nest2 _ _ _).2 | exact (nest3 _ _ _ _).1 | exact (nest3 _ _ _ _).2.1 | exact (nest3 _ _ _ _).2.2) (by omega) (by repeat (first | with_reducible exact Below.refl _ _ | with_reducible refine Below.drew ?_ | with_reducible refine belA ?_ _)) hxs hy2 ?_; intro v5 w5 o5 b5 q5; obtain ⟨a5, k5, rfl⟩ := OwnS.slice o5; (try (have hX := q5 (w1.heap.size) (.cells #[.int .i64 0, .int .i64 0, .slice none 0 0, .slice none 0 0] 30) (by first | exact nest1 _ _ | exact (nest2 _ _ _).1 | exact (nest2 _ _ _).2 | exact (nest3 _ _ _ _).1 | exact (nest3 _ _ _ _).2.1 | exact (nest3 _ _ _ _).2.2) (by omega); obtain ⟨cX0, fX0⟩ := blk_cell hX 0 (x := .int .i64 0) rfl; obtain ⟨cX1, fX1⟩ := blk_cell hX 1 (x := .int .i64 0) rfl; obtain ⟨cX2, fX2⟩ := blk_cell hX 2 (x := .slice none 0 0) rfl; obtain ⟨cX3, fX3⟩ := blk_cell hX 3 (x := .slice none 0 0) rfl; have hXo := fun o => (Below.heap_alloc w5 o _ (Array.getElem?_eq_some_iff.1 hX).1).trans hX; have dX0 := fun o => blk_cell (hXo o) 0 (x := .int .i64 0) rfl; have dX1 := fun o => blk_cell (hXo o) 1 (x := .int .i64 0) rfl; have dX2 := fun o => blk_cell (hXo o) 2 (x := .slice none 0 0) rfl; have dX3 := fun o => blk_cell (hXo o) 3 (x := .slice none 0 0) rfl)); (try (have hX := q5 (w1.heap.size + 1) (.cells #[.int .i64 0, .int .i64 0, .slice none 0 0, .slice none 0 0] 30) (by first | exact nest1 _ _ | exact (nest2 _ _ _).1 | exact (nest2 _ _ _).2 | exact (nest3 _ _ _ _).1 | exact (nest3 _ _ _ _).2.1 | exact (nest3 _ _ _ _).2.2) (by omega); obtain ⟨cX0, fX0⟩ := blk_cell hX 0 (x := .int .i64 0) rfl; obtain ⟨cX1, fX1⟩ := blk_cell hX 1 (x := .int .i64 0) rfl; obtain ⟨cX2, fX2⟩ := blk_cell hX 2 (x := .slice none 0 0) rfl; obtain ⟨cX3, fX3⟩ := blk_cell hX 3 (x := .slice none 0 0) rfl; have hXo := fun o => (Below.heap_alloc w5 o _ (Array.getElem?_eq_some_iff.1 hX).1).trans hX; have dX0 := fun o => blk_cell (hXo o) 0 (x := .int .i64 0) rfl; have dX1 := fun o => blk_cell (hXo o) 1 (x := .int .i64 0) rfl; have dX2 := fun o => blk_cell (hXo o) 2 (x := .slice none 0 0) rfl; have dX3 := fun o => blk_cell (hXo o) 3 (x := .slice none 0 0) rfl)); (try (have hX := q5 (w1.heap.size + 1 + 1) (.cells #[.int .i64 0, .int .i64 0, .slice none 0 0, .slice none 0 0] 30) (by first | exact nest1 _ _ | exact (nest2 _ _ _).1 | exact (nest2 _ _ _).2 | exact (nest3 _ _ _ _).1 | exact (nest3 _ _ _ _).2.1 | exact (nest3 _ _ _ _).2.2) (by omega); obtain ⟨cX0, fX0⟩ := blk_cell hX 0 (x := .int .i64 0) rfl; obtain ⟨cX1, fX1⟩ := blk_cell hX 1 (x := .int .i64 0) rfl; obtain ⟨cX2, fX2⟩ := blk_cell hX 2 (x := .slice none 0 0) rfl; obtain ⟨cX3, fX3⟩ := blk_cell hX 3 (x := .slice none 0 0) rfl; have hXo := fun o => (Below.heap_alloc w5 o _ (Array.getElem?_eq_some_iff.1 hX).1).trans hX; have dX0 := fun o => blk_cell (hXo o) 0 (x := .int .i64 0) rfl; have dX1 := fun o => blk_cell (hXo o) 1 (x := .int .i64 0) rfl; have dX2 := fun o => blk_cell (hXo o) 2 (x := .slice none 0 0) rfl; have dX3 := fun o => blk_cell (hXo o) 3 (x := .slice none 0 0) rfl)); (try (have hA := q5 (w1.heap.size) (.cells #[] 95) (by first | exact nest1 _ _ | exact (nest2 _ _ _).1 | exact (nest2 _ _ _).2 | exact (nest3 _ _ _ _).1 | exact (nest3 _ _ _ _).2.1 | exact (nest3 _ _ _ _).2.2) (by omega))); (try (have hA := q5 (w1.heap.size + 1) (.cells #[] 95) (by first | exact nest1 _ _ | exact (nest2 _ _ _).1 | exact (nest2 _ _ _).2 | exact (nest3 _ _ _ _).1 | exact (nest3 _ _ _ _).2.1 | exact (nest3 _ _ _ _).2.2) (by omega))); (try (have hA := q5 (w1.heap.size + 1 + 1) (.cells #[] 95) (by first | exact nest1 _ _ | exact (nest2 _ _ _).1 | exact (nest2 _ _ _).2 | exact (nest3 _ _ _ _).1 | exact (nest3 _ _ _ _).2.1 | exact (nest3 _ _ _ _).2.2) (by omega))); have B5 : Hid (Below w1.heap.size w1 w5) := b5; clear q5; try go_simp))
    all_goals go_wp2_with fail
    all_goals go_meet
    all_goals first | with_reducible exact fin1 hA o5 B5.out (by omega) | with_reducible exact fin2 hX hA o5 B5.out (by omega) (by omega) | with_reducible exact fin3 o5 B5.out | with_reducible exact fin4 o5 B5.out | with_reducible exact fin5 hX o5 B5.out (by omega)
  case rest =>
    obtain ⟨x, a2, c2, a3, c3, rfl, hiv⟩ := hcut.iv
    have HI : Hid (Iv w1 wc tm nx x (.slice a2 0 c2) (.slice a3 ss.length c3) [] ss) := hiv
    obtain ⟨j0, hj0, hjz, hj1, hj2⟩ := info_parts infoW
    obtain ⟨l0, hl0, hlz, hl1, hl2⟩ := info_parts infoL
    clear hiv hcut x0 x1 x3 hxs HK hi0 hz0 hz1 hz2
    go_wp2_with fail
    go_loopw [4] (fun i wr => ∃ (k : Nat) (a2 : Option Addr) (c2 : Nat) (ps : List LkA), k ≤ ls.length ∧ i = .int .i64 k ∧ Hid (Iv w1 wr tm nx x (.slice a2 k c2) (.slice a3 ss.length c3) ps ss ∧ ps.map (·.1) = ls.take k)) (fun i _ => ls.length - (intOf i).toNat)
    case atStart => exact ⟨0, a2, c2, [], by omega, rfl, HI.out, rfl⟩
    case round =>
      clear HI a2 c2
      obtain ⟨k, a2, c2, ps, hk, rfl, HO⟩ := hrel
      have x2 := (blk_cell (HX.out wr HO.out.1.bel).1 2 (x := .slice la ls.length lc) rfl).1
      by_cases hlt : k < ls.length
      · obtain ⟨z, hz⟩ := Tw.get_at hlt
        have hr := (HX.out wr HO.out.1.bel).2.2.1
        obtain ⟨lb, off, rfl, _, u, e0, e1, e2, e3, e4, e5⟩ := RowG.at hr rfl hz
        obtain ⟨ua, uc, rfl⟩ := RowG.slice e5
        have HU : Hid (RowW wr (.slice ua z.ws.length uc) z.ws) := e5
        have HZZ : Hid (ls[k]? = some z) := hz
        have HZ : Hid (z.ws.length ≤ 1000) := HW.out z (Tw.mem_at hz)
        clear hr hz e5
        go_upto_region 6 with fail
        have H4 : Hid ((wr.alloc (.cells #[.string z.n, .int .i64 z.t, .int .i64 z.h, .int .i64 z.e, .slice ua z.ws.length uc] 95)).heap[wr.heap.size]? = some (.cells #[.string z.n, .int .i64 z.t, .int .i64 z.h, .int .i64 z.e, .slice ua z.ws.length uc] 95 (0, 0)) ∧ Iv w1 (wr.alloc (.cells #[.string z.n, .int .i64 z.t, .int .i64 z.h, .int .i64 z.e, .slice ua z.ws.length uc] 95)) tm nx x (.slice a2 k c2) (.slice a3 ss.length c3) ps ss ∧ RowW (wr.alloc (.cells #[.string z.n, .int .i64 z.t, .int .i64 z.h, .int .i64 z.e, .slice ua z.ws.length uc] 95)) (.slice ua z.ws.length uc) z.ws ∧ wr.heap.size < (wr.alloc (.cells #[.string z.n, .int .i64 z.t, .int .i64 z.h, .int .i64 z.e, .slice ua z.ws.length uc] 95)).heap.size ∧ w1.heap.size ≤ wr.heap.size ∧ x ≠ wr.heap.size ∧ (Value.slice a2 k c2).ownBlock ≠ some wr.heap.size ∧ (Value.slice a3 ss.length c3).ownBlock ≠ some wr.heap.size ∧ ∀ p ∈ ps, (uV p).ownBlock ≠ some wr.heap.size) :=
          ⟨blk_new _ _ _, HO.out.1.up (bel_new _ _), HU.out.below (bel_new _ _), by rw [size_new]; omega, HO.out.1.bel.size, by have := (Array.getElem?_eq_some_iff.1 HO.out.1.hx).1; omega, fun e => absurd (HO.out.1.ol.lt _ e).2 (by omega), fun e => absurd (HO.out.1.os.lt _ e).2 (by omega), fun p hp e => absurd ((HO.out.1.ow p hp).lt _ e).2 (by omega)⟩
        have HT : Hid (ps.map (·.1) = ls.take k ∧ ps.length = k) := ⟨HO.out.2, by rw [← List.length_map (f := (·.1)), HO.out.2, List.length_take]; omega⟩
        clear HO HU e0 e1 e2 e3 e4 x2
        generalize wr.alloc (.cells #[.string z.n, .int .i64 z.t, .int .i64 z.h, .int .i64 z.e, .slice ua z.ws.length uc] 95) = w4 at H4 ⊢
        generalize wr.heap.size = y at H4 ⊢
        have c4 := (blk_cell H4.out.1 4 (x := .slice ua z.ws.length uc) rfl).1
        have d4 := fun o => (blk_cell ((Below.heap_alloc w4 o y H4.out.2.2.2.1).trans H4.out.1) 4 (x := .slice ua z.ws.length uc) rfl).1
        go_upto_region 7 with (at_builtin; go_must (refine appW (by rfl) _ _ 93 (by rfl) j0 Tryz.underlying93 hj0 hjz hj1 hj2 w4.heap.size w4 (w4.alloc (.cells #[] 111)) (.slice (some ⟨w4.heap.size, 0, none⟩) 0 0) (.slice ua z.ws.length uc) [] z.ws (by rfl) (OwnW.made _ _ (Nat.le_refl _)) (bel_new _ _) (by rw [size_new]; omega) (by rfl) (H4.out.2.2.1.below (bel_new _ _)) (by have := HZ.out; simp; omega) ?_; intro v6 w6 o6 b6 _; rw [List.nil_append] at o6; obtain ⟨a6, k6, rfl⟩ := OwnW.slice o6; have H5 : Hid (OwnW w6 w4.heap.size (.slice a6 z.ws.length k6) z.ws ∧ Below w4.heap.size w4 w6 ∧ w6.heap[y]? = some (.cells #[.string z.n, .int .i64 z.t, .int .i64 z.h, .int .i64 z.e, .slice ua z.ws.length uc] 95 (0, 0))) := ⟨o6, b6, (b6.block y H4.out.2.2.2.1).trans H4.out.1⟩; obtain ⟨d4', f4⟩ := blk_cell H5.out.2.2 4 (x := .slice ua z.ws.length uc) rfl; clear o6 b6 c4 d4))
        have H7 : Hid (OwnW (w6.setCell ⟨y, 4, none⟩ (.slice a6 z.ws.length k6)) w1.heap.size (uV (z, a6, k6)) z.ws ∧ Iv w1 (w6.setCell ⟨y, 4, none⟩ (.slice a6 z.ws.length k6)) tm nx x (.slice a2 k c2) (.slice a3 ss.length c3) ps ss ∧ (w6.setCell ⟨y, 4, none⟩ (.slice a6 z.ws.length k6)).heap[y]? = some (.cells #[.string z.n, .int .i64 z.t, .int .i64 z.h, .int .i64 z.e, .slice a6 z.ws.length k6] 95 (0, 0))) := by
          obtain ⟨_, q2, _, q4, q5, q6, q7, q8, q9⟩ := H4.out
          have h5 := H5.out
          exact ⟨(h5.1.kept (fun g hg => blk_far (by have := (h5.1.lt g hg).1; omega) _ _)).mono (by omega), (q2.up h5.2.1).far y 4 _ q5 q6 q7 q8 q9, blk_set h5.2.2 4 _⟩
        have HAP : Hid (Apart (ps ++ [(z, a6, k6)])) := Apart.push H4.out.2.1.ap (G := w4.heap.size) (fun g hg => (H5.out.1.lt g hg).1) (fun p hp g hg => ((H4.out.2.1.ow p hp).lt g hg).2)
        clear H4 H5 d4' f4
        generalize w6.setCell ⟨y, 4, none⟩ (.slice a6 z.ws.length k6) = w7 at H7 ⊢
        have g0 := (blk_cell H7.out.2.2 0 (x := .string z.n) rfl).1
        have g1 := (blk_cell H7.out.2.2 1 (x := .int .i64 z.t) rfl).1
        have g2 := (blk_cell H7.out.2.2 2 (x := .int .i64 z.h) rfl).1
        have g3 := (blk_cell H7.out.2.2 3 (x := .int .i64 z.e) rfl).1
        have g4 := (blk_cell H7.out.2.2 4 (x := .slice a6 z.ws.length k6) rfl).1
        have gx := (blk_cell H7.out.2.1.hx 2 (x := .slice a2 k c2) rfl).1
        have HLN : Hid ((ps ++ [(z, a6, k6)]).length = k + 1) := by show _ = _; rw [List.length_append, HT.out.2]; rfl
        go_wp2_with (at_builtin; go_must (refine list_lk (by rfl) _ _ 27 (by rfl) l0 Tryz.underlying27 hl0 hlz hl1 hl2 w1.heap.size w1 w7 (.slice a2 k c2) ps (z, a6, k6) (by rfl) H7.out.2.1.ol H7.out.2.1.bel H7.out.2.1.bel.size w7.heap.size (by rfl) rfl (by have := HT.out.2; omega) ?_; intro v8 w8 o8 b8 k8; obtain ⟨a8, c8, rfl⟩ := OwnL.slice' o8 HLN.out; have I8 : Hid (Iv w1 (w8.setCell ⟨x, 2, none⟩ (.slice a8 (k + 1) c8)) tm nx x (.slice a8 (k + 1) c8) (.slice a3 ss.length c3) (ps ++ [(z, a6, k6)]) ss) := H7.out.2.1.put (z, a6, k6) H7.out.1 o8 b8 k8 HAP.out; obtain ⟨d8, f8⟩ := blk_cell (H7.out.2.1.kx k8) 2 (x := .slice a2 k c2) rfl; clear o8 b8 k8))
        exact ⟨⟨k + 1, a8, c8, ps ++ [(z, a6, k6)], by omega, by go_num, I8.out, by rw [List.map_append, HT.out.1, take_at HZZ.out]; rfl⟩, by simp [intOf]; omega⟩
      · obtain rfl : k = ls.length := by omega
        have H1 : Hid (Iv w1 wr tm nx x (.slice a2 ls.length c2) (.slice a3 ss.length c3) ps ss ∧ ps.map (·.1) = ls) := ⟨HO.out.1, by rw [HO.out.2, List.take_length]⟩
        have AX : Hid (wr.heap[w.heap.size + 1]? = some (.cells #[.int .i64 0, .int .i64 0, .slice none 0 0, .slice none 0 0] 30 (0, 0))) := (HX.out wr HO.out.1.bel).2.1
        have BW : Hid (Below w.heap.size w wr) := (HX.out wr HO.out.1.bel).2.2.2.2
        have HAF : Hid (Apart ps) := HO.out.1.ap
        clear HO
        have p0 := (blk_cell H1.out.1.hx 0 (x := .int .i64 tm) rfl).1
        have p1 := (blk_cell H1.out.1.hx 1 (x := .int .i64 nx) rfl).1
        have p2 := (blk_cell H1.out.1.hx 2 (x := .slice a2 ls.length c2) rfl).1
        have p3 := (blk_cell H1.out.1.hx 3 (x := .slice a3 ss.length c3) rfl).1
        obtain ⟨m0, n0⟩ := blk_cell AX.out 0 (x := .int .i64 0) rfl
        obtain ⟨m1, n1⟩ := blk_cell AX.out 1 (x := .int .i64 0) rfl
        obtain ⟨m2, n2⟩ := blk_cell AX.out 2 (x := .slice none 0 0) rfl
        obtain ⟨m3, n3⟩ := blk_cell AX.out 3 (x := .slice none 0 0) rfl
        have AF : ((((wr.setCell ⟨w.heap.size + 1, 0, none⟩ (.int .i64 tm)).setCell ⟨w.heap.size + 1, 1, none⟩ (.int .i64 nx)).setCell ⟨w.heap.size + 1, 2, none⟩ (.slice a2 ls.length c2)).setCell ⟨w.heap.size + 1, 3, none⟩ (.slice a3 ss.length c3)).heap[w.heap.size + 1]? = some (.cells #[.int .i64 tm, .int .i64 nx, .slice a2 ls.length c2, .slice a3 ss.length c3] 30 (0, 0)) := set4 AX.out _ _ _ _
        have RF : Hid (OwnL ((((wr.setCell ⟨w.heap.size + 1, 0, none⟩ (.int .i64 tm)).setCell ⟨w.heap.size + 1, 1, none⟩ (.int .i64 nx)).setCell ⟨w.heap.size + 1, 2, none⟩ (.slice a2 ls.length c2)).setCell ⟨w.heap.size + 1, 3, none⟩ (.slice a3 ss.length c3)) w.heap.size (.slice a2 ls.length c2) ps ∧ (∀ p ∈ ps, OwnW ((((wr.setCell ⟨w.heap.size + 1, 0, none⟩ (.int .i64 tm)).setCell ⟨w.heap.size + 1, 1, none⟩ (.int .i64 nx)).setCell ⟨w.heap.size + 1, 2, none⟩ (.slice a2 ls.length c2)).setCell ⟨w.heap.size + 1, 3, none⟩ (.slice a3 ss.length c3)) w.heap.size (uV p) p.1.ws) ∧ OwnS ((((wr.setCell ⟨w.heap.size + 1, 0, none⟩ (.int .i64 tm)).setCell ⟨w.heap.size + 1, 1, none⟩ (.int .i64 nx)).setCell ⟨w.heap.size + 1, 2, none⟩ (.slice a2 ls.length c2)).setCell ⟨w.heap.size + 1, 3, none⟩ (.slice a3 ss.length c3)) w.heap.size (.slice a3 ss.length c3) ss) := H1.out.1.done w.heap.size (w.heap.size + 1) (by rw [HS1.out]; omega) (by rw [HS1.out]; omega) (.int .i64 tm) (.int .i64 nx) (.slice a2 ls.length c2) (.slice a3 ss.length c3)
        have GF : Below w.heap.size w ((((wr.setCell ⟨w.heap.size + 1, 0, none⟩ (.int .i64 tm)).setCell ⟨w.heap.size + 1, 1, none⟩ (.int .i64 nx)).setCell ⟨w.heap.size + 1, 2, none⟩ (.slice a2 ls.length c2)).setCell ⟨w.heap.size + 1, 3, none⟩ (.slice a3 ss.length c3)) := Below.setCell (Below.setCell (Below.setCell (Below.setCell BW.out (p := ⟨w.heap.size + 1, 0, none⟩) (Nat.le_succ _) _) (p := ⟨w.heap.size + 1, 1, none⟩) (Nat.le_succ _) _) (p := ⟨w.heap.size + 1, 2, none⟩) (Nat.le_succ _) _) (p := ⟨w.heap.size + 1, 3, none⟩) (Nat.le_succ _) _
        go_wp2_with fail
        generalize (((wr.setCell ⟨w.heap.size + 1, 0, none⟩ (.int .i64 tm)).setCell ⟨w.heap.size + 1, 1, none⟩ (.int .i64 nx)).setCell ⟨w.heap.size + 1, 2, none⟩ (.slice a2 ls.length c2)).setCell ⟨w.heap.size + 1, 3, none⟩ (.slice a3 ss.length c3) = wf at AF RF GF ⊢
        have d0 := (blk_cell AF 0 (x := .int .i64 tm) rfl).1
        have d1 := (blk_cell AF 1 (x := .int .i64 nx) rfl).1
        have d2 := (blk_cell AF 2 (x := .slice a2 ls.length c2) rfl).1
        have d3 := (blk_cell AF 3 (x := .slice a3 ss.length c3) rfl).1
        exact bodyPost_ret (v := tabV tm nx (.slice a2 ls.length c2) (.slice a3 ss.length c3)) (by simp [tabV, results, Tryz.results40, go_sem, d0, d1, d2, d3]) rfl ⟨_, _, ps, rfl, ⟨RF.out.1, RF.out.2.1, H1.out.2, HAF.out⟩, RF.out.2.2, GF⟩
theorem l05Own_any (tm nx : Int) (vl vs : Value) (ls : List Lk) (ss : List Sn) (w : World) (hl : RowL w vl ls) (hs : RowS w vs ss) (hw : ∀ x ∈ ls, x.ws.length ≤ 1000) (hy1 : ls.length ≤ 1000) (hy2 : ss.length ≤ 1000) :
    Calls Tryz.prog 40 #[tabV tm nx vl vs] w fun e w' => ∃ ul us ps, e = .returned (tabV tm nx ul us) ∧ (OwnL w' w.heap.size ul ps ∧ (∀ p ∈ ps, OwnW w' w.heap.size (uV p) p.1.ws) ∧ ps.map (·.1) = ls) ∧ RowS w' us ss ∧ Below w.heap.size w w' :=
  (l05Own_all tm nx vl vs ls ss w hl hs hw hy1 hy2).mono fun _ _ ⟨ul, us, ps, h1, ⟨h2, h3, h4, _⟩, h5, h6⟩ => ⟨ul, us, ps, h1, ⟨h2, h3, h4⟩, h5.row, h6⟩
end Go.Proofs.YtlgfeohoebmbcaaGreat.Lo
