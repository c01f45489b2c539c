/- Texts put together: Eb, Ee, Fd. -/
import Derived.Test.YtakfniknkejgpaaDoorMt23
import Derived.Test.YtakfniknkejgpaaDoorMt24
import Derived.Deep.RegionLaw
import Derived.Deep.RegionHeldLaw
/- l05Grant and l05Free: a lock is given to a client, or freed, in a table at work. -/
namespace Go.Proofs.YtakfniknkejgpaaDoor.Ea
open Go.RowKit Go.Proofs.YtakfniknkejgpaaDoor.Sl Go.Proofs.YtakfniknkejgpaaDoor.By Go.Proofs.YtakfniknkejgpaaDoor.Ap Go.Proofs.YtakfniknkejgpaaDoor.Tb Go.Proofs.YtakfniknkejgpaaDoor.Tw Go.Proofs.YtakfniknkejgpaaDoor.Mw Go.Proofs.YtakfniknkejgpaaDoor.Wa Go.Proofs.YtakfniknkejgpaaDoor.Tp Go.Proofs.YtakfniknkejgpaaDoor.Da
open Go.Proofs.YtakfniknkejgpaaDoor.Lo (LkA uV clL OwnL OwnL.kept OwnL.lt OwnL.below OwnL.row OwnL.slice own_block kind_ne Apart)
open Go.Proofs.YtakfniknkejgpaaDoor.Tx (blk_cell blk_set blk_far blk_new bel_new)

theorem add_small {a b : Int} (h0 : 0 ≤ a) (h1 : a ≤ 1000000000) (h2 : 0 ≤ b) (h3 : b ≤ 1000000000) : Tm.adT a b = a + b := by unfold Tm.adT; omega
theorem set_at {α : Type} {ps : List α} {k : Nat} {p q : α} (h : ps[k]? = some p) : (ps.set k q)[k]? = some q := by rw [List.getElem?_set]; simp [(List.getElem?_eq_some_iff.1 h).1]
set_option maxRecDepth 100000 in
set_option maxHeartbeats 3200000 in
theorem l05Grant_any {w0 w : World} {B x : Nat} {T : Tab} {v2 v3 : Value} {ps : List LkA} (h : TM w0 w B x T v2 v3 ps) {k : Nat} {p : LkA} (hk : ps[k]? = some p) (cl le : Int) (ht0 : 0 ≤ T.tm) (ht1 : T.tm ≤ 1000000000) (hn0 : 1 ≤ T.nx) (hn1 : T.nx ≤ 999999) (hle0 : 0 ≤ le) (hle1 : le ≤ 1000) :
 Calls Tryd.prog 125 #[.pointer (some ⟨x, 0, none⟩), .int .i64 (k : Int), .int .i64 cl, .int .i64 le] w fun e w' => e = .returned (.tuple #[]) ∧ TM w0 w' B x { T with nx := T.nx + 1, ls := T.ls.set k (grL T.tm T.nx p.1 cl le) } v2 v3 (ps.set k (grL T.tm T.nx p.1 cl le, p.2)) ∧ Oth w w' := by
 have hkl : k < ps.length := (List.getElem?_eq_some_iff.1 hk).1
 have hkI : (k : Int) < (ps.length : Int) := by omega
 obtain ⟨g, cap, rfl, hgB, hgx, hcap, hcell⟩ := h.row hk
 obtain ⟨m2, f2⟩ := hcell 2 (.int .i64 p.1.h) rfl
 have hadd := add_small ht0 ht1 hle0 (by omega : le ≤ 1000000000)
 have HAD : Hid (∀ W, Calls Tryd.prog 118 #[.int .i64 T.tm, .int .i64 le] W fun e w' => e = .returned (.int .i64 (T.tm + le)) ∧ w' = W) := fun W => by
  have := Tm.specAddTime_any T.tm le W (by omega) (by omega)
  rwa [hadd] at this
 have hmin : min (1000000 : Int) (T.nx + 1) = T.nx + 1 := by omega
 have hmin2 : ¬ (1000000 : Int) < T.nx + 1 := by omega
 -- the holder
 have H1 : Hid (TM w0 (w.setCell ⟨g, k * 5 + 2, none⟩ (.int .i64 cl)) B x { T with ls := T.ls.set k { p.1 with h := cl } } (.slice (some ⟨g, 0, none⟩) ps.length cap) v3 (ps.set k ({ p.1 with h := cl }, p.2)) ∧ (ps.set k ({ p.1 with h := cl }, p.2))[k]? = some ({ p.1 with h := cl }, p.2)) := ⟨h.put hk (q := ({ p.1 with h := cl }, p.2)) rfl (by decide) (h.ow p (List.mem_of_getElem? hk)) (h.ap.set hk rfl) hgB, set_at hk⟩
 have HLEN : Hid ((ps.set k (({ p.1 with h := cl } : Lk), p.2)).length = ps.length) := List.length_set
 have x0 := (blk_cell h.hx 0 (x := .int .i64 T.tm) rfl).1
 have x1 := (blk_cell h.hx 1 (x := .int .i64 T.nx) rfl).1
 have x2 := (blk_cell h.hx 2 (x := .slice (some ⟨g, 0, none⟩) ps.length cap) rfl).1
 have HP : Hid (OwnW w B (uV p) p.1.ws) := h.ow p (List.mem_of_getElem? hk)
 have HGB : Hid (B ≤ g) := hgB
 have OT1 : Hid (Oth w (w.setCell ⟨g, k * 5 + 2, none⟩ (.int .i64 cl))) := h.othL _ _
 clear h hcell hadd
 go_enter Tryd.func125, Tryd.ntmps125
 go_upto_region 1 with fail
 generalize w.setCell ⟨g, k * 5 + 2, none⟩ (.int .i64 cl) = w1 at H1 OT1 ⊢
 clear m2 f2 x0 x1 x2
 have x0 := (blk_cell H1.out.1.hx 0 (x := .int .i64 T.tm) rfl).1
 have x1 := (blk_cell H1.out.1.hx 1 (x := .int .i64 T.nx) rfl).1
 have x2 := (blk_cell H1.out.1.hx 2 (x := .slice (some ⟨g, 0, none⟩) ps.length cap) rfl).1
 obtain ⟨m1, f1⟩ : w1.cell? ⟨g, k * 5 + 1, none⟩ = some (.int .i64 p.1.t) ∧ w1.frozen? ⟨g, k * 5 + 1, none⟩ = false := by
  obtain ⟨g', cap', e, _, _, _, hc⟩ := H1.out.1.row H1.out.2
  rw [HLEN.out] at e
  cases e
  exact hc 1 (.int .i64 p.1.t) rfl
 have H2 : Hid (TM w0 (w1.setCell ⟨g, k * 5 + 1, none⟩ (.int .i64 T.nx)).drew B x { T with ls := (T.ls.set k ({ p.1 with h := cl } : Lk)).set k ({ p.1 with h := cl, t := T.nx } : Lk) } (.slice (some ⟨g, 0, none⟩) ps.length cap) v3 ((ps.set k (({ p.1 with h := cl } : Lk), p.2)).set k (({ p.1 with h := cl, t := T.nx } : Lk), p.2))) := (H1.out.1.put H1.out.2 (q := (({ p.1 with h := cl, t := T.nx } : Lk), p.2)) rfl (by decide) (H1.out.1.ow (({ p.1 with h := cl } : Lk), p.2) (List.mem_of_getElem? H1.out.2)) (H1.out.1.ap.set H1.out.2 rfl) HGB.out).up (Below.refl _ _).drew
 rw [List.set_set, List.set_set] at H2
 have OT2 : Hid (Oth w (w1.setCell ⟨g, k * 5 + 1, none⟩ (.int .i64 T.nx)).drew) := OT1.out.trans (H1.out.1.othL _ _).drew
 go_region_held_law (fun W => W.cell? ⟨x, 0, none⟩ = some (.int .i64 T.tm) ∧ W.cell? ⟨x, 1, none⟩ = some (.int .i64 T.nx) ∧ W.cell? ⟨x, 2, none⟩ = some (.slice (some ⟨g, 0, none⟩) ps.length cap)) (first | exact ⟨x0, x1, x2⟩ | exact ⟨(blk_cell H2.out.hx 0 rfl).1, (blk_cell H2.out.hx 1 rfl).1, (blk_cell H2.out.hx 2 rfl).1⟩) (fail)
 all_goals
  go_upto_region 2 with fail
  clear m1 f1 x0 x1 x2 H1
  generalize (w1.setCell ⟨g, k * 5 + 1, none⟩ (.int .i64 T.nx)).drew = w2 at H2 OT2 ⊢
  have HL2 : Hid ((ps.set k (({ p.1 with h := cl, t := T.nx } : Lk), p.2)).length = ps.length ∧ (ps.set k (({ p.1 with h := cl, t := T.nx } : Lk), p.2))[k]? = some (({ p.1 with h := cl, t := T.nx } : Lk), p.2)) := ⟨List.length_set, set_at hk⟩
  have x0 := (blk_cell H2.out.hx 0 (x := .int .i64 T.tm) rfl).1
  have x1 := (blk_cell H2.out.hx 1 (x := .int .i64 T.nx) rfl).1
  have x2 := (blk_cell H2.out.hx 2 (x := .slice (some ⟨g, 0, none⟩) ps.length cap) rfl).1
  obtain ⟨m3, f3⟩ : w2.cell? ⟨g, k * 5 + 3, none⟩ = some (.int .i64 p.1.e) ∧ w2.frozen? ⟨g, k * 5 + 3, none⟩ = false := by
   obtain ⟨g', cap', e, _, _, _, hc⟩ := H2.out.row HL2.out.2
   rw [HL2.out.1] at e
   cases e
   exact hc 3 (.int .i64 p.1.e) rfl
  have H3 : Hid (TM w0 (w2.setCell ⟨g, k * 5 + 3, none⟩ (.int .i64 (T.tm + le))).drew B x { T with ls := (T.ls.set k ({ p.1 with h := cl, t := T.nx } : Lk)).set k (grL T.tm T.nx p.1 cl le) } (.slice (some ⟨g, 0, none⟩) ps.length cap) v3 ((ps.set k (({ p.1 with h := cl, t := T.nx } : Lk), p.2)).set k ((grL T.tm T.nx p.1 cl le), p.2))) := (H2.out.put HL2.out.2 (q := ((grL T.tm T.nx p.1 cl le), p.2)) rfl (by decide) (H2.out.ow (({ p.1 with h := cl, t := T.nx } : Lk), p.2) (List.mem_of_getElem? HL2.out.2)) (H2.out.ap.set HL2.out.2 rfl) HGB.out).up (Below.refl _ _).drew
  rw [List.set_set, List.set_set] at H3
  have OT3 : Hid (Oth w (w2.setCell ⟨g, k * 5 + 3, none⟩ (.int .i64 (T.tm + le))).drew) := OT2.out.trans (H2.out.othL _ _).drew
  go_region_held_law (fun W => W.cell? ⟨x, 0, none⟩ = some (.int .i64 T.tm) ∧ W.cell? ⟨x, 1, none⟩ = some (.int .i64 T.nx) ∧ W.cell? ⟨x, 2, none⟩ = some (.slice (some ⟨g, 0, none⟩) ps.length cap)) (first | exact ⟨x0, x1, x2⟩ | exact ⟨(blk_cell H3.out.hx 0 rfl).1, (blk_cell H3.out.hx 1 rfl).1, (blk_cell H3.out.hx 2 rfl).1⟩) ((go_simp; go_at_call 118; (with_reducible refine (HAD.out _).mono ?_); rintro e w5 ⟨rfl, rfl⟩; try go_simp))
  all_goals
   go_upto_region 3 with fail
   clear m3 f3 x0 x1 x2 H2
   generalize (w2.setCell ⟨g, k * 5 + 3, none⟩ (.int .i64 (T.tm + le))).drew = w3 at H3 OT3 ⊢
   obtain ⟨y1, z1⟩ := blk_cell H3.out.hx 1 (x := .int .i64 T.nx) rfl
   have H4 : Hid (TM w0 (w3.setCell ⟨x, 1, none⟩ (.int .i64 (T.nx + 1))) B x { T with nx := T.nx + 1, ls := T.ls.set k (grL T.tm T.nx p.1 cl le) } (.slice (some ⟨g, 0, none⟩) ps.length cap) v3 (ps.set k ((grL T.tm T.nx p.1 cl le), p.2))) := H3.out.box 1 _ rfl rfl rfl
   have OT4 : Hid (Oth w (w3.setCell ⟨x, 1, none⟩ (.int .i64 (T.nx + 1)))) := OT3.out.trans (H3.out.othX _ _)
   go_wp2_with fail
   go_end0
   exact ⟨rfl, H4.out, OT4.out⟩
theorem frL_nil {tm nx : Int} {y : Lk} (h : y.ws = []) : frL tm nx y = { y with h := -1, e := 0 } ∧ frN nx y = nx := by unfold frL frN; rw [h]; exact ⟨rfl, rfl⟩
theorem frL_cons {tm nx : Int} {y : Lk} {a : Wt} {r : List Wt} (h : y.ws = a :: r) : frL tm nx y = grL tm nx { y with ws := r } a.c a.l ∧ frN nx y = nx + 1 := by unfold frL frN; rw [h]; exact ⟨rfl, rfl⟩
theorem row_tail {w : World} {b off cap n : Nat} {a : Wt} {r : List Wt} (h : RowW w (.slice (some ⟨b, off, none⟩) n cap) (a :: r)) : RowW w (.slice (some ⟨b, off + 2, none⟩) r.length (cap - 1)) r := by
 obtain ⟨a', cap', e, h⟩ := h
 cases e
 refine ⟨_, _, rfl, ?_⟩
 rcases h with h | ⟨b', off', e, hc, hlt, hx⟩
 ·cases h
 cases e
 refine .inr ⟨b, off + 2, rfl, by simp at hc; omega, hlt, fun i y hi => ?_⟩
 have := hx (i + 1) y (by simpa using hi)
 rwa [show off + (i + 1) * 2 = off + 2 + i * 2 by omega] at this
def FrP (w0 : World) (B x : Nat) (T : Tab) (v2 v3 : Value) (ps : List LkA) (k : Nat) (p : LkA) (w' : World) : Prop := ∃ q : LkA, q.1 = frL T.tm T.nx p.1 ∧ TM w0 w' B x { T with nx := frN T.nx p.1, ls := T.ls.set k q.1 } v2 v3 (ps.set k q)
set_option maxRecDepth 100000 in
set_option maxHeartbeats 3200000 in
theorem l05Free_any {w0 w : World} {B x : Nat} {T : Tab} {v2 v3 : Value} {ps : List LkA} (h : TM w0 w B x T v2 v3 ps) {k : Nat} {p : LkA} (hk : ps[k]? = some p) (ht0 : 0 ≤ T.tm) (ht1 : T.tm ≤ 1000000000) (hn0 : 1 ≤ T.nx) (hn1 : T.nx ≤ 999999) (hw : p.1.ws.length ≤ 1000) (hle : ∀ y ∈ p.1.ws, 0 ≤ y.l ∧ y.l ≤ 1000) :
 Calls Tryd.prog 113 #[.pointer (some ⟨x, 0, none⟩), .int .i64 (k : Int)] w fun e w' => e = .returned (.tuple #[]) ∧ FrP w0 B x T v2 v3 ps k p w' ∧ Oth w w' := by
 have hkl : k < ps.length := (List.getElem?_eq_some_iff.1 hk).1
 have hkI : (k : Int) < (ps.length : Int) := by omega
 obtain ⟨g, cap, rfl, hgB, hgx, hcap, hcell⟩ := h.row hk
 have H : Hid (TM w0 w B x T (.slice (some ⟨g, 0, none⟩) ps.length cap) v3 ps) := h
 have HGB : Hid (B ≤ g) := hgB
 have x2 := (blk_cell h.hx 2 (x := .slice (some ⟨g, 0, none⟩) ps.length cap) rfl).1
 obtain ⟨m4, f4⟩ := hcell 4 (uV p) rfl
 obtain ⟨m2, f2⟩ := hcell 2 (.int .i64 p.1.h) rfl
 obtain ⟨m3, f3⟩ := hcell 3 (.int .i64 p.1.e) rfl
 clear h
 cases hws : p.1.ws with
 | nil =>
   have hu : uV p = .slice p.2.1 0 p.2.2 := by unfold uV; rw [hws]; rfl
   rw [hu] at m4
   have e1 := (frL_nil (tm := T.tm) (nx := T.nx) hws)
   have H1 : Hid (TM w0 (w.setCell ⟨g, k * 5 + 2, none⟩ (.int .i64 (-1))) B x { T with ls := T.ls.set k ({ p.1 with h := -1 } : Lk) } (.slice (some ⟨g, 0, none⟩) ps.length cap) v3 (ps.set k (({ p.1 with h := -1 } : Lk), p.2))) := H.out.put hk (q := (({ p.1 with h := -1 } : Lk), p.2)) rfl (by decide) (H.out.ow p (List.mem_of_getElem? hk)) (H.out.ap.set hk rfl) HGB.out
   have H2 : Hid (TM w0 ((w.setCell ⟨g, k * 5 + 2, none⟩ (.int .i64 (-1))).setCell ⟨g, k * 5 + 3, none⟩ (.int .i64 0)) B x { T with ls := (T.ls.set k ({ p.1 with h := -1 } : Lk)).set k ({ p.1 with h := -1, e := 0 } : Lk) } (.slice (some ⟨g, 0, none⟩) ps.length cap) v3 ((ps.set k (({ p.1 with h := -1 } : Lk), p.2)).set k (({ p.1 with h := -1, e := 0 } : Lk), p.2))) := H1.out.put (set_at hk) (q := (({ p.1 with h := -1, e := 0 } : Lk), p.2)) rfl (by decide) (H1.out.ow (({ p.1 with h := -1 } : Lk), p.2) (List.mem_of_getElem? (set_at hk))) (H1.out.ap.set (set_at hk) rfl) HGB.out
   rw [List.set_set, List.set_set] at H2
   have OT : Hid (Oth w ((w.setCell ⟨g, k * 5 + 2, none⟩ (.int .i64 (-1))).setCell ⟨g, k * 5 + 3, none⟩ (.int .i64 0))) := (H.out.othL _ _).trans (H1.out.othL _ _)
   have HE : Hid (frL T.tm T.nx p.1 = { p.1 with h := -1, e := 0 } ∧ frN T.nx p.1 = T.nx) := e1
   clear e1 hws hu hcell hle hw
   go_enter Tryd.func113, Tryd.ntmps113
   go_wp2_with fail
   refine bodyPost_ret (results_none rfl _ _ _) rfl ?_
   refine ⟨rfl, ⟨(({ p.1 with h := -1, e := 0 } : Lk), p.2), HE.out.1.symm, ?_⟩, OT.out⟩
   rw [HE.out.2]
   exact H2.out
 | cons a r =>
   obtain ⟨j0, hj0, hjz, hj1, hj2⟩ := info_parts infoW
   have HOW : Hid (OwnW w B (uV p) p.1.ws) := H.out.ow p (List.mem_of_getElem? hk)
   have hrow : RowW w (uV p) (a :: r) := hws ▸ HOW.out.row
   obtain ⟨pa, pcap, hpv⟩ := RowG.slice hrow
   rw [hpv] at m4 hrow
   obtain ⟨b, off, rfl, hbl, c0, c1⟩ := RowG.at hrow rfl (i := 0) (x := a) rfl
   rw [Nat.zero_mul, Nat.add_zero] at c0 c1
   have hpc : r.length + 1 ≤ pcap := by
    obtain ⟨_, _, e, hh⟩ := id hrow
    cases e
    rcases hh with hh | ⟨_, _, _, hc, _⟩
    ·cases hh
    ·exact hc
   have HT : Hid (∀ W, Below w.heap.size w W → RowW W (.slice (some ⟨b, off + 2, none⟩) r.length (pcap - 1)) r) := fun W hW => (row_tail hrow).below hW
   have HT0 : Hid (∀ W, r.length = 0 → RowW W (.slice (some ⟨b, off, none⟩) r.length 0) r) := fun W h0 => ⟨_, _, rfl, .inl (List.length_eq_zero_iff.1 h0)⟩
   have hla := hle a (by rw [hws]; exact List.mem_cons_self)
   have hrl : r.length ≤ 1000 := by rw [hws] at hw; simp at hw; omega
   have HE : Hid (frL T.tm T.nx p.1 = grL T.tm T.nx { p.1 with ws := r } a.c a.l ∧ frN T.nx p.1 = T.nx + 1) := frL_cons hws
   have HB : Hid (TM w0 (w.alloc (.cells #[.int .i64 a.c, .int .i64 a.l] 93)) B x T (.slice (some ⟨g, 0, none⟩) ps.length cap) v3 ps ∧ (w.alloc (.cells #[.int .i64 a.c, .int .i64 a.l] 93)).heap[w.heap.size]? = some (.cells #[.int .i64 a.c, .int .i64 a.l] 93 (0, 0)) ∧ Below w.heap.size w (w.alloc (.cells #[.int .i64 a.c, .int .i64 a.l] 93))) := ⟨H.out.up (bel_new _ _), blk_new _ _ _, bel_new _ _⟩
   have hlen0 : ((r.length + 1 : Nat) : Int) = (r.length : Int) + 1 := by omega
   have hwb : (w.alloc (.cells #[.int .i64 a.c, .int .i64 a.l] 93)).cell? ⟨g, k * 5 + 4, none⟩ = some (.slice (some ⟨b, off, none⟩) (r.length + 1) pcap) := by
    rw [(bel_new w _).cell (p := ⟨g, k * 5 + 4, none⟩) (World.block_lt_of_cell? w _ m4)]
    exact m4
   clear hws hle hw hcell hpv hrow
   go_enter Tryd.func113, Tryd.ntmps113
   go_upto_region 5 with fail
   generalize w.alloc (.cells #[.int .i64 a.c, .int .i64 a.l] 93) = wb at HB hwb ⊢
   have HT2 : Hid (∀ o, RowW (wb.alloc o) (.slice (some ⟨b, off + 2, none⟩) r.length (pcap - 1)) r) := fun o => HT.out _ (HB.out.2.2.trans ((bel_new wb o).mono HB.out.2.2.size))
   have OTB : Hid (Oth w wb) := Oth.of_below HB.out.2.2
   generalize w.heap.size = bw at HB ⊢
   clear m2 f2 m3 f3 m4 f4 x2 c0 c1 hbl
   have hwa : ∀ o, (wb.alloc o).cell? ⟨g, k * 5 + 4, none⟩ = some (.slice (some ⟨b, off, none⟩) (r.length + 1) pcap) := fun o => by
    rw [(bel_new wb o).cell (p := ⟨g, k * 5 + 4, none⟩) (World.block_lt_of_cell? wb _ hwb)]
    exact hwb
   have hfz : wb.frozen? ⟨g, k * 5 + 4, none⟩ = false := by
    obtain ⟨g', cap', e, _, _, _, hc⟩ := HB.out.1.row hk
    cases e
    exact (hc 4 (uV p) rfl).2
   have HFZ : Hid (∀ W, TM w0 W B x T (.slice (some ⟨g, 0, none⟩) ps.length cap) v3 ps → W.frozen? ⟨g, k * 5 + 4, none⟩ = false ∧ ∃ u, W.cell? ⟨g, k * 5 + 4, none⟩ = some u) := fun W hW => by
    obtain ⟨g', cap', e, _, _, _, hc⟩ := hW.row hk
    cases e
    exact ⟨(hc 4 (uV p) rfl).2, _, (hc 4 (uV p) rfl).1⟩
   by_cases hp1 : pcap = 1
   ·subst hp1
    obtain rfl : r = [] := List.length_eq_zero_iff.1 (by omega)
    rw [List.length_nil, Nat.zero_add] at hwb
    simp only [List.length_nil, Nat.zero_add] at hwa
    go_upto_region 6 with (at_builtin; go_must (refine appW (by rfl) _ _ 50 (by rfl) j0 Tryd.underlying50 hj0 hjz hj1 hj2 wb.heap.size wb (wb.alloc (.cells #[] 93)) (.slice (some ⟨wb.heap.size, 0, none⟩) 0 0) (.slice (some ⟨b, off, none⟩) 0 0) [] [] (by rfl) (OwnW.made _ _ (Nat.le_refl _)) (bel_new _ _) (bel_new wb _).size (by rfl) ⟨_, _, rfl, .inl rfl⟩ (by simp; try omega) ?_; intro v6 w6 o6 b6 _; rw [List.nil_append] at o6; obtain ⟨a6, c6, rfl⟩ := OwnW.slice o6; have T6 : Hid (TM w0 w6 B x T (.slice (some ⟨g, 0, none⟩) ps.length cap) v3 ps ∧ OwnW w6 wb.heap.size (.slice a6 0 c6) [] ∧ Below wb.heap.size wb w6) := ⟨HB.out.1.up b6, o6, b6⟩; clear o6 b6; obtain ⟨f6, u6, m6⟩ := HFZ.out _ T6.out.1; (try rw [List.length_nil])))
    have H7 : Hid (TM w0 (w6.setCell ⟨g, k * 5 + 4, none⟩ (.slice a6 0 c6)) B x { T with ls := T.ls.set k ({ p.1 with ws := [] } : Lk) } (.slice (some ⟨g, 0, none⟩) ps.length cap) v3 (ps.set k (({ p.1 with ws := [] } : Lk), a6, c6)) ∧ (w6.setCell ⟨g, k * 5 + 4, none⟩ (.slice a6 0 c6)).heap[bw]? = some (.cells #[.int .i64 a.c, .int .i64 a.l] 93 (0, 0))) := by
     refine ⟨T6.out.1.put hk (q := (({ p.1 with ws := [] } : Lk), a6, c6)) rfl (by decide) (T6.out.2.1.mono HB.out.1.size) (Apart.fresh T6.out.1.ap (G := wb.heap.size) (fun g' hg' => (T6.out.2.1.lt g' hg').1) (fun p' hp' g' hg' => ((HB.out.1.ow p' hp').lt g' hg').2)) HGB.out, ?_⟩
     have h1 := (T6.out.2.2.block bw (Array.getElem?_eq_some_iff.1 HB.out.2.1).1).trans HB.out.2.1
     obtain ⟨cl, hcl⟩ := own_block T6.out.1.ol (g := g) rfl
     exact (blk_far (kind_ne h1 hcl (by decide)) _ _).trans h1
    have OT7 : Hid (Oth w (w6.setCell ⟨g, k * 5 + 4, none⟩ (.slice a6 0 c6))) := (OTB.out.trans (Oth.of_below T6.out.2.2)).trans (T6.out.1.othL _ _)
    clear f6 m6 hwb hwa hfz HFZ HT2 HT0 HT T6 HB
    generalize w6.setCell ⟨g, k * 5 + 4, none⟩ (.slice a6 0 c6) = w7 at H7 OT7 ⊢
    have d0 := (blk_cell H7.out.2 0 (x := .int .i64 a.c) rfl).1
    have d1 := (blk_cell H7.out.2 1 (x := .int .i64 a.l) rfl).1
    have HG := l05Grant_any H7.out.1 (set_at hk) a.c a.l ht0 ht1 hn0 hn1 hla.1 hla.2
    go_wp2_with fail
    refine HG.mono ?_
    rintro e w8 ⟨rfl, t8, ot8⟩
    have OT8 : Hid (Oth w w8) := OT7.out.trans ot8
    clear ot8
    have T8 : Hid (FrP w0 B x T (.slice (some ⟨g, 0, none⟩) ps.length cap) v3 ps k p w8) := by
     refine ⟨(grL T.tm T.nx ({ p.1 with ws := [] } : Lk) a.c a.l, a6, c6), HE.out.1.symm, ?_⟩
     rw [HE.out.2]
     rw [List.set_set, List.set_set] at t8
     exact t8
    clear t8 d0 d1 H7
    go_wp2_with fail
    go_end0
    exact ⟨rfl, T8.out, OT8.out⟩
   ·go_upto_region 6 with (at_builtin; go_must (refine appW (by rfl) _ _ 50 (by rfl) j0 Tryd.underlying50 hj0 hjz hj1 hj2 wb.heap.size wb (wb.alloc (.cells #[] 93)) (.slice (some ⟨wb.heap.size, 0, none⟩) 0 0) (.slice (some ⟨b, off + 2, none⟩) r.length (pcap - 1)) [] r (by rfl) (OwnW.made _ _ (Nat.le_refl _)) (bel_new _ _) (bel_new wb _).size (by rfl) (HT2.out _) (by simp; try omega) ?_; intro v6 w6 o6 b6 _; rw [List.nil_append] at o6; obtain ⟨a6, c6, rfl⟩ := OwnW.slice o6; have T6 : Hid (TM w0 w6 B x T (.slice (some ⟨g, 0, none⟩) ps.length cap) v3 ps ∧ OwnW w6 wb.heap.size (.slice a6 r.length c6) r ∧ Below wb.heap.size wb w6) := ⟨HB.out.1.up b6, o6, b6⟩; clear o6 b6; obtain ⟨f6, u6, m6⟩ := HFZ.out _ T6.out.1; (try rw [List.length_nil])))
    have H7 : Hid (TM w0 (w6.setCell ⟨g, k * 5 + 4, none⟩ (.slice a6 r.length c6)) B x { T with ls := T.ls.set k ({ p.1 with ws := r } : Lk) } (.slice (some ⟨g, 0, none⟩) ps.length cap) v3 (ps.set k (({ p.1 with ws := r } : Lk), a6, c6)) ∧ (w6.setCell ⟨g, k * 5 + 4, none⟩ (.slice a6 r.length c6)).heap[bw]? = some (.cells #[.int .i64 a.c, .int .i64 a.l] 93 (0, 0))) := by
     refine ⟨T6.out.1.put hk (q := (({ p.1 with ws := r } : Lk), a6, c6)) rfl (by decide) (T6.out.2.1.mono HB.out.1.size) (Apart.fresh T6.out.1.ap (G := wb.heap.size) (fun g' hg' => (T6.out.2.1.lt g' hg').1) (fun p' hp' g' hg' => ((HB.out.1.ow p' hp').lt g' hg').2)) HGB.out, ?_⟩
     have h1 := (T6.out.2.2.block bw (Array.getElem?_eq_some_iff.1 HB.out.2.1).1).trans HB.out.2.1
     obtain ⟨cl, hcl⟩ := own_block T6.out.1.ol (g := g) rfl
     exact (blk_far (kind_ne h1 hcl (by decide)) _ _).trans h1
    have OT7 : Hid (Oth w (w6.setCell ⟨g, k * 5 + 4, none⟩ (.slice a6 r.length c6))) := (OTB.out.trans (Oth.of_below T6.out.2.2)).trans (T6.out.1.othL _ _)
    clear f6 m6 hwb hwa hfz HFZ HT2 HT0 HT T6 HB
    generalize w6.setCell ⟨g, k * 5 + 4, none⟩ (.slice a6 r.length c6) = w7 at H7 OT7 ⊢
    have d0 := (blk_cell H7.out.2 0 (x := .int .i64 a.c) rfl).1
    have d1 := (blk_cell H7.out.2 1 (x := .int .i64 a.l) rfl).1
    have HG := l05Grant_any H7.out.1 (set_at hk) a.c a.l ht0 ht1 hn0 hn1 hla.1 hla.2
    go_wp2_with fail
    refine HG.mono ?_
    rintro e w8 ⟨rfl, t8, ot8⟩
    have OT8 : Hid (Oth w w8) := OT7.out.trans ot8
    clear ot8
    have T8 : Hid (FrP w0 B x T (.slice (some ⟨g, 0, none⟩) ps.length cap) v3 ps k p w8) := by
     refine ⟨(grL T.tm T.nx ({ p.1 with ws := r } : Lk) a.c a.l, a6, c6), HE.out.1.symm, ?_⟩
     rw [HE.out.2]
     rw [List.set_set, List.set_set] at t8
     exact t8
    clear t8 d0 d1 H7
    go_wp2_with fail
    go_end0
    exact ⟨rfl, T8.out, OT8.out⟩
end Go.Proofs.YtakfniknkejgpaaDoor.Ea

/- A table at work: one that waits is added; a lock is put in between. -/
namespace Go.Proofs.YtakfniknkejgpaaDoor.Ea
open Go.RowKit Go.Proofs.YtakfniknkejgpaaDoor.Sl Go.Proofs.YtakfniknkejgpaaDoor.By Go.Proofs.YtakfniknkejgpaaDoor.Ap Go.Proofs.YtakfniknkejgpaaDoor.Tb Go.Proofs.YtakfniknkejgpaaDoor.Tw Go.Proofs.YtakfniknkejgpaaDoor.Mw Go.Proofs.YtakfniknkejgpaaDoor.Wa Go.Proofs.YtakfniknkejgpaaDoor.Tp Go.Proofs.YtakfniknkejgpaaDoor.Da
open Go.Proofs.YtakfniknkejgpaaDoor.Lo (LkA uV clL OwnL OwnL.kept OwnL.lt OwnL.below OwnL.row OwnL.slice own_block kind_ne Apart)
open Go.Proofs.YtakfniknkejgpaaDoor.Tx (blk_cell blk_set blk_far blk_new bel_new)

theorem TM.wadd {w0 w w' : World} {B x : Nat} {T : Tab} {v3 : Value} {ps : List LkA} {g cap n : Nat} (h : TM w0 w B x T (.slice (some ⟨g, 0, none⟩) n cap) v3 ps) {k : Nat} {p : LkA} (hk : ps[k]? = some p) (hg : B ≤ g) {ws : List Wt} {a' : Option Addr} {c' : Nat}
 (ho : OwnW w' B (.slice a' ws.length c') ws) (hgr : w.grownBy w' (uV p).ownBlock) (hat : (Value.slice a' ws.length c').ownBlock = (uV p).ownBlock ∨ (Value.slice a' ws.length c').ownBlock = some w.heap.size) :
 TM w0 (w'.setCell ⟨g, k * 5 + 4, none⟩ (.slice a' ws.length c')) B x { T with ls := T.ls.set k { p.1 with ws := ws } } (.slice (some ⟨g, 0, none⟩) n cap) v3 (ps.set k ({ p.1 with ws := ws }, a', c')) := by
 have hpw := h.ow p (List.mem_of_getElem? hk)
 have hkl : k < ps.length := (List.getElem?_eq_some_iff.1 hk).1
 obtain ⟨cl, hcl⟩ := own_block h.ol (g := g) rfl
 have kx : ∀ (b : Nat) (cs : Array Value) (e : TypeId), w.heap[b]? = some (.cells cs e (0, 0)) → e ≠ 93 → w'.heap[b]? = w.heap[b]? := fun b cs e hb he => hgr.block b (Array.getElem?_eq_some_iff.1 hb).1 (fun e2 => by
  obtain ⟨c2, h2⟩ := own_block hpw e2.symm
  exact kind_ne hb h2 he rfl)
 have hcl' : w'.heap[g]? = some (.cells cl 52 (0, 0)) := (kx g cl _ hcl (by decide)).trans hcl
 have hx' := (kx x _ _ h.hx (by decide)).trans h.hx
 have ol' : OwnL w' B (.slice (some ⟨g, 0, none⟩) n cap) ps := h.ol.kept (fun g' hg' => by
  obtain ⟨c1, h1⟩ := own_block h.ol hg'
  exact kx g' c1 _ h1 (by decide))
 have os' : OwnS w' B v3 T.ss := h.os.kept (fun g' hg' => by
  obtain ⟨c1, h1⟩ := own_block h.os hg'
  exact kx g' c1 _ h1 (by decide))
 have far : ∀ (u : Value) (zs : List Wt), OwnW w' B u zs → OwnW (w'.setCell ⟨g, k * 5 + 4, none⟩ (.slice a' ws.length c')) B u zs := fun u zs hu => hu.kept (fun g' hg' => by
  obtain ⟨c1, h1⟩ := own_block hu hg'
  exact blk_far (kind_ne h1 hcl' (by decide)) _ _)
 have hbel : Below B w0 w' := h.bel.grown hgr h.size (fun j hj => (hpw.lt j hj).1)
 refine ⟨(blk_far (kind_ne hx' hcl' (by decide)) _ _).trans hx', OwnL.set ol' hk (q := ({ p.1 with ws := ws }, a', c')) rfl (by decide), os'.kept (fun g' hg' => ?_), fun q hq => ?_, ?_, map_set h.eq, Below.setCell hbel (p := ⟨g, _, none⟩) hg _, h.b0, h.le⟩
 ·obtain ⟨c1, h1⟩ := own_block os' hg'
  exact blk_far (kind_ne h1 hcl' (by decide)) _ _
 ·obtain ⟨i, hi, e⟩ := List.mem_iff_getElem.1 hq
  have hq2 : (ps.set k (({ p.1 with ws := ws } : Lk), a', c'))[i]? = some q := by rw [List.getElem?_eq_getElem hi, e]
  by_cases hik : k = i
  ·subst hik
   rw [set_at hk] at hq2
   cases hq2
   exact far _ _ ho
  ·rw [List.getElem?_set, if_neg hik] at hq2
   have hqw := h.ow q (List.mem_of_getElem? hq2)
   exact far _ _ (hqw.kept (fun g' hg' => hgr.block g' (hqw.lt g' hg').2 (fun e2 => h.ap i k q p hq2 hk (fun e3 => hik e3.symm) g' hg' e2.symm)))
 ·rcases hat with hat | hat
  ·exact h.ap.set hk hat
  ·exact Apart.fresh h.ap (G := w.heap.size) (fun g' hg' => by rw [show uV (({ p.1 with ws := ws } : Lk), a', c') = .slice a' ws.length c' from rfl, hat] at hg'; cases hg'; exact Nat.le_refl _) (fun q hq g' hg' => ((h.ow q hq).lt g' hg').2)
theorem TM.reloc {w0 w w' : World} {B x : Nat} {T : Tab} {v2 v3 v' : Value} {ps qs : List LkA} (h : TM w0 w B x T v2 v3 ps) (hb : Below w.heap.size w w') (ho : OwnL w' B v' qs) (hw : ∀ q ∈ qs, OwnW w' B (uV q) q.1.ws) (ha : Apart qs) :
 TM w0 (w'.setCell ⟨x, 2, none⟩ v') B x { T with ls := qs.map (·.1) } v' v3 qs := by
 have h2 := h.up hb
 refine ⟨by rw [blk_set h2.hx]; rfl, ho.kept (fun g hg => ?_), h2.os.kept (fun g hg => ?_), fun p hp => (hw p hp).kept (fun g hg => ?_), ha, rfl, Below.setCell h2.bel (p := ⟨x, _, none⟩) h.le v', h.b0, h.le⟩
 ·obtain ⟨c1, h1⟩ := own_block ho hg
  exact blk_far (kind_ne h1 h2.hx (by decide)) _ _
 ·obtain ⟨c1, h1⟩ := own_block h2.os hg
  exact blk_far (kind_ne h1 h2.hx (by decide)) _ _
 ·obtain ⟨c1, h1⟩ := own_block (hw p hp) hg
  exact blk_far (kind_ne h1 h2.hx (by decide)) _ _
theorem Apart.ins {ps : List LkA} (h : Apart ps) {k : Nat} (hk : k ≤ ps.length) {q : LkA} {G : Nat} (hq : ∀ g, (uV q).ownBlock = some g → G ≤ g) (hp : ∀ p ∈ ps, ∀ g, (uV p).ownBlock = some g → g < G) : Apart (putAt ps k q) := by
 intro i j a c ha hc hij g hg hg2
 rw [putAt_at hk] at ha hc
 have key : ∀ (i : Nat) (a : LkA), (if i < k then ps[i]? else if i = k then some q else ps[i - 1]?) = some a → (i = k ∧ a = q) ∨ ∃ m, ps[m]? = some a ∧ (if i < k then m = i else m + 1 = i) ∧ i ≠ k := fun i a ha => by
  by_cases h1 : i < k
  ·rw [if_pos h1] at ha; exact .inr ⟨i, ha, by rw [if_pos h1], by omega⟩
  ·rw [if_neg h1] at ha
   by_cases h2 : i = k
   ·rw [if_pos h2] at ha; cases ha; exact .inl ⟨h2, rfl⟩
   ·rw [if_neg h2] at ha; exact .inr ⟨i - 1, ha, by rw [if_neg h1]; omega, h2⟩
 rcases key i a ha with ⟨ei, ea⟩ | ⟨m, hm, em, _⟩
 ·rcases key j c hc with ⟨ej, ec⟩ | ⟨m', hm', em', _⟩
  ·omega
  ·rw [ea] at hg
   have := hq g hg
   have := hp c (List.mem_of_getElem? hm') g hg2
   omega
 ·rcases key j c hc with ⟨ej, ec⟩ | ⟨m', hm', em', _⟩
  ·rw [ec] at hg2
   have := hq g hg2
   have := hp a (List.mem_of_getElem? hm) g hg
   omega
  ·refine h m m' a c hm hm' (fun e => hij ?_) g hg hg2
   subst e
   split at em <;> split at em' <;> omega
end Go.Proofs.YtakfniknkejgpaaDoor.Ea

/- What requests do to tables: one, and one behind the other; right tables stay right. -/
namespace Go.Proofs.YtakfniknkejgpaaDoor.Da
open Go.RowKit Go.Proofs.YtakfniknkejgpaaDoor.Tb Go.Proofs.YtakfniknkejgpaaDoor.Tw Go.Proofs.YtakfniknkejgpaaDoor.Tp Go.Proofs.YtakfniknkejgpaaDoor.Rq

def newL (nm : ByteArray) : Lk := ⟨nm, 0, -1, 0, []⟩
def doT (t : Tab) (r : Ask) : Tab × An :=
 match idx t.ls r.nm with
 | some k => (⟨t.tm, acN t.nx r (t.ls.getD k default), t.ls.set k (acL t.tm t.nx r (t.ls.getD k default)), t.ss⟩, tell (acK r (t.ls.getD k default)) (acL t.tm t.nx r (t.ls.getD k default)))
 | none => if r.kd ≠ 1 then (t, bare 3) else if 4 ≤ t.ls.length then (t, bare 6) else
   (⟨t.tm, acN t.nx r (newL r.nm), putAt t.ls (plc t.ls r.nm) (acL t.tm t.nx r (newL r.nm)), t.ss⟩, tell (acK r (newL r.nm)) (acL t.tm t.nx r (newL r.nm)))
def AnOK (a : An) : Prop := AnsOK a.k a.t a.h a.e
theorem bare_ok {k : Int} (h1 : 1 ≤ k) (h2 : k ≤ 8) : AnOK (bare k) := ⟨inB_of h1 h2, inB_of (show (0 : Int) ≤ 0 by decide) (show (0 : Int) ≤ 1000000 by decide), inB_of (show (-1 : Int) ≤ -1 by decide) (show (-1 : Int) ≤ 255 by decide), inB_of (show (0 : Int) ≤ 0 by decide) (show (0 : Int) ≤ 2000000000 by decide)⟩
theorem stK_in (x : Lk) : 1 ≤ stK x ∧ stK x ≤ 8 := by unfold stK; split <;> omega
theorem acK_in (r : Ask) (x : Lk) : 1 ≤ acK r x ∧ acK r x ≤ 8 := by
 have := stK_in x
 unfold acK
 repeat' split
 all_goals omega
theorem hd_in {x : Lk} (h : HdOK x) : (-1 ≤ x.h ∧ x.h ≤ 255) ∧ 0 ≤ x.e ∧ x.e ≤ 2000000000 := by
 rcases h with ⟨h1, h2, _⟩ | ⟨_, h2, h3, _⟩
 ·omega
 ·have := inB_le h2; have := inB_le h3; omega
theorem tell_ok {k : Int} {x : Lk} (h1 : 1 ≤ k) (h2 : k ≤ 8) (h : HdOK x) (h3 : 0 ≤ x.t) (h4 : x.t ≤ 1000000) : AnOK (tell k x) := by
 have := hd_in h
 exact ⟨inB_of h1 h2, inB_of h3 h4, inB_of this.1.1 this.1.2, inB_of this.2.1 this.2.2⟩
theorem new_hd (nm : ByteArray) : HdOK (newL nm) := .inl ⟨rfl, rfl, rfl⟩
theorem doT_nx (t : Tab) (r : Ask) : t.nx ≤ (doT t r).1.nx ∧ (doT t r).1.nx ≤ t.nx + 1 := by
 unfold doT
 repeat' split
 all_goals first | exact acN_le _ _ _ | (simp only; omega)
theorem doT_ss (t : Tab) (r : Ask) : (doT t r).1.ss = t.ss ∧ (doT t r).1.tm = t.tm := by
 unfold doT
 repeat' split
 all_goals exact ⟨rfl, rfl⟩
theorem doT_ok {t : Tab} {r : Ask} (h : TOK t) (hr : AskOK r) (he : less ⟨#[]⟩ r.nm = true) (hn : t.nx ≤ 999999) : TOK (doT t r).1 ∧ AnOK (doT t r).2 := by
 obtain ⟨a1, a2, a3, a4, a5, a6⟩ := h
 have b1 := inB_le a1
 have b2 := inB_le a2
 unfold doT
 split
 ·rename_i k hk
  obtain ⟨x, hx, hxn⟩ := fiP_some _ _ hk
  have e : t.ls.getD k default = x := by rw [List.getD_eq_getElem?_getD, hx]; rfl
  rw [e]
  obtain ⟨c1, c2, c3, c4⟩ := a4 k x hx
  have c5 := inB_le c3
  have d1 := acL_tok (tm := t.tm) (nx := t.nx) (r := r) (x := x) c5.1 c5.2 (by omega)
  have d2 := acN_le t.nx r x
  have d3 := acL_hd (tm := t.tm) (nx := t.nx) c4 hr b1.1 b1.2
  have d4 := acK_in r x
  exact ⟨⟨a1, inB_of (show 1 ≤ acN t.nx r x by omega) (show acN t.nx r x ≤ 1000000 by omega), by simp only [List.length_set]; exact a3, set_ok a4 d2.1 hx (acL_name _ _ _ _) (inB_of d1.1 d1.2) d3, a5, a6⟩, tell_ok d4.1 d4.2 d3 d1.1 (by omega)⟩
 ·rename_i hk
  split
  ·exact ⟨⟨a1, a2, a3, a4, a5, a6⟩, bare_ok (by decide) (by decide)⟩
  ·split
   ·exact ⟨⟨a1, a2, a3, a4, a5, a6⟩, bare_ok (by decide) (by decide)⟩
   ·rename_i h4
    have d1 := acL_tok (tm := t.tm) (nx := t.nx) (r := r) (x := newL r.nm) (show (0 : Int) ≤ 0 by decide) (show (0 : Int) ≤ t.nx - 1 by omega) (by omega)
    have d2 := acN_le t.nx r (newL r.nm)
    have d3 := acL_hd (tm := t.tm) (nx := t.nx) (new_hd r.nm) hr b1.1 b1.2
    have d4 := acK_in r (newL r.nm)
    have d5 : (acL t.tm t.nx r (newL r.nm)).n = r.nm := acL_name _ _ _ _
    have d6 := put_ok (x := acL t.tm t.nx r (newL r.nm)) (ls_up a4 d2.1) (by rw [d5]; exact hk) (by rw [d5]; exact hr.2.2.2) (by rw [d5]; exact he) (inB_of d1.1 d1.2) d3
    rw [d5] at d6
    exact ⟨⟨a1, inB_of (show 1 ≤ acN t.nx r (newL r.nm) by omega) (show acN t.nx r (newL r.nm) ≤ 1000000 by omega), by simp only; rw [show plc t.ls r.nm = plP (fun y : Lk => less y.n r.nm) t.ls from rfl, putAt_len (plP_le _)]; omega, d6, a5, a6⟩, tell_ok d4.1 d4.2 d3 d1.1 (by omega)⟩
def sn (r : Ask) (a : An) : Sn := ⟨r.cl, r.st, a.k, a.t, a.h, a.e⟩
def ansOf (s : Sn) : An := ⟨s.k, s.t, s.h, s.e⟩
def sidx (ss : List Sn) (c : Int) : Option Nat := fiP (fun s => s.c == c) ss
def splc (ss : List Sn) (c : Int) : Nat := plP (fun s => decide (s.c < c)) ss
theorem pc_put {ss : List Sn} {k : Nat} {x : Sn} (hk : k ≤ ss.length) (i : Nat) : pc (putAt ss k x) i = if i ≤ k then pc ss i else if i = k + 1 then x.c + 1 else pc ss (i - 1) := by
 unfold pc
 by_cases h0 : i = 0
 ·subst h0; simp
 ·rw [if_neg h0, List.getD_eq_getElem?_getD, putAt_at hk]
  by_cases h1 : i ≤ k
  ·rw [if_pos h1, if_pos (by omega), if_neg h0, List.getD_eq_getElem?_getD]
  ·rw [if_neg h1, if_neg (by omega)]
   by_cases h2 : i = k + 1
   ·rw [if_pos h2, if_pos (by omega)]; rfl
   ·rw [if_neg h2, if_neg (by omega), if_neg (by omega), List.getD_eq_getElem?_getD]
theorem sput_ok {ss : List Sn} {x : Sn} (h : SsOK ss) (hn : sidx ss x.c = none) (h1 : inB x.c 0 255 = true) (h2 : inB x.s 1 65535 = true) (h3 : AnsOK x.k x.t x.h x.e) : SsOK (putAt ss (splc ss x.c) x) := by
 have hk := plP_le (p := fun s : Sn => decide (s.c < x.c)) ss
 have b1 := inB_le h1
 unfold splc
 intro i l hl
 rw [putAt_at hk] at hl
 rw [pc_put hk]
 generalize hK : plP (fun s : Sn => decide (s.c < x.c)) ss = k at hk hl ⊢
 by_cases g1 : i < k
 ·rw [if_pos g1] at hl
  rw [if_pos (by omega)]
  exact h i l hl
 ·rw [if_neg g1] at hl
  by_cases g2 : i = k
  ·rw [if_pos g2] at hl
   obtain rfl : x = l := by simpa using hl
   rw [if_pos (by omega)]
   refine ⟨inB_of ?_ b1.2, h2, h3⟩
   subst g2
   unfold pc
   by_cases h0 : i = 0
   ·rw [if_pos h0]; exact b1.1
   ·rw [if_neg h0, List.getD_eq_getElem?_getD]
    obtain ⟨y, hy⟩ : ∃ y, ss[i - 1]? = some y := ⟨_, List.getElem?_eq_getElem (show i - 1 < ss.length by omega)⟩
    rw [hy]
    have := plP_before (p := fun s : Sn => decide (s.c < x.c)) ss (i - 1) y (by omega) hy
    simp at this
    show y.c + 1 ≤ x.c
    omega
  ·rw [if_neg g2] at hl
   rw [if_neg (by omega)]
   obtain ⟨a1, a2, a3⟩ := h (i - 1) l hl
   have b2 := inB_le a1
   by_cases g3 : i = k + 1
   ·rw [if_pos g3]
    refine ⟨inB_of ?_ b2.2, a2, a3⟩
    have e : i - 1 = k := by omega
    have q1 : ¬ l.c < x.c := by
     rw [e, ← hK] at hl
     have := plP_here (p := fun s : Sn => decide (s.c < x.c)) ss l hl
     simpa using this
    have q2 : l.c ≠ x.c := by
     have := fiP_none (p := fun s : Sn => s.c == x.c) ss hn (i - 1) l hl
     simpa using this
    omega
   ·rw [if_neg g3]
    exact ⟨a1, a2, a3⟩
theorem sset_ok {ss : List Sn} {k : Nat} {x y : Sn} (h : SsOK ss) (hx : ss[k]? = some x) (hc : y.c = x.c) (h2 : inB y.s 1 65535 = true) (h3 : AnsOK y.k y.t y.h y.e) : SsOK (ss.set k y) := by
 have hp : ∀ i, pc (ss.set k y) i = pc ss i := fun i => by
  unfold pc
  by_cases h0 : i = 0
  ·rw [if_pos h0, if_pos h0]
  ·rw [if_neg h0, if_neg h0, List.getD_eq_getElem?_getD, List.getD_eq_getElem?_getD, List.getElem?_set]
   by_cases e : k = i - 1
   ·rw [if_pos e]
    subst e
    rw [if_pos (List.getElem?_eq_some_iff.1 hx).1, hx]
    show y.c + 1 = x.c + 1
    rw [hc]
   ·rw [if_neg e]
 intro i l hl
 rw [hp]
 rw [List.getElem?_set] at hl
 by_cases e : k = i
 ·subst e
  rw [if_pos rfl, if_pos (List.getElem?_eq_some_iff.1 hx).1] at hl
  obtain rfl : y = l := by simpa using hl
  obtain ⟨a1, _, _⟩ := h k x hx
  exact ⟨by rw [hc]; exact a1, h2, h3⟩
 ·rw [if_neg e] at hl
  exact h i l hl
def apT (t : Tab) (now : Int) (r : Ask) : Tab × An :=
 match sidx t.ss r.cl with
 | some k =>
   if r.st = (t.ss.getD k default).s then (exT t now, ansOf (t.ss.getD k default))
   else if r.st < (t.ss.getD k default).s then (exT t now, bare 7)
   else ({ (doT (exT t now) r).1 with ss := t.ss.set k (sn r (doT (exT t now) r).2) }, (doT (exT t now) r).2)
 | none => if 6 ≤ t.ss.length then (exT t now, bare 6)
   else ({ (doT (exT t now) r).1 with ss := putAt t.ss (splc t.ss r.cl) (sn r (doT (exT t now) r).2) }, (doT (exT t now) r).2)
theorem exT_nx (t : Tab) (now : Int) (h : t.ls.length ≤ 4) : t.nx ≤ (exT t now).nx ∧ (exT t now).nx ≤ t.nx + 4 := by
 have := exN_le (tm := max t.tm now) (nx := t.nx) (ls := t.ls) t.ls.length
 unfold exT
 simp only
 omega
theorem apT_ok {t : Tab} {now : Int} {r : Ask} (h : TOK t) (h0 : 0 ≤ now) (h1 : now ≤ 1000000000) (hr : AskOK r) (he : less ⟨#[]⟩ r.nm = true) (hn : t.nx ≤ 999990) : TOK (apT t now r).1 ∧ AnOK (apT t now r).2 ∧ (apT t now r).1.nx ≤ t.nx + 5 := by
 have hx := exT_ok h h0 h1 hn
 have hn1 := exT_nx t now h.2.2.1
 obtain ⟨a1, a2, a3, a4, a5, a6⟩ := h
 have hd := doT_ok hx hr he (by omega)
 have hd2 := doT_nx (exT t now) r
 unfold apT
 split
 ·rename_i k hk
  obtain ⟨s, hs, hsc⟩ := fiP_some _ _ hk
  have hsc' : s.c = r.cl := by simpa using hsc
  have e : t.ss.getD k default = s := by rw [List.getD_eq_getElem?_getD, hs]; rfl
  rw [e]
  split
  ·exact ⟨hx, (a6 k s hs).2.2, by simp only; omega⟩
  ·split
   ·exact ⟨hx, bare_ok (by decide) (by decide), by simp only; omega⟩
   ·obtain ⟨c1, c2, c3, c4, c5, c6⟩ := hd.1
    exact ⟨⟨c1, c2, c3, c4, by simp only [List.length_set]; exact a5, sset_ok a6 hs hsc'.symm hr.2.1 hd.2⟩, hd.2, by simp only; omega⟩
 ·rename_i hk
  split
  ·exact ⟨hx, bare_ok (by decide) (by decide), by simp only; omega⟩
  ·obtain ⟨c1, c2, c3, c4, c5, c6⟩ := hd.1
   exact ⟨⟨c1, c2, c3, c4, by simp only; rw [show splc t.ss r.cl = plP (fun s : Sn => decide (s.c < r.cl)) t.ss from rfl, putAt_len (plP_le _)]; omega, sput_ok (x := sn r (doT (exT t now) r).2) a6 hk hr.1 hr.2.1 hd.2⟩, hd.2, by simp only; omega⟩
def t0 : Tab := ⟨0, 1, [], []⟩
def runT : List (Ask × Int) → Nat → Tab
 | _, 0 => t0
 | rs, k + 1 => match rs[k]? with
   | some p => (apT (runT rs k) p.2 p.1).1
   | none => runT rs k
def runA (rs : List (Ask × Int)) (k : Nat) : List An := (List.range k).filterMap fun j => (rs[j]?).map fun p => (apT (runT rs j) p.2 p.1).2
theorem t0_ok : TOK t0 := ⟨by decide, by decide, by decide, fun i l hl => by simp [t0] at hl, by decide, fun i s hs => by simp [t0] at hs⟩
theorem runT_ok {rs : List (Ask × Int)} (h : ∀ p ∈ rs, AskOK p.1 ∧ less ⟨#[]⟩ p.1.nm = true ∧ 0 ≤ p.2 ∧ p.2 ≤ 1000000000) (hl : rs.length ≤ 200) : ∀ k, k ≤ rs.length → TOK (runT rs k) ∧ (runT rs k).nx ≤ 1 + 5 * k
 | 0, _ => by unfold runT; exact ⟨t0_ok, by simp [t0]⟩
 | k + 1, hk => by
   obtain ⟨ih1, ih2⟩ := runT_ok h hl k (by omega)
   obtain ⟨p, hp⟩ : ∃ p, rs[k]? = some p := ⟨_, List.getElem?_eq_getElem (show k < rs.length by omega)⟩
   obtain ⟨g1, g2, g3, g4⟩ := h p (List.mem_of_getElem? hp)
   have := apT_ok ih1 g3 g4 g1 g2 (by omega)
   rw [runT, hp]
   exact ⟨this.1, by simp only; omega⟩
end Go.Proofs.YtakfniknkejgpaaDoor.Da
