/- l05Grant and l05Free: a lock is given to a client, or freed, in a table at work. -/
import Derived.Test.YtlgfeohoebmbcaaGreatEa
import Derived.Test.YtlgfeohoebmbcaaGreatTm
import Derived.Deep.RegionLaw
import Derived.Deep.RegionHeldLaw
namespace Go.Proofs.YtlgfeohoebmbcaaGreat.Ea
open Go.RowKit Go.Proofs.YtlgfeohoebmbcaaGreat.Sl Go.Proofs.YtlgfeohoebmbcaaGreat.By Go.Proofs.YtlgfeohoebmbcaaGreat.Ap Go.Proofs.YtlgfeohoebmbcaaGreat.Tb Go.Proofs.YtlgfeohoebmbcaaGreat.Tw Go.Proofs.YtlgfeohoebmbcaaGreat.Mw Go.Proofs.YtlgfeohoebmbcaaGreat.Wa Go.Proofs.YtlgfeohoebmbcaaGreat.Tp Go.Proofs.YtlgfeohoebmbcaaGreat.Da
open Go.Proofs.YtlgfeohoebmbcaaGreat.Lo (LkA uV clL OwnL OwnL.kept OwnL.lt OwnL.below OwnL.row OwnL.slice own_block kind_ne Apart)
open Go.Proofs.YtlgfeohoebmbcaaGreat.Tx (blk_cell blk_set blk_far blk_new bel_new)

theorem add_small {a b : Int} (h0 : 0 ≤ a) (h1 : a ≤ 1000000000) (h2 : 0 ≤ b) (h3 : b ≤ 1000000000) : Tm.adT a b = a + b := by unfold Tm.adT; omega
theorem set_at {α : Type} {ps : List α} {k : Nat} {p q : α} (h : ps[k]? = some p) : (ps.set k q)[k]? = some q := by rw [List.getElem?_set]; simp [(List.getElem?_eq_some_iff.1 h).1]
set_option maxRecDepth 100000 in
set_option maxHeartbeats 3200000 in
theorem l05Grant_any {w0 w : World} {B x : Nat} {T : Tab} {v2 v3 : Value} {ps : List LkA} (h : TM w0 w B x T v2 v3 ps) {k : Nat} {p : LkA} (hk : ps[k]? = some p) (cl le : Int) (ht0 : 0 ≤ T.tm) (ht1 : T.tm ≤ 1000000000) (hn0 : 1 ≤ T.nx) (hn1 : T.nx ≤ 999999) (hle0 : 0 ≤ le) (hle1 : le ≤ 1000) :
    Calls Tryz.prog 93 #[.pointer (some ⟨x, 0, none⟩), .int .i64 (k : Int), .int .i64 cl, .int .i64 le] w fun e w' => e = .returned (.tuple #[]) ∧ TM w0 w' B x { T with nx := T.nx + 1, ls := T.ls.set k (grL T.tm T.nx p.1 cl le) } v2 v3 (ps.set k (grL T.tm T.nx p.1 cl le, p.2)) ∧ Oth w w' := by
  have hkl : k < ps.length := (List.getElem?_eq_some_iff.1 hk).1
  have hkI : (k : Int) < (ps.length : Int) := by omega
  obtain ⟨g, cap, rfl, hgB, hgx, hcap, hcell⟩ := h.row hk
  obtain ⟨m2, f2⟩ := hcell 2 (.int .i64 p.1.h) rfl
  have hadd := add_small ht0 ht1 hle0 (by omega : le ≤ 1000000000)
  have HAD : Hid (∀ W, Calls Tryz.prog 108 #[.int .i64 T.tm, .int .i64 le] W fun e w' => e = .returned (.int .i64 (T.tm + le)) ∧ w' = W) := fun W => by
    have := Tm.specAddTime_any T.tm le W (by omega) (by omega)
    rwa [hadd] at this
  have hmin : min (1000000 : Int) (T.nx + 1) = T.nx + 1 := by omega
  have hmin2 : ¬ (1000000 : Int) < T.nx + 1 := by omega
  -- the holder
  have H1 : Hid (TM w0 (w.setCell ⟨g, k * 5 + 2, none⟩ (.int .i64 cl)) B x { T with ls := T.ls.set k { p.1 with h := cl } } (.slice (some ⟨g, 0, none⟩) ps.length cap) v3 (ps.set k ({ p.1 with h := cl }, p.2)) ∧ (ps.set k ({ p.1 with h := cl }, p.2))[k]? = some ({ p.1 with h := cl }, p.2)) := ⟨h.put hk (q := ({ p.1 with h := cl }, p.2)) rfl (by decide) (h.ow p (List.mem_of_getElem? hk)) (h.ap.set hk rfl) hgB, set_at hk⟩
  have HLEN : Hid ((ps.set k (({ p.1 with h := cl } : Lk), p.2)).length = ps.length) := List.length_set
  have x0 := (blk_cell h.hx 0 (x := .int .i64 T.tm) rfl).1
  have x1 := (blk_cell h.hx 1 (x := .int .i64 T.nx) rfl).1
  have x2 := (blk_cell h.hx 2 (x := .slice (some ⟨g, 0, none⟩) ps.length cap) rfl).1
  have HP : Hid (OwnW w B (uV p) p.1.ws) := h.ow p (List.mem_of_getElem? hk)
  have HGB : Hid (B ≤ g) := hgB
  have OT1 : Hid (Oth w (w.setCell ⟨g, k * 5 + 2, none⟩ (.int .i64 cl))) := h.othL _ _
  clear h hcell hadd
  go_enter Tryz.func93, Tryz.ntmps93
  go_upto_region 1 with fail
  generalize w.setCell ⟨g, k * 5 + 2, none⟩ (.int .i64 cl) = w1 at H1 OT1 ⊢
  clear m2 f2 x0 x1 x2
  have x0 := (blk_cell H1.out.1.hx 0 (x := .int .i64 T.tm) rfl).1
  have x1 := (blk_cell H1.out.1.hx 1 (x := .int .i64 T.nx) rfl).1
  have x2 := (blk_cell H1.out.1.hx 2 (x := .slice (some ⟨g, 0, none⟩) ps.length cap) rfl).1
  obtain ⟨m1, f1⟩ : w1.cell? ⟨g, k * 5 + 1, none⟩ = some (.int .i64 p.1.t) ∧ w1.frozen? ⟨g, k * 5 + 1, none⟩ = false := by
    obtain ⟨g', cap', e, _, _, _, hc⟩ := H1.out.1.row H1.out.2
    rw [HLEN.out] at e
    cases e
    exact hc 1 (.int .i64 p.1.t) rfl
  have H2 : Hid (TM w0 (w1.setCell ⟨g, k * 5 + 1, none⟩ (.int .i64 T.nx)).drew B x { T with ls := (T.ls.set k ({ p.1 with h := cl } : Lk)).set k ({ p.1 with h := cl, t := T.nx } : Lk) } (.slice (some ⟨g, 0, none⟩) ps.length cap) v3 ((ps.set k (({ p.1 with h := cl } : Lk), p.2)).set k (({ p.1 with h := cl, t := T.nx } : Lk), p.2))) := (H1.out.1.put H1.out.2 (q := (({ p.1 with h := cl, t := T.nx } : Lk), p.2)) rfl (by decide) (H1.out.1.ow (({ p.1 with h := cl } : Lk), p.2) (List.mem_of_getElem? H1.out.2)) (H1.out.1.ap.set H1.out.2 rfl) HGB.out).up (Below.refl _ _).drew
  rw [List.set_set, List.set_set] at H2
  have OT2 : Hid (Oth w (w1.setCell ⟨g, k * 5 + 1, none⟩ (.int .i64 T.nx)).drew) := OT1.out.trans (H1.out.1.othL _ _).drew
  go_region_held_law (fun W => W.cell? ⟨x, 0, none⟩ = some (.int .i64 T.tm) ∧ W.cell? ⟨x, 1, none⟩ = some (.int .i64 T.nx) ∧ W.cell? ⟨x, 2, none⟩ = some (.slice (some ⟨g, 0, none⟩) ps.length cap)) (first | exact ⟨x0, x1, x2⟩ | exact ⟨(blk_cell H2.out.hx 0 rfl).1, (blk_cell H2.out.hx 1 rfl).1, (blk_cell H2.out.hx 2 rfl).1⟩) (fail)
  all_goals
    go_upto_region 2 with fail
    clear m1 f1 x0 x1 x2 H1
    generalize (w1.setCell ⟨g, k * 5 + 1, none⟩ (.int .i64 T.nx)).drew = w2 at H2 OT2 ⊢
    have HL2 : Hid ((ps.set k (({ p.1 with h := cl, t := T.nx } : Lk), p.2)).length = ps.length ∧ (ps.set k (({ p.1 with h := cl, t := T.nx } : Lk), p.2))[k]? = some (({ p.1 with h := cl, t := T.nx } : Lk), p.2)) := ⟨List.length_set, set_at hk⟩
    have x0 := (blk_cell H2.out.hx 0 (x := .int .i64 T.tm) rfl).1
    have x1 := (blk_cell H2.out.hx 1 (x := .int .i64 T.nx) rfl).1
    have x2 := (blk_cell H2.out.hx 2 (x := .slice (some ⟨g, 0, none⟩) ps.length cap) rfl).1
    obtain ⟨m3, f3⟩ : w2.cell? ⟨g, k * 5 + 3, none⟩ = some (.int .i64 p.1.e) ∧ w2.frozen? ⟨g, k * 5 + 3, none⟩ = false := by
      obtain ⟨g', cap', e, _, _, _, hc⟩ := H2.out.row HL2.out.2
      rw [HL2.out.1] at e
      cases e
      exact hc 3 (.int .i64 p.1.e) rfl
    have H3 : Hid (TM w0 (w2.setCell ⟨g, k * 5 + 3, none⟩ (.int .i64 (T.tm + le))).drew B x { T with ls := (T.ls.set k ({ p.1 with h := cl, t := T.nx } : Lk)).set k (grL T.tm T.nx p.1 cl le) } (.slice (some ⟨g, 0, none⟩) ps.length cap) v3 ((ps.set k (({ p.1 with h := cl, t := T.nx } : Lk), p.2)).set k ((grL T.tm T.nx p.1 cl le), p.2))) := (H2.out.put HL2.out.2 (q := ((grL T.tm T.nx p.1 cl le), p.2)) rfl (by decide) (H2.out.ow (({ p.1 with h := cl, t := T.nx } : Lk), p.2) (List.mem_of_getElem? HL2.out.2)) (H2.out.ap.set HL2.out.2 rfl) HGB.out).up (Below.refl _ _).drew
    rw [List.set_set, List.set_set] at H3
    have OT3 : Hid (Oth w (w2.setCell ⟨g, k * 5 + 3, none⟩ (.int .i64 (T.tm + le))).drew) := OT2.out.trans (H2.out.othL _ _).drew
    go_region_held_law (fun W => W.cell? ⟨x, 0, none⟩ = some (.int .i64 T.tm) ∧ W.cell? ⟨x, 1, none⟩ = some (.int .i64 T.nx) ∧ W.cell? ⟨x, 2, none⟩ = some (.slice (some ⟨g, 0, none⟩) ps.length cap)) (first | exact ⟨x0, x1, x2⟩ | exact ⟨(blk_cell H3.out.hx 0 rfl).1, (blk_cell H3.out.hx 1 rfl).1, (blk_cell H3.out.hx 2 rfl).1⟩) ((go_simp; go_at_call 108; (with_reducible refine (HAD.out _).mono ?_); rintro e w5 ⟨rfl, rfl⟩; try go_simp))
    all_goals
      go_upto_region 3 with fail
      clear m3 f3 x0 x1 x2 H2
      generalize (w2.setCell ⟨g, k * 5 + 3, none⟩ (.int .i64 (T.tm + le))).drew = w3 at H3 OT3 ⊢
      obtain ⟨y1, z1⟩ := blk_cell H3.out.hx 1 (x := .int .i64 T.nx) rfl
      have H4 : Hid (TM w0 (w3.setCell ⟨x, 1, none⟩ (.int .i64 (T.nx + 1))) B x { T with nx := T.nx + 1, ls := T.ls.set k (grL T.tm T.nx p.1 cl le) } (.slice (some ⟨g, 0, none⟩) ps.length cap) v3 (ps.set k ((grL T.tm T.nx p.1 cl le), p.2))) := H3.out.box 1 _ rfl rfl rfl
      have OT4 : Hid (Oth w (w3.setCell ⟨x, 1, none⟩ (.int .i64 (T.nx + 1)))) := OT3.out.trans (H3.out.othX _ _)
      go_wp2_with fail
      go_end0
      exact ⟨rfl, H4.out, OT4.out⟩
theorem frL_nil {tm nx : Int} {y : Lk} (h : y.ws = []) : frL tm nx y = { y with h := -1, e := 0 } ∧ frN nx y = nx := by unfold frL frN; rw [h]; exact ⟨rfl, rfl⟩
theorem frL_cons {tm nx : Int} {y : Lk} {a : Wt} {r : List Wt} (h : y.ws = a :: r) : frL tm nx y = grL tm nx { y with ws := r } a.c a.l ∧ frN nx y = nx + 1 := by unfold frL frN; rw [h]; exact ⟨rfl, rfl⟩
theorem row_tail {w : World} {b off cap n : Nat} {a : Wt} {r : List Wt} (h : RowW w (.slice (some ⟨b, off, none⟩) n cap) (a :: r)) : RowW w (.slice (some ⟨b, off + 2, none⟩) r.length (cap - 1)) r := by
  obtain ⟨a', cap', e, h⟩ := h
  cases e
  refine ⟨_, _, rfl, ?_⟩
  rcases h with h | ⟨b', off', e, hc, hlt, hx⟩
  · cases h
  cases e
  refine .inr ⟨b, off + 2, rfl, by simp at hc; omega, hlt, fun i y hi => ?_⟩
  have := hx (i + 1) y (by simpa using hi)
  rwa [show off + (i + 1) * 2 = off + 2 + i * 2 by omega] at this
/-- What l05Free leaves. -/
def FrP (w0 : World) (B x : Nat) (T : Tab) (v2 v3 : Value) (ps : List LkA) (k : Nat) (p : LkA) (w' : World) : Prop := ∃ q : LkA, q.1 = frL T.tm T.nx p.1 ∧ TM w0 w' B x { T with nx := frN T.nx p.1, ls := T.ls.set k q.1 } v2 v3 (ps.set k q)
set_option maxRecDepth 100000 in
set_option maxHeartbeats 3200000 in
theorem l05Free_any {w0 w : World} {B x : Nat} {T : Tab} {v2 v3 : Value} {ps : List LkA} (h : TM w0 w B x T v2 v3 ps) {k : Nat} {p : LkA} (hk : ps[k]? = some p) (ht0 : 0 ≤ T.tm) (ht1 : T.tm ≤ 1000000000) (hn0 : 1 ≤ T.nx) (hn1 : T.nx ≤ 999999) (hw : p.1.ws.length ≤ 1000) (hle : ∀ y ∈ p.1.ws, 0 ≤ y.l ∧ y.l ≤ 1000) :
    Calls Tryz.prog 69 #[.pointer (some ⟨x, 0, none⟩), .int .i64 (k : Int)] w fun e w' => e = .returned (.tuple #[]) ∧ FrP w0 B x T v2 v3 ps k p w' ∧ Oth w w' := by
  have hkl : k < ps.length := (List.getElem?_eq_some_iff.1 hk).1
  have hkI : (k : Int) < (ps.length : Int) := by omega
  obtain ⟨g, cap, rfl, hgB, hgx, hcap, hcell⟩ := h.row hk
  have H : Hid (TM w0 w B x T (.slice (some ⟨g, 0, none⟩) ps.length cap) v3 ps) := h
  have HGB : Hid (B ≤ g) := hgB
  have x2 := (blk_cell h.hx 2 (x := .slice (some ⟨g, 0, none⟩) ps.length cap) rfl).1
  obtain ⟨m4, f4⟩ := hcell 4 (uV p) rfl
  obtain ⟨m2, f2⟩ := hcell 2 (.int .i64 p.1.h) rfl
  obtain ⟨m3, f3⟩ := hcell 3 (.int .i64 p.1.e) rfl
  clear h
  cases hws : p.1.ws with
  | nil =>
    have hu : uV p = .slice p.2.1 0 p.2.2 := by unfold uV; rw [hws]; rfl
    rw [hu] at m4
    have e1 := (frL_nil (tm := T.tm) (nx := T.nx) hws)
    have H1 : Hid (TM w0 (w.setCell ⟨g, k * 5 + 2, none⟩ (.int .i64 (-1))) B x { T with ls := T.ls.set k ({ p.1 with h := -1 } : Lk) } (.slice (some ⟨g, 0, none⟩) ps.length cap) v3 (ps.set k (({ p.1 with h := -1 } : Lk), p.2))) := H.out.put hk (q := (({ p.1 with h := -1 } : Lk), p.2)) rfl (by decide) (H.out.ow p (List.mem_of_getElem? hk)) (H.out.ap.set hk rfl) HGB.out
    have H2 : Hid (TM w0 ((w.setCell ⟨g, k * 5 + 2, none⟩ (.int .i64 (-1))).setCell ⟨g, k * 5 + 3, none⟩ (.int .i64 0)) B x { T with ls := (T.ls.set k ({ p.1 with h := -1 } : Lk)).set k ({ p.1 with h := -1, e := 0 } : Lk) } (.slice (some ⟨g, 0, none⟩) ps.length cap) v3 ((ps.set k (({ p.1 with h := -1 } : Lk), p.2)).set k (({ p.1 with h := -1, e := 0 } : Lk), p.2))) := H1.out.put (set_at hk) (q := (({ p.1 with h := -1, e := 0 } : Lk), p.2)) rfl (by decide) (H1.out.ow (({ p.1 with h := -1 } : Lk), p.2) (List.mem_of_getElem? (set_at hk))) (H1.out.ap.set (set_at hk) rfl) HGB.out
    rw [List.set_set, List.set_set] at H2
    have OT : Hid (Oth w ((w.setCell ⟨g, k * 5 + 2, none⟩ (.int .i64 (-1))).setCell ⟨g, k * 5 + 3, none⟩ (.int .i64 0))) := (H.out.othL _ _).trans (H1.out.othL _ _)
    have HE : Hid (frL T.tm T.nx p.1 = { p.1 with h := -1, e := 0 } ∧ frN T.nx p.1 = T.nx) := e1
    clear e1 hws hu hcell hle hw
    go_enter Tryz.func69, Tryz.ntmps69
    go_wp2_with fail
    refine bodyPost_ret (results_none rfl _ _ _) rfl ?_
    refine ⟨rfl, ⟨(({ p.1 with h := -1, e := 0 } : Lk), p.2), HE.out.1.symm, ?_⟩, OT.out⟩
    rw [HE.out.2]
    exact H2.out
  | cons a r =>
    obtain ⟨j0, hj0, hjz, hj1, hj2⟩ := info_parts infoW
    have HOW : Hid (OwnW w B (uV p) p.1.ws) := H.out.ow p (List.mem_of_getElem? hk)
    have hrow : RowW w (uV p) (a :: r) := hws ▸ HOW.out.row
    obtain ⟨pa, pcap, hpv⟩ := RowG.slice hrow
    rw [hpv] at m4 hrow
    obtain ⟨b, off, rfl, hbl, c0, c1⟩ := RowG.at hrow rfl (i := 0) (x := a) rfl
    rw [Nat.zero_mul, Nat.add_zero] at c0 c1
    have hpc : r.length + 1 ≤ pcap := by
      obtain ⟨_, _, e, hh⟩ := id hrow
      cases e
      rcases hh with hh | ⟨_, _, _, hc, _⟩
      · cases hh
      · exact hc
    have HT : Hid (∀ W, Below w.heap.size w W → RowW W (.slice (some ⟨b, off + 2, none⟩) r.length (pcap - 1)) r) := fun W hW => (row_tail hrow).below hW
    have HT0 : Hid (∀ W, r.length = 0 → RowW W (.slice (some ⟨b, off, none⟩) r.length 0) r) := fun W h0 => ⟨_, _, rfl, .inl (List.length_eq_zero_iff.1 h0)⟩
    have hla := hle a (by rw [hws]; exact List.mem_cons_self)
    have hrl : r.length ≤ 1000 := by rw [hws] at hw; simp at hw; omega
    have HE : Hid (frL T.tm T.nx p.1 = grL T.tm T.nx { p.1 with ws := r } a.c a.l ∧ frN T.nx p.1 = T.nx + 1) := frL_cons hws
    have HB : Hid (TM w0 (w.alloc (.cells #[.int .i64 a.c, .int .i64 a.l] 111)) B x T (.slice (some ⟨g, 0, none⟩) ps.length cap) v3 ps ∧ (w.alloc (.cells #[.int .i64 a.c, .int .i64 a.l] 111)).heap[w.heap.size]? = some (.cells #[.int .i64 a.c, .int .i64 a.l] 111 (0, 0)) ∧ Below w.heap.size w (w.alloc (.cells #[.int .i64 a.c, .int .i64 a.l] 111))) := ⟨H.out.up (bel_new _ _), blk_new _ _ _, bel_new _ _⟩
    have hlen0 : ((r.length + 1 : Nat) : Int) = (r.length : Int) + 1 := by omega
    have hwb : (w.alloc (.cells #[.int .i64 a.c, .int .i64 a.l] 111)).cell? ⟨g, k * 5 + 4, none⟩ = some (.slice (some ⟨b, off, none⟩) (r.length + 1) pcap) := by
      rw [(bel_new w _).cell (p := ⟨g, k * 5 + 4, none⟩) (World.block_lt_of_cell? w _ m4)]
      exact m4
    clear hws hle hw hcell hpv hrow
    go_enter Tryz.func69, Tryz.ntmps69
    go_upto_region 5 with fail
    generalize w.alloc (.cells #[.int .i64 a.c, .int .i64 a.l] 111) = wb at HB hwb ⊢
    have HT2 : Hid (∀ o, RowW (wb.alloc o) (.slice (some ⟨b, off + 2, none⟩) r.length (pcap - 1)) r) := fun o => HT.out _ (HB.out.2.2.trans ((bel_new wb o).mono HB.out.2.2.size))
    have OTB : Hid (Oth w wb) := Oth.of_below HB.out.2.2
    generalize w.heap.size = bw at HB ⊢
    clear m2 f2 m3 f3 m4 f4 x2 c0 c1 hbl
    have hwa : ∀ o, (wb.alloc o).cell? ⟨g, k * 5 + 4, none⟩ = some (.slice (some ⟨b, off, none⟩) (r.length + 1) pcap) := fun o => by
      rw [(bel_new wb o).cell (p := ⟨g, k * 5 + 4, none⟩) (World.block_lt_of_cell? wb _ hwb)]
      exact hwb
    have hfz : wb.frozen? ⟨g, k * 5 + 4, none⟩ = false := by
      obtain ⟨g', cap', e, _, _, _, hc⟩ := HB.out.1.row hk
      cases e
      exact (hc 4 (uV p) rfl).2
    have HFZ : Hid (∀ W, TM w0 W B x T (.slice (some ⟨g, 0, none⟩) ps.length cap) v3 ps → W.frozen? ⟨g, k * 5 + 4, none⟩ = false ∧ ∃ u, W.cell? ⟨g, k * 5 + 4, none⟩ = some u) := fun W hW => by
      obtain ⟨g', cap', e, _, _, _, hc⟩ := hW.row hk
      cases e
      exact ⟨(hc 4 (uV p) rfl).2, _, (hc 4 (uV p) rfl).1⟩
    by_cases hp1 : pcap = 1
    · subst hp1
      obtain rfl : r = [] := List.length_eq_zero_iff.1 (by omega)
      rw [List.length_nil, Nat.zero_add] at hwb
      simp only [List.length_nil, Nat.zero_add] at hwa
      go_upto_region 6 with (at_builtin; go_must (refine appW (by rfl) _ _ 93 (by rfl) j0 Tryz.underlying93 hj0 hjz hj1 hj2 wb.heap.size wb (wb.alloc (.cells #[] 111)) (.slice (some ⟨wb.heap.size, 0, none⟩) 0 0) (.slice (some ⟨b, off, none⟩) 0 0) [] [] (by rfl) (OwnW.made _ _ (Nat.le_refl _)) (bel_new _ _) (bel_new wb _).size (by rfl) ⟨_, _, rfl, .inl rfl⟩ (by simp; try omega) ?_; intro v6 w6 o6 b6 _; rw [List.nil_append] at o6; obtain ⟨a6, c6, rfl⟩ := OwnW.slice o6; have T6 : Hid (TM w0 w6 B x T (.slice (some ⟨g, 0, none⟩) ps.length cap) v3 ps ∧ OwnW w6 wb.heap.size (.slice a6 0 c6) [] ∧ Below wb.heap.size wb w6) := ⟨HB.out.1.up b6, o6, b6⟩; clear o6 b6; obtain ⟨f6, u6, m6⟩ := HFZ.out _ T6.out.1; (try rw [List.length_nil])))
      have H7 : Hid (TM w0 (w6.setCell ⟨g, k * 5 + 4, none⟩ (.slice a6 0 c6)) B x { T with ls := T.ls.set k ({ p.1 with ws := [] } : Lk) } (.slice (some ⟨g, 0, none⟩) ps.length cap) v3 (ps.set k (({ p.1 with ws := [] } : Lk), a6, c6)) ∧ (w6.setCell ⟨g, k * 5 + 4, none⟩ (.slice a6 0 c6)).heap[bw]? = some (.cells #[.int .i64 a.c, .int .i64 a.l] 111 (0, 0))) := by
        refine ⟨T6.out.1.put hk (q := (({ p.1 with ws := [] } : Lk), a6, c6)) rfl (by decide) (T6.out.2.1.mono HB.out.1.size) (Apart.fresh T6.out.1.ap (G := wb.heap.size) (fun g' hg' => (T6.out.2.1.lt g' hg').1) (fun p' hp' g' hg' => ((HB.out.1.ow p' hp').lt g' hg').2)) HGB.out, ?_⟩
        have h1 := (T6.out.2.2.block bw (Array.getElem?_eq_some_iff.1 HB.out.2.1).1).trans HB.out.2.1
        obtain ⟨cl, hcl⟩ := own_block T6.out.1.ol (g := g) rfl
        exact (blk_far (kind_ne h1 hcl (by decide)) _ _).trans h1
      have OT7 : Hid (Oth w (w6.setCell ⟨g, k * 5 + 4, none⟩ (.slice a6 0 c6))) := (OTB.out.trans (Oth.of_below T6.out.2.2)).trans (T6.out.1.othL _ _)
      clear f6 m6 hwb hwa hfz HFZ HT2 HT0 HT T6 HB
      generalize w6.setCell ⟨g, k * 5 + 4, none⟩ (.slice a6 0 c6) = w7 at H7 OT7 ⊢
      have d0 := (blk_cell H7.out.2 0 (x := .int .i64 a.c) rfl).1
      have d1 := (blk_cell H7.out.2 1 (x := .int .i64 a.l) rfl).1
      have HG := l05Grant_any H7.out.1 (set_at hk) a.c a.l ht0 ht1 hn0 hn1 hla.1 hla.2
      go_wp2_with fail
      refine HG.mono ?_
      rintro e w8 ⟨rfl, t8, ot8⟩
      have OT8 : Hid (Oth w w8) := OT7.out.trans ot8
      clear ot8
      have T8 : Hid (FrP w0 B x T (.slice (some ⟨g, 0, none⟩) ps.length cap) v3 ps k p w8) := by
        refine ⟨(grL T.tm T.nx ({ p.1 with ws := [] } : Lk) a.c a.l, a6, c6), HE.out.1.symm, ?_⟩
        rw [HE.out.2]
        rw [List.set_set, List.set_set] at t8
        exact t8
      clear t8 d0 d1 H7
      go_wp2_with fail
      go_end0
      exact ⟨rfl, T8.out, OT8.out⟩
    · go_upto_region 6 with (at_builtin; go_must (refine appW (by rfl) _ _ 93 (by rfl) j0 Tryz.underlying93 hj0 hjz hj1 hj2 wb.heap.size wb (wb.alloc (.cells #[] 111)) (.slice (some ⟨wb.heap.size, 0, none⟩) 0 0) (.slice (some ⟨b, off + 2, none⟩) r.length (pcap - 1)) [] r (by rfl) (OwnW.made _ _ (Nat.le_refl _)) (bel_new _ _) (bel_new wb _).size (by rfl) (HT2.out _) (by simp; try omega) ?_; intro v6 w6 o6 b6 _; rw [List.nil_append] at o6; obtain ⟨a6, c6, rfl⟩ := OwnW.slice o6; have T6 : Hid (TM w0 w6 B x T (.slice (some ⟨g, 0, none⟩) ps.length cap) v3 ps ∧ OwnW w6 wb.heap.size (.slice a6 r.length c6) r ∧ Below wb.heap.size wb w6) := ⟨HB.out.1.up b6, o6, b6⟩; clear o6 b6; obtain ⟨f6, u6, m6⟩ := HFZ.out _ T6.out.1; (try rw [List.length_nil])))
      have H7 : Hid (TM w0 (w6.setCell ⟨g, k * 5 + 4, none⟩ (.slice a6 r.length c6)) B x { T with ls := T.ls.set k ({ p.1 with ws := r } : Lk) } (.slice (some ⟨g, 0, none⟩) ps.length cap) v3 (ps.set k (({ p.1 with ws := r } : Lk), a6, c6)) ∧ (w6.setCell ⟨g, k * 5 + 4, none⟩ (.slice a6 r.length c6)).heap[bw]? = some (.cells #[.int .i64 a.c, .int .i64 a.l] 111 (0, 0))) := by
        refine ⟨T6.out.1.put hk (q := (({ p.1 with ws := r } : Lk), a6, c6)) rfl (by decide) (T6.out.2.1.mono HB.out.1.size) (Apart.fresh T6.out.1.ap (G := wb.heap.size) (fun g' hg' => (T6.out.2.1.lt g' hg').1) (fun p' hp' g' hg' => ((HB.out.1.ow p' hp').lt g' hg').2)) HGB.out, ?_⟩
        have h1 := (T6.out.2.2.block bw (Array.getElem?_eq_some_iff.1 HB.out.2.1).1).trans HB.out.2.1
        obtain ⟨cl, hcl⟩ := own_block T6.out.1.ol (g := g) rfl
        exact (blk_far (kind_ne h1 hcl (by decide)) _ _).trans h1
      have OT7 : Hid (Oth w (w6.setCell ⟨g, k * 5 + 4, none⟩ (.slice a6 r.length c6))) := (OTB.out.trans (Oth.of_below T6.out.2.2)).trans (T6.out.1.othL _ _)
      clear f6 m6 hwb hwa hfz HFZ HT2 HT0 HT T6 HB
      generalize w6.setCell ⟨g, k * 5 + 4, none⟩ (.slice a6 r.length c6) = w7 at H7 OT7 ⊢
      have d0 := (blk_cell H7.out.2 0 (x := .int .i64 a.c) rfl).1
      have d1 := (blk_cell H7.out.2 1 (x := .int .i64 a.l) rfl).1
      have HG := l05Grant_any H7.out.1 (set_at hk) a.c a.l ht0 ht1 hn0 hn1 hla.1 hla.2
      go_wp2_with fail
      refine HG.mono ?_
      rintro e w8 ⟨rfl, t8, ot8⟩
      have OT8 : Hid (Oth w w8) := OT7.out.trans ot8
      clear ot8
      have T8 : Hid (FrP w0 B x T (.slice (some ⟨g, 0, none⟩) ps.length cap) v3 ps k p w8) := by
        refine ⟨(grL T.tm T.nx ({ p.1 with ws := r } : Lk) a.c a.l, a6, c6), HE.out.1.symm, ?_⟩
        rw [HE.out.2]
        rw [List.set_set, List.set_set] at t8
        exact t8
      clear t8 d0 d1 H7
      go_wp2_with fail
      go_end0
      exact ⟨rfl, T8.out, OT8.out⟩
end Go.Proofs.YtlgfeohoebmbcaaGreat.Ea
