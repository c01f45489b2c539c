/- A book is opened from a table. -/
import Derived.Test.YtlgfeohoebmbcaaGreatWa
import Derived.Test.YtlgfeohoebmbcaaGreatQt
import Derived.Maps.OwnSet
import Derived.Maps.Views
import Derived.StringKeys
import Derived.BigRegion
import Derived.Deep.QuietTactic
import Derived.BigQuiet
namespace Go.Proofs.YtlgfeohoebmbcaaGreat.Bk
open Go.RowKit Go.Proofs.YtlgfeohoebmbcaaGreat.Sl Go.Proofs.YtlgfeohoebmbcaaGreat.By Go.Proofs.YtlgfeohoebmbcaaGreat.Ap Go.Proofs.YtlgfeohoebmbcaaGreat.Tb Go.Proofs.YtlgfeohoebmbcaaGreat.Tw Go.Proofs.YtlgfeohoebmbcaaGreat.Mw Go.Proofs.YtlgfeohoebmbcaaGreat.Wa
open Go.Proofs.YtlgfeohoebmbcaaGreat.Tx (blk_cell blk_set blk_far blk_new bel_new)

theorem size_new (w : World) (o : Obj) : (w.alloc o).heap.size = w.heap.size + 1 := by simp
/-- A map's element stands for itself. -/
def RV : Value → Option (DataW Value × List MemPlace) := fun v => some (.held v, [])
def kS (n : ByteArray) : Lit := .string n.data.toList
def kI (c : Int) : Lit := .int .i64 c
/-- What the map of locks holds, what that of Seens. -/
def dL (ps : List (Lk × Value)) : DataW Value := ps.foldl (fun D q => D.put (kS q.1.n) (.held (lkV q.1 q.2))) (.map [])
def dS (ss : List Sn) : DataW Value := ss.foldl (fun D s => D.put (kI s.c) (.held (snV s))) (.map [])
theorem dL_snoc (ps : List (Lk × Value)) (q : Lk × Value) : dL (ps ++ [q]) = (dL ps).put (kS q.1.n) (.held (lkV q.1 q.2)) := by unfold dL; rw [List.foldl_append]; rfl
theorem dS_snoc (ss : List Sn) (s : Sn) : dS (ss ++ [s]) = (dS ss).put (kI s.c) (.held (snV s)) := by unfold dS; rw [List.foldl_append]; rfl
abbrev MapL (w : World) (b n : Nat) (D : DataW Value) : Prop := w.ownsMap Tryz.prog 9 RV b n D
abbrev MapS (w : World) (b n : Nat) (D : DataW Value) : Prop := w.ownsMap Tryz.prog 3 RV b n D
theorem map_kept {w w' : World} {k : TypeId} {b n : Nat} {D : DataW Value} (h : w.ownsMap Tryz.prog k RV b n D) (hb : w'.heap[b]? = w.heap[b]?) : w'.ownsMap Tryz.prog k RV b n D := by
  obtain ⟨es, cl, h1, h2⟩ := h
  exact ⟨es, cl, hb.trans h1, h2⟩
theorem take_at {α : Type} {xs : List α} {k : Nat} {x : α} (h : xs[k]? = some x) : xs.take (k + 1) = xs.take k ++ [x] := by rw [List.take_add_one, h]; rfl
theorem wf_small {c : Int} (h : 0 ≤ c ∧ c ≤ 255) : (Lit.int .i64 c).wf = true := by
  have h1 : IntKind.i64.min = -9223372036854775808 := by rfl
  have h2 : IntKind.i64.max = 9223372036854775807 := by rfl
  simp only [Lit.wf, h1, h2, Bool.and_eq_true, decide_eq_true_eq]
  omega
/-- While a book is opened: its boxes (the table's at b, the book's at p), its maps, the locks so far. -/
structure Op (w wr : World) (tm nx : Int) (vl vs : Value) (b bL bS p : Nat) (ps : List (Lk × Value)) (qs : List Sn) : Prop where
  hb : wr.heap[b]? = some (.cells #[.int .i64 tm, .int .i64 nx, vl, vs] 30 (0, 0))
  hp : wr.heap[p]? = some (.cells #[.int .i64 tm, .int .i64 nx, .map (some bL), .map (some bS)] 102 (0, 0))
  ml : MapL wr bL ps.length (dL ps)
  ms : MapS wr bS qs.length (dS qs)
  ow : ∀ q ∈ ps, OwnW wr (p + 1) q.2 q.1.ws
  bel : Below w.heap.size w wr
  lt : w.heap.size ≤ b ∧ b < p ∧ w.heap.size ≤ bL ∧ bL < p ∧ w.heap.size ≤ bS ∧ bS < p ∧ bL ≠ bS ∧ b ≠ bL ∧ b ≠ bS
theorem Op.pl {w wr : World} {tm nx : Int} {vl vs : Value} {b bL bS p : Nat} {ps : List (Lk × Value)} {qs : List Sn} (h : Op w wr tm nx vl vs b bL bS p ps qs) : p < wr.heap.size := (Array.getElem?_eq_some_iff.1 h.hp).1
theorem Op.up {w wr w' : World} {tm nx : Int} {vl vs : Value} {b bL bS p : Nat} {ps : List (Lk × Value)} {qs : List Sn} (h : Op w wr tm nx vl vs b bL bS p ps qs) (hg : Below wr.heap.size wr w') : Op w w' tm nx vl vs b bL bS p ps qs := by
  have hl := h.lt
  have hpl := h.pl
  exact ⟨(hg.block b (by omega)).trans h.hb, (hg.block p hpl).trans h.hp, map_kept h.ml (hg.block bL (by omega)), map_kept h.ms (hg.block bS (by omega)), fun q hq => (h.ow q hq).below hg, h.bel.trans (hg.mono h.bel.size), hl⟩
/-- Blocks from q on, above the book's box, may be written. -/
theorem Op.far {w wr : World} {tm nx : Int} {vl vs : Value} {b bL bS p : Nat} {ps : List (Lk × Value)} {qs : List Sn} (h : Op w wr tm nx vl vs b bL bS p ps qs) (y : Nat) (hy : p < y) (hn : ∀ q ∈ ps, some y ≠ q.2.ownBlock) (i : Nat) (x : Value) : Op w (wr.setCell ⟨y, i, none⟩ x) tm nx vl vs b bL bS p ps qs := by
  have hl := h.lt
  exact ⟨(blk_far (by omega) i x).trans h.hb, (blk_far (by omega) i x).trans h.hp, map_kept h.ml (blk_far (by omega) i x), map_kept h.ms (blk_far (by omega) i x), fun q hq => (h.ow q hq).kept (fun g hg => blk_far (fun e => hn q hq (by rw [hg, e])) i x), Below.setCell h.bel (p := ⟨y, i, none⟩) (by show w.heap.size ≤ y; omega) x, hl⟩
theorem Op.putL {w wr w' : World} {tm nx : Int} {vl vs : Value} {b bL bS p : Nat} {ps : List (Lk × Value)} {qs : List Sn} (h : Op w wr tm nx vl vs b bL bS p ps qs) (q : Lk × Value) (hq : OwnW wr (p + 1) q.2 q.1.ws) (hm : MapL w' bL (ps.length + 1) ((dL ps).put (kS q.1.n) (.held (lkV q.1 q.2)))) (hg : wr.grownBy w' (some bL)) : Op w w' tm nx vl vs b bL bS p (ps ++ [q]) qs := by
  have hl := h.lt
  have hpl := h.pl
  have k : ∀ j, j < wr.heap.size → j ≠ bL → w'.heap[j]? = wr.heap[j]? := fun j hj hne => hg.block j hj (by simp; exact hne)
  refine ⟨(k b (by omega) hl.2.2.2.2.2.2.2.1).trans h.hb, (k p hpl (by omega)).trans h.hp, by rw [List.length_append, dL_snoc]; exact hm, map_kept h.ms (k bS (by omega) (fun e => hl.2.2.2.2.2.2.1 e.symm)), fun z hz => ?_, ⟨hg.os.trans h.bel.os, hg.tape.trans h.bel.tape, hg.output.trans h.bel.output, Nat.le_trans h.bel.size hg.size, fun j hj => (k j (Nat.lt_of_lt_of_le hj h.bel.size) (by omega)).trans (h.bel.block j hj)⟩, hl⟩
  have up : ∀ (u : Value) (ws : List Wt), OwnW wr (p + 1) u ws → OwnW w' (p + 1) u ws := fun u ws hu => hu.kept (fun g hg' => k g (hu.lt g hg').2 (by have := (hu.lt g hg').1; omega))
  rcases List.mem_append.1 hz with hz | hz
  · exact up _ _ (h.ow z hz)
  · simp at hz; subst hz; exact up _ _ hq
theorem Op.putS {w wr w' : World} {tm nx : Int} {vl vs : Value} {b bL bS p : Nat} {ps : List (Lk × Value)} {qs : List Sn} (h : Op w wr tm nx vl vs b bL bS p ps qs) (s : Sn) (hm : MapS w' bS (qs.length + 1) ((dS qs).put (kI s.c) (.held (snV s)))) (hg : wr.grownBy w' (some bS)) : Op w w' tm nx vl vs b bL bS p ps (qs ++ [s]) := by
  have hl := h.lt
  have hpl := h.pl
  have k : ∀ j, j < wr.heap.size → j ≠ bS → w'.heap[j]? = wr.heap[j]? := fun j hj hne => hg.block j hj (by simp; exact hne)
  exact ⟨(k b (by omega) hl.2.2.2.2.2.2.2.2).trans h.hb, (k p hpl (by omega)).trans h.hp, map_kept h.ml (k bL (by omega) hl.2.2.2.2.2.2.1), by rw [List.length_append, dS_snoc]; exact hm, fun q hq => (h.ow q hq).kept (fun g hg' => k g ((h.ow q hq).lt g hg').2 (by have := ((h.ow q hq).lt g hg').1; omega)), ⟨hg.os.trans h.bel.os, hg.tape.trans h.bel.tape, hg.output.trans h.bel.output, Nat.le_trans h.bel.size hg.size, fun j hj => (k j (Nat.lt_of_lt_of_le hj h.bel.size) (by omega)).trans (h.bel.block j hj)⟩, hl⟩
set_option maxRecDepth 100000 in
set_option maxHeartbeats 1600000 in
theorem openBook_any (tm nx : Int) (vl vs : Value) (ls : List Lk) (ss : List Sn) (w : World) (hl : RowL w vl ls) (hs : RowS w vs ss) (hw : ∀ x ∈ ls, x.n.size ≤ 1048576 ∧ x.ws.length ≤ 1000) (hc : ∀ s ∈ ss, 0 ≤ s.c ∧ s.c ≤ 255) (hy1 : ls.length ≤ 1000) (hy2 : ss.length ≤ 1000) :
    Calls Tryz.prog 45 #[tabV tm nx vl vs] w fun e w' => ∃ b bL bS p ps, e = .returned (.pointer (some ⟨p, 0, none⟩)) ∧ Op w w' tm nx vl vs b bL bS p ps ss ∧ ps.map (·.1) = ls := by
  obtain ⟨la, lc, rfl⟩ := RowG.slice hl
  obtain ⟨sa, sc, rfl⟩ := RowG.slice hs
  obtain ⟨i0, hi0, hz0, hz1, hz2⟩ := info_parts infoW
  have HLS : Hid (RowL w (.slice la ls.length lc) ls ∧ RowS w (.slice sa ss.length sc) ss) := ⟨hl, hs⟩
  have HW : Hid (∀ x ∈ ls, x.n.size ≤ 1048576 ∧ x.ws.length ≤ 1000) := hw
  have HC : Hid (∀ s ∈ ss, 0 ≤ s.c ∧ s.c ≤ 255) := hc
  clear hl hs hw hc
  have O0 : Hid (Op w ((((w.alloc (.cells #[.int .i64 tm, .int .i64 nx, .slice la ls.length lc, .slice sa ss.length sc] 30)).alloc (.map #[] 0)).alloc (.map #[] 0)).alloc (.cells #[.int .i64 tm, .int .i64 nx, .map (some (w.heap.size + 1)), .map (some (w.heap.size + 1 + 1))] 102)) tm nx (.slice la ls.length lc) (.slice sa ss.length sc) w.heap.size (w.heap.size + 1) (w.heap.size + 1 + 1) (w.heap.size + 1 + 1 + 1) [] []) := by
    have k1 : (w.alloc (.cells #[.int .i64 tm, .int .i64 nx, .slice la ls.length lc, .slice sa ss.length sc] 30)).heap.size = w.heap.size + 1 := size_new _ _
    have k2 : ((w.alloc (.cells #[.int .i64 tm, .int .i64 nx, .slice la ls.length lc, .slice sa ss.length sc] 30)).alloc (.map #[] 0)).heap.size = w.heap.size + 1 + 1 := by rw [size_new, k1]
    have k3 : (((w.alloc (.cells #[.int .i64 tm, .int .i64 nx, .slice la ls.length lc, .slice sa ss.length sc] 30)).alloc (.map #[] 0)).alloc (.map #[] 0)).heap.size = w.heap.size + 1 + 1 + 1 := by rw [size_new, k2]
    have m1 := World.ownsMap_made (w.alloc (.cells #[.int .i64 tm, .int .i64 nx, .slice la ls.length lc, .slice sa ss.length sc] 30)) Tryz.prog 9 RV
    have m2 := World.ownsMap_made ((w.alloc (.cells #[.int .i64 tm, .int .i64 nx, .slice la ls.length lc, .slice sa ss.length sc] 30)).alloc (.map #[] 0)) Tryz.prog 3 RV
    have h4 := blk_new (((w.alloc (.cells #[.int .i64 tm, .int .i64 nx, .slice la ls.length lc, .slice sa ss.length sc] 30)).alloc (.map #[] 0)).alloc (.map #[] 0)) #[.int .i64 tm, .int .i64 nx, .map (some (w.heap.size + 1)), .map (some (w.heap.size + 1 + 1))] 102
    rw [k1] at m1
    rw [k2] at m2
    rw [k3] at h4
    refine ⟨?_, h4, (m1.alloc _).alloc _, m2.alloc _, fun q hq => (by cases hq), ?_, ⟨by omega, by omega, by omega, by omega, by omega, by omega, by omega, by omega, by omega⟩⟩
    · exact ((Below.heap_alloc _ _ _ (by rw [k3]; omega)).trans ((Below.heap_alloc _ _ _ (by rw [k2]; omega)).trans (Below.heap_alloc _ _ _ (by rw [k1]; omega)))).trans (blk_new _ _ _)
    · exact (((bel_new w _).alloc (by rw [k1]; omega) _).alloc (by rw [k2]; omega) _).alloc (by rw [k3]; omega) _
  have mk1 := fun W => run_makeMap (P := Tryz.prog) 98 W
  have mk2 := fun W => run_makeMap (P := Tryz.prog) 100 W
  unfold tabV
  go_enter Tryz.func45, Tryz.ntmps45
  go_upto_region 2 with fail
  generalize (((w.alloc (.cells #[.int .i64 tm, .int .i64 nx, .slice la ls.length lc, .slice sa ss.length sc] 30)).alloc (.map #[] 0)).alloc (.map #[] 0)).alloc (.cells #[.int .i64 tm, .int .i64 nx, .map (some (w.heap.size + 1)), .map (some (w.heap.size + 1 + 1))] 102) = w1 at O0 ⊢
  generalize w.heap.size + 1 + 1 + 1 = p at O0 ⊢
  generalize w.heap.size + 1 + 1 = bS at O0 ⊢
  generalize w.heap.size + 1 = bL at O0 ⊢
  obtain ⟨b, HBB⟩ : ∃ b, Hid (w.heap.size = b) := ⟨_, rfl⟩
  rw [HBB.out]
  rw [show Hid (Op w w1 tm nx (.slice la ls.length lc) (.slice sa ss.length sc) w.heap.size bL bS p [] []) = Hid (Op w w1 tm nx (.slice la ls.length lc) (.slice sa ss.length sc) b bL bS p [] []) by rw [HBB.out]] at O0
  have c2 := (blk_cell O0.out.hb 2 (x := .slice la ls.length lc) rfl).1
  clear mk1 mk2
  go_wp2_with fail
  clear c2
  go_loopw [19] (fun i wr => ∃ (k : Nat) (ps : List (Lk × Value)), k ≤ ls.length ∧ i = .int .i64 k ∧ Hid (Op w wr tm nx (.slice la ls.length lc) (.slice sa ss.length sc) b bL bS p ps [] ∧ ps.map (·.1) = ls.take k)) (fun i _ => ls.length - (intOf i).toNat)
  case atStart => exact ⟨0, [], by omega, rfl, O0.out, rfl⟩
  case round =>
    obtain ⟨k, ps, hk, rfl, HO⟩ := hrel
    by_cases hlt : k < ls.length
    · obtain ⟨x, hx⟩ := Tw.get_at hlt
      have hr := (HLS.out.1).below HO.out.1.bel
      obtain ⟨lb, off, rfl, hbl, u, c0, c1, c2, c3, c4, c5⟩ := RowG.at hr rfl hx
      obtain ⟨ua, uc, rfl⟩ := RowG.slice c5
      have HU : Hid (RowW wr (.slice ua x.ws.length uc) x.ws) := c5
      have HXX : Hid (ls[k]? = some x) := hx
      clear hx c5 hr hbl
      go_upto_region 5 with fail
      have H4 : Hid ((wr.alloc (.cells #[.string x.n, .int .i64 x.t, .int .i64 x.h, .int .i64 x.e, .slice ua x.ws.length uc] 95)).heap[wr.heap.size]? = some (.cells #[.string x.n, .int .i64 x.t, .int .i64 x.h, .int .i64 x.e, .slice ua x.ws.length uc] 95 (0, 0)) ∧ Op w (wr.alloc (.cells #[.string x.n, .int .i64 x.t, .int .i64 x.h, .int .i64 x.e, .slice ua x.ws.length uc] 95)) tm nx (.slice (some ⟨lb, off, none⟩) ls.length lc) (.slice sa ss.length sc) b bL bS p ps [] ∧ RowW (wr.alloc (.cells #[.string x.n, .int .i64 x.t, .int .i64 x.h, .int .i64 x.e, .slice ua x.ws.length uc] 95)) (.slice ua x.ws.length uc) x.ws ∧ wr.heap.size < (wr.alloc (.cells #[.string x.n, .int .i64 x.t, .int .i64 x.h, .int .i64 x.e, .slice ua x.ws.length uc] 95)).heap.size ∧ p < wr.heap.size ∧ ∀ q ∈ ps, some wr.heap.size ≠ q.2.ownBlock) :=
        ⟨blk_new _ _ _, HO.out.1.up (bel_new _ _), HU.out.below (bel_new _ _), by rw [size_new]; omega, HO.out.1.pl, fun q hq e => absurd ((HO.out.1.ow q hq).lt _ e.symm).2 (by omega)⟩
      have HT : Hid (ps.map (·.1) = ls.take k ∧ ps.length = k) := ⟨HO.out.2, by rw [← List.length_map (f := (·.1)), HO.out.2, List.length_take]; omega⟩
      clear HO HU c0 c1 c2 c3 c4
      generalize wr.alloc (.cells #[.string x.n, .int .i64 x.t, .int .i64 x.h, .int .i64 x.e, .slice ua x.ws.length uc] 95) = w4 at H4 ⊢
      generalize wr.heap.size = y at H4 ⊢
      have c4 := (blk_cell H4.out.1 4 (x := .slice ua x.ws.length uc) rfl).1
      have HZ : Hid (x.n.size ≤ 1048576 ∧ x.ws.length ≤ 1000) := HW.out x (Tw.mem_at HXX.out)
      go_wp2_with (at_builtin; go_must (refine appW (by rfl) _ _ 93 (by rfl) i0 Tryz.underlying93 hi0 hz0 hz1 hz2 w4.heap.size w4 w4 (.slice none 0 0) (.slice ua x.ws.length uc) [] x.ws (by rfl) (OwnW.nil _ _) (Below.refl _ _) (Nat.le_refl _) (by rfl) H4.out.2.2.1 (by have := HZ.out.2; simp; omega) ?_; intro v5 w5 o5 b5 _; rw [List.nil_append] at o5; obtain ⟨a5, k5, rfl⟩ := OwnW.slice o5; have H5 : Hid (OwnW w5 w4.heap.size (.slice a5 x.ws.length k5) x.ws ∧ Below w4.heap.size w4 w5 ∧ w5.heap[y]? = some (.cells #[.string x.n, .int .i64 x.t, .int .i64 x.h, .int .i64 x.e, .slice ua x.ws.length uc] 95 (0, 0))) := ⟨o5, b5, (b5.block y H4.out.2.2.2.1).trans H4.out.1⟩; obtain ⟨d4, f4⟩ := blk_cell H5.out.2.2 4 (x := .slice ua x.ws.length uc) rfl; clear o5 b5 c4))
      have H6 : Hid (OwnW (w5.setCell ⟨y, 4, none⟩ (.slice a5 x.ws.length k5)) (p + 1) (.slice a5 x.ws.length k5) x.ws ∧ Op w (w5.setCell ⟨y, 4, none⟩ (.slice a5 x.ws.length k5)) tm nx (.slice (some ⟨lb, off, none⟩) ls.length lc) (.slice sa ss.length sc) b bL bS p ps [] ∧ (w5.setCell ⟨y, 4, none⟩ (.slice a5 x.ws.length k5)).heap[y]? = some (.cells #[.string x.n, .int .i64 x.t, .int .i64 x.h, .int .i64 x.e, .slice a5 x.ws.length k5] 95 (0, 0))) := by
        have h4 := H4.out
        have h5 := H5.out
        refine ⟨(h5.1.kept (fun g hg => blk_far (by have := (h5.1.lt g hg).1; omega) _ _)).mono (by omega), (h4.2.1.up h5.2.1).far y (by omega) h4.2.2.2.2.2 _ _, blk_set h5.2.2 4 _⟩
      clear H4 H5 d4 f4
      generalize w5.setCell ⟨y, 4, none⟩ (.slice a5 x.ws.length k5) = w6 at H6 ⊢
      have e0 := (blk_cell H6.out.2.2 0 (x := .string x.n) rfl).1
      have e1 := (blk_cell H6.out.2.2 1 (x := .int .i64 x.t) rfl).1
      have e2 := (blk_cell H6.out.2.2 2 (x := .int .i64 x.h) rfl).1
      have e3 := (blk_cell H6.out.2.2 3 (x := .int .i64 x.e) rfl).1
      have e4 := (blk_cell H6.out.2.2 4 (x := .slice a5 x.ws.length k5) rfl).1
      have ep := (blk_cell H6.out.2.1.hp 2 (x := .map (some bL)) rfl).1
      refine Qt.region_quiet_tail 7 (by kernel_rfl) (by kernel_rfl) ?_
      simp only [List.take_succ_cons, List.take_zero, List.drop_succ_cons, List.drop_zero]
      repeat (go_big_quiet_step (fail))
      refine wpQuiet_nil ?_
      have H7 : Hid (OwnW w6.drew (p + 1) (.slice a5 x.ws.length k5) x.ws ∧ Op w w6.drew tm nx (.slice (some ⟨lb, off, none⟩) ls.length lc) (.slice sa ss.length sc) b bL bS p ps []) := ⟨H6.out.1.below (Below.refl _ _).drew, H6.out.2.1.up (Below.refl _ _).drew⟩
      clear H6 e0 e1 e2 e3 e4 ep
      generalize w6.drew = w7 at H7 ⊢
      go_wp2_with (at_mapUpdate; go_must (refine wpList_mapUpdate_own (H := Value) _ rfl _ _ _ 98 rfl 9 95 (Maps.string_keyed Tryz.underlying9) Tryz.underlying98 RV bL ps.length (dL ps) rfl H7.out.2.ml (by have := HT.out.2; unfold maxLen; omega) (.string x.n) (lkV x (.slice a5 x.ws.length k5)) (kS x.n) rfl rfl (WideMaps.keyOf_string_mk Tryz.underlying9 (by have := HZ.out.1; unfold maxLen; omega)) (.held (lkV x (.slice a5 x.ws.length k5))) [] rfl ?_; intro w8 m8 g8))
      go_round
      case rel => exact ⟨k + 1, ps ++ [(x, .slice a5 x.ws.length k5)], by omega, by go_num, H7.out.2.putL (x, .slice a5 x.ws.length k5) H7.out.1 m8 g8, by rw [List.map_append, HT.out.1, take_at HXX.out]; rfl⟩
      case measure => simp [intOf]; omega
    · obtain rfl : k = ls.length := by omega
      have H1 : Hid (Op w wr tm nx (.slice la ls.length lc) (.slice sa ss.length sc) b bL bS p ps [] ∧ ps.map (·.1) = ls) := ⟨HO.out.1, by rw [HO.out.2, List.take_length]⟩
      clear HO O0
      have c3 := (blk_cell H1.out.1.hb 3 (x := .slice sa ss.length sc) rfl).1
      go_wp2_with fail
      clear c3
      go_loopw [38] (fun i wr => ∃ k : Nat, k ≤ ss.length ∧ i = .int .i64 k ∧ Hid (Op w wr tm nx (.slice la ls.length lc) (.slice sa ss.length sc) b bL bS p ps (ss.take k))) (fun i _ => ss.length - (intOf i).toNat)
      case atStart => exact ⟨0, by omega, rfl, H1.out.1⟩
      case round =>
        obtain ⟨k, hk, rfl, HO⟩ := hrel
        by_cases hlt : k < ss.length
        · obtain ⟨x, hx⟩ := Tw.get_at hlt
          have hr := (HLS.out.2).below HO.out.bel
          obtain ⟨lb, off, rfl, hbl, c0, c1, c2, c3, c4, c5⟩ := RowG.at hr rfl hx
          have HXX : Hid (ss[k]? = some x) := hx
          clear hx hr hbl
          go_upto_region 11 with fail
          have H4 : Hid ((wr.alloc (.cells #[.int .i64 x.c, .int .i64 x.s, .int .i64 x.k, .int .i64 x.t, .int .i64 x.h, .int .i64 x.e] 113)).heap[wr.heap.size]? = some (.cells #[.int .i64 x.c, .int .i64 x.s, .int .i64 x.k, .int .i64 x.t, .int .i64 x.h, .int .i64 x.e] 113 (0, 0)) ∧ Op w (wr.alloc (.cells #[.int .i64 x.c, .int .i64 x.s, .int .i64 x.k, .int .i64 x.t, .int .i64 x.h, .int .i64 x.e] 113)) tm nx (.slice la ls.length lc) (.slice (some ⟨lb, off, none⟩) ss.length sc) b bL bS p ps (ss.take k)) := ⟨blk_new _ _ _, HO.out.up (bel_new _ _)⟩
          clear HO c0 c1 c2 c3 c4 c5
          generalize wr.alloc (.cells #[.int .i64 x.c, .int .i64 x.s, .int .i64 x.k, .int .i64 x.t, .int .i64 x.h, .int .i64 x.e] 113) = w4 at H4 ⊢
          generalize wr.heap.size = y at H4 ⊢
          have e0 := (blk_cell H4.out.1 0 (x := .int .i64 x.c) rfl).1
          have e1 := (blk_cell H4.out.1 1 (x := .int .i64 x.s) rfl).1
          have e2 := (blk_cell H4.out.1 2 (x := .int .i64 x.k) rfl).1
          have e3 := (blk_cell H4.out.1 3 (x := .int .i64 x.t) rfl).1
          have e4 := (blk_cell H4.out.1 4 (x := .int .i64 x.h) rfl).1
          have e5 := (blk_cell H4.out.1 5 (x := .int .i64 x.e) rfl).1
          have ep := (blk_cell H4.out.2.hp 3 (x := .map (some bS)) rfl).1
          have HZ : Hid (0 ≤ x.c ∧ x.c ≤ 255) := HC.out x (Tw.mem_at HXX.out)
          refine Qt.region_quiet_tail 7 (by kernel_rfl) (by kernel_rfl) ?_
          simp only [List.take_succ_cons, List.take_zero, List.drop_succ_cons, List.drop_zero]
          repeat (go_big_quiet_step (fail))
          refine wpQuiet_nil ?_
          have H7 : Hid (Op w w4.drew tm nx (.slice la ls.length lc) (.slice (some ⟨lb, off, none⟩) ss.length sc) b bL bS p ps (ss.take k)) := H4.out.2.up (Below.refl _ _).drew
          clear H4 e0 e1 e2 e3 e4 e5 ep
          generalize w4.drew = w7 at H7 ⊢
          go_wp2_with (at_mapUpdate; go_must (refine wpList_mapUpdate_own (H := Value) _ rfl _ _ _ 100 rfl 3 113 (Maps.int_keyed Tryz.underlying3) Tryz.underlying100 RV bS (ss.take k).length (dS (ss.take k)) rfl H7.out.ms (by rw [List.length_take]; unfold maxLen; omega) (.int .i64 x.c) (snV x) (kI x.c) rfl rfl (Maps.keyOf_int_mk Tryz.underlying3 (wf_small HZ.out)) (.held (snV x)) [] rfl ?_; intro w8 m8 g8))
          go_round
          case rel => exact ⟨k + 1, by omega, by go_num, by rw [take_at HXX.out]; exact H7.out.putS x m8 g8⟩
          case measure => simp [intOf]; omega
        · obtain rfl : k = ss.length := by omega
          have H2 : Hid (Op w wr tm nx (.slice la ls.length lc) (.slice sa ss.length sc) b bL bS p ps ss) := by have h := HO.out; rw [List.take_length] at h; exact h
          clear HO
          go_wp2
          go_ret
          exact ⟨b, bL, bS, p, ps, rfl, H2.out, H1.out.2⟩
end Go.Proofs.YtlgfeohoebmbcaaGreat.Bk
