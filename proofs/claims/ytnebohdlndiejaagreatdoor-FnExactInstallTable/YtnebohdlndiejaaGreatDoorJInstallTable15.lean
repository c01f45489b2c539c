/- What the specification's l05Read answers. -/
import Derived.Test.YtnebohdlndiejaaGreatDoorJInstallTable13
import Derived.Test.YtnebohdlndiejaaGreatDoorJInstallTable14
import Derived.Deep.RegionHeld3
namespace Go.Proofs.YtnebohdlndiejaaGreatDoor.Us
open Go.RowKit Go.Proofs.YtnebohdlndiejaaGreatDoor.Sl Go.Proofs.YtnebohdlndiejaaGreatDoor.By Go.Proofs.YtnebohdlndiejaaGreatDoor.Ap Go.Proofs.YtnebohdlndiejaaGreatDoor.Rr Go.Proofs.YtnebohdlndiejaaGreatDoor.Tb Go.Proofs.YtnebohdlndiejaaGreatDoor.Tw
open Go.Proofs.YtnebohdlndiejaaGreatDoor.Ur (nv nv_range itR itS itL itL_len itR_succ itS_succ itL_succ Less less_it less_lk less_sn less_wt less_lk3 less_tk less_2 less_A less_B wtO wtR wtS lkO lkR lkS lkS3 lk3 snO snR snS sn5 cnt cnt_le tbO tbR tbS tbA tbB tbC tb2 tbS1 tbS2 Mem Apart pair_snoc rtOK tbO_small size_new)
open Go.Proofs.YtnebohdlndiejaaGreatDoor.Wa (OwnW OwnS clW oneW clS oneS infoS infoW appS)
open Go.Proofs.YtnebohdlndiejaaGreatDoor.Lo (LkA uV clL oneL OwnL own_block kind_ne infoL list_lk)
open Go.Proofs.YtnebohdlndiejaaGreatDoor.Tp (bOf TOK)

theorem cnt_eq {xs : List Int} (hr : ∀ x ∈ xs, 0 ≤ x ∧ x ≤ 255) : nv 1 xs = (cnt xs : Int) := by
  have nb := nv_range (n := 1) hr
  unfold cnt; omega
/-- One lock, as the specification reads it. -/
structure Agk (xs : List Int) (l : Lk) (ys : List Int) (sb : Bool) : Prop where
  f : sb = false → l = lkO xs ∧ ys = lkR xs ∧ lkS xs false = false
  t : sb = true → lkS xs false = true
theorem agk {xs : List Int} {q : Nat} (hq : q ≤ cnt (lk3 xs)) (he : q = cnt (lk3 xs) ∨ itS wtR wtS q (tkR 1 (lk3 xs)) (tkS 1 (lk3 xs) (lkS3 xs false)) = true) :
    Agk xs ⟨Rr.txtB 1 xs, nv 3 (txtR 1 xs), nv 2 (tkR 3 (txtR 1 xs)) - 1, nv 4 (tkR 2 (tkR 3 (txtR 1 xs))), itL wtR wtO q (tkR 1 (lk3 xs))⟩ (itR wtR q (tkR 1 (lk3 xs))) (itS wtR wtS q (tkR 1 (lk3 xs)) (tkS 1 (lk3 xs) (lkS3 xs false))) := by
  have e : lkS xs false = itS wtR wtS (cnt (lk3 xs)) (tkR 1 (lk3 xs)) (tkS 1 (lk3 xs) (lkS3 xs false)) := by unfold lkS; rfl
  constructor
  · intro hf
    rcases he with he | he
    · rw [← he] at e
      refine ⟨by simp only [lkO, he], by unfold lkR; rw [he], by rw [e]; exact hf⟩
    · rw [he] at hf; cases hf
  · intro ht
    rw [e]
    exact itS_true wtS_true _ _ hq ht
/-- Locks so far, as the specification reads them. -/
structure Agl (n : Nat) (ys : List Int) (s0 : Bool) (k : Nat) (ls : List Lk) (xs : List Int) (sh : Bool) : Prop where
  f : sh = false → ls = itL lkR lkO k ys ∧ xs = itR lkR k ys ∧ itS lkR lkS k ys s0 = false
  t : sh = true → itS lkR lkS n ys s0 = true
theorem Agl.next {n : Nat} {ys : List Int} {s0 : Bool} {k : Nat} {ls : List Lk} {xs : List Int} (h : Agl n ys s0 k ls xs false) (hk : k < n) {l : Lk} {zs : List Int} {sb : Bool} (g : Agk xs l zs sb) : Agl n ys s0 (k + 1) (ls ++ [l]) zs sb := by
  obtain ⟨h1, h2, h3⟩ := h.f rfl
  constructor
  · intro hf
    obtain ⟨g1, g2, g3⟩ := g.f hf
    refine ⟨by rw [itL_succ, ← h1, g1, h2], by rw [itR_succ, g2, h2], by rw [itS_succ, h3, ← h2]; exact g3⟩
  · intro ht
    refine itS_true lkS_true ys s0 (show k + 1 ≤ n by omega) ?_
    rw [itS_succ, h3, ← h2]
    exact g.t ht
structure Ags (n : Nat) (ys : List Int) (s0 : Bool) (k : Nat) (ss : List Sn) (xs : List Int) (sh : Bool) : Prop where
  f : sh = false → ss = itL snR snO k ys ∧ xs = itR snR k ys ∧ itS snR snS k ys s0 = false
  t : sh = true → itS snR snS n ys s0 = true
theorem Ags.next {n : Nat} {ys : List Int} {s0 : Bool} {k : Nat} {ss : List Sn} {xs : List Int} (h : Ags n ys s0 k ss xs false) (hk : k < n) : Ags n ys s0 (k + 1) (ss ++ [snO xs]) (snR xs) (snS xs false) := by
  obtain ⟨h1, h2, h3⟩ := h.f rfl
  constructor
  · intro hf
    refine ⟨by rw [itL_succ, ← h1, h2], by rw [itR_succ, h2], by rw [itS_succ, h3, ← h2]; exact hf⟩
  · intro ht
    refine itS_true snS_true ys s0 (show k + 1 ≤ n by omega) ?_
    rw [itS_succ, h3, ← h2]
    exact ht
theorem Ags.zero (n : Nat) (ys : List Int) (s0 : Bool) : Ags n ys s0 0 [] ys s0 :=
  ⟨fun h => ⟨rfl, rfl, h⟩, fun h => itS_true snS_true ys s0 (Nat.zero_le n) h⟩
/-- How the locks' loop ends. -/
def Fl (n : Nat) (y0 : List Int) (s0 : Bool) (ls : List Lk) (ys : List Int) (sh : Bool) : Prop := (sh = false → ls = itL lkR lkO n y0 ∧ ys = itR lkR n y0 ∧ itS lkR lkS n y0 s0 = false) ∧ (sh = true → itS lkR lkS n y0 s0 = true)
/-- What is read in the end. -/
theorem fin_ok {xs ys zs : List Int} {sh sb : Bool} {ls : List Lk} {ss : List Sn}
    (h1 : Fl (cnt (tb2 xs)) (tbA xs) (tbS1 xs false) ls ys sh)
    (h2 : (sb = false → ss = itL snR snO (cnt ys) (tkR 1 ys) ∧ zs = itR snR (cnt ys) (tkR 1 ys) ∧ itS snR snS (cnt ys) (tkR 1 ys) (tkS 1 ys sh) = false) ∧ (sb = true → itS snR snS (cnt ys) (tkR 1 ys) (tkS 1 ys sh) = true)) :
    (sb = false → tbS xs false = false ∧ tbR xs = zs ∧ tbO xs = ⟨nv 4 xs, nv 3 (tkR 4 xs), ls, ss⟩) ∧ (sb = true → tbS xs false = true) := by
  have eS : tbS xs false = itS snR snS (cnt (tbB xs)) (tbC xs) (tbS2 xs false) := rfl
  have e2 : tbS2 xs false = tkS 1 (tbB xs) (itS lkR lkS (cnt (tb2 xs)) (tbA xs) (tbS1 xs false)) := rfl
  have eB : tbB xs = itR lkR (cnt (tb2 xs)) (tbA xs) := rfl
  have eC : tbC xs = tkR 1 (tbB xs) := rfl
  have tt : ∀ ys : List Int, tkS 1 ys true = true := fun _ => rfl
  have eO : tbO xs = ⟨nv 4 xs, nv 3 (tkR 4 xs), itL lkR lkO (cnt (tb2 xs)) (tbA xs), itL snR snO (cnt (tbB xs)) (tbC xs)⟩ := by unfold tbO; rfl
  have eR : tbR xs = itR snR (cnt (tbB xs)) (tbC xs) := rfl
  cases sh
  · obtain ⟨p, q, r⟩ := h1.1 rfl
    rw [← eB] at q
    rw [r] at e2
    rw [q] at h2
    refine ⟨fun h => ?_, fun h => ?_⟩
    · obtain ⟨a, b, c⟩ := h2.1 h
      exact ⟨by rw [eS, eC, e2]; exact c, by rw [eR, eC]; exact b.symm, by rw [eO, eC, p, a]⟩
    · rw [eS, eC, e2]; exact h2.2 h
  · have r := h1.2 rfl
    have hb : tbS xs false = true := by rw [eS, e2, r, tt]; exact itS_true snS_true _ true (Nat.zero_le _) rfl
    refine ⟨fun h => ?_, fun _ => hb⟩
    obtain ⟨_, _, c⟩ := h2.1 h
    rw [tt, itS_true snS_true _ true (Nat.zero_le _) rfl] at c
    cases c
/-- While one that was seen is read: its block. -/
structure Sq (w : World) (tq : Nat) (wr W : World) (q : Nat) (tm nx : Int) (v2 v3 : Value) (ms : List LkA) (ss : List Sn) (kc : Array Value) (xs : List Int) (sh : Bool) : Prop where
  sp : Sp w tq W tm nx v2 v3 ms ss xs sh
  k : W.heap[q]? = some (.cells kc 105 (0, 0))
  lo : Low wr.heap.size v2 v3 ms
  qn : tq < wr.heap.size ∧ wr.heap.size ≤ q
section
variable {w wr W W' : World} {tq q : Nat} {tm nx : Int} {v2 v3 : Value} {ms : List LkA} {ss : List Sn} {kc : Array Value} {xs ys : List Int} {sh sb : Bool}
theorem Sq.start (h : Sp w tq W tm nx v2 v3 ms ss xs sh) (kc : Array Value) : Sq w tq W (W.alloc (.cells kc 105)) W.heap.size tm nx v2 v3 ms ss kc xs sh :=
  ⟨h.up ((Below.refl _ _).alloc (Nat.le_refl _) _), heap_alloc_new _ _, Mem.low h.me, ⟨h.size, Nat.le_refl _⟩⟩
theorem Sq.num (h : Sq w tq wr W q tm nx v2 v3 ms ss kc xs sh) (r : Rdp W' (w.heap.size + 1) ys sb) (g : W.grownBy W' (some (w.heap.size + 1))) : Sq w tq wr W' q tm nx v2 v3 ms ss kc ys sb :=
  ⟨h.sp.num r g, blk_kept h.k g (by have := h.qn; have := h.sp.tl; omega), h.lo, h.qn⟩
theorem Sq.set (h : Sq w tq wr W q tm nx v2 v3 ms ss kc xs sh) (i : Nat) (v : Value) : Sq w tq wr (W.setCell ⟨q, i, none⟩ v) q tm nx v2 v3 ms ss (kc.setIfInBounds i v) xs sh :=
  ⟨h.sp.setn h.lo h.qn.1 h.qn.2 i v, blk_set h.k i v, h.lo, h.qn⟩
end
theorem row_oneS (W : World) (x : Sn) : RowS (W.alloc (.cells #[.int .i64 x.c, .int .i64 x.s, .int .i64 x.k, .int .i64 x.t, .int .i64 x.h, .int .i64 x.e] 105)) (.slice (some ⟨W.heap.size, 0, none⟩) 1 1) [x] := by
  refine ⟨_, _, rfl, .inr ⟨W.heap.size, 0, rfl, Nat.le_refl _, by simp, fun i y hi => ?_⟩⟩
  have h0 : i = 0 := by have := (List.getElem?_eq_some_iff.1 hi).1; simp at this; exact this
  subst h0
  simp at hi
  subst hi
  exact ⟨(Joins.cell_of_block (heap_alloc_new W _) _).trans rfl, (Joins.cell_of_block (heap_alloc_new W _) _).trans rfl, (Joins.cell_of_block (heap_alloc_new W _) _).trans rfl, (Joins.cell_of_block (heap_alloc_new W _) _).trans rfl, (Joins.cell_of_block (heap_alloc_new W _) _).trans rfl, (Joins.cell_of_block (heap_alloc_new W _) _).trans rfl⟩
theorem bys_nil {s : ByteArray} (h : bys s = []) : s = ⟨#[]⟩ := by rw [← str_bys s, h]; rfl
theorem Sp.done {w W : World} {tq : Nat} {tm nx : Int} {v2 v3 : Value} {ms : List LkA} {ss : List Sn} {xs : List Int} {sh : Bool} (h : Sp w tq W tm nx v2 v3 ms ss xs sh) :
    ((((W.setCell ⟨w.heap.size, 0, none⟩ (.int .i64 tm)).setCell ⟨w.heap.size, 1, none⟩ (.int .i64 nx)).setCell ⟨w.heap.size, 2, none⟩ v2).setCell ⟨w.heap.size, 3, none⟩ v3).heap[w.heap.size]? = some (.cells #[.int .i64 tm, .int .i64 nx, v2, v3] 36 (0, 0)) ∧ Below w.heap.size w ((((W.setCell ⟨w.heap.size, 0, none⟩ (.int .i64 tm)).setCell ⟨w.heap.size, 1, none⟩ (.int .i64 nx)).setCell ⟨w.heap.size, 2, none⟩ v2).setCell ⟨w.heap.size, 3, none⟩ v3) ∧ Mem ((((W.setCell ⟨w.heap.size, 0, none⟩ (.int .i64 tm)).setCell ⟨w.heap.size, 1, none⟩ (.int .i64 nx)).setCell ⟨w.heap.size, 2, none⟩ v2).setCell ⟨w.heap.size, 3, none⟩ v3) (w.heap.size + 2) v2 v3 ms ss :=
  ⟨blk_set (blk_set (blk_set (blk_set h.a 0 _) 1 _) 2 _) 3 _, Below.setCell (Below.setCell (Below.setCell (Below.setCell h.g (p := ⟨w.heap.size, 0, none⟩) (Nat.le_refl _) _) (p := ⟨w.heap.size, 1, none⟩) (Nat.le_refl _) _) (p := ⟨w.heap.size, 2, none⟩) (Nat.le_refl _) _) (p := ⟨w.heap.size, 3, none⟩) (Nat.le_refl _) _, h.me.kept fun g hg _ => (blk_far (by omega) 3 _).trans ((blk_far (by omega) 2 _).trans ((blk_far (by omega) 1 _).trans (blk_far (by omega) 0 _)))⟩
/-- Memory when all is read. -/
structure Rs (w : World) (tq : Nat) (s' : ByteArray) (W : World) (tm nx : Int) (v2 v3 : Value) (ms : List LkA) (ss : List Sn) (xs : List Int) (sh : Bool) : Prop where
  sp : Sp w tq W tm nx v2 v3 ms ss xs sh
  r : W.heap[w.heap.size + 1]? = some (.cells #[.string s', .bool sh] 144 (0, 0))
section
variable {w W W' : World} {tq : Nat} {s' : ByteArray} {tm nx : Int} {v2 v3 : Value} {ms : List LkA} {ss : List Sn} {xs : List Int} {sh : Bool}
theorem Rs.up (h : Rs w tq s' W tm nx v2 v3 ms ss xs sh) (hb : Below W.heap.size W W') : Rs w tq s' W' tm nx v2 v3 ms ss xs sh := ⟨h.sp.up hb, (hb.block _ (Array.getElem?_eq_some_iff.1 h.r).1).trans h.r⟩
theorem Rs.drew (h : Rs w tq s' W tm nx v2 v3 ms ss xs sh) : Rs w tq s' W.drew tm nx v2 v3 ms ss xs sh := ⟨h.sp.drew, h.r⟩
theorem Rs.cells (h : Rs w tq s' W tm nx v2 v3 ms ss xs sh) : W.cell? ⟨w.heap.size + 1, 0, none⟩ = some (.string s') ∧ W.cell? ⟨w.heap.size + 1, 1, none⟩ = some (.bool sh) ∧ W.cell? ⟨tq, 0, none⟩ = some (.int .i64 tm) ∧ W.cell? ⟨tq, 1, none⟩ = some (.int .i64 nx) ∧ W.cell? ⟨tq, 2, none⟩ = some v2 ∧ W.cell? ⟨tq, 3, none⟩ = some v3 :=
  ⟨(blk_cell h.r 0 rfl).1, (blk_cell h.r 1 rfl).1, (blk_cell h.sp.t 0 rfl).1, (blk_cell h.sp.t 1 rfl).1, (blk_cell h.sp.t 2 rfl).1, (blk_cell h.sp.t 3 rfl).1⟩
theorem Rs.cellsN (h : Rs w tq s' W tm nx v2 v3 ms ss xs sh) (x0 x1 x2 x3 : Value) : ((((W.setCell ⟨w.heap.size, 0, none⟩ x0).setCell ⟨w.heap.size, 1, none⟩ x1).setCell ⟨w.heap.size, 2, none⟩ x2).setCell ⟨w.heap.size, 3, none⟩ x3).cell? ⟨w.heap.size + 1, 0, none⟩ = some (.string s') ∧ ((((W.setCell ⟨w.heap.size, 0, none⟩ x0).setCell ⟨w.heap.size, 1, none⟩ x1).setCell ⟨w.heap.size, 2, none⟩ x2).setCell ⟨w.heap.size, 3, none⟩ x3).cell? ⟨w.heap.size + 1, 1, none⟩ = some (.bool sh) ∧ ((((W.setCell ⟨w.heap.size, 0, none⟩ x0).setCell ⟨w.heap.size, 1, none⟩ x1).setCell ⟨w.heap.size, 2, none⟩ x2).setCell ⟨w.heap.size, 3, none⟩ x3).cell? ⟨tq, 0, none⟩ = some (.int .i64 tm) ∧ ((((W.setCell ⟨w.heap.size, 0, none⟩ x0).setCell ⟨w.heap.size, 1, none⟩ x1).setCell ⟨w.heap.size, 2, none⟩ x2).setCell ⟨w.heap.size, 3, none⟩ x3).cell? ⟨tq, 1, none⟩ = some (.int .i64 nx) ∧ ((((W.setCell ⟨w.heap.size, 0, none⟩ x0).setCell ⟨w.heap.size, 1, none⟩ x1).setCell ⟨w.heap.size, 2, none⟩ x2).setCell ⟨w.heap.size, 3, none⟩ x3).cell? ⟨tq, 2, none⟩ = some v2 ∧ ((((W.setCell ⟨w.heap.size, 0, none⟩ x0).setCell ⟨w.heap.size, 1, none⟩ x1).setCell ⟨w.heap.size, 2, none⟩ x2).setCell ⟨w.heap.size, 3, none⟩ x3).cell? ⟨tq, 3, none⟩ = some v3 :=
  have h4 : ∀ k, k ≠ w.heap.size → ((((W.setCell ⟨w.heap.size, 0, none⟩ x0).setCell ⟨w.heap.size, 1, none⟩ x1).setCell ⟨w.heap.size, 2, none⟩ x2).setCell ⟨w.heap.size, 3, none⟩ x3).heap[k]? = W.heap[k]? := fun k hk => (blk_far hk 3 _).trans ((blk_far hk 2 _).trans ((blk_far hk 1 _).trans (blk_far hk 0 _)))
  have hr := (h4 _ (by omega)).trans h.r
  have ht := (h4 _ (by have := h.sp.tl; omega)).trans h.sp.t
  ⟨(blk_cell hr 0 rfl).1, (blk_cell hr 1 rfl).1, (blk_cell ht 0 rfl).1, (blk_cell ht 1 rfl).1, (blk_cell ht 2 rfl).1, (blk_cell ht 3 rfl).1⟩
end
/-- What l05Read answers. -/
def LrP (xs : List Int) (w : World) (e : Ending) (w' : World) : Prop := ∃ tm nx u2 u3 ms ss, e = .returned (.tuple #[tabV tm nx u2 u3, .bool (rtOK xs)]) ∧ (Mem w' w.heap.size u2 u3 ms ss ∧ (rtOK xs = true → tbO xs = ⟨tm, nx, ms.map (·.1), ss⟩)) ∧ Below w.heap.size w w'
theorem Agl.zero (n : Nat) (ys : List Int) (s0 : Bool) : Agl n ys s0 0 (([] : List LkA).map (·.1)) ys s0 :=
  ⟨fun h => ⟨rfl, rfl, h⟩, fun h => itS_true lkS_true ys s0 (Nat.zero_le n) h⟩
theorem start2 {w q2 : World} {tq : Nat} {z0 z1 : Int} {v2 v3 : Value} {ms : List LkA} {ss : List Sn} {xs : List Int} {sh : Bool} (h : Sp w tq q2 z0 z1 v2 v3 ms ss xs sh) (nm : ByteArray) :
    Sk w tq q2 ((q2.alloc (.cells #[] 101)).alloc (.cells #[.string nm, .int .i64 0, .int .i64 0, .int .i64 0, .slice (some ⟨q2.heap.size, 0, none⟩) 0 0] 98)) (q2.heap.size + 1) z0 z1 v2 v3 ms ss #[.string nm, .int .i64 0, .int .i64 0, .int .i64 0, .slice (some ⟨q2.heap.size, 0, none⟩) 0 0] (.slice (some ⟨q2.heap.size, 0, none⟩) 0 0) [] xs sh := by
  have e1 : (q2.alloc (.cells #[] 101)).heap.size = q2.heap.size + 1 := size_new _ _
  have B1 : Below q2.heap.size q2 ((q2.alloc (.cells #[] 101)).alloc (.cells #[.string nm, .int .i64 0, .int .i64 0, .int .i64 0, .slice (some ⟨q2.heap.size, 0, none⟩) 0 0] 98)) := ((Below.refl _ _).alloc (Nat.le_refl _) _).alloc (by rw [e1]; omega) _
  refine ⟨h.up B1, ?_, ?_, Mem.low h.me, ⟨h.size, by omega⟩⟩
  · have := heap_alloc_new (q2.alloc (.cells #[] 101)) (.cells #[.string nm, .int .i64 0, .int .i64 0, .int .i64 0, .slice (some ⟨q2.heap.size, 0, none⟩) 0 0] 98)
    rw [e1] at this
    exact this
  · exact (OwnW.made q2 q2.heap.size (Nat.le_refl _)).alloc _
theorem start1 {w w1 : World} {xs : List Int} {sh : Bool} (a : w1.heap[w.heap.size]? = some (.cells #[.int .i64 0, .int .i64 0, .slice none 0 0, .slice none 0 0] 36 (0, 0))) (r : Rdp w1 (w.heap.size + 1) xs sh) (g : Below w.heap.size w w1) (hw : w.heap.size + 2 ≤ w1.heap.size) (z : Int) :
    Sp w (w1.heap.size + 1 + 1) (((w1.alloc (.cells #[] 98)).alloc (.cells #[] 105)).alloc (.cells #[.int .i64 z, .int .i64 0, .slice (some ⟨w1.heap.size, 0, none⟩) 0 0, .slice (some ⟨w1.heap.size + 1, 0, none⟩) 0 0] 36)) z 0 (.slice (some ⟨w1.heap.size, 0, none⟩) 0 0) (.slice (some ⟨w1.heap.size + 1, 0, none⟩) 0 0) [] [] xs sh := by
  have e1 : (w1.alloc (.cells #[] 98)).heap.size = w1.heap.size + 1 := size_new _ _
  have e2 : ((w1.alloc (.cells #[] 98)).alloc (.cells #[] 105)).heap.size = w1.heap.size + 1 + 1 := by rw [size_new, e1]
  have B1 : Below w1.heap.size w1 (((w1.alloc (.cells #[] 98)).alloc (.cells #[] 105)).alloc (.cells #[.int .i64 z, .int .i64 0, .slice (some ⟨w1.heap.size, 0, none⟩) 0 0, .slice (some ⟨w1.heap.size + 1, 0, none⟩) 0 0] 36)) := (((Below.refl _ _).alloc (Nat.le_refl _) _).alloc (by rw [e1]; omega) _).alloc (by rw [e2]; omega) _
  refine ⟨(B1.block _ (by omega)).trans a, r.kept (B1.block _ (by omega)), ?_, g.trans (B1.mono (by omega)), ⟨?_, (fun m hm => by cases hm), List.Pairwise.nil, ?_⟩, by omega⟩
  · have := heap_alloc_new ((w1.alloc (.cells #[] 98)).alloc (.cells #[] 105)) (.cells #[.int .i64 z, .int .i64 0, .slice (some ⟨w1.heap.size, 0, none⟩) 0 0, .slice (some ⟨w1.heap.size + 1, 0, none⟩) 0 0] 36)
    rw [e2] at this
    exact this
  · have h : OwnL (w1.alloc (.cells #[] 98)) (w.heap.size + 2) (.slice (some ⟨w1.heap.size, 0, none⟩) 0 0) [] := World.ownsRow_made w1 #[] 0 hw (by decide) rfl
    exact h.kept fun g hg => by
      have := (h.lt g hg).2
      exact (Below.heap_alloc _ _ _ (by rw [e2]; omega)).trans (Below.heap_alloc _ _ _ this)
  · have h : OwnS ((w1.alloc (.cells #[] 98)).alloc (.cells #[] 105)) (w.heap.size + 2) (.slice (some ⟨w1.heap.size + 1, 0, none⟩) 0 0) [] := by
      have := OwnS.made (w1.alloc (.cells #[] 98)) (w.heap.size + 2) (by rw [e1]; omega)
      rw [e1] at this
      exact this
    exact h.kept fun g hg => Below.heap_alloc _ _ _ (h.lt g hg).2
set_option maxRecDepth 100000 in
set_option maxHeartbeats 6400000 in
theorem l05Read_any (s : ByteArray) (w : World) (hs : s.size ≤ 65536) :
    Calls Tryz.prog 49 #[.string s] w fun e w' => LrP (bys s) w e w' := by
  obtain ⟨i0, hi0, hz0, hz1, hz2⟩ := info_parts infoL
  obtain ⟨j0, hj0, hy0, hy1, hy2⟩ := info_parts infoS
  obtain ⟨k0, hk0, hx0, hx1, hx2⟩ := info_parts infoW
  obtain ⟨xs, HXS⟩ : ∃ xs, Hid (bys s = xs) := ⟨_, rfl⟩
  have HR0 : Hid (∀ x ∈ xs, 0 ≤ x ∧ x ≤ 255) := by rw [← HXS.out]; exact bys_range s
  have HRX : Hid (∀ x ∈ xs, 0 ≤ x ∧ x ≤ 255) := HR0
  have R0 : Hid (Rdp ((w.alloc (.cells #[.int .i64 0, .int .i64 0, .slice none 0 0, .slice none 0 0] 36)).alloc (.cells #[.string s, .bool false] 144)) (w.heap.size + 1) xs false) := by
    refine ⟨s, ?_, (fun _ => HXS.out), (fun h => by cases h), hs⟩
    have := heap_alloc_new (w.alloc (.cells #[.int .i64 0, .int .i64 0, .slice none 0 0, .slice none 0 0] 36)) (.cells #[.string s, .bool false] 144)
    rw [size_new] at this
    exact this
  have A0 : Hid (((w.alloc (.cells #[.int .i64 0, .int .i64 0, .slice none 0 0, .slice none 0 0] 36)).alloc (.cells #[.string s, .bool false] 144)).heap[w.heap.size]? = some (.cells #[.int .i64 0, .int .i64 0, .slice none 0 0, .slice none 0 0] 36 (0, 0)) ∧ Below w.heap.size w ((w.alloc (.cells #[.int .i64 0, .int .i64 0, .slice none 0 0, .slice none 0 0] 36)).alloc (.cells #[.string s, .bool false] 144)) ∧ ((w.alloc (.cells #[.int .i64 0, .int .i64 0, .slice none 0 0, .slice none 0 0] 36)).alloc (.cells #[.string s, .bool false] 144)).heap.size = w.heap.size + 2) :=
    ⟨(Below.heap_alloc _ _ _ (by simp)).trans (heap_alloc_new _ _), ((Below.refl _ _).alloc (Nat.le_refl _) _).alloc (by simp) _, by rw [size_new, size_new]⟩
  rw [HXS.out]
  clear HXS
  go_enter Tryz.func49, Tryz.ntmps49
  go_wp2_with fail
  generalize (w.alloc (.cells #[.int .i64 0, .int .i64 0, .slice none 0 0, .slice none 0 0] 36)).alloc (.cells #[.string s, .bool false] 144) = w0 at R0 A0 ⊢
  have N0 := number_any 4 _ xs false w0 R0.out (by decide) HR0.out
  obtain ⟨z0, HZ0⟩ : ∃ z, Hid (nv 4 xs = z) := ⟨_, rfl⟩
  rw [HZ0.out] at N0
  refine N0.mono ?_
  rintro e w1 ⟨rfl, r1, g1⟩
  have HR1 : Hid (∀ x ∈ tkR 4 xs, 0 ≤ x ∧ x ≤ 255) := tkR_range HR0.out
  have hw1 : w.heap.size + 2 ≤ w1.heap.size := by have := A0.out.2.2; have := g1.size; omega
  have S1 : Hid (w1.heap[w.heap.size]? = some (.cells #[.int .i64 0, .int .i64 0, .slice none 0 0, .slice none 0 0] 36 (0, 0)) ∧ Below w.heap.size w w1 ∧ Rdp w1 (w.heap.size + 1) (tkR 4 xs) (tkS 4 xs false)) := ⟨blk_kept A0.out.1 g1 (by omega), A0.out.2.1.trans (gb g1 R0.out.lt (by omega)), r1⟩
  have T1 : Hid (Sp w (w1.heap.size + 1 + 1) (((w1.alloc (.cells #[] 98)).alloc (.cells #[] 105)).alloc (.cells #[.int .i64 z0, .int .i64 0, .slice (some ⟨w1.heap.size, 0, none⟩) 0 0, .slice (some ⟨w1.heap.size + 1, 0, none⟩) 0 0] 36)) z0 0 (.slice (some ⟨w1.heap.size, 0, none⟩) 0 0) (.slice (some ⟨w1.heap.size + 1, 0, none⟩) 0 0) [] [] (tkR 4 xs) (tkS 4 xs false)) := start1 S1.out.1 S1.out.2.2 S1.out.2.1 hw1 z0
  clear N0 r1 g1 R0 A0 HR0 S1
  go_wp2_with fail
  generalize (((w1.alloc (.cells #[] 98)).alloc (.cells #[] 105)).alloc (.cells #[.int .i64 z0, .int .i64 0, .slice (some ⟨w1.heap.size, 0, none⟩) 0 0, .slice (some ⟨w1.heap.size + 1, 0, none⟩) 0 0] 36)) = w1' at T1 ⊢
  generalize w1.heap.size + 1 + 1 = tq at T1 ⊢
  generalize (some (⟨w1.heap.size, 0, none⟩ : Addr)) = la at T1 ⊢
  generalize (some (⟨w1.heap.size + 1, 0, none⟩ : Addr)) = sa at T1 ⊢
  have N1 := number_any 3 _ (tkR 4 xs) (tkS 4 xs false) w1' T1.out.rd (by decide) HR1.out
  obtain ⟨z1, HZ1⟩ : ∃ z, Hid (nv 3 (tkR 4 xs) = z) := ⟨_, rfl⟩
  rw [HZ1.out] at N1
  refine N1.mono ?_
  rintro e w2 ⟨rfl, r2, g2⟩
  have HR2 : Hid (∀ x ∈ tb2 xs, 0 ≤ x ∧ x ≤ 255) := tkR_range HR1.out
  have t2 := T1.out.num r2 g2
  obtain ⟨c1, f1⟩ := blk_cell t2.t 1 (x := .int .i64 0) rfl
  have T2 : Hid (Sp w tq (w2.setCell ⟨tq, 1, none⟩ (.int .i64 z1)) z0 z1 (.slice la 0 0) (.slice sa 0 0) [] [] (tb2 xs) (tkS 3 (tkR 4 xs) (tkS 4 xs false))) := t2.set1 z1
  clear T1 N1 r2 g2 t2 HR1 hw1
  go_wp2_with fail
  clear c1 f1
  generalize w2.setCell ⟨tq, 1, none⟩ (.int .i64 z1) = w2' at T2 ⊢
  have N2 := number_any 1 _ (tb2 xs) (tkS 3 (tkR 4 xs) (tkS 4 xs false)) w2' T2.out.rd (by decide) HR2.out
  rw [cnt_eq HR2.out] at N2
  have hc2 : cnt (tb2 xs) ≤ 255 := cnt_le HR2.out
  have HRA : Hid (∀ x ∈ tbA xs, 0 ≤ x ∧ x ≤ 255) := tkR_range HR2.out
  refine N2.mono ?_
  rintro e w3 ⟨rfl, r3, g3⟩
  have T3 : Hid (Sp w tq w3 z0 z1 (.slice la 0 0) (.slice sa 0 0) [] [] (tbA xs) (tbS1 xs false)) := T2.out.num r3 g3
  clear T2 N2 r3 g3 HR2
  go_wp2_with fail
  obtain ⟨n, HNN⟩ : ∃ n, Hid (cnt (tb2 xs) = n) := ⟨_, rfl⟩
  rw [HNN.out] at hc2 ⊢
  obtain ⟨y0, HY0⟩ : ∃ y, Hid (tbA xs = y) := ⟨_, rfl⟩
  obtain ⟨s0, HS0⟩ : ∃ y, Hid (tbS1 xs false = y) := ⟨_, rfl⟩
  rw [HY0.out, HS0.out] at T3
  rw [HY0.out] at HRA
  go_loopw [6] (fun i wr => ∃ (k : Nat) (a : Option Addr) (c : Nat) (ms : List LkA) (ys : List Int) (sh : Bool), k ≤ n ∧ i = .int .i64 ((n : Int) - (k : Int)) ∧ Hid (ms.length = k ∧ Agl n y0 s0 k (ms.map (·.1)) ys sh ∧ Sp w tq wr z0 z1 (.slice a k c) (.slice sa 0 0) ms [] ys sh ∧ ∀ x ∈ ys, 0 ≤ x ∧ x ≤ 255)) (fun i _ => (intOf i).toNat)
  case atStart => exact ⟨0, la, 0, [], y0, s0, by omega, by simp, rfl, Agl.zero _ _ _, T3.out, HRA.out⟩
  case round =>
    clear T3 HRA
    obtain ⟨k, a, c, ms, ys, sh, hk, rfl, HT⟩ := hrel
    by_cases hlt : k < n
    · rcases Bool.eq_false_or_eq_true sh with hsh | hsh
      · subst hsh
        have hbad := HT.out.2.2.1.bad
        have HFL : Hid (Fl n y0 s0 (ms.map (·.1)) ys true) := ⟨(fun h => by cases h), HT.out.2.1.t⟩
        have M0 := number_any 1 _ ys true wr HT.out.2.2.1.rd (by decide) HT.out.2.2.2
        rw [cnt_eq HT.out.2.2.2] at M0
        have hc3 : cnt ys ≤ 255 := cnt_le HT.out.2.2.2
        have HRC : Hid (∀ x ∈ tkR 1 ys, 0 ≤ x ∧ x ≤ 255) := tkR_range HT.out.2.2.2
        have HLM : Hid (ms.length = k) := HT.out.1
        go_wp2_with fail
        refine M0.mono ?_
        rintro e w5 ⟨rfl, r, g⟩
        have T5 : Hid (Sp w tq w5 z0 z1 (.slice a k c) (.slice sa 0 0) ms [] (tkR 1 ys) (tkS 1 ys true)) := HT.out.2.2.1.num r g
        obtain ⟨n3, HN3⟩ : ∃ n, Hid (cnt ys = n) := ⟨_, rfl⟩
        obtain ⟨y2, HY2⟩ : ∃ y, Hid (tkR 1 ys = y) := ⟨_, rfl⟩
        obtain ⟨s2, HS2⟩ : ∃ y, Hid (tkS 1 ys true = y) := ⟨_, rfl⟩
        rw [HN3.out] at hc3
        rw [HN3.out]
        rw [HY2.out] at T5 HRC
        rw [HS2.out] at T5
        have HFO : Hid (∀ (ss : List Sn) (zs : List Int) (sb : Bool), (sb = false → ss = itL snR snO n3 y2 ∧ zs = itR snR n3 y2 ∧ itS snR snS n3 y2 s2 = false) ∧ (sb = true → itS snR snS n3 y2 s2 = true) → (sb = false → tbS xs false = false ∧ tbR xs = zs ∧ tbO xs = ⟨z0, z1, ms.map (·.1), ss⟩) ∧ (sb = true → tbS xs false = true)) := fun ss zs sb h => by
          rw [← HN3.out, ← HY2.out, ← HS2.out] at h
          rw [← HZ0.out, ← HZ1.out]
          have hf := HFL.out
          rw [← HNN.out, ← HY0.out, ← HS0.out] at hf
          exact fin_ok hf h
        clear HT M0 r g HFL HN3 HY2 HS2
        try clear hbad
        go_wp2_with fail
        go_loopw [11] (fun i wr => ∃ (k3 : Nat) (a3 : Option Addr) (c3 : Nat) (ss : List Sn) (zs : List Int) (sb : Bool), k3 ≤ n3 ∧ i = .int .i64 ((n3 : Int) - (k3 : Int)) ∧ Hid (ss.length = k3 ∧ Ags n3 y2 s2 k3 ss zs sb ∧ Sp w tq wr z0 z1 (.slice a k c) (.slice a3 k3 c3) ms ss zs sb ∧ ∀ x ∈ zs, 0 ≤ x ∧ x ≤ 255)) (fun i _ => (intOf i).toNat)
        case atStart => exact ⟨0, sa, 0, [], y2, s2, by omega, by simp, rfl, Ags.zero _ _ _, T5.out, HRC.out⟩
        case round =>
          clear T5 HRC
          obtain ⟨k3, a3, c3, ss, zs, sb, hk3, rfl, HT⟩ := hrel
          have hbad := HT.out.2.2.1.bad
          by_cases hlt3 : k3 < n3
          · rcases Bool.eq_false_or_eq_true sb with hsb | hsb
            · subst hsb
              have HFZ := (HFO.out ss zs true ⟨(fun h => by cases h), HT.out.2.1.t⟩).2 rfl
              have HOK : Hid (rtOK xs = false) := by show _ = _; unfold rtOK; rw [HFZ]; rfl
              have HP := HT.out.2.2.1
              obtain ⟨s', p, hs1, _, _⟩ := HP.rd
              have J : Hid (Rs w tq s' wr z0 z1 (.slice a k c) (.slice a3 k3 c3) ms ss zs true) := ⟨HP, p⟩
              have HS : Hid (∀ W, Rs w tq s' W z0 z1 (.slice a k c) (.slice a3 k3 c3) ms ss zs true → W.cell? ⟨w.heap.size + 1, 0, none⟩ = some (.string s') ∧ W.cell? ⟨w.heap.size + 1, 1, none⟩ = some (.bool true) ∧ W.cell? ⟨tq, 0, none⟩ = some (.int .i64 z0) ∧ W.cell? ⟨tq, 1, none⟩ = some (.int .i64 z1) ∧ W.cell? ⟨tq, 2, none⟩ = some (.slice a k c) ∧ W.cell? ⟨tq, 3, none⟩ = some (.slice a3 k3 c3)) := fun W h => h.cells
              have HSN : Hid (∀ W, Rs w tq s' W z0 z1 (.slice a k c) (.slice a3 k3 c3) ms ss zs true → ((((W.setCell ⟨w.heap.size, 0, none⟩ (.int .i64 z0)).setCell ⟨w.heap.size, 1, none⟩ (.int .i64 z1)).setCell ⟨w.heap.size, 2, none⟩ (.slice a k c)).setCell ⟨w.heap.size, 3, none⟩ (.slice a3 k3 c3)).cell? ⟨w.heap.size + 1, 0, none⟩ = some (.string s') ∧ ((((W.setCell ⟨w.heap.size, 0, none⟩ (.int .i64 z0)).setCell ⟨w.heap.size, 1, none⟩ (.int .i64 z1)).setCell ⟨w.heap.size, 2, none⟩ (.slice a k c)).setCell ⟨w.heap.size, 3, none⟩ (.slice a3 k3 c3)).cell? ⟨w.heap.size + 1, 1, none⟩ = some (.bool true) ∧ ((((W.setCell ⟨w.heap.size, 0, none⟩ (.int .i64 z0)).setCell ⟨w.heap.size, 1, none⟩ (.int .i64 z1)).setCell ⟨w.heap.size, 2, none⟩ (.slice a k c)).setCell ⟨w.heap.size, 3, none⟩ (.slice a3 k3 c3)).cell? ⟨tq, 0, none⟩ = some (.int .i64 z0) ∧ ((((W.setCell ⟨w.heap.size, 0, none⟩ (.int .i64 z0)).setCell ⟨w.heap.size, 1, none⟩ (.int .i64 z1)).setCell ⟨w.heap.size, 2, none⟩ (.slice a k c)).setCell ⟨w.heap.size, 3, none⟩ (.slice a3 k3 c3)).cell? ⟨tq, 1, none⟩ = some (.int .i64 z1) ∧ ((((W.setCell ⟨w.heap.size, 0, none⟩ (.int .i64 z0)).setCell ⟨w.heap.size, 1, none⟩ (.int .i64 z1)).setCell ⟨w.heap.size, 2, none⟩ (.slice a k c)).setCell ⟨w.heap.size, 3, none⟩ (.slice a3 k3 c3)).cell? ⟨tq, 2, none⟩ = some (.slice a k c) ∧ ((((W.setCell ⟨w.heap.size, 0, none⟩ (.int .i64 z0)).setCell ⟨w.heap.size, 1, none⟩ (.int .i64 z1)).setCell ⟨w.heap.size, 2, none⟩ (.slice a k c)).setCell ⟨w.heap.size, 3, none⟩ (.slice a3 k3 c3)).cell? ⟨tq, 3, none⟩ = some (.slice a3 k3 c3)) := fun W h => h.cellsN _ _ _ _
              obtain ⟨zc0, zf0⟩ := blk_cell HP.a 0 (x := .int .i64 0) rfl
              obtain ⟨zc1, zf1⟩ := blk_cell HP.a 1 (x := .int .i64 0) rfl
              obtain ⟨zc2, zf2⟩ := blk_cell HP.a 2 (x := .slice none 0 0) rfl
              obtain ⟨zc3, zf3⟩ := blk_cell HP.a 3 (x := .slice none 0 0) rfl
              clear HFZ HP HT HFO p hs1 hi0 hz0 hz1 hz2 hj0 hy0 hy1 hy2 hk0 hx0 hx1 hx2
              go_upto_region 28 with fail
              clear hbad
              refine wp_region_noPanic ?_
              refine wp_region_held_drew (S := fun W => W.cell? ⟨w.heap.size + 1, 0, none⟩ = some (.string s') ∧ W.cell? ⟨w.heap.size + 1, 1, none⟩ = some (.bool true) ∧ W.cell? ⟨tq, 0, none⟩ = some (.int .i64 z0) ∧ W.cell? ⟨tq, 1, none⟩ = some (.int .i64 z1) ∧ W.cell? ⟨tq, 2, none⟩ = some (.slice a k c) ∧ W.cell? ⟨tq, 3, none⟩ = some (.slice a3 k3 c3)) (by kernel_rfl) (HS.out _ J.out.drew) (fun hHeld => ?_)
              refine wpAnyH_take (i := 0) (oi := { dst := some 126, op := Go.Op.load 36 (Go.Operand.tmp 5), type := 36, pos := "l05_locks.go:331", after := #[], guard := none }) (v := ?v1) rfl (by kernel_rfl) (by kernel_rfl) (by kernel_rfl) (fun _ _ _ h => h) (Or.inl ⟨by rfl, ?h1⟩) hHeld ?r1
              case h1 => intro wz hz; (try dsimp only at hz); go_simp; try (with_reducible rfl)
              simp only [Act.put, List.setIfInBounds_toArray, List.set_cons_zero, List.set_cons_succ]
              refine wpAnyH_take (i := 1) (oi := { dst := some 127, op := Go.Op.move (Go.Operand.tmp 4), type := 142, pos := "l05_locks.go:331", after := #[], guard := none }) (v := ?v2) rfl (by kernel_rfl) (by kernel_rfl) (by kernel_rfl) (fun _ _ _ h => h) (Or.inl ⟨by rfl, ?h2⟩) hHeld ?r2
              case h2 => intro wz hz; (try dsimp only at hz); go_simp; try (with_reducible rfl)
              simp only [Act.put, List.setIfInBounds_toArray, List.set_cons_zero, List.set_cons_succ]
              refine wpAnyH_take (i := 2) (oi := { dst := some 128, op := Go.Op.nilCheck (Go.Operand.tmp 127), type := 0, pos := "l05_locks.go:331", after := #[{ on := 1, ground := Go.Ground.data }], guard := none }) (v := ?v3) rfl (by kernel_rfl) (by kernel_rfl) (by kernel_rfl) (fun _ _ _ h => h) (Or.inl ⟨by rfl, ?h3⟩) hHeld ?r3
              case h3 => intro wz hz; (try dsimp only at hz); go_simp; try (with_reducible rfl)
              simp only [Act.put, List.setIfInBounds_toArray, List.set_cons_zero, List.set_cons_succ]
              refine wpAnyH_take (i := 3) (oi := { dst := some 129, op := Go.Op.fieldAddr 144 (Go.Operand.tmp 128) 1, type := 0, pos := "l05_locks.go:331", after := #[{ on := 2, ground := Go.Ground.data }], guard := none }) (v := ?v4) rfl (by kernel_rfl) (by kernel_rfl) (by kernel_rfl) (fun _ _ _ h => h) (Or.inl ⟨by rfl, ?h4⟩) hHeld ?r4
              case h4 => intro wz hz; (try dsimp only at hz); go_simp; try (with_reducible rfl)
              simp only [Act.put, List.setIfInBounds_toArray, List.set_cons_zero, List.set_cons_succ]
              refine wpAnyH_take (i := 4) (oi := { dst := some 130, op := Go.Op.load 4 (Go.Operand.tmp 129), type := 4, pos := "l05_locks.go:331", after := #[{ on := 3, ground := Go.Ground.data }], guard := none }) (v := ?v5) rfl (by kernel_rfl) (by kernel_rfl) (by kernel_rfl) (fun _ _ _ h => h) (Or.inl ⟨by rfl, ?h5⟩) hHeld ?r5
              case h5 => intro wz hz; (try dsimp only at hz); go_simp; try (with_reducible rfl)
              simp only [Act.put, List.setIfInBounds_toArray, List.set_cons_zero, List.set_cons_succ]
              refine wpAnyH_take (i := 5) (oi := { dst := some 131, op := Go.Op.unOp Go.UnOp.not 4 (Go.Operand.tmp 130), type := 4, pos := "l05_locks.go:331", after := #[{ on := 4, ground := Go.Ground.data }], guard := none }) (v := ?v6) rfl (by kernel_rfl) (by kernel_rfl) (by kernel_rfl) (fun _ _ _ h => h) (Or.inl ⟨by rfl, ?h6⟩) hHeld ?r6
              case h6 => intro wz hz; (try dsimp only at hz); go_simp; try (with_reducible rfl)
              simp only [Act.put, List.setIfInBounds_toArray, List.set_cons_zero, List.set_cons_succ]
              refine wpAnyH_take (i := 6) (oi := { dst := some 132, op := Go.Op.move (Go.Operand.tmp 131), type := 4, pos := "l05_locks.go:331", after := #[{ on := 5, ground := Go.Ground.data }], guard := none }) (v := ?v7) rfl (by kernel_rfl) (by kernel_rfl) (by kernel_rfl) (fun _ _ _ h => h) (Or.inl ⟨by rfl, ?h7⟩) hHeld ?r7
              case h7 => intro wz hz; (try dsimp only at hz); go_simp; try (with_reducible rfl)
              simp only [Act.put, List.setIfInBounds_toArray, List.set_cons_zero, List.set_cons_succ]
              refine wpAnyH_take (i := 7) (oi := { dst := some 133, op := Go.Op.move (Go.Operand.tmp 4), type := 142, pos := "l05_locks.go:331", after := #[{ on := 6, ground := Go.Ground.guard }], guard := some (6, true) }) (v := undef) rfl (by kernel_rfl) (by kernel_rfl) (by kernel_rfl) (fun _ _ _ h => h) (Or.inr ⟨by rfl, rfl⟩) hHeld ?_
              simp only [Act.put, List.setIfInBounds_toArray, List.set_cons_zero, List.set_cons_succ]
              refine wpAnyH_take (i := 8) (oi := { dst := some 134, op := Go.Op.nilCheck (Go.Operand.tmp 133), type := 0, pos := "l05_locks.go:331", after := #[{ on := 7, ground := Go.Ground.data }, { on := 6, ground := Go.Ground.guard }], guard := some (6, true) }) (v := undef) rfl (by kernel_rfl) (by kernel_rfl) (by kernel_rfl) (fun _ _ _ h => h) (Or.inr ⟨by rfl, rfl⟩) hHeld ?_
              simp only [Act.put, List.setIfInBounds_toArray, List.set_cons_zero, List.set_cons_succ]
              refine wpAnyH_take (i := 9) (oi := { dst := some 135, op := Go.Op.fieldAddr 144 (Go.Operand.tmp 134) 0, type := 0, pos := "l05_locks.go:331", after := #[{ on := 8, ground := Go.Ground.data }, { on := 6, ground := Go.Ground.guard }], guard := some (6, true) }) (v := undef) rfl (by kernel_rfl) (by kernel_rfl) (by kernel_rfl) (fun _ _ _ h => h) (Or.inr ⟨by rfl, rfl⟩) hHeld ?_
              simp only [Act.put, List.setIfInBounds_toArray, List.set_cons_zero, List.set_cons_succ]
              refine wpAnyH_take (i := 10) (oi := { dst := some 136, op := Go.Op.load 9 (Go.Operand.tmp 135), type := 9, pos := "l05_locks.go:331", after := #[{ on := 9, ground := Go.Ground.data }, { on := 6, ground := Go.Ground.guard }], guard := some (6, true) }) (v := undef) rfl (by kernel_rfl) (by kernel_rfl) (by kernel_rfl) (fun _ _ _ h => h) (Or.inr ⟨by rfl, rfl⟩) hHeld ?_
              simp only [Act.put, List.setIfInBounds_toArray, List.set_cons_zero, List.set_cons_succ]
              refine wpAnyH_take (i := 11) (oi := { dst := some 137, op := Go.Op.binOp Go.BinOp.eql 9 (Go.Operand.tmp 136) (Go.Operand.const (Go.Value.string { data := #[] })) 9, type := 4, pos := "l05_locks.go:331", after := #[{ on := 10, ground := Go.Ground.data }, { on := 6, ground := Go.Ground.guard }], guard := some (6, true) }) (v := undef) rfl (by kernel_rfl) (by kernel_rfl) (by kernel_rfl) (fun _ _ _ h => h) (Or.inr ⟨by rfl, rfl⟩) hHeld ?_
              simp only [Act.put, List.setIfInBounds_toArray, List.set_cons_zero, List.set_cons_succ]
              refine wpAnyH_take (i := 12) (oi := { dst := some 138, op := Go.Op.pick (Go.Operand.tmp 132) (Go.Operand.tmp 137) (Go.Operand.const (Go.Value.bool false)), type := 4, pos := "l05_locks.go:331", after := #[{ on := 6, ground := Go.Ground.data }, { on := 11, ground := Go.Ground.data }], guard := none }) (v := ?v8) rfl (by kernel_rfl) (by kernel_rfl) (by kernel_rfl) (fun _ _ _ h => h) (Or.inl ⟨by rfl, ?h8⟩) hHeld ?r8
              case h8 => intro wz hz; (try dsimp only at hz); go_simp; try (with_reducible rfl)
              simp only [Act.put, List.setIfInBounds_toArray, List.set_cons_zero, List.set_cons_succ]
              refine wpAnyH_take (i := 13) (oi := { dst := some 139, op := Go.Op.move (Go.Operand.tmp 138), type := 4, pos := "l05_locks.go:331", after := #[{ on := 12, ground := Go.Ground.data }, { on := 6, ground := Go.Ground.chain }], guard := none }) (v := ?v9) rfl (by kernel_rfl) (by kernel_rfl) (by kernel_rfl) (fun _ _ _ h => h) (Or.inl ⟨by rfl, ?h9⟩) hHeld ?r9
              case h9 => intro wz hz; (try dsimp only at hz); go_simp; try (with_reducible rfl)
              simp only [Act.put, List.setIfInBounds_toArray, List.set_cons_zero, List.set_cons_succ]
              refine wpAnyH_take (i := 14) (oi := { dst := some 140, op := Go.Op.load 36 (Go.Operand.tmp 5), type := 36, pos := "l05_locks.go:331", after := #[{ on := 13, ground := Go.Ground.guard }], guard := some (13, true) }) (v := undef) rfl (by kernel_rfl) (by kernel_rfl) (by kernel_rfl) (fun _ _ _ h => h) (Or.inr ⟨by rfl, rfl⟩) hHeld ?_
              simp only [Act.put, List.setIfInBounds_toArray, List.set_cons_zero, List.set_cons_succ]
              refine wpAnyH_take (i := 15) (oi := { dst := some 141, op := Go.Op.call { callee := Go.Callee.value (Go.Operand.func 30), args := #[Go.Operand.tmp 140], argTypes := #[36] }, type := 4, pos := "l05_locks.go:331", after := #[{ on := 14, ground := Go.Ground.data }, { on := 13, ground := Go.Ground.chain }, { on := 13, ground := Go.Ground.guard }], guard := some (13, true) }) (v := undef) rfl (by kernel_rfl) (by kernel_rfl) (by kernel_rfl) (fun _ _ _ h => h) (Or.inr ⟨by rfl, rfl⟩) hHeld ?_
              simp only [Act.put, List.setIfInBounds_toArray, List.set_cons_zero, List.set_cons_succ]
              refine wpAnyH_take (i := 16) (oi := { dst := some 142, op := Go.Op.pick (Go.Operand.tmp 139) (Go.Operand.tmp 141) (Go.Operand.const (Go.Value.bool false)), type := 4, pos := "l05_locks.go:331", after := #[{ on := 13, ground := Go.Ground.data }, { on := 15, ground := Go.Ground.data }, { on := 17, ground := Go.Ground.gcOnly Go.Departure.lateStores }], guard := none }) (v := ?v10) rfl (by kernel_rfl) (by kernel_rfl) (by kernel_rfl) (fun _ _ _ h => h) (Or.inl ⟨by rfl, ?h10⟩) hHeld ?r10
              case h10 => intro wz hz; (try dsimp only at hz); go_simp; try (with_reducible rfl)
              simp only [Act.put, List.setIfInBounds_toArray, List.set_cons_zero, List.set_cons_succ]
              refine wpAnyH_ready (rs := [17]) (by kernel_rfl) (by simp) ?_
              refine AllReadyH.cons (o := { dst := none, op := Go.Op.store 36 (Go.Operand.tmp 2) (Go.Operand.tmp 126), type := 0, pos := "l05_locks.go:331", after := #[{ on := 0, ground := Go.Ground.data }, { on := 15, ground := Go.Ground.chain }, { on := 0, ground := Go.Ground.phase }, { on := 1, ground := Go.Ground.textOnly Go.Departure.lateStores }, { on := 2, ground := Go.Ground.textOnly Go.Departure.lateStores }, { on := 3, ground := Go.Ground.textOnly Go.Departure.lateStores }, { on := 4, ground := Go.Ground.textOnly Go.Departure.lateStores }, { on := 5, ground := Go.Ground.textOnly Go.Departure.lateStores }, { on := 6, ground := Go.Ground.textOnly Go.Departure.lateStores }, { on := 7, ground := Go.Ground.textOnly Go.Departure.lateStores }, { on := 8, ground := Go.Ground.textOnly Go.Departure.lateStores }, { on := 9, ground := Go.Ground.textOnly Go.Departure.lateStores }, { on := 10, ground := Go.Ground.textOnly Go.Departure.lateStores }, { on := 11, ground := Go.Ground.textOnly Go.Departure.lateStores }, { on := 12, ground := Go.Ground.textOnly Go.Departure.lateStores }, { on := 13, ground := Go.Ground.textOnly Go.Departure.lateStores }, { on := 14, ground := Go.Ground.textOnly Go.Departure.lateStores }, { on := 15, ground := Go.Ground.textOnly Go.Departure.lateStoresUnsure }, { on := 16, ground := Go.Ground.textOnly Go.Departure.lateStores }], guard := none }) rfl (fun K hK => ?_) AllReadyH.nil
              go_simp
              refine hK.out _ _ ?_ (fun hHeld => ?_)
              · first | exact HSN.out _ J.out | exact HSN.out _ J.out.drew
              clear hK K
              refine wpAnyH_take (i := 18) (oi := { dst := some 3, op := Go.Op.assign (Go.Operand.tmp 142), type := 4, pos := "l05_locks.go:331", after := #[{ on := 16, ground := Go.Ground.data }, { on := 17, ground := Go.Ground.chain }, { on := 0, ground := Go.Ground.phase }, { on := 1, ground := Go.Ground.phase }, { on := 2, ground := Go.Ground.phase }, { on := 3, ground := Go.Ground.phase }, { on := 4, ground := Go.Ground.phase }, { on := 5, ground := Go.Ground.phase }, { on := 6, ground := Go.Ground.phase }, { on := 7, ground := Go.Ground.phase }, { on := 8, ground := Go.Ground.phase }, { on := 9, ground := Go.Ground.phase }, { on := 10, ground := Go.Ground.phase }, { on := 11, ground := Go.Ground.phase }, { on := 12, ground := Go.Ground.phase }, { on := 13, ground := Go.Ground.phase }, { on := 14, ground := Go.Ground.phase }, { on := 15, ground := Go.Ground.phase }, { on := 16, ground := Go.Ground.phase }, { on := 17, ground := Go.Ground.phase }], guard := none }) (v := ?v11) rfl (by kernel_rfl) (by kernel_rfl) (by kernel_rfl) (fun _ _ _ h => h) (Or.inl ⟨by rfl, ?h11⟩) hHeld ?r11
              case h11 => intro wz hz; (try dsimp only at hz); go_simp; try (with_reducible rfl)
              simp only [Act.put, List.setIfInBounds_toArray, List.set_cons_zero, List.set_cons_succ]
              refine wpAnyH_done (by kernel_rfl) ?_ _
              refine NoPanic.normal ?_
              clear hHeld HS HSN
              have AF := J.out.sp.done
              go_wp2_with fail
              generalize ((((wr.setCell ⟨w.heap.size, 0, none⟩ (.int .i64 z0)).setCell ⟨w.heap.size, 1, none⟩ (.int .i64 z1)).setCell ⟨w.heap.size, 2, none⟩ (.slice a k c)).setCell ⟨w.heap.size, 3, none⟩ (.slice a3 k3 c3)) = wf at AF ⊢
              have d0 := (blk_cell AF.1 0 (x := .int .i64 z0) rfl).1
              have d1 := (blk_cell AF.1 1 (x := .int .i64 z1) rfl).1
              have d2 := (blk_cell AF.1 2 (x := .slice a k c) rfl).1
              have d3 := (blk_cell AF.1 3 (x := .slice a3 k3 c3) rfl).1
              refine bodyPost_ret (v := .tuple #[.agg #[.int .i64 z0, .int .i64 z1, .slice a k c, .slice a3 k3 c3], .bool false]) (by simp [results, Tryz.results49, go_sem, d0, d1, d2, d3]) rfl ?_
              exact ⟨z0, z1, _, _, ms, ss, by rw [HOK.out]; rfl, ⟨Mem.mono (Mem.kept (W' := wf.drew) AF.2.2 fun _ _ _ => rfl) (by omega), fun h => by rw [HOK.out] at h; cases h⟩, AF.2.1.drew⟩
            · subst hsb
              have HLS : Hid (ss.length = k3) := HT.out.1
              have HLN : Hid (ss.length + 1 ≤ 1000000) := by show _ ≤ _; rw [HLS.out]; omega
              have HNX : Hid (Ags n3 y2 s2 (k3 + 1) (ss ++ [snO zs]) (snR zs) (snS zs false)) := HT.out.2.1.next hlt3
              have P0 := HT.out.2.2.1
              have HRT0 : Hid (∀ x ∈ zs, 0 ≤ x ∧ x ≤ 255) := HT.out.2.2.2
              have M0 := number_any 1 _ zs false wr P0.rd (by decide) HRT0.out
              have HRT1 : Hid (∀ x ∈ tkR 1 zs, 0 ≤ x ∧ x ≤ 255) := tkR_range HRT0.out
              obtain ⟨t0, HT0⟩ : ∃ y, Hid (nv 1 zs = y) := ⟨_, rfl⟩
              rw [HT0.out] at M0
              clear HFO
              go_wp2_with fail
              refine M0.mono ?_
              rintro e q2 ⟨rfl, r, g⟩
              have K1 : Hid (Sq w tq q2 (q2.alloc (.cells #[.int .i64 t0, .int .i64 0, .int .i64 0, .int .i64 0, .int .i64 0, .int .i64 0] 105)) q2.heap.size z0 z1 (.slice a k c) (.slice a3 k3 c3) ms ss #[.int .i64 t0, .int .i64 0, .int .i64 0, .int .i64 0, .int .i64 0, .int .i64 0] (tkR 1 zs) (tkS 1 zs false)) := Sq.start (P0.num r g) _
              clear P0 M0 r g HRT0 HT hbad
              go_wp2_with fail
              generalize q2.alloc (.cells #[.int .i64 t0, .int .i64 0, .int .i64 0, .int .i64 0, .int .i64 0, .int .i64 0] 105) = u0' at K1 ⊢
              generalize q2.heap.size = q at K1 ⊢
              have M1 := number_any 2 _ (tkR 1 zs) (tkS 1 zs false) _ K1.out.sp.rd (by decide) HRT1.out
              have nb1 := nv_range (n := 2) HRT1.out
              simp only [show ((256 : Int) ^ 2) = 65536 from rfl] at nb1
              have HRT2 : Hid (∀ x ∈ tkR 2 (tkR 1 zs), 0 ≤ x ∧ x ≤ 255) := tkR_range HRT1.out
              obtain ⟨t1, HT1⟩ : ∃ y, Hid (nv 2 (tkR 1 zs) = y) := ⟨_, rfl⟩
              rw [HT1.out] at M1 nb1
              refine M1.mono ?_
              rintro e u1 ⟨rfl, r, g⟩
              have l := K1.out.num r g
              obtain ⟨c0, f0⟩ := blk_cell l.k 1 (x := .int .i64 0) rfl
              have K2 : Hid (Sq w tq q2 (u1.setCell ⟨q, 1, none⟩ (.int .i64 t1)) q z0 z1 (.slice a k c) (.slice a3 k3 c3) ms ss #[.int .i64 t0, .int .i64 t1, .int .i64 0, .int .i64 0, .int .i64 0, .int .i64 0] (tkR 2 (tkR 1 zs)) (tkS 2 (tkR 1 zs) (tkS 1 zs false))) := l.set 1 _
              clear l r g K1 M1 HRT1
              go_wp2_with fail
              clear c0 f0 nb1
              generalize u1.setCell ⟨q, 1, none⟩ (.int .i64 t1) = u1' at K2 ⊢
              have M2 := number_any 1 _ (tkR 2 (tkR 1 zs)) (tkS 2 (tkR 1 zs) (tkS 1 zs false)) _ K2.out.sp.rd (by decide) HRT2.out
              have nb2 := nv_range (n := 1) HRT2.out
              simp only [show ((256 : Int) ^ 1) = 256 from rfl] at nb2
              have HRT3 : Hid (∀ x ∈ tkR 1 (tkR 2 (tkR 1 zs)), 0 ≤ x ∧ x ≤ 255) := tkR_range HRT2.out
              obtain ⟨t2, HT2⟩ : ∃ y, Hid (nv 1 (tkR 2 (tkR 1 zs)) = y) := ⟨_, rfl⟩
              rw [HT2.out] at M2 nb2
              refine M2.mono ?_
              rintro e u2 ⟨rfl, r, g⟩
              have l := K2.out.num r g
              obtain ⟨c0, f0⟩ := blk_cell l.k 2 (x := .int .i64 0) rfl
              have K3 : Hid (Sq w tq q2 (u2.setCell ⟨q, 2, none⟩ (.int .i64 t2)) q z0 z1 (.slice a k c) (.slice a3 k3 c3) ms ss #[.int .i64 t0, .int .i64 t1, .int .i64 t2, .int .i64 0, .int .i64 0, .int .i64 0] (tkR 1 (tkR 2 (tkR 1 zs))) (tkS 1 (tkR 2 (tkR 1 zs)) (tkS 2 (tkR 1 zs) (tkS 1 zs false)))) := l.set 2 _
              clear l r g K2 M2 HRT2
              go_wp2_with fail
              clear c0 f0 nb2
              generalize u2.setCell ⟨q, 2, none⟩ (.int .i64 t2) = u2' at K3 ⊢
              have M3 := number_any 3 _ (tkR 1 (tkR 2 (tkR 1 zs))) (tkS 1 (tkR 2 (tkR 1 zs)) (tkS 2 (tkR 1 zs) (tkS 1 zs false))) _ K3.out.sp.rd (by decide) HRT3.out
              have nb3 := nv_range (n := 3) HRT3.out
              simp only [show ((256 : Int) ^ 3) = 16777216 from rfl] at nb3
              have HRT4 : Hid (∀ x ∈ tkR 3 (tkR 1 (tkR 2 (tkR 1 zs))), 0 ≤ x ∧ x ≤ 255) := tkR_range HRT3.out
              obtain ⟨t3, HT3⟩ : ∃ y, Hid (nv 3 (tkR 1 (tkR 2 (tkR 1 zs))) = y) := ⟨_, rfl⟩
              rw [HT3.out] at M3 nb3
              refine M3.mono ?_
              rintro e u3 ⟨rfl, r, g⟩
              have l := K3.out.num r g
              obtain ⟨c0, f0⟩ := blk_cell l.k 3 (x := .int .i64 0) rfl
              have K4 : Hid (Sq w tq q2 (u3.setCell ⟨q, 3, none⟩ (.int .i64 t3)) q z0 z1 (.slice a k c) (.slice a3 k3 c3) ms ss #[.int .i64 t0, .int .i64 t1, .int .i64 t2, .int .i64 t3, .int .i64 0, .int .i64 0] (tkR 3 (tkR 1 (tkR 2 (tkR 1 zs)))) (tkS 3 (tkR 1 (tkR 2 (tkR 1 zs))) (tkS 1 (tkR 2 (tkR 1 zs)) (tkS 2 (tkR 1 zs) (tkS 1 zs false))))) := l.set 3 _
              clear l r g K3 M3 HRT3
              go_wp2_with fail
              clear c0 f0 nb3
              generalize u3.setCell ⟨q, 3, none⟩ (.int .i64 t3) = u3' at K4 ⊢
              have M4 := number_any 2 _ (tkR 3 (tkR 1 (tkR 2 (tkR 1 zs)))) (tkS 3 (tkR 1 (tkR 2 (tkR 1 zs))) (tkS 1 (tkR 2 (tkR 1 zs)) (tkS 2 (tkR 1 zs) (tkS 1 zs false)))) _ K4.out.sp.rd (by decide) HRT4.out
              have nb4 := nv_range (n := 2) HRT4.out
              simp only [show ((256 : Int) ^ 2) = 65536 from rfl] at nb4
              have HRT5 : Hid (∀ x ∈ tkR 2 (tkR 3 (tkR 1 (tkR 2 (tkR 1 zs)))), 0 ≤ x ∧ x ≤ 255) := tkR_range HRT4.out
              obtain ⟨t4, HT4⟩ : ∃ y, Hid (nv 2 (tkR 3 (tkR 1 (tkR 2 (tkR 1 zs)))) = y) := ⟨_, rfl⟩
              rw [HT4.out] at M4 nb4
              refine M4.mono ?_
              rintro e u4 ⟨rfl, r, g⟩
              have l := K4.out.num r g
              obtain ⟨c0, f0⟩ := blk_cell l.k 4 (x := .int .i64 0) rfl
              have K5 : Hid (Sq w tq q2 (u4.setCell ⟨q, 4, none⟩ (.int .i64 (t4 - 1))) q z0 z1 (.slice a k c) (.slice a3 k3 c3) ms ss #[.int .i64 t0, .int .i64 t1, .int .i64 t2, .int .i64 t3, .int .i64 (t4 - 1), .int .i64 0] (tkR 2 (tkR 3 (tkR 1 (tkR 2 (tkR 1 zs))))) (tkS 2 (tkR 3 (tkR 1 (tkR 2 (tkR 1 zs)))) (tkS 3 (tkR 1 (tkR 2 (tkR 1 zs))) (tkS 1 (tkR 2 (tkR 1 zs)) (tkS 2 (tkR 1 zs) (tkS 1 zs false)))))) := l.set 4 _
              clear l r g K4 M4 HRT4
              go_wp2_with fail
              clear c0 f0 nb4
              generalize u4.setCell ⟨q, 4, none⟩ (.int .i64 (t4 - 1)) = u4' at K5 ⊢
              have M5 := number_any 4 _ (tkR 2 (tkR 3 (tkR 1 (tkR 2 (tkR 1 zs))))) (tkS 2 (tkR 3 (tkR 1 (tkR 2 (tkR 1 zs)))) (tkS 3 (tkR 1 (tkR 2 (tkR 1 zs))) (tkS 1 (tkR 2 (tkR 1 zs)) (tkS 2 (tkR 1 zs) (tkS 1 zs false))))) _ K5.out.sp.rd (by decide) HRT5.out
              have HRT6 : Hid (∀ x ∈ tkR 4 (tkR 2 (tkR 3 (tkR 1 (tkR 2 (tkR 1 zs))))), 0 ≤ x ∧ x ≤ 255) := tkR_range HRT5.out
              obtain ⟨t5, HT5⟩ : ∃ y, Hid (nv 4 (tkR 2 (tkR 3 (tkR 1 (tkR 2 (tkR 1 zs))))) = y) := ⟨_, rfl⟩
              rw [HT5.out] at M5
              refine M5.mono ?_
              rintro e u5 ⟨rfl, r, g⟩
              have l := K5.out.num r g
              obtain ⟨c0, f0⟩ := blk_cell l.k 5 (x := .int .i64 0) rfl
              have K6 : Hid (Sq w tq q2 (u5.setCell ⟨q, 5, none⟩ (.int .i64 t5)) q z0 z1 (.slice a k c) (.slice a3 k3 c3) ms ss #[.int .i64 t0, .int .i64 t1, .int .i64 t2, .int .i64 t3, .int .i64 (t4 - 1), .int .i64 t5] (tkR 4 (tkR 2 (tkR 3 (tkR 1 (tkR 2 (tkR 1 zs)))))) (tkS 4 (tkR 2 (tkR 3 (tkR 1 (tkR 2 (tkR 1 zs))))) (tkS 2 (tkR 3 (tkR 1 (tkR 2 (tkR 1 zs)))) (tkS 3 (tkR 1 (tkR 2 (tkR 1 zs))) (tkS 1 (tkR 2 (tkR 1 zs)) (tkS 2 (tkR 1 zs) (tkS 1 zs false))))))) := l.set 5 _
              clear l r g K5 M5 HRT5
              go_upto_region 27 with fail
              clear c0 f0
              generalize u5.setCell ⟨q, 5, none⟩ (.int .i64 t5) = u5' at K6 ⊢
              have HES : Hid (snO zs = ⟨t0, t1, t2, t3, t4 - 1, t5⟩ ∧ snR zs = tkR 4 (tkR 2 (tkR 3 (tkR 1 (tkR 2 (tkR 1 zs))))) ∧ snS zs false = tkS 4 (tkR 2 (tkR 3 (tkR 1 (tkR 2 (tkR 1 zs))))) (tkS 2 (tkR 3 (tkR 1 (tkR 2 (tkR 1 zs)))) (tkS 3 (tkR 1 (tkR 2 (tkR 1 zs))) (tkS 1 (tkR 2 (tkR 1 zs)) (tkS 2 (tkR 1 zs) (tkS 1 zs false)))))) := ⟨by rw [← HT0.out, ← HT1.out, ← HT2.out, ← HT3.out, ← HT4.out, ← HT5.out]; rfl, rfl, rfl⟩
              rw [← HES.out.2.1, ← HES.out.2.2] at K6
              rw [← HES.out.2.1] at HRT6
              rw [HES.out.1] at HNX
              obtain ⟨z6, HZ6⟩ : ∃ y, Hid (snR zs = y) := ⟨_, rfl⟩
              obtain ⟨b6, HB6⟩ : ∃ y, Hid (snS zs false = y) := ⟨_, rfl⟩
              rw [HZ6.out] at HNX K6 HRT6
              rw [HB6.out] at HNX K6
              have cb0 := (blk_cell K6.out.k 0 (x := .int .i64 t0) rfl).1
              have cb1 := (blk_cell K6.out.k 1 (x := .int .i64 t1) rfl).1
              have cb2 := (blk_cell K6.out.k 2 (x := .int .i64 t2) rfl).1
              have cb3 := (blk_cell K6.out.k 3 (x := .int .i64 t3) rfl).1
              have cb4 := (blk_cell K6.out.k 4 (x := .int .i64 (t4 - 1)) rfl).1
              have cb5 := (blk_cell K6.out.k 5 (x := .int .i64 t5) rfl).1
              have ct3 := (blk_cell K6.out.sp.t 3 (x := .slice a3 k3 c3) rfl).1
              have P6 : Hid (Sp w tq (u5'.alloc (.cells #[.int .i64 t0, .int .i64 t1, .int .i64 t2, .int .i64 t3, .int .i64 (t4 - 1), .int .i64 t5] 105)) z0 z1 (.slice a k c) (.slice a3 k3 c3) ms ss z6 b6) := K6.out.sp.up ((Below.refl _ _).alloc (Nat.le_refl _) _)
              have OS : OwnS (u5'.alloc (.cells #[.int .i64 t0, .int .i64 t1, .int .i64 t2, .int .i64 t3, .int .i64 (t4 - 1), .int .i64 t5] 105)) (w.heap.size + 2) (.slice a3 k3 c3) ss := P6.out.me.os
              have KR : Hid (RowS (u5'.alloc (.cells #[.int .i64 t0, .int .i64 t1, .int .i64 t2, .int .i64 t3, .int .i64 (t4 - 1), .int .i64 t5] 105)) (.slice (some ⟨u5'.heap.size, 0, none⟩) 1 1) [⟨t0, t1, t2, t3, t4 - 1, t5⟩]) := row_oneS u5' ⟨t0, t1, t2, t3, t4 - 1, t5⟩
              have SZ : w.heap.size + 2 ≤ (u5'.alloc (.cells #[.int .i64 t0, .int .i64 t1, .int .i64 t2, .int .i64 t3, .int .i64 (t4 - 1), .int .i64 t5] 105)).heap.size := by have h1 := P6.out.tl; have h2 := P6.out.size; omega
              clear K6 HES HT0 HT1 HT2 HT3 HT4 HT5 HZ6 HB6
              go_wp2_with (at_builtin; go_must (refine appS (by rfl) _ _ 34 (by rfl) j0 Tryz.underlying34 hj0 hy0 hy1 hy2 (w.heap.size + 2) (u5'.alloc (.cells #[.int .i64 t0, .int .i64 t1, .int .i64 t2, .int .i64 t3, .int .i64 (t4 - 1), .int .i64 t5] 105)) (u5'.alloc (.cells #[.int .i64 t0, .int .i64 t1, .int .i64 t2, .int .i64 t3, .int .i64 (t4 - 1), .int .i64 t5] 105)) _ _ ss [⟨t0, t1, t2, t3, t4 - 1, t5⟩] (by rfl) OS (Below.refl _ _) SZ (by rfl) KR.out (by have := HLN.out; simpa using this) ?_; intro v5 w6 o5 b5 k5; obtain ⟨a5, cap5, rfl⟩ := o5.slice; obtain ⟨s5, f5, j5⟩ := P6.out.joinS o5 b5 k5))
              have hl5 : (ss ++ [(⟨t0, t1, t2, t3, t4 - 1, t5⟩ : Sn)]).length = k3 + 1 := by rw [List.length_append, HLS.out]; rfl
              rw [hl5] at j5
              rw [HLS.out]
              have T6 : Hid (Sp w tq (w6.setCell ⟨tq, 3, none⟩ (.slice a5 (k3 + 1) cap5)) z0 z1 (.slice a k c) (.slice a5 (k3 + 1) cap5) ms (ss ++ [⟨t0, t1, t2, t3, t4 - 1, t5⟩]) z6 b6) := j5
              exact ⟨⟨k3 + 1, a5, cap5, ss ++ [⟨t0, t1, t2, t3, t4 - 1, t5⟩], z6, b6, by omega, by go_num, hl5, HNX.out, T6.out, HRT6.out⟩, by simp [intOf]; omega⟩
          · obtain rfl : k3 = n3 := by omega
            have HFZ0 := HFO.out ss zs sb ⟨HT.out.2.1.f, HT.out.2.1.t⟩
            rcases Bool.eq_false_or_eq_true sb with hsb | hsb
            · subst hsb
              have HFZ := HFZ0.2 rfl
              clear HFZ0
              have HOK : Hid (rtOK xs = false) := by show _ = _; unfold rtOK; rw [HFZ]; rfl
              have HP := HT.out.2.2.1
              obtain ⟨s', p, hs1, _, _⟩ := HP.rd
              have J : Hid (Rs w tq s' wr z0 z1 (.slice a k c) (.slice a3 k3 c3) ms ss zs true) := ⟨HP, p⟩
              have HS : Hid (∀ W, Rs w tq s' W z0 z1 (.slice a k c) (.slice a3 k3 c3) ms ss zs true → W.cell? ⟨w.heap.size + 1, 0, none⟩ = some (.string s') ∧ W.cell? ⟨w.heap.size + 1, 1, none⟩ = some (.bool true) ∧ W.cell? ⟨tq, 0, none⟩ = some (.int .i64 z0) ∧ W.cell? ⟨tq, 1, none⟩ = some (.int .i64 z1) ∧ W.cell? ⟨tq, 2, none⟩ = some (.slice a k c) ∧ W.cell? ⟨tq, 3, none⟩ = some (.slice a3 k3 c3)) := fun W h => h.cells
              have HSN : Hid (∀ W, Rs w tq s' W z0 z1 (.slice a k c) (.slice a3 k3 c3) ms ss zs true → ((((W.setCell ⟨w.heap.size, 0, none⟩ (.int .i64 z0)).setCell ⟨w.heap.size, 1, none⟩ (.int .i64 z1)).setCell ⟨w.heap.size, 2, none⟩ (.slice a k c)).setCell ⟨w.heap.size, 3, none⟩ (.slice a3 k3 c3)).cell? ⟨w.heap.size + 1, 0, none⟩ = some (.string s') ∧ ((((W.setCell ⟨w.heap.size, 0, none⟩ (.int .i64 z0)).setCell ⟨w.heap.size, 1, none⟩ (.int .i64 z1)).setCell ⟨w.heap.size, 2, none⟩ (.slice a k c)).setCell ⟨w.heap.size, 3, none⟩ (.slice a3 k3 c3)).cell? ⟨w.heap.size + 1, 1, none⟩ = some (.bool true) ∧ ((((W.setCell ⟨w.heap.size, 0, none⟩ (.int .i64 z0)).setCell ⟨w.heap.size, 1, none⟩ (.int .i64 z1)).setCell ⟨w.heap.size, 2, none⟩ (.slice a k c)).setCell ⟨w.heap.size, 3, none⟩ (.slice a3 k3 c3)).cell? ⟨tq, 0, none⟩ = some (.int .i64 z0) ∧ ((((W.setCell ⟨w.heap.size, 0, none⟩ (.int .i64 z0)).setCell ⟨w.heap.size, 1, none⟩ (.int .i64 z1)).setCell ⟨w.heap.size, 2, none⟩ (.slice a k c)).setCell ⟨w.heap.size, 3, none⟩ (.slice a3 k3 c3)).cell? ⟨tq, 1, none⟩ = some (.int .i64 z1) ∧ ((((W.setCell ⟨w.heap.size, 0, none⟩ (.int .i64 z0)).setCell ⟨w.heap.size, 1, none⟩ (.int .i64 z1)).setCell ⟨w.heap.size, 2, none⟩ (.slice a k c)).setCell ⟨w.heap.size, 3, none⟩ (.slice a3 k3 c3)).cell? ⟨tq, 2, none⟩ = some (.slice a k c) ∧ ((((W.setCell ⟨w.heap.size, 0, none⟩ (.int .i64 z0)).setCell ⟨w.heap.size, 1, none⟩ (.int .i64 z1)).setCell ⟨w.heap.size, 2, none⟩ (.slice a k c)).setCell ⟨w.heap.size, 3, none⟩ (.slice a3 k3 c3)).cell? ⟨tq, 3, none⟩ = some (.slice a3 k3 c3)) := fun W h => h.cellsN _ _ _ _
              obtain ⟨zc0, zf0⟩ := blk_cell HP.a 0 (x := .int .i64 0) rfl
              obtain ⟨zc1, zf1⟩ := blk_cell HP.a 1 (x := .int .i64 0) rfl
              obtain ⟨zc2, zf2⟩ := blk_cell HP.a 2 (x := .slice none 0 0) rfl
              obtain ⟨zc3, zf3⟩ := blk_cell HP.a 3 (x := .slice none 0 0) rfl
              clear HFZ HP HT HFO p hs1 hi0 hz0 hz1 hz2 hj0 hy0 hy1 hy2 hk0 hx0 hx1 hx2
              go_upto_region 28 with fail
              clear hbad
              refine wp_region_noPanic ?_
              refine wp_region_held_drew (S := fun W => W.cell? ⟨w.heap.size + 1, 0, none⟩ = some (.string s') ∧ W.cell? ⟨w.heap.size + 1, 1, none⟩ = some (.bool true) ∧ W.cell? ⟨tq, 0, none⟩ = some (.int .i64 z0) ∧ W.cell? ⟨tq, 1, none⟩ = some (.int .i64 z1) ∧ W.cell? ⟨tq, 2, none⟩ = some (.slice a k c) ∧ W.cell? ⟨tq, 3, none⟩ = some (.slice a3 k3 c3)) (by kernel_rfl) (HS.out _ J.out.drew) (fun hHeld => ?_)
              refine wpAnyH_take (i := 0) (oi := { dst := some 126, op := Go.Op.load 36 (Go.Operand.tmp 5), type := 36, pos := "l05_locks.go:331", after := #[], guard := none }) (v := ?v12) rfl (by kernel_rfl) (by kernel_rfl) (by kernel_rfl) (fun _ _ _ h => h) (Or.inl ⟨by rfl, ?h12⟩) hHeld ?r12
              case h12 => intro wz hz; (try dsimp only at hz); go_simp; try (with_reducible rfl)
              simp only [Act.put, List.setIfInBounds_toArray, List.set_cons_zero, List.set_cons_succ]
              refine wpAnyH_take (i := 1) (oi := { dst := some 127, op := Go.Op.move (Go.Operand.tmp 4), type := 142, pos := "l05_locks.go:331", after := #[], guard := none }) (v := ?v13) rfl (by kernel_rfl) (by kernel_rfl) (by kernel_rfl) (fun _ _ _ h => h) (Or.inl ⟨by rfl, ?h13⟩) hHeld ?r13
              case h13 => intro wz hz; (try dsimp only at hz); go_simp; try (with_reducible rfl)
              simp only [Act.put, List.setIfInBounds_toArray, List.set_cons_zero, List.set_cons_succ]
              refine wpAnyH_take (i := 2) (oi := { dst := some 128, op := Go.Op.nilCheck (Go.Operand.tmp 127), type := 0, pos := "l05_locks.go:331", after := #[{ on := 1, ground := Go.Ground.data }], guard := none }) (v := ?v14) rfl (by kernel_rfl) (by kernel_rfl) (by kernel_rfl) (fun _ _ _ h => h) (Or.inl ⟨by rfl, ?h14⟩) hHeld ?r14
              case h14 => intro wz hz; (try dsimp only at hz); go_simp; try (with_reducible rfl)
              simp only [Act.put, List.setIfInBounds_toArray, List.set_cons_zero, List.set_cons_succ]
              refine wpAnyH_take (i := 3) (oi := { dst := some 129, op := Go.Op.fieldAddr 144 (Go.Operand.tmp 128) 1, type := 0, pos := "l05_locks.go:331", after := #[{ on := 2, ground := Go.Ground.data }], guard := none }) (v := ?v15) rfl (by kernel_rfl) (by kernel_rfl) (by kernel_rfl) (fun _ _ _ h => h) (Or.inl ⟨by rfl, ?h15⟩) hHeld ?r15
              case h15 => intro wz hz; (try dsimp only at hz); go_simp; try (with_reducible rfl)
              simp only [Act.put, List.setIfInBounds_toArray, List.set_cons_zero, List.set_cons_succ]
              refine wpAnyH_take (i := 4) (oi := { dst := some 130, op := Go.Op.load 4 (Go.Operand.tmp 129), type := 4, pos := "l05_locks.go:331", after := #[{ on := 3, ground := Go.Ground.data }], guard := none }) (v := ?v16) rfl (by kernel_rfl) (by kernel_rfl) (by kernel_rfl) (fun _ _ _ h => h) (Or.inl ⟨by rfl, ?h16⟩) hHeld ?r16
              case h16 => intro wz hz; (try dsimp only at hz); go_simp; try (with_reducible rfl)
              simp only [Act.put, List.setIfInBounds_toArray, List.set_cons_zero, List.set_cons_succ]
              refine wpAnyH_take (i := 5) (oi := { dst := some 131, op := Go.Op.unOp Go.UnOp.not 4 (Go.Operand.tmp 130), type := 4, pos := "l05_locks.go:331", after := #[{ on := 4, ground := Go.Ground.data }], guard := none }) (v := ?v17) rfl (by kernel_rfl) (by kernel_rfl) (by kernel_rfl) (fun _ _ _ h => h) (Or.inl ⟨by rfl, ?h17⟩) hHeld ?r17
              case h17 => intro wz hz; (try dsimp only at hz); go_simp; try (with_reducible rfl)
              simp only [Act.put, List.setIfInBounds_toArray, List.set_cons_zero, List.set_cons_succ]
              refine wpAnyH_take (i := 6) (oi := { dst := some 132, op := Go.Op.move (Go.Operand.tmp 131), type := 4, pos := "l05_locks.go:331", after := #[{ on := 5, ground := Go.Ground.data }], guard := none }) (v := ?v18) rfl (by kernel_rfl) (by kernel_rfl) (by kernel_rfl) (fun _ _ _ h => h) (Or.inl ⟨by rfl, ?h18⟩) hHeld ?r18
              case h18 => intro wz hz; (try dsimp only at hz); go_simp; try (with_reducible rfl)
              simp only [Act.put, List.setIfInBounds_toArray, List.set_cons_zero, List.set_cons_succ]
              refine wpAnyH_take (i := 7) (oi := { dst := some 133, op := Go.Op.move (Go.Operand.tmp 4), type := 142, pos := "l05_locks.go:331", after := #[{ on := 6, ground := Go.Ground.guard }], guard := some (6, true) }) (v := undef) rfl (by kernel_rfl) (by kernel_rfl) (by kernel_rfl) (fun _ _ _ h => h) (Or.inr ⟨by rfl, rfl⟩) hHeld ?_
              simp only [Act.put, List.setIfInBounds_toArray, List.set_cons_zero, List.set_cons_succ]
              refine wpAnyH_take (i := 8) (oi := { dst := some 134, op := Go.Op.nilCheck (Go.Operand.tmp 133), type := 0, pos := "l05_locks.go:331", after := #[{ on := 7, ground := Go.Ground.data }, { on := 6, ground := Go.Ground.guard }], guard := some (6, true) }) (v := undef) rfl (by kernel_rfl) (by kernel_rfl) (by kernel_rfl) (fun _ _ _ h => h) (Or.inr ⟨by rfl, rfl⟩) hHeld ?_
              simp only [Act.put, List.setIfInBounds_toArray, List.set_cons_zero, List.set_cons_succ]
              refine wpAnyH_take (i := 9) (oi := { dst := some 135, op := Go.Op.fieldAddr 144 (Go.Operand.tmp 134) 0, type := 0, pos := "l05_locks.go:331", after := #[{ on := 8, ground := Go.Ground.data }, { on := 6, ground := Go.Ground.guard }], guard := some (6, true) }) (v := undef) rfl (by kernel_rfl) (by kernel_rfl) (by kernel_rfl) (fun _ _ _ h => h) (Or.inr ⟨by rfl, rfl⟩) hHeld ?_
              simp only [Act.put, List.setIfInBounds_toArray, List.set_cons_zero, List.set_cons_succ]
              refine wpAnyH_take (i := 10) (oi := { dst := some 136, op := Go.Op.load 9 (Go.Operand.tmp 135), type := 9, pos := "l05_locks.go:331", after := #[{ on := 9, ground := Go.Ground.data }, { on := 6, ground := Go.Ground.guard }], guard := some (6, true) }) (v := undef) rfl (by kernel_rfl) (by kernel_rfl) (by kernel_rfl) (fun _ _ _ h => h) (Or.inr ⟨by rfl, rfl⟩) hHeld ?_
              simp only [Act.put, List.setIfInBounds_toArray, List.set_cons_zero, List.set_cons_succ]
              refine wpAnyH_take (i := 11) (oi := { dst := some 137, op := Go.Op.binOp Go.BinOp.eql 9 (Go.Operand.tmp 136) (Go.Operand.const (Go.Value.string { data := #[] })) 9, type := 4, pos := "l05_locks.go:331", after := #[{ on := 10, ground := Go.Ground.data }, { on := 6, ground := Go.Ground.guard }], guard := some (6, true) }) (v := undef) rfl (by kernel_rfl) (by kernel_rfl) (by kernel_rfl) (fun _ _ _ h => h) (Or.inr ⟨by rfl, rfl⟩) hHeld ?_
              simp only [Act.put, List.setIfInBounds_toArray, List.set_cons_zero, List.set_cons_succ]
              refine wpAnyH_take (i := 12) (oi := { dst := some 138, op := Go.Op.pick (Go.Operand.tmp 132) (Go.Operand.tmp 137) (Go.Operand.const (Go.Value.bool false)), type := 4, pos := "l05_locks.go:331", after := #[{ on := 6, ground := Go.Ground.data }, { on := 11, ground := Go.Ground.data }], guard := none }) (v := ?v19) rfl (by kernel_rfl) (by kernel_rfl) (by kernel_rfl) (fun _ _ _ h => h) (Or.inl ⟨by rfl, ?h19⟩) hHeld ?r19
              case h19 => intro wz hz; (try dsimp only at hz); go_simp; try (with_reducible rfl)
              simp only [Act.put, List.setIfInBounds_toArray, List.set_cons_zero, List.set_cons_succ]
              refine wpAnyH_take (i := 13) (oi := { dst := some 139, op := Go.Op.move (Go.Operand.tmp 138), type := 4, pos := "l05_locks.go:331", after := #[{ on := 12, ground := Go.Ground.data }, { on := 6, ground := Go.Ground.chain }], guard := none }) (v := ?v20) rfl (by kernel_rfl) (by kernel_rfl) (by kernel_rfl) (fun _ _ _ h => h) (Or.inl ⟨by rfl, ?h20⟩) hHeld ?r20
              case h20 => intro wz hz; (try dsimp only at hz); go_simp; try (with_reducible rfl)
              simp only [Act.put, List.setIfInBounds_toArray, List.set_cons_zero, List.set_cons_succ]
              refine wpAnyH_take (i := 14) (oi := { dst := some 140, op := Go.Op.load 36 (Go.Operand.tmp 5), type := 36, pos := "l05_locks.go:331", after := #[{ on := 13, ground := Go.Ground.guard }], guard := some (13, true) }) (v := undef) rfl (by kernel_rfl) (by kernel_rfl) (by kernel_rfl) (fun _ _ _ h => h) (Or.inr ⟨by rfl, rfl⟩) hHeld ?_
              simp only [Act.put, List.setIfInBounds_toArray, List.set_cons_zero, List.set_cons_succ]
              refine wpAnyH_take (i := 15) (oi := { dst := some 141, op := Go.Op.call { callee := Go.Callee.value (Go.Operand.func 30), args := #[Go.Operand.tmp 140], argTypes := #[36] }, type := 4, pos := "l05_locks.go:331", after := #[{ on := 14, ground := Go.Ground.data }, { on := 13, ground := Go.Ground.chain }, { on := 13, ground := Go.Ground.guard }], guard := some (13, true) }) (v := undef) rfl (by kernel_rfl) (by kernel_rfl) (by kernel_rfl) (fun _ _ _ h => h) (Or.inr ⟨by rfl, rfl⟩) hHeld ?_
              simp only [Act.put, List.setIfInBounds_toArray, List.set_cons_zero, List.set_cons_succ]
              refine wpAnyH_take (i := 16) (oi := { dst := some 142, op := Go.Op.pick (Go.Operand.tmp 139) (Go.Operand.tmp 141) (Go.Operand.const (Go.Value.bool false)), type := 4, pos := "l05_locks.go:331", after := #[{ on := 13, ground := Go.Ground.data }, { on := 15, ground := Go.Ground.data }, { on := 17, ground := Go.Ground.gcOnly Go.Departure.lateStores }], guard := none }) (v := ?v21) rfl (by kernel_rfl) (by kernel_rfl) (by kernel_rfl) (fun _ _ _ h => h) (Or.inl ⟨by rfl, ?h21⟩) hHeld ?r21
              case h21 => intro wz hz; (try dsimp only at hz); go_simp; try (with_reducible rfl)
              simp only [Act.put, List.setIfInBounds_toArray, List.set_cons_zero, List.set_cons_succ]
              refine wpAnyH_ready (rs := [17]) (by kernel_rfl) (by simp) ?_
              refine AllReadyH.cons (o := { dst := none, op := Go.Op.store 36 (Go.Operand.tmp 2) (Go.Operand.tmp 126), type := 0, pos := "l05_locks.go:331", after := #[{ on := 0, ground := Go.Ground.data }, { on := 15, ground := Go.Ground.chain }, { on := 0, ground := Go.Ground.phase }, { on := 1, ground := Go.Ground.textOnly Go.Departure.lateStores }, { on := 2, ground := Go.Ground.textOnly Go.Departure.lateStores }, { on := 3, ground := Go.Ground.textOnly Go.Departure.lateStores }, { on := 4, ground := Go.Ground.textOnly Go.Departure.lateStores }, { on := 5, ground := Go.Ground.textOnly Go.Departure.lateStores }, { on := 6, ground := Go.Ground.textOnly Go.Departure.lateStores }, { on := 7, ground := Go.Ground.textOnly Go.Departure.lateStores }, { on := 8, ground := Go.Ground.textOnly Go.Departure.lateStores }, { on := 9, ground := Go.Ground.textOnly Go.Departure.lateStores }, { on := 10, ground := Go.Ground.textOnly Go.Departure.lateStores }, { on := 11, ground := Go.Ground.textOnly Go.Departure.lateStores }, { on := 12, ground := Go.Ground.textOnly Go.Departure.lateStores }, { on := 13, ground := Go.Ground.textOnly Go.Departure.lateStores }, { on := 14, ground := Go.Ground.textOnly Go.Departure.lateStores }, { on := 15, ground := Go.Ground.textOnly Go.Departure.lateStoresUnsure }, { on := 16, ground := Go.Ground.textOnly Go.Departure.lateStores }], guard := none }) rfl (fun K hK => ?_) AllReadyH.nil
              go_simp
              refine hK.out _ _ ?_ (fun hHeld => ?_)
              · first | exact HSN.out _ J.out | exact HSN.out _ J.out.drew
              clear hK K
              refine wpAnyH_take (i := 18) (oi := { dst := some 3, op := Go.Op.assign (Go.Operand.tmp 142), type := 4, pos := "l05_locks.go:331", after := #[{ on := 16, ground := Go.Ground.data }, { on := 17, ground := Go.Ground.chain }, { on := 0, ground := Go.Ground.phase }, { on := 1, ground := Go.Ground.phase }, { on := 2, ground := Go.Ground.phase }, { on := 3, ground := Go.Ground.phase }, { on := 4, ground := Go.Ground.phase }, { on := 5, ground := Go.Ground.phase }, { on := 6, ground := Go.Ground.phase }, { on := 7, ground := Go.Ground.phase }, { on := 8, ground := Go.Ground.phase }, { on := 9, ground := Go.Ground.phase }, { on := 10, ground := Go.Ground.phase }, { on := 11, ground := Go.Ground.phase }, { on := 12, ground := Go.Ground.phase }, { on := 13, ground := Go.Ground.phase }, { on := 14, ground := Go.Ground.phase }, { on := 15, ground := Go.Ground.phase }, { on := 16, ground := Go.Ground.phase }, { on := 17, ground := Go.Ground.phase }], guard := none }) (v := ?v22) rfl (by kernel_rfl) (by kernel_rfl) (by kernel_rfl) (fun _ _ _ h => h) (Or.inl ⟨by rfl, ?h22⟩) hHeld ?r22
              case h22 => intro wz hz; (try dsimp only at hz); go_simp; try (with_reducible rfl)
              simp only [Act.put, List.setIfInBounds_toArray, List.set_cons_zero, List.set_cons_succ]
              refine wpAnyH_done (by kernel_rfl) ?_ _
              refine NoPanic.normal ?_
              clear hHeld HS HSN
              have AF := J.out.sp.done
              go_wp2_with fail
              generalize ((((wr.setCell ⟨w.heap.size, 0, none⟩ (.int .i64 z0)).setCell ⟨w.heap.size, 1, none⟩ (.int .i64 z1)).setCell ⟨w.heap.size, 2, none⟩ (.slice a k c)).setCell ⟨w.heap.size, 3, none⟩ (.slice a3 k3 c3)) = wf at AF ⊢
              have d0 := (blk_cell AF.1 0 (x := .int .i64 z0) rfl).1
              have d1 := (blk_cell AF.1 1 (x := .int .i64 z1) rfl).1
              have d2 := (blk_cell AF.1 2 (x := .slice a k c) rfl).1
              have d3 := (blk_cell AF.1 3 (x := .slice a3 k3 c3) rfl).1
              refine bodyPost_ret (v := .tuple #[.agg #[.int .i64 z0, .int .i64 z1, .slice a k c, .slice a3 k3 c3], .bool false]) (by simp [results, Tryz.results49, go_sem, d0, d1, d2, d3]) rfl ?_
              exact ⟨z0, z1, _, _, ms, ss, by rw [HOK.out]; rfl, ⟨Mem.mono (Mem.kept (W' := wf.drew) AF.2.2 fun _ _ _ => rfl) (by omega), fun h => by rw [HOK.out] at h; cases h⟩, AF.2.1.drew⟩
            · subst hsb
              obtain ⟨g1, g2, g3⟩ := HFZ0.1 rfl
              clear HFZ0
              rcases zs with _ | ⟨y, zs⟩
              rotate_left
              · have HOK : Hid (rtOK xs = false) := by show _ = _; unfold rtOK; rw [g2]; simp
                have HP := HT.out.2.2.1
                obtain ⟨s', p, hs1, _, _⟩ := HP.rd
                have J : Hid (Rs w tq s' wr z0 z1 (.slice a k c) (.slice a3 k3 c3) ms ss (y :: zs) false) := ⟨HP, p⟩
                have HS : Hid (∀ W, Rs w tq s' W z0 z1 (.slice a k c) (.slice a3 k3 c3) ms ss (y :: zs) false → W.cell? ⟨w.heap.size + 1, 0, none⟩ = some (.string s') ∧ W.cell? ⟨w.heap.size + 1, 1, none⟩ = some (.bool false) ∧ W.cell? ⟨tq, 0, none⟩ = some (.int .i64 z0) ∧ W.cell? ⟨tq, 1, none⟩ = some (.int .i64 z1) ∧ W.cell? ⟨tq, 2, none⟩ = some (.slice a k c) ∧ W.cell? ⟨tq, 3, none⟩ = some (.slice a3 k3 c3)) := fun W h => h.cells
                have HSN : Hid (∀ W, Rs w tq s' W z0 z1 (.slice a k c) (.slice a3 k3 c3) ms ss (y :: zs) false → ((((W.setCell ⟨w.heap.size, 0, none⟩ (.int .i64 z0)).setCell ⟨w.heap.size, 1, none⟩ (.int .i64 z1)).setCell ⟨w.heap.size, 2, none⟩ (.slice a k c)).setCell ⟨w.heap.size, 3, none⟩ (.slice a3 k3 c3)).cell? ⟨w.heap.size + 1, 0, none⟩ = some (.string s') ∧ ((((W.setCell ⟨w.heap.size, 0, none⟩ (.int .i64 z0)).setCell ⟨w.heap.size, 1, none⟩ (.int .i64 z1)).setCell ⟨w.heap.size, 2, none⟩ (.slice a k c)).setCell ⟨w.heap.size, 3, none⟩ (.slice a3 k3 c3)).cell? ⟨w.heap.size + 1, 1, none⟩ = some (.bool false) ∧ ((((W.setCell ⟨w.heap.size, 0, none⟩ (.int .i64 z0)).setCell ⟨w.heap.size, 1, none⟩ (.int .i64 z1)).setCell ⟨w.heap.size, 2, none⟩ (.slice a k c)).setCell ⟨w.heap.size, 3, none⟩ (.slice a3 k3 c3)).cell? ⟨tq, 0, none⟩ = some (.int .i64 z0) ∧ ((((W.setCell ⟨w.heap.size, 0, none⟩ (.int .i64 z0)).setCell ⟨w.heap.size, 1, none⟩ (.int .i64 z1)).setCell ⟨w.heap.size, 2, none⟩ (.slice a k c)).setCell ⟨w.heap.size, 3, none⟩ (.slice a3 k3 c3)).cell? ⟨tq, 1, none⟩ = some (.int .i64 z1) ∧ ((((W.setCell ⟨w.heap.size, 0, none⟩ (.int .i64 z0)).setCell ⟨w.heap.size, 1, none⟩ (.int .i64 z1)).setCell ⟨w.heap.size, 2, none⟩ (.slice a k c)).setCell ⟨w.heap.size, 3, none⟩ (.slice a3 k3 c3)).cell? ⟨tq, 2, none⟩ = some (.slice a k c) ∧ ((((W.setCell ⟨w.heap.size, 0, none⟩ (.int .i64 z0)).setCell ⟨w.heap.size, 1, none⟩ (.int .i64 z1)).setCell ⟨w.heap.size, 2, none⟩ (.slice a k c)).setCell ⟨w.heap.size, 3, none⟩ (.slice a3 k3 c3)).cell? ⟨tq, 3, none⟩ = some (.slice a3 k3 c3)) := fun W h => h.cellsN _ _ _ _
                obtain ⟨zc0, zf0⟩ := blk_cell HP.a 0 (x := .int .i64 0) rfl
                obtain ⟨zc1, zf1⟩ := blk_cell HP.a 1 (x := .int .i64 0) rfl
                obtain ⟨zc2, zf2⟩ := blk_cell HP.a 2 (x := .slice none 0 0) rfl
                obtain ⟨zc3, zf3⟩ := blk_cell HP.a 3 (x := .slice none 0 0) rfl
                have hne : ¬ s'.toList = [] := by rw [Lib.toList_data]; intro e; have h := hs1 rfl; unfold bys at h; rw [e] at h; cases h
                clear g1 g2 g3 HP HT HFO p hbad hs1 hi0 hz0 hz1 hz2 hj0 hy0 hy1 hy2 hk0 hx0 hx1 hx2
                go_upto_region 28 with fail
                refine wp_region_noPanic ?_
                refine wp_region_held_drew (S := fun W => W.cell? ⟨w.heap.size + 1, 0, none⟩ = some (.string s') ∧ W.cell? ⟨w.heap.size + 1, 1, none⟩ = some (.bool false) ∧ W.cell? ⟨tq, 0, none⟩ = some (.int .i64 z0) ∧ W.cell? ⟨tq, 1, none⟩ = some (.int .i64 z1) ∧ W.cell? ⟨tq, 2, none⟩ = some (.slice a k c) ∧ W.cell? ⟨tq, 3, none⟩ = some (.slice a3 k3 c3)) (by kernel_rfl) (HS.out _ J.out.drew) (fun hHeld => ?_)
                refine wpAnyH_take (i := 0) (oi := { dst := some 126, op := Go.Op.load 36 (Go.Operand.tmp 5), type := 36, pos := "l05_locks.go:331", after := #[], guard := none }) (v := ?v23) rfl (by kernel_rfl) (by kernel_rfl) (by kernel_rfl) (fun _ _ _ h => h) (Or.inl ⟨by rfl, ?h23⟩) hHeld ?r23
                case h23 => intro wz hz; (try dsimp only at hz); go_simp; try (with_reducible rfl)
                simp only [Act.put, List.setIfInBounds_toArray, List.set_cons_zero, List.set_cons_succ]
                refine wpAnyH_take (i := 1) (oi := { dst := some 127, op := Go.Op.move (Go.Operand.tmp 4), type := 142, pos := "l05_locks.go:331", after := #[], guard := none }) (v := ?v24) rfl (by kernel_rfl) (by kernel_rfl) (by kernel_rfl) (fun _ _ _ h => h) (Or.inl ⟨by rfl, ?h24⟩) hHeld ?r24
                case h24 => intro wz hz; (try dsimp only at hz); go_simp; try (with_reducible rfl)
                simp only [Act.put, List.setIfInBounds_toArray, List.set_cons_zero, List.set_cons_succ]
                refine wpAnyH_take (i := 2) (oi := { dst := some 128, op := Go.Op.nilCheck (Go.Operand.tmp 127), type := 0, pos := "l05_locks.go:331", after := #[{ on := 1, ground := Go.Ground.data }], guard := none }) (v := ?v25) rfl (by kernel_rfl) (by kernel_rfl) (by kernel_rfl) (fun _ _ _ h => h) (Or.inl ⟨by rfl, ?h25⟩) hHeld ?r25
                case h25 => intro wz hz; (try dsimp only at hz); go_simp; try (with_reducible rfl)
                simp only [Act.put, List.setIfInBounds_toArray, List.set_cons_zero, List.set_cons_succ]
                refine wpAnyH_take (i := 3) (oi := { dst := some 129, op := Go.Op.fieldAddr 144 (Go.Operand.tmp 128) 1, type := 0, pos := "l05_locks.go:331", after := #[{ on := 2, ground := Go.Ground.data }], guard := none }) (v := ?v26) rfl (by kernel_rfl) (by kernel_rfl) (by kernel_rfl) (fun _ _ _ h => h) (Or.inl ⟨by rfl, ?h26⟩) hHeld ?r26
                case h26 => intro wz hz; (try dsimp only at hz); go_simp; try (with_reducible rfl)
                simp only [Act.put, List.setIfInBounds_toArray, List.set_cons_zero, List.set_cons_succ]
                refine wpAnyH_take (i := 4) (oi := { dst := some 130, op := Go.Op.load 4 (Go.Operand.tmp 129), type := 4, pos := "l05_locks.go:331", after := #[{ on := 3, ground := Go.Ground.data }], guard := none }) (v := ?v27) rfl (by kernel_rfl) (by kernel_rfl) (by kernel_rfl) (fun _ _ _ h => h) (Or.inl ⟨by rfl, ?h27⟩) hHeld ?r27
                case h27 => intro wz hz; (try dsimp only at hz); go_simp; try (with_reducible rfl)
                simp only [Act.put, List.setIfInBounds_toArray, List.set_cons_zero, List.set_cons_succ]
                refine wpAnyH_take (i := 5) (oi := { dst := some 131, op := Go.Op.unOp Go.UnOp.not 4 (Go.Operand.tmp 130), type := 4, pos := "l05_locks.go:331", after := #[{ on := 4, ground := Go.Ground.data }], guard := none }) (v := ?v28) rfl (by kernel_rfl) (by kernel_rfl) (by kernel_rfl) (fun _ _ _ h => h) (Or.inl ⟨by rfl, ?h28⟩) hHeld ?r28
                case h28 => intro wz hz; (try dsimp only at hz); go_simp; try (with_reducible rfl)
                simp only [Act.put, List.setIfInBounds_toArray, List.set_cons_zero, List.set_cons_succ]
                refine wpAnyH_take (i := 6) (oi := { dst := some 132, op := Go.Op.move (Go.Operand.tmp 131), type := 4, pos := "l05_locks.go:331", after := #[{ on := 5, ground := Go.Ground.data }], guard := none }) (v := ?v29) rfl (by kernel_rfl) (by kernel_rfl) (by kernel_rfl) (fun _ _ _ h => h) (Or.inl ⟨by rfl, ?h29⟩) hHeld ?r29
                case h29 => intro wz hz; (try dsimp only at hz); go_simp; try (with_reducible rfl)
                simp only [Act.put, List.setIfInBounds_toArray, List.set_cons_zero, List.set_cons_succ]
                refine wpAnyH_take (i := 7) (oi := { dst := some 133, op := Go.Op.move (Go.Operand.tmp 4), type := 142, pos := "l05_locks.go:331", after := #[{ on := 6, ground := Go.Ground.guard }], guard := some (6, true) }) (v := ?v30) rfl (by kernel_rfl) (by kernel_rfl) (by kernel_rfl) (fun _ _ _ h => h) (Or.inl ⟨by rfl, ?h30⟩) hHeld ?r30
                case h30 => intro wz hz; (try dsimp only at hz); go_simp; try (with_reducible rfl)
                simp only [Act.put, List.setIfInBounds_toArray, List.set_cons_zero, List.set_cons_succ]
                refine wpAnyH_take (i := 8) (oi := { dst := some 134, op := Go.Op.nilCheck (Go.Operand.tmp 133), type := 0, pos := "l05_locks.go:331", after := #[{ on := 7, ground := Go.Ground.data }, { on := 6, ground := Go.Ground.guard }], guard := some (6, true) }) (v := ?v31) rfl (by kernel_rfl) (by kernel_rfl) (by kernel_rfl) (fun _ _ _ h => h) (Or.inl ⟨by rfl, ?h31⟩) hHeld ?r31
                case h31 => intro wz hz; (try dsimp only at hz); go_simp; try (with_reducible rfl)
                simp only [Act.put, List.setIfInBounds_toArray, List.set_cons_zero, List.set_cons_succ]
                refine wpAnyH_take (i := 9) (oi := { dst := some 135, op := Go.Op.fieldAddr 144 (Go.Operand.tmp 134) 0, type := 0, pos := "l05_locks.go:331", after := #[{ on := 8, ground := Go.Ground.data }, { on := 6, ground := Go.Ground.guard }], guard := some (6, true) }) (v := ?v32) rfl (by kernel_rfl) (by kernel_rfl) (by kernel_rfl) (fun _ _ _ h => h) (Or.inl ⟨by rfl, ?h32⟩) hHeld ?r32
                case h32 => intro wz hz; (try dsimp only at hz); go_simp; try (with_reducible rfl)
                simp only [Act.put, List.setIfInBounds_toArray, List.set_cons_zero, List.set_cons_succ]
                refine wpAnyH_take (i := 10) (oi := { dst := some 136, op := Go.Op.load 9 (Go.Operand.tmp 135), type := 9, pos := "l05_locks.go:331", after := #[{ on := 9, ground := Go.Ground.data }, { on := 6, ground := Go.Ground.guard }], guard := some (6, true) }) (v := ?v33) rfl (by kernel_rfl) (by kernel_rfl) (by kernel_rfl) (fun _ _ _ h => h) (Or.inl ⟨by rfl, ?h33⟩) hHeld ?r33
                case h33 => intro wz hz; (try dsimp only at hz); go_simp; try (with_reducible rfl)
                simp only [Act.put, List.setIfInBounds_toArray, List.set_cons_zero, List.set_cons_succ]
                refine wpAnyH_take (i := 11) (oi := { dst := some 137, op := Go.Op.binOp Go.BinOp.eql 9 (Go.Operand.tmp 136) (Go.Operand.const (Go.Value.string { data := #[] })) 9, type := 4, pos := "l05_locks.go:331", after := #[{ on := 10, ground := Go.Ground.data }, { on := 6, ground := Go.Ground.guard }], guard := some (6, true) }) (v := .bool false) rfl (by kernel_rfl) (by kernel_rfl) (by kernel_rfl) (fun _ _ _ h => h) (Or.inl ⟨by rfl, ?h34⟩) hHeld ?r34
                case h34 => intro wz hz; (try dsimp only at hz); go_simp; try exact hne
                simp only [Act.put, List.setIfInBounds_toArray, List.set_cons_zero, List.set_cons_succ]
                refine wpAnyH_take (i := 12) (oi := { dst := some 138, op := Go.Op.pick (Go.Operand.tmp 132) (Go.Operand.tmp 137) (Go.Operand.const (Go.Value.bool false)), type := 4, pos := "l05_locks.go:331", after := #[{ on := 6, ground := Go.Ground.data }, { on := 11, ground := Go.Ground.data }], guard := none }) (v := ?v35) rfl (by kernel_rfl) (by kernel_rfl) (by kernel_rfl) (fun _ _ _ h => h) (Or.inl ⟨by rfl, ?h35⟩) hHeld ?r35
                case h35 => intro wz hz; (try dsimp only at hz); go_simp; try (with_reducible rfl)
                simp only [Act.put, List.setIfInBounds_toArray, List.set_cons_zero, List.set_cons_succ]
                refine wpAnyH_take (i := 13) (oi := { dst := some 139, op := Go.Op.move (Go.Operand.tmp 138), type := 4, pos := "l05_locks.go:331", after := #[{ on := 12, ground := Go.Ground.data }, { on := 6, ground := Go.Ground.chain }], guard := none }) (v := ?v36) rfl (by kernel_rfl) (by kernel_rfl) (by kernel_rfl) (fun _ _ _ h => h) (Or.inl ⟨by rfl, ?h36⟩) hHeld ?r36
                case h36 => intro wz hz; (try dsimp only at hz); go_simp; try (with_reducible rfl)
                simp only [Act.put, List.setIfInBounds_toArray, List.set_cons_zero, List.set_cons_succ]
                refine wpAnyH_take (i := 14) (oi := { dst := some 140, op := Go.Op.load 36 (Go.Operand.tmp 5), type := 36, pos := "l05_locks.go:331", after := #[{ on := 13, ground := Go.Ground.guard }], guard := some (13, true) }) (v := undef) rfl (by kernel_rfl) (by kernel_rfl) (by kernel_rfl) (fun _ _ _ h => h) (Or.inr ⟨by rfl, rfl⟩) hHeld ?_
                simp only [Act.put, List.setIfInBounds_toArray, List.set_cons_zero, List.set_cons_succ]
                refine wpAnyH_take (i := 15) (oi := { dst := some 141, op := Go.Op.call { callee := Go.Callee.value (Go.Operand.func 30), args := #[Go.Operand.tmp 140], argTypes := #[36] }, type := 4, pos := "l05_locks.go:331", after := #[{ on := 14, ground := Go.Ground.data }, { on := 13, ground := Go.Ground.chain }, { on := 13, ground := Go.Ground.guard }], guard := some (13, true) }) (v := undef) rfl (by kernel_rfl) (by kernel_rfl) (by kernel_rfl) (fun _ _ _ h => h) (Or.inr ⟨by rfl, rfl⟩) hHeld ?_
                simp only [Act.put, List.setIfInBounds_toArray, List.set_cons_zero, List.set_cons_succ]
                refine wpAnyH_take (i := 16) (oi := { dst := some 142, op := Go.Op.pick (Go.Operand.tmp 139) (Go.Operand.tmp 141) (Go.Operand.const (Go.Value.bool false)), type := 4, pos := "l05_locks.go:331", after := #[{ on := 13, ground := Go.Ground.data }, { on := 15, ground := Go.Ground.data }, { on := 17, ground := Go.Ground.gcOnly Go.Departure.lateStores }], guard := none }) (v := ?v37) rfl (by kernel_rfl) (by kernel_rfl) (by kernel_rfl) (fun _ _ _ h => h) (Or.inl ⟨by rfl, ?h37⟩) hHeld ?r37
                case h37 => intro wz hz; (try dsimp only at hz); go_simp; try (with_reducible rfl)
                simp only [Act.put, List.setIfInBounds_toArray, List.set_cons_zero, List.set_cons_succ]
                refine wpAnyH_ready (rs := [17]) (by kernel_rfl) (by simp) ?_
                refine AllReadyH.cons (o := { dst := none, op := Go.Op.store 36 (Go.Operand.tmp 2) (Go.Operand.tmp 126), type := 0, pos := "l05_locks.go:331", after := #[{ on := 0, ground := Go.Ground.data }, { on := 15, ground := Go.Ground.chain }, { on := 0, ground := Go.Ground.phase }, { on := 1, ground := Go.Ground.textOnly Go.Departure.lateStores }, { on := 2, ground := Go.Ground.textOnly Go.Departure.lateStores }, { on := 3, ground := Go.Ground.textOnly Go.Departure.lateStores }, { on := 4, ground := Go.Ground.textOnly Go.Departure.lateStores }, { on := 5, ground := Go.Ground.textOnly Go.Departure.lateStores }, { on := 6, ground := Go.Ground.textOnly Go.Departure.lateStores }, { on := 7, ground := Go.Ground.textOnly Go.Departure.lateStores }, { on := 8, ground := Go.Ground.textOnly Go.Departure.lateStores }, { on := 9, ground := Go.Ground.textOnly Go.Departure.lateStores }, { on := 10, ground := Go.Ground.textOnly Go.Departure.lateStores }, { on := 11, ground := Go.Ground.textOnly Go.Departure.lateStores }, { on := 12, ground := Go.Ground.textOnly Go.Departure.lateStores }, { on := 13, ground := Go.Ground.textOnly Go.Departure.lateStores }, { on := 14, ground := Go.Ground.textOnly Go.Departure.lateStores }, { on := 15, ground := Go.Ground.textOnly Go.Departure.lateStoresUnsure }, { on := 16, ground := Go.Ground.textOnly Go.Departure.lateStores }], guard := none }) rfl (fun K hK => ?_) AllReadyH.nil
                go_simp
                refine hK.out _ _ ?_ (fun hHeld => ?_)
                · first | exact HSN.out _ J.out | exact HSN.out _ J.out.drew
                clear hK K
                refine wpAnyH_take (i := 18) (oi := { dst := some 3, op := Go.Op.assign (Go.Operand.tmp 142), type := 4, pos := "l05_locks.go:331", after := #[{ on := 16, ground := Go.Ground.data }, { on := 17, ground := Go.Ground.chain }, { on := 0, ground := Go.Ground.phase }, { on := 1, ground := Go.Ground.phase }, { on := 2, ground := Go.Ground.phase }, { on := 3, ground := Go.Ground.phase }, { on := 4, ground := Go.Ground.phase }, { on := 5, ground := Go.Ground.phase }, { on := 6, ground := Go.Ground.phase }, { on := 7, ground := Go.Ground.phase }, { on := 8, ground := Go.Ground.phase }, { on := 9, ground := Go.Ground.phase }, { on := 10, ground := Go.Ground.phase }, { on := 11, ground := Go.Ground.phase }, { on := 12, ground := Go.Ground.phase }, { on := 13, ground := Go.Ground.phase }, { on := 14, ground := Go.Ground.phase }, { on := 15, ground := Go.Ground.phase }, { on := 16, ground := Go.Ground.phase }, { on := 17, ground := Go.Ground.phase }], guard := none }) (v := ?v38) rfl (by kernel_rfl) (by kernel_rfl) (by kernel_rfl) (fun _ _ _ h => h) (Or.inl ⟨by rfl, ?h38⟩) hHeld ?r38
                case h38 => intro wz hz; (try dsimp only at hz); go_simp; try (with_reducible rfl)
                simp only [Act.put, List.setIfInBounds_toArray, List.set_cons_zero, List.set_cons_succ]
                refine wpAnyH_done (by kernel_rfl) ?_ _
                refine NoPanic.normal ?_
                clear hHeld HS HSN
                have AF := J.out.sp.done
                go_wp2_with fail
                generalize ((((wr.setCell ⟨w.heap.size, 0, none⟩ (.int .i64 z0)).setCell ⟨w.heap.size, 1, none⟩ (.int .i64 z1)).setCell ⟨w.heap.size, 2, none⟩ (.slice a k c)).setCell ⟨w.heap.size, 3, none⟩ (.slice a3 k3 c3)) = wf at AF ⊢
                have d0 := (blk_cell AF.1 0 (x := .int .i64 z0) rfl).1
                have d1 := (blk_cell AF.1 1 (x := .int .i64 z1) rfl).1
                have d2 := (blk_cell AF.1 2 (x := .slice a k c) rfl).1
                have d3 := (blk_cell AF.1 3 (x := .slice a3 k3 c3) rfl).1
                refine bodyPost_ret (v := .tuple #[.agg #[.int .i64 z0, .int .i64 z1, .slice a k c, .slice a3 k3 c3], .bool false]) (by simp [results, Tryz.results49, go_sem, d0, d1, d2, d3]) rfl ?_
                exact ⟨z0, z1, _, _, ms, ss, by rw [HOK.out]; rfl, ⟨Mem.mono (Mem.kept (W' := wf.drew) AF.2.2 fun _ _ _ => rfl) (by omega), fun h => by rw [HOK.out] at h; cases h⟩, AF.2.1.drew⟩
              · have HSM := tbO_small xs HRX.out
                have hOK : rtOK xs = bOf (TOK (tbO xs)) := by unfold rtOK; rw [g1, g2]; rfl
                rw [g3] at hOK HSM
                have HP := HT.out.2.2.1
                obtain ⟨s', p, hs1, _, _⟩ := HP.rd
                have J : Hid (Rs w tq s' wr z0 z1 (.slice a k c) (.slice a3 k3 c3) ms ss [] false) := ⟨HP, p⟩
                have HS : Hid (∀ W, Rs w tq s' W z0 z1 (.slice a k c) (.slice a3 k3 c3) ms ss [] false → W.cell? ⟨w.heap.size + 1, 0, none⟩ = some (.string s') ∧ W.cell? ⟨w.heap.size + 1, 1, none⟩ = some (.bool false) ∧ W.cell? ⟨tq, 0, none⟩ = some (.int .i64 z0) ∧ W.cell? ⟨tq, 1, none⟩ = some (.int .i64 z1) ∧ W.cell? ⟨tq, 2, none⟩ = some (.slice a k c) ∧ W.cell? ⟨tq, 3, none⟩ = some (.slice a3 k3 c3)) := fun W h => h.cells
                have HSN : Hid (∀ W, Rs w tq s' W z0 z1 (.slice a k c) (.slice a3 k3 c3) ms ss [] false → ((((W.setCell ⟨w.heap.size, 0, none⟩ (.int .i64 z0)).setCell ⟨w.heap.size, 1, none⟩ (.int .i64 z1)).setCell ⟨w.heap.size, 2, none⟩ (.slice a k c)).setCell ⟨w.heap.size, 3, none⟩ (.slice a3 k3 c3)).cell? ⟨w.heap.size + 1, 0, none⟩ = some (.string s') ∧ ((((W.setCell ⟨w.heap.size, 0, none⟩ (.int .i64 z0)).setCell ⟨w.heap.size, 1, none⟩ (.int .i64 z1)).setCell ⟨w.heap.size, 2, none⟩ (.slice a k c)).setCell ⟨w.heap.size, 3, none⟩ (.slice a3 k3 c3)).cell? ⟨w.heap.size + 1, 1, none⟩ = some (.bool false) ∧ ((((W.setCell ⟨w.heap.size, 0, none⟩ (.int .i64 z0)).setCell ⟨w.heap.size, 1, none⟩ (.int .i64 z1)).setCell ⟨w.heap.size, 2, none⟩ (.slice a k c)).setCell ⟨w.heap.size, 3, none⟩ (.slice a3 k3 c3)).cell? ⟨tq, 0, none⟩ = some (.int .i64 z0) ∧ ((((W.setCell ⟨w.heap.size, 0, none⟩ (.int .i64 z0)).setCell ⟨w.heap.size, 1, none⟩ (.int .i64 z1)).setCell ⟨w.heap.size, 2, none⟩ (.slice a k c)).setCell ⟨w.heap.size, 3, none⟩ (.slice a3 k3 c3)).cell? ⟨tq, 1, none⟩ = some (.int .i64 z1) ∧ ((((W.setCell ⟨w.heap.size, 0, none⟩ (.int .i64 z0)).setCell ⟨w.heap.size, 1, none⟩ (.int .i64 z1)).setCell ⟨w.heap.size, 2, none⟩ (.slice a k c)).setCell ⟨w.heap.size, 3, none⟩ (.slice a3 k3 c3)).cell? ⟨tq, 2, none⟩ = some (.slice a k c) ∧ ((((W.setCell ⟨w.heap.size, 0, none⟩ (.int .i64 z0)).setCell ⟨w.heap.size, 1, none⟩ (.int .i64 z1)).setCell ⟨w.heap.size, 2, none⟩ (.slice a k c)).setCell ⟨w.heap.size, 3, none⟩ (.slice a3 k3 c3)).cell? ⟨tq, 3, none⟩ = some (.slice a3 k3 c3)) := fun W h => h.cellsN _ _ _ _
                obtain ⟨zc0, zf0⟩ := blk_cell HP.a 0 (x := .int .i64 0) rfl
                obtain ⟨zc1, zf1⟩ := blk_cell HP.a 1 (x := .int .i64 0) rfl
                obtain ⟨zc2, zf2⟩ := blk_cell HP.a 2 (x := .slice none 0 0) rfl
                obtain ⟨zc3, zf3⟩ := blk_cell HP.a 3 (x := .slice none 0 0) rfl
                obtain rfl : s' = ⟨#[]⟩ := bys_nil (hs1 rfl)
                have HTB : Hid (tbO xs = ⟨z0, z1, ms.map (·.1), ss⟩) := g3
                have HTO : Hid (∀ W, Rs w tq ⟨#[]⟩ W z0 z1 (.slice a k c) (.slice a3 k3 c3) ms ss [] false → Calls Tryz.prog 30 #[.agg #[.int .i64 z0, .int .i64 z1, .slice a k c, .slice a3 k3 c3]] W fun e w' => e = .returned (.bool (rtOK xs)) ∧ Rs w tq ⟨#[]⟩ w' z0 z1 (.slice a k c) (.slice a3 k3 c3) ms ss [] false) := fun W hW => by
                  obtain ⟨r1, r2⟩ := Mem.rows hW.sp.me
                  obtain ⟨t1, t2, t3⟩ := HSM
                  refine (Go.Proofs.YtnebohdlndiejaaGreatDoor.Tq.specTableOK_any z0 z1 _ _ (ms.map (·.1)) ss W r1 r2 t3 (by dsimp only at t1; omega) (by dsimp only at t2; omega)).mono ?_
                  rintro e w' ⟨rfl, b⟩
                  exact ⟨by rw [hOK], hW.up b⟩
                obtain ⟨bb, HOK⟩ : ∃ b, Hid (rtOK xs = b) := ⟨_, rfl⟩
                rw [HOK.out] at HTO
                clear hOK HSM g1 g2 g3 HP HT HFO p hbad hs1 hi0 hz0 hz1 hz2 hj0 hy0 hy1 hy2 hk0 hx0 hx1 hx2
                go_upto_region 28 with fail
                refine wp_region_noPanic ?_
                refine wp_region_held_drew (S := fun W => W.cell? ⟨w.heap.size + 1, 0, none⟩ = some (.string ⟨#[]⟩) ∧ W.cell? ⟨w.heap.size + 1, 1, none⟩ = some (.bool false) ∧ W.cell? ⟨tq, 0, none⟩ = some (.int .i64 z0) ∧ W.cell? ⟨tq, 1, none⟩ = some (.int .i64 z1) ∧ W.cell? ⟨tq, 2, none⟩ = some (.slice a k c) ∧ W.cell? ⟨tq, 3, none⟩ = some (.slice a3 k3 c3)) (by kernel_rfl) (HS.out _ J.out.drew) (fun hHeld => ?_)
                refine wpAnyH_take (i := 0) (oi := { dst := some 126, op := Go.Op.load 36 (Go.Operand.tmp 5), type := 36, pos := "l05_locks.go:331", after := #[], guard := none }) (v := ?v39) rfl (by kernel_rfl) (by kernel_rfl) (by kernel_rfl) (fun _ _ _ h => h) (Or.inl ⟨by rfl, ?h39⟩) hHeld ?r39
                case h39 => intro wz hz; (try dsimp only at hz); go_simp; try (with_reducible rfl)
                simp only [Act.put, List.setIfInBounds_toArray, List.set_cons_zero, List.set_cons_succ]
                refine wpAnyH_take (i := 1) (oi := { dst := some 127, op := Go.Op.move (Go.Operand.tmp 4), type := 142, pos := "l05_locks.go:331", after := #[], guard := none }) (v := ?v40) rfl (by kernel_rfl) (by kernel_rfl) (by kernel_rfl) (fun _ _ _ h => h) (Or.inl ⟨by rfl, ?h40⟩) hHeld ?r40
                case h40 => intro wz hz; (try dsimp only at hz); go_simp; try (with_reducible rfl)
                simp only [Act.put, List.setIfInBounds_toArray, List.set_cons_zero, List.set_cons_succ]
                refine wpAnyH_take (i := 2) (oi := { dst := some 128, op := Go.Op.nilCheck (Go.Operand.tmp 127), type := 0, pos := "l05_locks.go:331", after := #[{ on := 1, ground := Go.Ground.data }], guard := none }) (v := ?v41) rfl (by kernel_rfl) (by kernel_rfl) (by kernel_rfl) (fun _ _ _ h => h) (Or.inl ⟨by rfl, ?h41⟩) hHeld ?r41
                case h41 => intro wz hz; (try dsimp only at hz); go_simp; try (with_reducible rfl)
                simp only [Act.put, List.setIfInBounds_toArray, List.set_cons_zero, List.set_cons_succ]
                refine wpAnyH_take (i := 3) (oi := { dst := some 129, op := Go.Op.fieldAddr 144 (Go.Operand.tmp 128) 1, type := 0, pos := "l05_locks.go:331", after := #[{ on := 2, ground := Go.Ground.data }], guard := none }) (v := ?v42) rfl (by kernel_rfl) (by kernel_rfl) (by kernel_rfl) (fun _ _ _ h => h) (Or.inl ⟨by rfl, ?h42⟩) hHeld ?r42
                case h42 => intro wz hz; (try dsimp only at hz); go_simp; try (with_reducible rfl)
                simp only [Act.put, List.setIfInBounds_toArray, List.set_cons_zero, List.set_cons_succ]
                refine wpAnyH_take (i := 4) (oi := { dst := some 130, op := Go.Op.load 4 (Go.Operand.tmp 129), type := 4, pos := "l05_locks.go:331", after := #[{ on := 3, ground := Go.Ground.data }], guard := none }) (v := ?v43) rfl (by kernel_rfl) (by kernel_rfl) (by kernel_rfl) (fun _ _ _ h => h) (Or.inl ⟨by rfl, ?h43⟩) hHeld ?r43
                case h43 => intro wz hz; (try dsimp only at hz); go_simp; try (with_reducible rfl)
                simp only [Act.put, List.setIfInBounds_toArray, List.set_cons_zero, List.set_cons_succ]
                refine wpAnyH_take (i := 5) (oi := { dst := some 131, op := Go.Op.unOp Go.UnOp.not 4 (Go.Operand.tmp 130), type := 4, pos := "l05_locks.go:331", after := #[{ on := 4, ground := Go.Ground.data }], guard := none }) (v := ?v44) rfl (by kernel_rfl) (by kernel_rfl) (by kernel_rfl) (fun _ _ _ h => h) (Or.inl ⟨by rfl, ?h44⟩) hHeld ?r44
                case h44 => intro wz hz; (try dsimp only at hz); go_simp; try (with_reducible rfl)
                simp only [Act.put, List.setIfInBounds_toArray, List.set_cons_zero, List.set_cons_succ]
                refine wpAnyH_take (i := 6) (oi := { dst := some 132, op := Go.Op.move (Go.Operand.tmp 131), type := 4, pos := "l05_locks.go:331", after := #[{ on := 5, ground := Go.Ground.data }], guard := none }) (v := ?v45) rfl (by kernel_rfl) (by kernel_rfl) (by kernel_rfl) (fun _ _ _ h => h) (Or.inl ⟨by rfl, ?h45⟩) hHeld ?r45
                case h45 => intro wz hz; (try dsimp only at hz); go_simp; try (with_reducible rfl)
                simp only [Act.put, List.setIfInBounds_toArray, List.set_cons_zero, List.set_cons_succ]
                refine wpAnyH_take (i := 7) (oi := { dst := some 133, op := Go.Op.move (Go.Operand.tmp 4), type := 142, pos := "l05_locks.go:331", after := #[{ on := 6, ground := Go.Ground.guard }], guard := some (6, true) }) (v := ?v46) rfl (by kernel_rfl) (by kernel_rfl) (by kernel_rfl) (fun _ _ _ h => h) (Or.inl ⟨by rfl, ?h46⟩) hHeld ?r46
                case h46 => intro wz hz; (try dsimp only at hz); go_simp; try (with_reducible rfl)
                simp only [Act.put, List.setIfInBounds_toArray, List.set_cons_zero, List.set_cons_succ]
                refine wpAnyH_take (i := 8) (oi := { dst := some 134, op := Go.Op.nilCheck (Go.Operand.tmp 133), type := 0, pos := "l05_locks.go:331", after := #[{ on := 7, ground := Go.Ground.data }, { on := 6, ground := Go.Ground.guard }], guard := some (6, true) }) (v := ?v47) rfl (by kernel_rfl) (by kernel_rfl) (by kernel_rfl) (fun _ _ _ h => h) (Or.inl ⟨by rfl, ?h47⟩) hHeld ?r47
                case h47 => intro wz hz; (try dsimp only at hz); go_simp; try (with_reducible rfl)
                simp only [Act.put, List.setIfInBounds_toArray, List.set_cons_zero, List.set_cons_succ]
                refine wpAnyH_take (i := 9) (oi := { dst := some 135, op := Go.Op.fieldAddr 144 (Go.Operand.tmp 134) 0, type := 0, pos := "l05_locks.go:331", after := #[{ on := 8, ground := Go.Ground.data }, { on := 6, ground := Go.Ground.guard }], guard := some (6, true) }) (v := ?v48) rfl (by kernel_rfl) (by kernel_rfl) (by kernel_rfl) (fun _ _ _ h => h) (Or.inl ⟨by rfl, ?h48⟩) hHeld ?r48
                case h48 => intro wz hz; (try dsimp only at hz); go_simp; try (with_reducible rfl)
                simp only [Act.put, List.setIfInBounds_toArray, List.set_cons_zero, List.set_cons_succ]
                refine wpAnyH_take (i := 10) (oi := { dst := some 136, op := Go.Op.load 9 (Go.Operand.tmp 135), type := 9, pos := "l05_locks.go:331", after := #[{ on := 9, ground := Go.Ground.data }, { on := 6, ground := Go.Ground.guard }], guard := some (6, true) }) (v := ?v49) rfl (by kernel_rfl) (by kernel_rfl) (by kernel_rfl) (fun _ _ _ h => h) (Or.inl ⟨by rfl, ?h49⟩) hHeld ?r49
                case h49 => intro wz hz; (try dsimp only at hz); go_simp; try (with_reducible rfl)
                simp only [Act.put, List.setIfInBounds_toArray, List.set_cons_zero, List.set_cons_succ]
                refine wpAnyH_take (i := 11) (oi := { dst := some 137, op := Go.Op.binOp Go.BinOp.eql 9 (Go.Operand.tmp 136) (Go.Operand.const (Go.Value.string { data := #[] })) 9, type := 4, pos := "l05_locks.go:331", after := #[{ on := 10, ground := Go.Ground.data }, { on := 6, ground := Go.Ground.guard }], guard := some (6, true) }) (v := ?v50) rfl (by kernel_rfl) (by kernel_rfl) (by kernel_rfl) (fun _ _ _ h => h) (Or.inl ⟨by rfl, ?h50⟩) hHeld ?r50
                case h50 => intro wz hz; (try dsimp only at hz); go_simp; try (with_reducible rfl)
                simp only [Act.put, List.setIfInBounds_toArray, List.set_cons_zero, List.set_cons_succ]
                refine wpAnyH_take (i := 12) (oi := { dst := some 138, op := Go.Op.pick (Go.Operand.tmp 132) (Go.Operand.tmp 137) (Go.Operand.const (Go.Value.bool false)), type := 4, pos := "l05_locks.go:331", after := #[{ on := 6, ground := Go.Ground.data }, { on := 11, ground := Go.Ground.data }], guard := none }) (v := ?v51) rfl (by kernel_rfl) (by kernel_rfl) (by kernel_rfl) (fun _ _ _ h => h) (Or.inl ⟨by rfl, ?h51⟩) hHeld ?r51
                case h51 => intro wz hz; (try dsimp only at hz); go_simp; try (with_reducible rfl)
                simp only [Act.put, List.setIfInBounds_toArray, List.set_cons_zero, List.set_cons_succ]
                refine wpAnyH_take (i := 13) (oi := { dst := some 139, op := Go.Op.move (Go.Operand.tmp 138), type := 4, pos := "l05_locks.go:331", after := #[{ on := 12, ground := Go.Ground.data }, { on := 6, ground := Go.Ground.chain }], guard := none }) (v := ?v52) rfl (by kernel_rfl) (by kernel_rfl) (by kernel_rfl) (fun _ _ _ h => h) (Or.inl ⟨by rfl, ?h52⟩) hHeld ?r52
                case h52 => intro wz hz; (try dsimp only at hz); go_simp; try (with_reducible rfl)
                simp only [Act.put, List.setIfInBounds_toArray, List.set_cons_zero, List.set_cons_succ]
                refine wpAnyH_take (i := 14) (oi := { dst := some 140, op := Go.Op.load 36 (Go.Operand.tmp 5), type := 36, pos := "l05_locks.go:331", after := #[{ on := 13, ground := Go.Ground.guard }], guard := some (13, true) }) (v := ?v53) rfl (by kernel_rfl) (by kernel_rfl) (by kernel_rfl) (fun _ _ _ h => h) (Or.inl ⟨by rfl, ?h53⟩) hHeld ?r53
                case h53 => intro wz hz; (try dsimp only at hz); go_simp; try (with_reducible rfl)
                simp only [Act.put, List.setIfInBounds_toArray, List.set_cons_zero, List.set_cons_succ]
                refine wpAnyH_ready (rs := [15]) (by kernel_rfl) (by simp) ?_
                refine AllReadyH.cons (o := { dst := some 141, op := Go.Op.call { callee := Go.Callee.value (Go.Operand.func 30), args := #[Go.Operand.tmp 140], argTypes := #[36] }, type := 4, pos := "l05_locks.go:331", after := #[{ on := 14, ground := Go.Ground.data }, { on := 13, ground := Go.Ground.chain }, { on := 13, ground := Go.Ground.guard }], guard := some (13, true) }) rfl (fun K hK => ?_) AllReadyH.nil
                go_simp
                go_at_call 30
                refine (HTO.out _ (by first | exact J.out | exact J.out.drew)).mono ?_
                rintro e w6 ⟨rfl, J6⟩
                have j6 := J6.sp
                obtain ⟨yc0, yf0⟩ := blk_cell j6.a 0 (x := .int .i64 0) rfl
                obtain ⟨yc1, yf1⟩ := blk_cell j6.a 1 (x := .int .i64 0) rfl
                obtain ⟨yc2, yf2⟩ := blk_cell j6.a 2 (x := .slice none 0 0) rfl
                obtain ⟨yc3, yf3⟩ := blk_cell j6.a 3 (x := .slice none 0 0) rfl
                try go_simp
                refine hK.out _ _ ?_ (fun hHeld => ?_)
                · exact HS.out _ J6
                clear hK K
                refine wpAnyH_take (i := 16) (oi := { dst := some 142, op := Go.Op.pick (Go.Operand.tmp 139) (Go.Operand.tmp 141) (Go.Operand.const (Go.Value.bool false)), type := 4, pos := "l05_locks.go:331", after := #[{ on := 13, ground := Go.Ground.data }, { on := 15, ground := Go.Ground.data }, { on := 17, ground := Go.Ground.gcOnly Go.Departure.lateStores }], guard := none }) (v := ?v54) rfl (by kernel_rfl) (by kernel_rfl) (by kernel_rfl) (fun _ _ _ h => h) (Or.inl ⟨by rfl, ?h54⟩) hHeld ?r54
                case h54 => intro wz hz; (try dsimp only at hz); go_simp; try (with_reducible rfl)
                simp only [Act.put, List.setIfInBounds_toArray, List.set_cons_zero, List.set_cons_succ]
                refine wpAnyH_ready (rs := [17]) (by kernel_rfl) (by simp) ?_
                refine AllReadyH.cons (o := { dst := none, op := Go.Op.store 36 (Go.Operand.tmp 2) (Go.Operand.tmp 126), type := 0, pos := "l05_locks.go:331", after := #[{ on := 0, ground := Go.Ground.data }, { on := 15, ground := Go.Ground.chain }, { on := 0, ground := Go.Ground.phase }, { on := 1, ground := Go.Ground.textOnly Go.Departure.lateStores }, { on := 2, ground := Go.Ground.textOnly Go.Departure.lateStores }, { on := 3, ground := Go.Ground.textOnly Go.Departure.lateStores }, { on := 4, ground := Go.Ground.textOnly Go.Departure.lateStores }, { on := 5, ground := Go.Ground.textOnly Go.Departure.lateStores }, { on := 6, ground := Go.Ground.textOnly Go.Departure.lateStores }, { on := 7, ground := Go.Ground.textOnly Go.Departure.lateStores }, { on := 8, ground := Go.Ground.textOnly Go.Departure.lateStores }, { on := 9, ground := Go.Ground.textOnly Go.Departure.lateStores }, { on := 10, ground := Go.Ground.textOnly Go.Departure.lateStores }, { on := 11, ground := Go.Ground.textOnly Go.Departure.lateStores }, { on := 12, ground := Go.Ground.textOnly Go.Departure.lateStores }, { on := 13, ground := Go.Ground.textOnly Go.Departure.lateStores }, { on := 14, ground := Go.Ground.textOnly Go.Departure.lateStores }, { on := 15, ground := Go.Ground.textOnly Go.Departure.lateStoresUnsure }, { on := 16, ground := Go.Ground.textOnly Go.Departure.lateStores }], guard := none }) rfl (fun K hK => ?_) AllReadyH.nil
                go_simp
                refine hK.out _ _ ?_ (fun hHeld => ?_)
                · exact HSN.out _ J6
                clear hK K
                refine wpAnyH_take (i := 18) (oi := { dst := some 3, op := Go.Op.assign (Go.Operand.tmp 142), type := 4, pos := "l05_locks.go:331", after := #[{ on := 16, ground := Go.Ground.data }, { on := 17, ground := Go.Ground.chain }, { on := 0, ground := Go.Ground.phase }, { on := 1, ground := Go.Ground.phase }, { on := 2, ground := Go.Ground.phase }, { on := 3, ground := Go.Ground.phase }, { on := 4, ground := Go.Ground.phase }, { on := 5, ground := Go.Ground.phase }, { on := 6, ground := Go.Ground.phase }, { on := 7, ground := Go.Ground.phase }, { on := 8, ground := Go.Ground.phase }, { on := 9, ground := Go.Ground.phase }, { on := 10, ground := Go.Ground.phase }, { on := 11, ground := Go.Ground.phase }, { on := 12, ground := Go.Ground.phase }, { on := 13, ground := Go.Ground.phase }, { on := 14, ground := Go.Ground.phase }, { on := 15, ground := Go.Ground.phase }, { on := 16, ground := Go.Ground.phase }, { on := 17, ground := Go.Ground.phase }], guard := none }) (v := ?v55) rfl (by kernel_rfl) (by kernel_rfl) (by kernel_rfl) (fun _ _ _ h => h) (Or.inl ⟨by rfl, ?h55⟩) hHeld ?r55
                case h55 => intro wz hz; (try dsimp only at hz); go_simp; try (with_reducible rfl)
                simp only [Act.put, List.setIfInBounds_toArray, List.set_cons_zero, List.set_cons_succ]
                refine wpAnyH_done (by kernel_rfl) ?_ _
                refine NoPanic.normal ?_
                clear hHeld HS HSN
                have AF := j6.done
                go_wp2_with fail
                generalize ((((w6.setCell ⟨w.heap.size, 0, none⟩ (.int .i64 z0)).setCell ⟨w.heap.size, 1, none⟩ (.int .i64 z1)).setCell ⟨w.heap.size, 2, none⟩ (.slice a k c)).setCell ⟨w.heap.size, 3, none⟩ (.slice a3 k3 c3)) = wf at AF ⊢
                have d0 := (blk_cell AF.1 0 (x := .int .i64 z0) rfl).1
                have d1 := (blk_cell AF.1 1 (x := .int .i64 z1) rfl).1
                have d2 := (blk_cell AF.1 2 (x := .slice a k c) rfl).1
                have d3 := (blk_cell AF.1 3 (x := .slice a3 k3 c3) rfl).1
                refine bodyPost_ret (v := .tuple #[.agg #[.int .i64 z0, .int .i64 z1, .slice a k c, .slice a3 k3 c3], .bool bb]) (by simp [results, Tryz.results49, go_sem, d0, d1, d2, d3]) rfl ?_
                exact ⟨z0, z1, _, _, ms, ss, by rw [HOK.out]; rfl, ⟨Mem.mono AF.2.2 (by omega), fun _ => HTB.out⟩, AF.2.1⟩
      · subst hsh
        have hbad := HT.out.2.2.1.bad
        have M0 := number_any 1 _ ys false wr HT.out.2.2.1.rd (by decide) HT.out.2.2.2
        rw [cnt_eq HT.out.2.2.2] at M0
        have hcy : cnt ys ≤ 255 := cnt_le HT.out.2.2.2
        have HRQ : Hid (∀ x ∈ tkR 1 ys, 0 ≤ x ∧ x ≤ 255) := tkR_range HT.out.2.2.2
        have HGL : Hid (ms.length = k ∧ Agl n y0 s0 k (ms.map (·.1)) ys false) := ⟨HT.out.1, HT.out.2.1⟩
        go_wp2_with fail
        refine M0.mono ?_
        rintro e q1 ⟨rfl, r, g⟩
        have P1 : Hid (Sp w tq q1 z0 z1 (.slice a k c) (.slice sa 0 0) ms [] (tkR 1 ys) (tkS 1 ys false)) := HT.out.2.2.1.num r g
        clear M0 r g HT hbad
        have M1 := text_any (cnt ys) _ (tkR 1 ys) (tkS 1 ys false) q1 P1.out.rd (by omega)
        have HRT : Hid (∀ x ∈ txtR 1 ys, 0 ≤ x ∧ x ≤ 255) := tkR_range HRQ.out
        have HET : Hid (strOfNums (tkB (cnt ys) (tkR 1 ys)) = txtB 1 ys ∧ tkR (cnt ys) (tkR 1 ys) = txtR 1 ys ∧ tkS (cnt ys) (tkR 1 ys) (tkS 1 ys false) = txtS 1 ys false) := ⟨rfl, rfl, rfl⟩
        rw [HET.out.1, HET.out.2.1, HET.out.2.2] at M1
        obtain ⟨nm, HNM⟩ : ∃ y, Hid (txtB 1 ys = y) := ⟨_, rfl⟩
        rw [HNM.out] at M1
        go_wp2_with fail
        refine M1.mono ?_
        rintro e q2 ⟨rfl, r, g⟩
        have P2 := P1.out.num r g
        have K0 : Hid (Sk w tq q2 ((q2.alloc (.cells #[] 101)).alloc (.cells #[.string nm, .int .i64 0, .int .i64 0, .int .i64 0, .slice (some ⟨q2.heap.size, 0, none⟩) 0 0] 98)) (q2.heap.size + 1) z0 z1 (.slice a k c) (.slice sa 0 0) ms [] #[.string nm, .int .i64 0, .int .i64 0, .int .i64 0, .slice (some ⟨q2.heap.size, 0, none⟩) 0 0] (.slice (some ⟨q2.heap.size, 0, none⟩) 0 0) [] (txtR 1 ys) (txtS 1 ys false)) := start2 P2 nm
        clear P2 P1 M1 r g HRQ HET hcy
        go_wp2_with fail
        generalize ((q2.alloc (.cells #[] 101)).alloc (.cells #[.string nm, .int .i64 0, .int .i64 0, .int .i64 0, .slice (some ⟨q2.heap.size, 0, none⟩) 0 0] 98)) = q2' at K0 ⊢
        generalize q2.heap.size + 1 = q at K0 ⊢
        generalize (some (⟨q2.heap.size, 0, none⟩ : Addr)) = ua at K0 ⊢
        have M3 := number_any 3 _ (txtR 1 ys) (txtS 1 ys false) _ K0.out.sp.rd (by decide) HRT.out
        have nb0 := nv_range (n := 3) HRT.out
        simp only [show ((256 : Int) ^ 3) = 16777216 from rfl] at nb0
        have HRT1 : Hid (∀ x ∈ tkR 3 (txtR 1 ys), 0 ≤ x ∧ x ≤ 255) := tkR_range HRT.out
        obtain ⟨t0, HT0⟩ : ∃ y, Hid (nv 3 (txtR 1 ys) = y) := ⟨_, rfl⟩
        rw [HT0.out] at M3 nb0
        refine M3.mono ?_
        rintro e u0 ⟨rfl, r, g⟩
        have l := K0.out.num r g
        obtain ⟨c0, f0⟩ := blk_cell l.k 1 (x := .int .i64 0) rfl
        have K1 : Hid (Sk w tq q2 (u0.setCell ⟨q, 1, none⟩ (.int .i64 t0)) q z0 z1 (.slice a k c) (.slice sa 0 0) ms [] #[.string nm, .int .i64 t0, .int .i64 0, .int .i64 0, .slice ua 0 0] (.slice ua 0 0) [] (tkR 3 (txtR 1 ys)) (tkS 3 (txtR 1 ys) (txtS 1 ys false))) := l.set 1 _
        clear l r g K0 M3 HRT
        go_wp2_with fail
        clear c0 f0 nb0
        generalize u0.setCell ⟨q, 1, none⟩ (.int .i64 t0) = u0' at K1 ⊢
        have M4 := number_any 2 _ (tkR 3 (txtR 1 ys)) (tkS 3 (txtR 1 ys) (txtS 1 ys false)) _ K1.out.sp.rd (by decide) HRT1.out
        have nb1 := nv_range (n := 2) HRT1.out
        simp only [show ((256 : Int) ^ 2) = 65536 from rfl] at nb1
        have HRT2 : Hid (∀ x ∈ tkR 2 (tkR 3 (txtR 1 ys)), 0 ≤ x ∧ x ≤ 255) := tkR_range HRT1.out
        obtain ⟨t1, HT1⟩ : ∃ y, Hid (nv 2 (tkR 3 (txtR 1 ys)) = y) := ⟨_, rfl⟩
        rw [HT1.out] at M4 nb1
        refine M4.mono ?_
        rintro e u1 ⟨rfl, r, g⟩
        have l := K1.out.num r g
        obtain ⟨c0, f0⟩ := blk_cell l.k 2 (x := .int .i64 0) rfl
        have K2 : Hid (Sk w tq q2 (u1.setCell ⟨q, 2, none⟩ (.int .i64 (t1 - 1))) q z0 z1 (.slice a k c) (.slice sa 0 0) ms [] #[.string nm, .int .i64 t0, .int .i64 (t1 - 1), .int .i64 0, .slice ua 0 0] (.slice ua 0 0) [] (tkR 2 (tkR 3 (txtR 1 ys))) (tkS 2 (tkR 3 (txtR 1 ys)) (tkS 3 (txtR 1 ys) (txtS 1 ys false)))) := l.set 2 _
        clear l r g K1 M4 HRT1
        go_wp2_with fail
        clear c0 f0 nb1
        generalize u1.setCell ⟨q, 2, none⟩ (.int .i64 (t1 - 1)) = u1' at K2 ⊢
        have M5 := number_any 4 _ (tkR 2 (tkR 3 (txtR 1 ys))) (tkS 2 (tkR 3 (txtR 1 ys)) (tkS 3 (txtR 1 ys) (txtS 1 ys false))) _ K2.out.sp.rd (by decide) HRT2.out
        have nb2 := nv_range (n := 4) HRT2.out
        simp only [show ((256 : Int) ^ 4) = 4294967296 from rfl] at nb2
        have HRT3 : Hid (∀ x ∈ tkR 4 (tkR 2 (tkR 3 (txtR 1 ys))), 0 ≤ x ∧ x ≤ 255) := tkR_range HRT2.out
        obtain ⟨t2, HT2⟩ : ∃ y, Hid (nv 4 (tkR 2 (tkR 3 (txtR 1 ys))) = y) := ⟨_, rfl⟩
        rw [HT2.out] at M5 nb2
        refine M5.mono ?_
        rintro e u2 ⟨rfl, r, g⟩
        have l := K2.out.num r g
        obtain ⟨c0, f0⟩ := blk_cell l.k 3 (x := .int .i64 0) rfl
        have K3 : Hid (Sk w tq q2 (u2.setCell ⟨q, 3, none⟩ (.int .i64 t2)) q z0 z1 (.slice a k c) (.slice sa 0 0) ms [] #[.string nm, .int .i64 t0, .int .i64 (t1 - 1), .int .i64 t2, .slice ua 0 0] (.slice ua 0 0) [] (tkR 4 (tkR 2 (tkR 3 (txtR 1 ys)))) (tkS 4 (tkR 2 (tkR 3 (txtR 1 ys))) (tkS 2 (tkR 3 (txtR 1 ys)) (tkS 3 (txtR 1 ys) (txtS 1 ys false))))) := l.set 3 _
        clear l r g K2 M5 HRT2
        go_wp2_with fail
        clear c0 f0 nb2
        generalize u2.setCell ⟨q, 3, none⟩ (.int .i64 t2) = u2' at K3 ⊢
        have HE3 : Hid (lk3 ys = tkR 4 (tkR 2 (tkR 3 (txtR 1 ys))) ∧ lkS3 ys false = tkS 4 (tkR 2 (tkR 3 (txtR 1 ys))) (tkS 2 (tkR 3 (txtR 1 ys)) (tkS 3 (txtR 1 ys) (txtS 1 ys false)))) := ⟨rfl, rfl⟩
        rw [← HE3.out.1, ← HE3.out.2] at K3
        rw [← HE3.out.1] at HRT3
        have M6 := number_any 1 _ (lk3 ys) (lkS3 ys false) _ K3.out.sp.rd (by decide) HRT3.out
        rw [cnt_eq HRT3.out] at M6
        have hc4 : cnt (lk3 ys) ≤ 255 := cnt_le HRT3.out
        have HRW : Hid (∀ k, ∀ x ∈ itR wtR k (tkR 1 (lk3 ys)), 0 ≤ x ∧ x ≤ 255) := fun k => (less_it less_wt k _).2 (tkR_range HRT3.out)
        have HAG : Hid (∀ q, q ≤ cnt (lk3 ys) → (q = cnt (lk3 ys) ∨ itS wtR wtS q (tkR 1 (lk3 ys)) (tkS 1 (lk3 ys) (lkS3 ys false)) = true) → Agk ys ⟨nm, t0, t1 - 1, t2, itL wtR wtO q (tkR 1 (lk3 ys))⟩ (itR wtR q (tkR 1 (lk3 ys))) (itS wtR wtS q (tkR 1 (lk3 ys)) (tkS 1 (lk3 ys) (lkS3 ys false)))) := fun q h1 h2 => by
          rw [← HNM.out, ← HT0.out, ← HT1.out, ← HT2.out]
          exact agk h1 h2
        refine M6.mono ?_
        rintro e u4 ⟨rfl, r, g⟩
        have K4 : Hid (Sk w tq q2 u4 q z0 z1 (.slice a k c) (.slice sa 0 0) ms [] #[.string nm, .int .i64 t0, .int .i64 (t1 - 1), .int .i64 t2, .slice ua 0 0] (.slice ua 0 0) [] (tkR 1 (lk3 ys)) (tkS 1 (lk3 ys) (lkS3 ys false))) := K3.out.num r g
        obtain ⟨n2, HN2⟩ : ∃ n, Hid (cnt (lk3 ys) = n) := ⟨_, rfl⟩
        obtain ⟨y1, HY1⟩ : ∃ y, Hid (tkR 1 (lk3 ys) = y) := ⟨_, rfl⟩
        obtain ⟨s1, HS1⟩ : ∃ y, Hid (tkS 1 (lk3 ys) (lkS3 ys false) = y) := ⟨_, rfl⟩
        rw [HN2.out] at hc4 HAG
        rw [HN2.out]
        rw [HY1.out] at K4 HAG HRW
        rw [HS1.out] at K4 HAG
        clear r g K3 M6 HRT3 HE3 HN2 HY1 HS1 HNM HT0 HT1 HT2
        go_wp2_with fail
        go_loopw [9] (fun j wr => ∃ (k2 : Nat) (a2 : Option Addr) (c2 : Nat), k2 ≤ n2 ∧ j = .int .i64 ((n2 : Int) - (k2 : Int)) ∧ Hid (Sk w tq q2 wr q z0 z1 (.slice a k c) (.slice sa 0 0) ms [] #[.string nm, .int .i64 t0, .int .i64 (t1 - 1), .int .i64 t2, .slice a2 k2 c2] (.slice a2 k2 c2) (itL wtR wtO k2 y1) (itR wtR k2 y1) (itS wtR wtS k2 y1 s1))) (fun j _ => (intOf j).toNat)
        case atStart => exact ⟨0, ua, 0, by omega, by simp, K4.out⟩
        case round =>
          clear K4
          obtain ⟨k2, a2, c2, hk2, rfl, HK⟩ := hrel
          have HRK := HRW.out k2
          obtain ⟨ws, HWS⟩ : ∃ y, Hid (itL wtR wtO k2 y1 = y) := ⟨_, rfl⟩
          obtain ⟨zs, HZS⟩ : ∃ y, Hid (itR wtR k2 y1 = y) := ⟨_, rfl⟩
          obtain ⟨sb, HSB⟩ : ∃ y, Hid (itS wtR wtS k2 y1 s1 = y) := ⟨_, rfl⟩
          rw [HWS.out, HZS.out, HSB.out] at HK
          rw [HZS.out] at HRK
          have hbad := HK.out.sp.bad
          by_cases hlt2 : k2 < n2
          · rcases Bool.eq_false_or_eq_true sb with hsb | hsb
            · subst hsb
              have HEX : k2 = n2 ∨ itS wtR wtS k2 y1 s1 = true := .inr HSB.out
              have HG := HAG.out k2 hk2 HEX
              rw [HWS.out, HZS.out, HSB.out] at HG
              have HL2 : ws.length = k2 := by rw [← HWS.out]; exact itL_len _ _ _ _
              clear HWS HZS HSB HAG HRW
              obtain rfl := HL2
              have HGN : Hid (Agl n y0 s0 (k + 1) (ms.map (·.1) ++ [⟨nm, t0, t1 - 1, t2, ws⟩]) zs true) := HGL.out.2.next hlt HG
              have HLN : Hid (ms.length ≤ 1000000) := by show _ ≤ _; rw [HGL.out.1]; omega
              have HRZ : Hid (∀ x ∈ zs, 0 ≤ x ∧ x ≤ 255) := HRK
              have K6 : Hid (Sk w tq q2 wr q z0 z1 (.slice a k c) (.slice sa 0 0) ms [] #[.string nm, .int .i64 t0, .int .i64 (t1 - 1), .int .i64 t2, .slice a2 ws.length c2] (uV (⟨nm, t0, t1 - 1, t2, ws⟩, a2, c2)) ws zs true) := HK.out
              have cb0 := (blk_cell K6.out.k 0 (x := .string nm) rfl).1
              have cb1 := (blk_cell K6.out.k 1 (x := .int .i64 t0) rfl).1
              have cb2 := (blk_cell K6.out.k 2 (x := .int .i64 (t1 - 1)) rfl).1
              have cb3 := (blk_cell K6.out.k 3 (x := .int .i64 t2) rfl).1
              have cb4 := (blk_cell K6.out.k 4 (x := .slice a2 ws.length c2) rfl).1
              have ct2 := (blk_cell K6.out.sp.t 2 (x := .slice a k c) rfl).1
              have OL : OwnL wr (w.heap.size + 2) (.slice a k c) ms := K6.out.sp.me.ol
              have SZ : w.heap.size + 2 ≤ wr.heap.size := by have h1 := K6.out.sp.tl; have h2 := K6.out.sp.size; omega
              have HLM : Hid (ms.length = k) := HGL.out.1
              clear HK HG HRK HEX HGL
              go_wp2_with (at_builtin; go_must (refine list_lk (by rfl) _ _ 33 (by rfl) i0 Tryz.underlying33 hi0 hz0 hz1 hz2 (w.heap.size + 2) wr wr (.slice a k c) ms (⟨nm, t0, t1 - 1, t2, ws⟩, a2, c2) (by rfl) OL (Below.refl _ _) SZ _ (by rfl) (by rfl) HLN.out ?_; intro v5 w5 o5 b5 k5; obtain ⟨a5, cap5, rfl⟩ := o5.slice; obtain ⟨s5, f5, j5⟩ := K6.out.join o5 b5 k5))
              have hl5 : (ms ++ [((⟨nm, t0, t1 - 1, t2, ws⟩ : Lk), a2, c2)]).length = k + 1 := by rw [List.length_append, HLM.out]; rfl
              rw [hl5] at j5
              rw [HLM.out]
              have T6 : Hid (Sp w tq (w5.setCell ⟨tq, 2, none⟩ (.slice a5 (k + 1) cap5)) z0 z1 (.slice a5 (k + 1) cap5) (.slice sa 0 0) (ms ++ [(⟨nm, t0, t1 - 1, t2, ws⟩, a2, c2)]) [] zs true) := j5
              exact ⟨⟨k + 1, a5, cap5, ms ++ [(⟨nm, t0, t1 - 1, t2, ws⟩, a2, c2)], zs, true, by omega, by go_num, hl5, by rw [List.map_append]; exact HGN.out, T6.out, HRZ.out⟩, by simp [intOf]; omega⟩
            · subst hsb
              have HNX : Hid (itL wtR wtO (k2 + 1) y1 = ws ++ [wtO zs] ∧ itR wtR (k2 + 1) y1 = wtR zs ∧ itS wtR wtS (k2 + 1) y1 s1 = wtS zs false) := ⟨by rw [itL_succ, HWS.out, HZS.out], by rw [itR_succ, HZS.out], by rw [itS_succ, HZS.out, HSB.out]⟩
              have HLW : Hid (ws.length = k2) := by rw [← HWS.out]; exact itL_len _ _ _ _
              have HLN : Hid (ws.length ≤ 1000000) := by show _ ≤ _; rw [HLW.out]; omega
              have M0 := number_any 1 _ zs false wr HK.out.sp.rd (by decide) HRK
              have HR1 : Hid (∀ x ∈ tkR 1 zs, 0 ≤ x ∧ x ≤ 255) := tkR_range HRK
              obtain ⟨cc, HCC⟩ : ∃ y, Hid (nv 1 zs = y) := ⟨_, rfl⟩
              rw [HCC.out] at M0
              clear HWS HZS HSB HAG HRW HGL
              go_wp2_with fail
              refine M0.mono ?_
              rintro e p1 ⟨rfl, r, g⟩
              have t0' := HK.out.num r g
              have HTL : Hid (∀ W, Sk w tq q2 W q z0 z1 (.slice a k c) (.slice sa 0 0) ms [] #[.string nm, .int .i64 t0, .int .i64 (t1 - 1), .int .i64 t2, .slice a2 k2 c2] (.slice a2 k2 c2) ws (tkR 1 zs) (tkS 1 zs false) → Calls Tryz.prog 82 #[.pointer (some ⟨w.heap.size + 1, 0, none⟩), .int .i64 2] W fun e w' => e = .returned (.int .i64 (nv 2 (tkR 1 zs))) ∧ Sk w tq q2 w' q z0 z1 (.slice a k c) (.slice sa 0 0) ms [] #[.string nm, .int .i64 t0, .int .i64 (t1 - 1), .int .i64 t2, .slice a2 k2 c2] (.slice a2 k2 c2) ws (tkR 2 (tkR 1 zs)) (tkS 2 (tkR 1 zs) (tkS 1 zs false))) := fun W hW => by
                refine (number_any 2 _ (tkR 1 zs) (tkS 1 zs false) W hW.sp.rd (by decide) HR1.out).mono ?_
                rintro e w' ⟨rfl, r, g⟩
                exact ⟨rfl, hW.num r g⟩
              have HWT : Hid (wtO zs = ⟨cc, nv 2 (tkR 1 zs)⟩ ∧ wtR zs = tkR 2 (tkR 1 zs) ∧ wtS zs false = tkS 2 (tkR 1 zs) (tkS 1 zs false)) := ⟨by rw [← HCC.out]; rfl, rfl, rfl⟩
              clear M0 r g HK hbad HRK
              obtain ⟨cl, HCL⟩ : ∃ y, Hid (nv 2 (tkR 1 zs) = y) := ⟨_, rfl⟩
              obtain ⟨z2, HZ2⟩ : ∃ y, Hid (tkR 2 (tkR 1 zs) = y) := ⟨_, rfl⟩
              obtain ⟨b2, HB2⟩ : ∃ y, Hid (tkS 2 (tkR 1 zs) (tkS 1 zs false) = y) := ⟨_, rfl⟩
              rw [HCL.out, HZ2.out, HB2.out] at HTL HWT
              have q0 := blk_cell t0'.k 4 (x := .slice a2 k2 c2) rfl
              have q1 := blk_cell t0'.drew.k 4 (x := .slice a2 k2 c2) rfl
              go_upto_region 16 with fail
              go_region_law
                (first
                  | (go_simp; go_at_call 82; (with_reducible refine (HTL.out _ (by first | assumption | exact Sk.drew (by assumption))).mono ?_); rintro e wn ⟨rfl, tn⟩; have qn := blk_cell tn.k 4 (x := .slice a2 k2 c2) rfl; have qa := fun o => blk_cell (tn.alloc o).k 4 (x := .slice a2 k2 c2) rfl; have qd := blk_cell tn.drew.k 4 (x := .slice a2 k2 c2) rfl; try go_simp)
                  | (refine step_wt (by rfl) _ _ 96 (by rfl) Tryz.underlying96 hk0 hx0 hx1 hx2 _ w q2 tq q z0 z1 _ _ ms [] _ _ ws ⟨cc, cl⟩ z2 b2 (by rfl) _ (by rfl) (by first | exact heap_alloc_new _ _ | exact (heap_alloc_new _ _ : (World.alloc _ _).drew.heap[_]? = _)) (by first | assumption | exact Sk.drew (by assumption) | exact Sk.alloc (by assumption) _ | exact Sk.drew (Sk.alloc (by assumption) _) | exact Sk.alloc (Sk.drew (by assumption)) _) HLN.out ?_; intro v5 w5 t5; obtain ⟨a5, cap5, rfl⟩ := t5.sk.ow.slice; obtain ⟨s5, f5⟩ := blk_cell t5.sk.k 4 (x := .slice a2 k2 c2) rfl; try go_simp))
              all_goals
                have hl5 : (ws ++ [(⟨cc, cl⟩ : Wt)]).length = k2 + 1 := by rw [List.length_append, HLW.out]; rfl
                rw [hl5] at t5
                rw [HLW.out]
                have T5 : Hid (Sk w tq q2 (w5.setCell ⟨q, 4, none⟩ (.slice a5 (k2 + 1) cap5)) q z0 z1 (.slice a k c) (.slice sa 0 0) ms [] #[.string nm, .int .i64 t0, .int .i64 (t1 - 1), .int .i64 t2, .slice a5 (k2 + 1) cap5] (.slice a5 (k2 + 1) cap5) (ws ++ [⟨cc, cl⟩]) z2 b2) := t5.sk.set 4 _
                clear t5 t0' q0 q1 tn qn qd qa hl5 s5 f5
                go_wp2_with fail
                exact ⟨⟨k2 + 1, a5, cap5, by omega, by go_num, by rw [HNX.out.1, HNX.out.2.1, HNX.out.2.2, HWT.out.1, HWT.out.2.1, HWT.out.2.2]; exact T5⟩, by simp [intOf]; omega⟩
          · obtain rfl : k2 = n2 := by omega
            have HEX : k2 = k2 ∨ itS wtR wtS k2 y1 s1 = true := .inl rfl
            have HG := HAG.out k2 hk2 HEX
            rw [HWS.out, HZS.out, HSB.out] at HG
            have HL2 : ws.length = k2 := by rw [← HWS.out]; exact itL_len _ _ _ _
            clear HWS HZS HSB HAG HRW
            obtain rfl := HL2
            have HGN : Hid (Agl n y0 s0 (k + 1) (ms.map (·.1) ++ [⟨nm, t0, t1 - 1, t2, ws⟩]) zs sb) := HGL.out.2.next hlt HG
            have HLN : Hid (ms.length ≤ 1000000) := by show _ ≤ _; rw [HGL.out.1]; omega
            have HRZ : Hid (∀ x ∈ zs, 0 ≤ x ∧ x ≤ 255) := HRK
            have K6 : Hid (Sk w tq q2 wr q z0 z1 (.slice a k c) (.slice sa 0 0) ms [] #[.string nm, .int .i64 t0, .int .i64 (t1 - 1), .int .i64 t2, .slice a2 ws.length c2] (uV (⟨nm, t0, t1 - 1, t2, ws⟩, a2, c2)) ws zs sb) := HK.out
            have cb0 := (blk_cell K6.out.k 0 (x := .string nm) rfl).1
            have cb1 := (blk_cell K6.out.k 1 (x := .int .i64 t0) rfl).1
            have cb2 := (blk_cell K6.out.k 2 (x := .int .i64 (t1 - 1)) rfl).1
            have cb3 := (blk_cell K6.out.k 3 (x := .int .i64 t2) rfl).1
            have cb4 := (blk_cell K6.out.k 4 (x := .slice a2 ws.length c2) rfl).1
            have ct2 := (blk_cell K6.out.sp.t 2 (x := .slice a k c) rfl).1
            have OL : OwnL wr (w.heap.size + 2) (.slice a k c) ms := K6.out.sp.me.ol
            have SZ : w.heap.size + 2 ≤ wr.heap.size := by have h1 := K6.out.sp.tl; have h2 := K6.out.sp.size; omega
            have HLM : Hid (ms.length = k) := HGL.out.1
            clear HK HG HRK HEX HGL
            go_wp2_with (at_builtin; go_must (refine list_lk (by rfl) _ _ 33 (by rfl) i0 Tryz.underlying33 hi0 hz0 hz1 hz2 (w.heap.size + 2) wr wr (.slice a k c) ms (⟨nm, t0, t1 - 1, t2, ws⟩, a2, c2) (by rfl) OL (Below.refl _ _) SZ _ (by rfl) (by rfl) HLN.out ?_; intro v5 w5 o5 b5 k5; obtain ⟨a5, cap5, rfl⟩ := o5.slice; obtain ⟨s5, f5, j5⟩ := K6.out.join o5 b5 k5))
            have hl5 : (ms ++ [((⟨nm, t0, t1 - 1, t2, ws⟩ : Lk), a2, c2)]).length = k + 1 := by rw [List.length_append, HLM.out]; rfl
            rw [hl5] at j5
            rw [HLM.out]
            have T6 : Hid (Sp w tq (w5.setCell ⟨tq, 2, none⟩ (.slice a5 (k + 1) cap5)) z0 z1 (.slice a5 (k + 1) cap5) (.slice sa 0 0) (ms ++ [(⟨nm, t0, t1 - 1, t2, ws⟩, a2, c2)]) [] zs sb) := j5
            exact ⟨⟨k + 1, a5, cap5, ms ++ [(⟨nm, t0, t1 - 1, t2, ws⟩, a2, c2)], zs, sb, by omega, by go_num, hl5, by rw [List.map_append]; exact HGN.out, T6.out, HRZ.out⟩, by simp [intOf]; omega⟩
    · obtain rfl : k = n := by omega
      have HFL : Hid (Fl k y0 s0 (ms.map (·.1)) ys sh) := ⟨HT.out.2.1.f, HT.out.2.1.t⟩
      have M0 := number_any 1 _ ys sh wr HT.out.2.2.1.rd (by decide) HT.out.2.2.2
      rw [cnt_eq HT.out.2.2.2] at M0
      have hc3 : cnt ys ≤ 255 := cnt_le HT.out.2.2.2
      have HRC : Hid (∀ x ∈ tkR 1 ys, 0 ≤ x ∧ x ≤ 255) := tkR_range HT.out.2.2.2
      have HLM : Hid (ms.length = k) := HT.out.1
      go_wp2_with fail
      refine M0.mono ?_
      rintro e w5 ⟨rfl, r, g⟩
      have T5 : Hid (Sp w tq w5 z0 z1 (.slice a k c) (.slice sa 0 0) ms [] (tkR 1 ys) (tkS 1 ys sh)) := HT.out.2.2.1.num r g
      obtain ⟨n3, HN3⟩ : ∃ n, Hid (cnt ys = n) := ⟨_, rfl⟩
      obtain ⟨y2, HY2⟩ : ∃ y, Hid (tkR 1 ys = y) := ⟨_, rfl⟩
      obtain ⟨s2, HS2⟩ : ∃ y, Hid (tkS 1 ys sh = y) := ⟨_, rfl⟩
      rw [HN3.out] at hc3
      rw [HN3.out]
      rw [HY2.out] at T5 HRC
      rw [HS2.out] at T5
      have HFO : Hid (∀ (ss : List Sn) (zs : List Int) (sb : Bool), (sb = false → ss = itL snR snO n3 y2 ∧ zs = itR snR n3 y2 ∧ itS snR snS n3 y2 s2 = false) ∧ (sb = true → itS snR snS n3 y2 s2 = true) → (sb = false → tbS xs false = false ∧ tbR xs = zs ∧ tbO xs = ⟨z0, z1, ms.map (·.1), ss⟩) ∧ (sb = true → tbS xs false = true)) := fun ss zs sb h => by
        rw [← HN3.out, ← HY2.out, ← HS2.out] at h
        rw [← HZ0.out, ← HZ1.out]
        have hf := HFL.out
        rw [← HNN.out, ← HY0.out, ← HS0.out] at hf
        exact fin_ok hf h
      clear HT M0 r g HFL HN3 HY2 HS2
      try clear hbad
      go_wp2_with fail
      go_loopw [11] (fun i wr => ∃ (k3 : Nat) (a3 : Option Addr) (c3 : Nat) (ss : List Sn) (zs : List Int) (sb : Bool), k3 ≤ n3 ∧ i = .int .i64 ((n3 : Int) - (k3 : Int)) ∧ Hid (ss.length = k3 ∧ Ags n3 y2 s2 k3 ss zs sb ∧ Sp w tq wr z0 z1 (.slice a k c) (.slice a3 k3 c3) ms ss zs sb ∧ ∀ x ∈ zs, 0 ≤ x ∧ x ≤ 255)) (fun i _ => (intOf i).toNat)
      case atStart => exact ⟨0, sa, 0, [], y2, s2, by omega, by simp, rfl, Ags.zero _ _ _, T5.out, HRC.out⟩
      case round =>
        clear T5 HRC
        obtain ⟨k3, a3, c3, ss, zs, sb, hk3, rfl, HT⟩ := hrel
        have hbad := HT.out.2.2.1.bad
        by_cases hlt3 : k3 < n3
        · rcases Bool.eq_false_or_eq_true sb with hsb | hsb
          · subst hsb
            have HFZ := (HFO.out ss zs true ⟨(fun h => by cases h), HT.out.2.1.t⟩).2 rfl
            have HOK : Hid (rtOK xs = false) := by show _ = _; unfold rtOK; rw [HFZ]; rfl
            have HP := HT.out.2.2.1
            obtain ⟨s', p, hs1, _, _⟩ := HP.rd
            have J : Hid (Rs w tq s' wr z0 z1 (.slice a k c) (.slice a3 k3 c3) ms ss zs true) := ⟨HP, p⟩
            have HS : Hid (∀ W, Rs w tq s' W z0 z1 (.slice a k c) (.slice a3 k3 c3) ms ss zs true → W.cell? ⟨w.heap.size + 1, 0, none⟩ = some (.string s') ∧ W.cell? ⟨w.heap.size + 1, 1, none⟩ = some (.bool true) ∧ W.cell? ⟨tq, 0, none⟩ = some (.int .i64 z0) ∧ W.cell? ⟨tq, 1, none⟩ = some (.int .i64 z1) ∧ W.cell? ⟨tq, 2, none⟩ = some (.slice a k c) ∧ W.cell? ⟨tq, 3, none⟩ = some (.slice a3 k3 c3)) := fun W h => h.cells
            have HSN : Hid (∀ W, Rs w tq s' W z0 z1 (.slice a k c) (.slice a3 k3 c3) ms ss zs true → ((((W.setCell ⟨w.heap.size, 0, none⟩ (.int .i64 z0)).setCell ⟨w.heap.size, 1, none⟩ (.int .i64 z1)).setCell ⟨w.heap.size, 2, none⟩ (.slice a k c)).setCell ⟨w.heap.size, 3, none⟩ (.slice a3 k3 c3)).cell? ⟨w.heap.size + 1, 0, none⟩ = some (.string s') ∧ ((((W.setCell ⟨w.heap.size, 0, none⟩ (.int .i64 z0)).setCell ⟨w.heap.size, 1, none⟩ (.int .i64 z1)).setCell ⟨w.heap.size, 2, none⟩ (.slice a k c)).setCell ⟨w.heap.size, 3, none⟩ (.slice a3 k3 c3)).cell? ⟨w.heap.size + 1, 1, none⟩ = some (.bool true) ∧ ((((W.setCell ⟨w.heap.size, 0, none⟩ (.int .i64 z0)).setCell ⟨w.heap.size, 1, none⟩ (.int .i64 z1)).setCell ⟨w.heap.size, 2, none⟩ (.slice a k c)).setCell ⟨w.heap.size, 3, none⟩ (.slice a3 k3 c3)).cell? ⟨tq, 0, none⟩ = some (.int .i64 z0) ∧ ((((W.setCell ⟨w.heap.size, 0, none⟩ (.int .i64 z0)).setCell ⟨w.heap.size, 1, none⟩ (.int .i64 z1)).setCell ⟨w.heap.size, 2, none⟩ (.slice a k c)).setCell ⟨w.heap.size, 3, none⟩ (.slice a3 k3 c3)).cell? ⟨tq, 1, none⟩ = some (.int .i64 z1) ∧ ((((W.setCell ⟨w.heap.size, 0, none⟩ (.int .i64 z0)).setCell ⟨w.heap.size, 1, none⟩ (.int .i64 z1)).setCell ⟨w.heap.size, 2, none⟩ (.slice a k c)).setCell ⟨w.heap.size, 3, none⟩ (.slice a3 k3 c3)).cell? ⟨tq, 2, none⟩ = some (.slice a k c) ∧ ((((W.setCell ⟨w.heap.size, 0, none⟩ (.int .i64 z0)).setCell ⟨w.heap.size, 1, none⟩ (.int .i64 z1)).setCell ⟨w.heap.size, 2, none⟩ (.slice a k c)).setCell ⟨w.heap.size, 3, none⟩ (.slice a3 k3 c3)).cell? ⟨tq, 3, none⟩ = some (.slice a3 k3 c3)) := fun W h => h.cellsN _ _ _ _
            obtain ⟨zc0, zf0⟩ := blk_cell HP.a 0 (x := .int .i64 0) rfl
            obtain ⟨zc1, zf1⟩ := blk_cell HP.a 1 (x := .int .i64 0) rfl
            obtain ⟨zc2, zf2⟩ := blk_cell HP.a 2 (x := .slice none 0 0) rfl
            obtain ⟨zc3, zf3⟩ := blk_cell HP.a 3 (x := .slice none 0 0) rfl
            clear HFZ HP HT HFO p hs1 hi0 hz0 hz1 hz2 hj0 hy0 hy1 hy2 hk0 hx0 hx1 hx2
            go_upto_region 28 with fail
            clear hbad
            refine wp_region_noPanic ?_
            refine wp_region_held_drew (S := fun W => W.cell? ⟨w.heap.size + 1, 0, none⟩ = some (.string s') ∧ W.cell? ⟨w.heap.size + 1, 1, none⟩ = some (.bool true) ∧ W.cell? ⟨tq, 0, none⟩ = some (.int .i64 z0) ∧ W.cell? ⟨tq, 1, none⟩ = some (.int .i64 z1) ∧ W.cell? ⟨tq, 2, none⟩ = some (.slice a k c) ∧ W.cell? ⟨tq, 3, none⟩ = some (.slice a3 k3 c3)) (by kernel_rfl) (HS.out _ J.out.drew) (fun hHeld => ?_)
            refine wpAnyH_take (i := 0) (oi := { dst := some 126, op := Go.Op.load 36 (Go.Operand.tmp 5), type := 36, pos := "l05_locks.go:331", after := #[], guard := none }) (v := ?v56) rfl (by kernel_rfl) (by kernel_rfl) (by kernel_rfl) (fun _ _ _ h => h) (Or.inl ⟨by rfl, ?h56⟩) hHeld ?r56
            case h56 => intro wz hz; (try dsimp only at hz); go_simp; try (with_reducible rfl)
            simp only [Act.put, List.setIfInBounds_toArray, List.set_cons_zero, List.set_cons_succ]
            refine wpAnyH_take (i := 1) (oi := { dst := some 127, op := Go.Op.move (Go.Operand.tmp 4), type := 142, pos := "l05_locks.go:331", after := #[], guard := none }) (v := ?v57) rfl (by kernel_rfl) (by kernel_rfl) (by kernel_rfl) (fun _ _ _ h => h) (Or.inl ⟨by rfl, ?h57⟩) hHeld ?r57
            case h57 => intro wz hz; (try dsimp only at hz); go_simp; try (with_reducible rfl)
            simp only [Act.put, List.setIfInBounds_toArray, List.set_cons_zero, List.set_cons_succ]
            refine wpAnyH_take (i := 2) (oi := { dst := some 128, op := Go.Op.nilCheck (Go.Operand.tmp 127), type := 0, pos := "l05_locks.go:331", after := #[{ on := 1, ground := Go.Ground.data }], guard := none }) (v := ?v58) rfl (by kernel_rfl) (by kernel_rfl) (by kernel_rfl) (fun _ _ _ h => h) (Or.inl ⟨by rfl, ?h58⟩) hHeld ?r58
            case h58 => intro wz hz; (try dsimp only at hz); go_simp; try (with_reducible rfl)
            simp only [Act.put, List.setIfInBounds_toArray, List.set_cons_zero, List.set_cons_succ]
            refine wpAnyH_take (i := 3) (oi := { dst := some 129, op := Go.Op.fieldAddr 144 (Go.Operand.tmp 128) 1, type := 0, pos := "l05_locks.go:331", after := #[{ on := 2, ground := Go.Ground.data }], guard := none }) (v := ?v59) rfl (by kernel_rfl) (by kernel_rfl) (by kernel_rfl) (fun _ _ _ h => h) (Or.inl ⟨by rfl, ?h59⟩) hHeld ?r59
            case h59 => intro wz hz; (try dsimp only at hz); go_simp; try (with_reducible rfl)
            simp only [Act.put, List.setIfInBounds_toArray, List.set_cons_zero, List.set_cons_succ]
            refine wpAnyH_take (i := 4) (oi := { dst := some 130, op := Go.Op.load 4 (Go.Operand.tmp 129), type := 4, pos := "l05_locks.go:331", after := #[{ on := 3, ground := Go.Ground.data }], guard := none }) (v := ?v60) rfl (by kernel_rfl) (by kernel_rfl) (by kernel_rfl) (fun _ _ _ h => h) (Or.inl ⟨by rfl, ?h60⟩) hHeld ?r60
            case h60 => intro wz hz; (try dsimp only at hz); go_simp; try (with_reducible rfl)
            simp only [Act.put, List.setIfInBounds_toArray, List.set_cons_zero, List.set_cons_succ]
            refine wpAnyH_take (i := 5) (oi := { dst := some 131, op := Go.Op.unOp Go.UnOp.not 4 (Go.Operand.tmp 130), type := 4, pos := "l05_locks.go:331", after := #[{ on := 4, ground := Go.Ground.data }], guard := none }) (v := ?v61) rfl (by kernel_rfl) (by kernel_rfl) (by kernel_rfl) (fun _ _ _ h => h) (Or.inl ⟨by rfl, ?h61⟩) hHeld ?r61
            case h61 => intro wz hz; (try dsimp only at hz); go_simp; try (with_reducible rfl)
            simp only [Act.put, List.setIfInBounds_toArray, List.set_cons_zero, List.set_cons_succ]
            refine wpAnyH_take (i := 6) (oi := { dst := some 132, op := Go.Op.move (Go.Operand.tmp 131), type := 4, pos := "l05_locks.go:331", after := #[{ on := 5, ground := Go.Ground.data }], guard := none }) (v := ?v62) rfl (by kernel_rfl) (by kernel_rfl) (by kernel_rfl) (fun _ _ _ h => h) (Or.inl ⟨by rfl, ?h62⟩) hHeld ?r62
            case h62 => intro wz hz; (try dsimp only at hz); go_simp; try (with_reducible rfl)
            simp only [Act.put, List.setIfInBounds_toArray, List.set_cons_zero, List.set_cons_succ]
            refine wpAnyH_take (i := 7) (oi := { dst := some 133, op := Go.Op.move (Go.Operand.tmp 4), type := 142, pos := "l05_locks.go:331", after := #[{ on := 6, ground := Go.Ground.guard }], guard := some (6, true) }) (v := undef) rfl (by kernel_rfl) (by kernel_rfl) (by kernel_rfl) (fun _ _ _ h => h) (Or.inr ⟨by rfl, rfl⟩) hHeld ?_
            simp only [Act.put, List.setIfInBounds_toArray, List.set_cons_zero, List.set_cons_succ]
            refine wpAnyH_take (i := 8) (oi := { dst := some 134, op := Go.Op.nilCheck (Go.Operand.tmp 133), type := 0, pos := "l05_locks.go:331", after := #[{ on := 7, ground := Go.Ground.data }, { on := 6, ground := Go.Ground.guard }], guard := some (6, true) }) (v := undef) rfl (by kernel_rfl) (by kernel_rfl) (by kernel_rfl) (fun _ _ _ h => h) (Or.inr ⟨by rfl, rfl⟩) hHeld ?_
            simp only [Act.put, List.setIfInBounds_toArray, List.set_cons_zero, List.set_cons_succ]
            refine wpAnyH_take (i := 9) (oi := { dst := some 135, op := Go.Op.fieldAddr 144 (Go.Operand.tmp 134) 0, type := 0, pos := "l05_locks.go:331", after := #[{ on := 8, ground := Go.Ground.data }, { on := 6, ground := Go.Ground.guard }], guard := some (6, true) }) (v := undef) rfl (by kernel_rfl) (by kernel_rfl) (by kernel_rfl) (fun _ _ _ h => h) (Or.inr ⟨by rfl, rfl⟩) hHeld ?_
            simp only [Act.put, List.setIfInBounds_toArray, List.set_cons_zero, List.set_cons_succ]
            refine wpAnyH_take (i := 10) (oi := { dst := some 136, op := Go.Op.load 9 (Go.Operand.tmp 135), type := 9, pos := "l05_locks.go:331", after := #[{ on := 9, ground := Go.Ground.data }, { on := 6, ground := Go.Ground.guard }], guard := some (6, true) }) (v := undef) rfl (by kernel_rfl) (by kernel_rfl) (by kernel_rfl) (fun _ _ _ h => h) (Or.inr ⟨by rfl, rfl⟩) hHeld ?_
            simp only [Act.put, List.setIfInBounds_toArray, List.set_cons_zero, List.set_cons_succ]
            refine wpAnyH_take (i := 11) (oi := { dst := some 137, op := Go.Op.binOp Go.BinOp.eql 9 (Go.Operand.tmp 136) (Go.Operand.const (Go.Value.string { data := #[] })) 9, type := 4, pos := "l05_locks.go:331", after := #[{ on := 10, ground := Go.Ground.data }, { on := 6, ground := Go.Ground.guard }], guard := some (6, true) }) (v := undef) rfl (by kernel_rfl) (by kernel_rfl) (by kernel_rfl) (fun _ _ _ h => h) (Or.inr ⟨by rfl, rfl⟩) hHeld ?_
            simp only [Act.put, List.setIfInBounds_toArray, List.set_cons_zero, List.set_cons_succ]
            refine wpAnyH_take (i := 12) (oi := { dst := some 138, op := Go.Op.pick (Go.Operand.tmp 132) (Go.Operand.tmp 137) (Go.Operand.const (Go.Value.bool false)), type := 4, pos := "l05_locks.go:331", after := #[{ on := 6, ground := Go.Ground.data }, { on := 11, ground := Go.Ground.data }], guard := none }) (v := ?v63) rfl (by kernel_rfl) (by kernel_rfl) (by kernel_rfl) (fun _ _ _ h => h) (Or.inl ⟨by rfl, ?h63⟩) hHeld ?r63
            case h63 => intro wz hz; (try dsimp only at hz); go_simp; try (with_reducible rfl)
            simp only [Act.put, List.setIfInBounds_toArray, List.set_cons_zero, List.set_cons_succ]
            refine wpAnyH_take (i := 13) (oi := { dst := some 139, op := Go.Op.move (Go.Operand.tmp 138), type := 4, pos := "l05_locks.go:331", after := #[{ on := 12, ground := Go.Ground.data }, { on := 6, ground := Go.Ground.chain }], guard := none }) (v := ?v64) rfl (by kernel_rfl) (by kernel_rfl) (by kernel_rfl) (fun _ _ _ h => h) (Or.inl ⟨by rfl, ?h64⟩) hHeld ?r64
            case h64 => intro wz hz; (try dsimp only at hz); go_simp; try (with_reducible rfl)
            simp only [Act.put, List.setIfInBounds_toArray, List.set_cons_zero, List.set_cons_succ]
            refine wpAnyH_take (i := 14) (oi := { dst := some 140, op := Go.Op.load 36 (Go.Operand.tmp 5), type := 36, pos := "l05_locks.go:331", after := #[{ on := 13, ground := Go.Ground.guard }], guard := some (13, true) }) (v := undef) rfl (by kernel_rfl) (by kernel_rfl) (by kernel_rfl) (fun _ _ _ h => h) (Or.inr ⟨by rfl, rfl⟩) hHeld ?_
            simp only [Act.put, List.setIfInBounds_toArray, List.set_cons_zero, List.set_cons_succ]
            refine wpAnyH_take (i := 15) (oi := { dst := some 141, op := Go.Op.call { callee := Go.Callee.value (Go.Operand.func 30), args := #[Go.Operand.tmp 140], argTypes := #[36] }, type := 4, pos := "l05_locks.go:331", after := #[{ on := 14, ground := Go.Ground.data }, { on := 13, ground := Go.Ground.chain }, { on := 13, ground := Go.Ground.guard }], guard := some (13, true) }) (v := undef) rfl (by kernel_rfl) (by kernel_rfl) (by kernel_rfl) (fun _ _ _ h => h) (Or.inr ⟨by rfl, rfl⟩) hHeld ?_
            simp only [Act.put, List.setIfInBounds_toArray, List.set_cons_zero, List.set_cons_succ]
            refine wpAnyH_take (i := 16) (oi := { dst := some 142, op := Go.Op.pick (Go.Operand.tmp 139) (Go.Operand.tmp 141) (Go.Operand.const (Go.Value.bool false)), type := 4, pos := "l05_locks.go:331", after := #[{ on := 13, ground := Go.Ground.data }, { on := 15, ground := Go.Ground.data }, { on := 17, ground := Go.Ground.gcOnly Go.Departure.lateStores }], guard := none }) (v := ?v65) rfl (by kernel_rfl) (by kernel_rfl) (by kernel_rfl) (fun _ _ _ h => h) (Or.inl ⟨by rfl, ?h65⟩) hHeld ?r65
            case h65 => intro wz hz; (try dsimp only at hz); go_simp; try (with_reducible rfl)
            simp only [Act.put, List.setIfInBounds_toArray, List.set_cons_zero, List.set_cons_succ]
            refine wpAnyH_ready (rs := [17]) (by kernel_rfl) (by simp) ?_
            refine AllReadyH.cons (o := { dst := none, op := Go.Op.store 36 (Go.Operand.tmp 2) (Go.Operand.tmp 126), type := 0, pos := "l05_locks.go:331", after := #[{ on := 0, ground := Go.Ground.data }, { on := 15, ground := Go.Ground.chain }, { on := 0, ground := Go.Ground.phase }, { on := 1, ground := Go.Ground.textOnly Go.Departure.lateStores }, { on := 2, ground := Go.Ground.textOnly Go.Departure.lateStores }, { on := 3, ground := Go.Ground.textOnly Go.Departure.lateStores }, { on := 4, ground := Go.Ground.textOnly Go.Departure.lateStores }, { on := 5, ground := Go.Ground.textOnly Go.Departure.lateStores }, { on := 6, ground := Go.Ground.textOnly Go.Departure.lateStores }, { on := 7, ground := Go.Ground.textOnly Go.Departure.lateStores }, { on := 8, ground := Go.Ground.textOnly Go.Departure.lateStores }, { on := 9, ground := Go.Ground.textOnly Go.Departure.lateStores }, { on := 10, ground := Go.Ground.textOnly Go.Departure.lateStores }, { on := 11, ground := Go.Ground.textOnly Go.Departure.lateStores }, { on := 12, ground := Go.Ground.textOnly Go.Departure.lateStores }, { on := 13, ground := Go.Ground.textOnly Go.Departure.lateStores }, { on := 14, ground := Go.Ground.textOnly Go.Departure.lateStores }, { on := 15, ground := Go.Ground.textOnly Go.Departure.lateStoresUnsure }, { on := 16, ground := Go.Ground.textOnly Go.Departure.lateStores }], guard := none }) rfl (fun K hK => ?_) AllReadyH.nil
            go_simp
            refine hK.out _ _ ?_ (fun hHeld => ?_)
            · first | exact HSN.out _ J.out | exact HSN.out _ J.out.drew
            clear hK K
            refine wpAnyH_take (i := 18) (oi := { dst := some 3, op := Go.Op.assign (Go.Operand.tmp 142), type := 4, pos := "l05_locks.go:331", after := #[{ on := 16, ground := Go.Ground.data }, { on := 17, ground := Go.Ground.chain }, { on := 0, ground := Go.Ground.phase }, { on := 1, ground := Go.Ground.phase }, { on := 2, ground := Go.Ground.phase }, { on := 3, ground := Go.Ground.phase }, { on := 4, ground := Go.Ground.phase }, { on := 5, ground := Go.Ground.phase }, { on := 6, ground := Go.Ground.phase }, { on := 7, ground := Go.Ground.phase }, { on := 8, ground := Go.Ground.phase }, { on := 9, ground := Go.Ground.phase }, { on := 10, ground := Go.Ground.phase }, { on := 11, ground := Go.Ground.phase }, { on := 12, ground := Go.Ground.phase }, { on := 13, ground := Go.Ground.phase }, { on := 14, ground := Go.Ground.phase }, { on := 15, ground := Go.Ground.phase }, { on := 16, ground := Go.Ground.phase }, { on := 17, ground := Go.Ground.phase }], guard := none }) (v := ?v66) rfl (by kernel_rfl) (by kernel_rfl) (by kernel_rfl) (fun _ _ _ h => h) (Or.inl ⟨by rfl, ?h66⟩) hHeld ?r66
            case h66 => intro wz hz; (try dsimp only at hz); go_simp; try (with_reducible rfl)
            simp only [Act.put, List.setIfInBounds_toArray, List.set_cons_zero, List.set_cons_succ]
            refine wpAnyH_done (by kernel_rfl) ?_ _
            refine NoPanic.normal ?_
            clear hHeld HS HSN
            have AF := J.out.sp.done
            go_wp2_with fail
            generalize ((((wr.setCell ⟨w.heap.size, 0, none⟩ (.int .i64 z0)).setCell ⟨w.heap.size, 1, none⟩ (.int .i64 z1)).setCell ⟨w.heap.size, 2, none⟩ (.slice a k c)).setCell ⟨w.heap.size, 3, none⟩ (.slice a3 k3 c3)) = wf at AF ⊢
            have d0 := (blk_cell AF.1 0 (x := .int .i64 z0) rfl).1
            have d1 := (blk_cell AF.1 1 (x := .int .i64 z1) rfl).1
            have d2 := (blk_cell AF.1 2 (x := .slice a k c) rfl).1
            have d3 := (blk_cell AF.1 3 (x := .slice a3 k3 c3) rfl).1
            refine bodyPost_ret (v := .tuple #[.agg #[.int .i64 z0, .int .i64 z1, .slice a k c, .slice a3 k3 c3], .bool false]) (by simp [results, Tryz.results49, go_sem, d0, d1, d2, d3]) rfl ?_
            exact ⟨z0, z1, _, _, ms, ss, by rw [HOK.out]; rfl, ⟨Mem.mono (Mem.kept (W' := wf.drew) AF.2.2 fun _ _ _ => rfl) (by omega), fun h => by rw [HOK.out] at h; cases h⟩, AF.2.1.drew⟩
          · subst hsb
            have HLS : Hid (ss.length = k3) := HT.out.1
            have HLN : Hid (ss.length + 1 ≤ 1000000) := by show _ ≤ _; rw [HLS.out]; omega
            have HNX : Hid (Ags n3 y2 s2 (k3 + 1) (ss ++ [snO zs]) (snR zs) (snS zs false)) := HT.out.2.1.next hlt3
            have P0 := HT.out.2.2.1
            have HRT0 : Hid (∀ x ∈ zs, 0 ≤ x ∧ x ≤ 255) := HT.out.2.2.2
            have M0 := number_any 1 _ zs false wr P0.rd (by decide) HRT0.out
            have HRT1 : Hid (∀ x ∈ tkR 1 zs, 0 ≤ x ∧ x ≤ 255) := tkR_range HRT0.out
            obtain ⟨t0, HT0⟩ : ∃ y, Hid (nv 1 zs = y) := ⟨_, rfl⟩
            rw [HT0.out] at M0
            clear HFO
            go_wp2_with fail
            refine M0.mono ?_
            rintro e q2 ⟨rfl, r, g⟩
            have K1 : Hid (Sq w tq q2 (q2.alloc (.cells #[.int .i64 t0, .int .i64 0, .int .i64 0, .int .i64 0, .int .i64 0, .int .i64 0] 105)) q2.heap.size z0 z1 (.slice a k c) (.slice a3 k3 c3) ms ss #[.int .i64 t0, .int .i64 0, .int .i64 0, .int .i64 0, .int .i64 0, .int .i64 0] (tkR 1 zs) (tkS 1 zs false)) := Sq.start (P0.num r g) _
            clear P0 M0 r g HRT0 HT hbad
            go_wp2_with fail
            generalize q2.alloc (.cells #[.int .i64 t0, .int .i64 0, .int .i64 0, .int .i64 0, .int .i64 0, .int .i64 0] 105) = u0' at K1 ⊢
            generalize q2.heap.size = q at K1 ⊢
            have M1 := number_any 2 _ (tkR 1 zs) (tkS 1 zs false) _ K1.out.sp.rd (by decide) HRT1.out
            have nb1 := nv_range (n := 2) HRT1.out
            simp only [show ((256 : Int) ^ 2) = 65536 from rfl] at nb1
            have HRT2 : Hid (∀ x ∈ tkR 2 (tkR 1 zs), 0 ≤ x ∧ x ≤ 255) := tkR_range HRT1.out
            obtain ⟨t1, HT1⟩ : ∃ y, Hid (nv 2 (tkR 1 zs) = y) := ⟨_, rfl⟩
            rw [HT1.out] at M1 nb1
            refine M1.mono ?_
            rintro e u1 ⟨rfl, r, g⟩
            have l := K1.out.num r g
            obtain ⟨c0, f0⟩ := blk_cell l.k 1 (x := .int .i64 0) rfl
            have K2 : Hid (Sq w tq q2 (u1.setCell ⟨q, 1, none⟩ (.int .i64 t1)) q z0 z1 (.slice a k c) (.slice a3 k3 c3) ms ss #[.int .i64 t0, .int .i64 t1, .int .i64 0, .int .i64 0, .int .i64 0, .int .i64 0] (tkR 2 (tkR 1 zs)) (tkS 2 (tkR 1 zs) (tkS 1 zs false))) := l.set 1 _
            clear l r g K1 M1 HRT1
            go_wp2_with fail
            clear c0 f0 nb1
            generalize u1.setCell ⟨q, 1, none⟩ (.int .i64 t1) = u1' at K2 ⊢
            have M2 := number_any 1 _ (tkR 2 (tkR 1 zs)) (tkS 2 (tkR 1 zs) (tkS 1 zs false)) _ K2.out.sp.rd (by decide) HRT2.out
            have nb2 := nv_range (n := 1) HRT2.out
            simp only [show ((256 : Int) ^ 1) = 256 from rfl] at nb2
            have HRT3 : Hid (∀ x ∈ tkR 1 (tkR 2 (tkR 1 zs)), 0 ≤ x ∧ x ≤ 255) := tkR_range HRT2.out
            obtain ⟨t2, HT2⟩ : ∃ y, Hid (nv 1 (tkR 2 (tkR 1 zs)) = y) := ⟨_, rfl⟩
            rw [HT2.out] at M2 nb2
            refine M2.mono ?_
            rintro e u2 ⟨rfl, r, g⟩
            have l := K2.out.num r g
            obtain ⟨c0, f0⟩ := blk_cell l.k 2 (x := .int .i64 0) rfl
            have K3 : Hid (Sq w tq q2 (u2.setCell ⟨q, 2, none⟩ (.int .i64 t2)) q z0 z1 (.slice a k c) (.slice a3 k3 c3) ms ss #[.int .i64 t0, .int .i64 t1, .int .i64 t2, .int .i64 0, .int .i64 0, .int .i64 0] (tkR 1 (tkR 2 (tkR 1 zs))) (tkS 1 (tkR 2 (tkR 1 zs)) (tkS 2 (tkR 1 zs) (tkS 1 zs false)))) := l.set 2 _
            clear l r g K2 M2 HRT2
            go_wp2_with fail
            clear c0 f0 nb2
            generalize u2.setCell ⟨q, 2, none⟩ (.int .i64 t2) = u2' at K3 ⊢
            have M3 := number_any 3 _ (tkR 1 (tkR 2 (tkR 1 zs))) (tkS 1 (tkR 2 (tkR 1 zs)) (tkS 2 (tkR 1 zs) (tkS 1 zs false))) _ K3.out.sp.rd (by decide) HRT3.out
            have nb3 := nv_range (n := 3) HRT3.out
            simp only [show ((256 : Int) ^ 3) = 16777216 from rfl] at nb3
            have HRT4 : Hid (∀ x ∈ tkR 3 (tkR 1 (tkR 2 (tkR 1 zs))), 0 ≤ x ∧ x ≤ 255) := tkR_range HRT3.out
            obtain ⟨t3, HT3⟩ : ∃ y, Hid (nv 3 (tkR 1 (tkR 2 (tkR 1 zs))) = y) := ⟨_, rfl⟩
            rw [HT3.out] at M3 nb3
            refine M3.mono ?_
            rintro e u3 ⟨rfl, r, g⟩
            have l := K3.out.num r g
            obtain ⟨c0, f0⟩ := blk_cell l.k 3 (x := .int .i64 0) rfl
            have K4 : Hid (Sq w tq q2 (u3.setCell ⟨q, 3, none⟩ (.int .i64 t3)) q z0 z1 (.slice a k c) (.slice a3 k3 c3) ms ss #[.int .i64 t0, .int .i64 t1, .int .i64 t2, .int .i64 t3, .int .i64 0, .int .i64 0] (tkR 3 (tkR 1 (tkR 2 (tkR 1 zs)))) (tkS 3 (tkR 1 (tkR 2 (tkR 1 zs))) (tkS 1 (tkR 2 (tkR 1 zs)) (tkS 2 (tkR 1 zs) (tkS 1 zs false))))) := l.set 3 _
            clear l r g K3 M3 HRT3
            go_wp2_with fail
            clear c0 f0 nb3
            generalize u3.setCell ⟨q, 3, none⟩ (.int .i64 t3) = u3' at K4 ⊢
            have M4 := number_any 2 _ (tkR 3 (tkR 1 (tkR 2 (tkR 1 zs)))) (tkS 3 (tkR 1 (tkR 2 (tkR 1 zs))) (tkS 1 (tkR 2 (tkR 1 zs)) (tkS 2 (tkR 1 zs) (tkS 1 zs false)))) _ K4.out.sp.rd (by decide) HRT4.out
            have nb4 := nv_range (n := 2) HRT4.out
            simp only [show ((256 : Int) ^ 2) = 65536 from rfl] at nb4
            have HRT5 : Hid (∀ x ∈ tkR 2 (tkR 3 (tkR 1 (tkR 2 (tkR 1 zs)))), 0 ≤ x ∧ x ≤ 255) := tkR_range HRT4.out
            obtain ⟨t4, HT4⟩ : ∃ y, Hid (nv 2 (tkR 3 (tkR 1 (tkR 2 (tkR 1 zs)))) = y) := ⟨_, rfl⟩
            rw [HT4.out] at M4 nb4
            refine M4.mono ?_
            rintro e u4 ⟨rfl, r, g⟩
            have l := K4.out.num r g
            obtain ⟨c0, f0⟩ := blk_cell l.k 4 (x := .int .i64 0) rfl
            have K5 : Hid (Sq w tq q2 (u4.setCell ⟨q, 4, none⟩ (.int .i64 (t4 - 1))) q z0 z1 (.slice a k c) (.slice a3 k3 c3) ms ss #[.int .i64 t0, .int .i64 t1, .int .i64 t2, .int .i64 t3, .int .i64 (t4 - 1), .int .i64 0] (tkR 2 (tkR 3 (tkR 1 (tkR 2 (tkR 1 zs))))) (tkS 2 (tkR 3 (tkR 1 (tkR 2 (tkR 1 zs)))) (tkS 3 (tkR 1 (tkR 2 (tkR 1 zs))) (tkS 1 (tkR 2 (tkR 1 zs)) (tkS 2 (tkR 1 zs) (tkS 1 zs false)))))) := l.set 4 _
            clear l r g K4 M4 HRT4
            go_wp2_with fail
            clear c0 f0 nb4
            generalize u4.setCell ⟨q, 4, none⟩ (.int .i64 (t4 - 1)) = u4' at K5 ⊢
            have M5 := number_any 4 _ (tkR 2 (tkR 3 (tkR 1 (tkR 2 (tkR 1 zs))))) (tkS 2 (tkR 3 (tkR 1 (tkR 2 (tkR 1 zs)))) (tkS 3 (tkR 1 (tkR 2 (tkR 1 zs))) (tkS 1 (tkR 2 (tkR 1 zs)) (tkS 2 (tkR 1 zs) (tkS 1 zs false))))) _ K5.out.sp.rd (by decide) HRT5.out
            have HRT6 : Hid (∀ x ∈ tkR 4 (tkR 2 (tkR 3 (tkR 1 (tkR 2 (tkR 1 zs))))), 0 ≤ x ∧ x ≤ 255) := tkR_range HRT5.out
            obtain ⟨t5, HT5⟩ : ∃ y, Hid (nv 4 (tkR 2 (tkR 3 (tkR 1 (tkR 2 (tkR 1 zs))))) = y) := ⟨_, rfl⟩
            rw [HT5.out] at M5
            refine M5.mono ?_
            rintro e u5 ⟨rfl, r, g⟩
            have l := K5.out.num r g
            obtain ⟨c0, f0⟩ := blk_cell l.k 5 (x := .int .i64 0) rfl
            have K6 : Hid (Sq w tq q2 (u5.setCell ⟨q, 5, none⟩ (.int .i64 t5)) q z0 z1 (.slice a k c) (.slice a3 k3 c3) ms ss #[.int .i64 t0, .int .i64 t1, .int .i64 t2, .int .i64 t3, .int .i64 (t4 - 1), .int .i64 t5] (tkR 4 (tkR 2 (tkR 3 (tkR 1 (tkR 2 (tkR 1 zs)))))) (tkS 4 (tkR 2 (tkR 3 (tkR 1 (tkR 2 (tkR 1 zs))))) (tkS 2 (tkR 3 (tkR 1 (tkR 2 (tkR 1 zs)))) (tkS 3 (tkR 1 (tkR 2 (tkR 1 zs))) (tkS 1 (tkR 2 (tkR 1 zs)) (tkS 2 (tkR 1 zs) (tkS 1 zs false))))))) := l.set 5 _
            clear l r g K5 M5 HRT5
            go_upto_region 27 with fail
            clear c0 f0
            generalize u5.setCell ⟨q, 5, none⟩ (.int .i64 t5) = u5' at K6 ⊢
            have HES : Hid (snO zs = ⟨t0, t1, t2, t3, t4 - 1, t5⟩ ∧ snR zs = tkR 4 (tkR 2 (tkR 3 (tkR 1 (tkR 2 (tkR 1 zs))))) ∧ snS zs false = tkS 4 (tkR 2 (tkR 3 (tkR 1 (tkR 2 (tkR 1 zs))))) (tkS 2 (tkR 3 (tkR 1 (tkR 2 (tkR 1 zs)))) (tkS 3 (tkR 1 (tkR 2 (tkR 1 zs))) (tkS 1 (tkR 2 (tkR 1 zs)) (tkS 2 (tkR 1 zs) (tkS 1 zs false)))))) := ⟨by rw [← HT0.out, ← HT1.out, ← HT2.out, ← HT3.out, ← HT4.out, ← HT5.out]; rfl, rfl, rfl⟩
            rw [← HES.out.2.1, ← HES.out.2.2] at K6
            rw [← HES.out.2.1] at HRT6
            rw [HES.out.1] at HNX
            obtain ⟨z6, HZ6⟩ : ∃ y, Hid (snR zs = y) := ⟨_, rfl⟩
            obtain ⟨b6, HB6⟩ : ∃ y, Hid (snS zs false = y) := ⟨_, rfl⟩
            rw [HZ6.out] at HNX K6 HRT6
            rw [HB6.out] at HNX K6
            have cb0 := (blk_cell K6.out.k 0 (x := .int .i64 t0) rfl).1
            have cb1 := (blk_cell K6.out.k 1 (x := .int .i64 t1) rfl).1
            have cb2 := (blk_cell K6.out.k 2 (x := .int .i64 t2) rfl).1
            have cb3 := (blk_cell K6.out.k 3 (x := .int .i64 t3) rfl).1
            have cb4 := (blk_cell K6.out.k 4 (x := .int .i64 (t4 - 1)) rfl).1
            have cb5 := (blk_cell K6.out.k 5 (x := .int .i64 t5) rfl).1
            have ct3 := (blk_cell K6.out.sp.t 3 (x := .slice a3 k3 c3) rfl).1
            have P6 : Hid (Sp w tq (u5'.alloc (.cells #[.int .i64 t0, .int .i64 t1, .int .i64 t2, .int .i64 t3, .int .i64 (t4 - 1), .int .i64 t5] 105)) z0 z1 (.slice a k c) (.slice a3 k3 c3) ms ss z6 b6) := K6.out.sp.up ((Below.refl _ _).alloc (Nat.le_refl _) _)
            have OS : OwnS (u5'.alloc (.cells #[.int .i64 t0, .int .i64 t1, .int .i64 t2, .int .i64 t3, .int .i64 (t4 - 1), .int .i64 t5] 105)) (w.heap.size + 2) (.slice a3 k3 c3) ss := P6.out.me.os
            have KR : Hid (RowS (u5'.alloc (.cells #[.int .i64 t0, .int .i64 t1, .int .i64 t2, .int .i64 t3, .int .i64 (t4 - 1), .int .i64 t5] 105)) (.slice (some ⟨u5'.heap.size, 0, none⟩) 1 1) [⟨t0, t1, t2, t3, t4 - 1, t5⟩]) := row_oneS u5' ⟨t0, t1, t2, t3, t4 - 1, t5⟩
            have SZ : w.heap.size + 2 ≤ (u5'.alloc (.cells #[.int .i64 t0, .int .i64 t1, .int .i64 t2, .int .i64 t3, .int .i64 (t4 - 1), .int .i64 t5] 105)).heap.size := by have h1 := P6.out.tl; have h2 := P6.out.size; omega
            clear K6 HES HT0 HT1 HT2 HT3 HT4 HT5 HZ6 HB6
            go_wp2_with (at_builtin; go_must (refine appS (by rfl) _ _ 34 (by rfl) j0 Tryz.underlying34 hj0 hy0 hy1 hy2 (w.heap.size + 2) (u5'.alloc (.cells #[.int .i64 t0, .int .i64 t1, .int .i64 t2, .int .i64 t3, .int .i64 (t4 - 1), .int .i64 t5] 105)) (u5'.alloc (.cells #[.int .i64 t0, .int .i64 t1, .int .i64 t2, .int .i64 t3, .int .i64 (t4 - 1), .int .i64 t5] 105)) _ _ ss [⟨t0, t1, t2, t3, t4 - 1, t5⟩] (by rfl) OS (Below.refl _ _) SZ (by rfl) KR.out (by have := HLN.out; simpa using this) ?_; intro v5 w6 o5 b5 k5; obtain ⟨a5, cap5, rfl⟩ := o5.slice; obtain ⟨s5, f5, j5⟩ := P6.out.joinS o5 b5 k5))
            have hl5 : (ss ++ [(⟨t0, t1, t2, t3, t4 - 1, t5⟩ : Sn)]).length = k3 + 1 := by rw [List.length_append, HLS.out]; rfl
            rw [hl5] at j5
            rw [HLS.out]
            have T6 : Hid (Sp w tq (w6.setCell ⟨tq, 3, none⟩ (.slice a5 (k3 + 1) cap5)) z0 z1 (.slice a k c) (.slice a5 (k3 + 1) cap5) ms (ss ++ [⟨t0, t1, t2, t3, t4 - 1, t5⟩]) z6 b6) := j5
            exact ⟨⟨k3 + 1, a5, cap5, ss ++ [⟨t0, t1, t2, t3, t4 - 1, t5⟩], z6, b6, by omega, by go_num, hl5, HNX.out, T6.out, HRT6.out⟩, by simp [intOf]; omega⟩
        · obtain rfl : k3 = n3 := by omega
          have HFZ0 := HFO.out ss zs sb ⟨HT.out.2.1.f, HT.out.2.1.t⟩
          rcases Bool.eq_false_or_eq_true sb with hsb | hsb
          · subst hsb
            have HFZ := HFZ0.2 rfl
            clear HFZ0
            have HOK : Hid (rtOK xs = false) := by show _ = _; unfold rtOK; rw [HFZ]; rfl
            have HP := HT.out.2.2.1
            obtain ⟨s', p, hs1, _, _⟩ := HP.rd
            have J : Hid (Rs w tq s' wr z0 z1 (.slice a k c) (.slice a3 k3 c3) ms ss zs true) := ⟨HP, p⟩
            have HS : Hid (∀ W, Rs w tq s' W z0 z1 (.slice a k c) (.slice a3 k3 c3) ms ss zs true → W.cell? ⟨w.heap.size + 1, 0, none⟩ = some (.string s') ∧ W.cell? ⟨w.heap.size + 1, 1, none⟩ = some (.bool true) ∧ W.cell? ⟨tq, 0, none⟩ = some (.int .i64 z0) ∧ W.cell? ⟨tq, 1, none⟩ = some (.int .i64 z1) ∧ W.cell? ⟨tq, 2, none⟩ = some (.slice a k c) ∧ W.cell? ⟨tq, 3, none⟩ = some (.slice a3 k3 c3)) := fun W h => h.cells
            have HSN : Hid (∀ W, Rs w tq s' W z0 z1 (.slice a k c) (.slice a3 k3 c3) ms ss zs true → ((((W.setCell ⟨w.heap.size, 0, none⟩ (.int .i64 z0)).setCell ⟨w.heap.size, 1, none⟩ (.int .i64 z1)).setCell ⟨w.heap.size, 2, none⟩ (.slice a k c)).setCell ⟨w.heap.size, 3, none⟩ (.slice a3 k3 c3)).cell? ⟨w.heap.size + 1, 0, none⟩ = some (.string s') ∧ ((((W.setCell ⟨w.heap.size, 0, none⟩ (.int .i64 z0)).setCell ⟨w.heap.size, 1, none⟩ (.int .i64 z1)).setCell ⟨w.heap.size, 2, none⟩ (.slice a k c)).setCell ⟨w.heap.size, 3, none⟩ (.slice a3 k3 c3)).cell? ⟨w.heap.size + 1, 1, none⟩ = some (.bool true) ∧ ((((W.setCell ⟨w.heap.size, 0, none⟩ (.int .i64 z0)).setCell ⟨w.heap.size, 1, none⟩ (.int .i64 z1)).setCell ⟨w.heap.size, 2, none⟩ (.slice a k c)).setCell ⟨w.heap.size, 3, none⟩ (.slice a3 k3 c3)).cell? ⟨tq, 0, none⟩ = some (.int .i64 z0) ∧ ((((W.setCell ⟨w.heap.size, 0, none⟩ (.int .i64 z0)).setCell ⟨w.heap.size, 1, none⟩ (.int .i64 z1)).setCell ⟨w.heap.size, 2, none⟩ (.slice a k c)).setCell ⟨w.heap.size, 3, none⟩ (.slice a3 k3 c3)).cell? ⟨tq, 1, none⟩ = some (.int .i64 z1) ∧ ((((W.setCell ⟨w.heap.size, 0, none⟩ (.int .i64 z0)).setCell ⟨w.heap.size, 1, none⟩ (.int .i64 z1)).setCell ⟨w.heap.size, 2, none⟩ (.slice a k c)).setCell ⟨w.heap.size, 3, none⟩ (.slice a3 k3 c3)).cell? ⟨tq, 2, none⟩ = some (.slice a k c) ∧ ((((W.setCell ⟨w.heap.size, 0, none⟩ (.int .i64 z0)).setCell ⟨w.heap.size, 1, none⟩ (.int .i64 z1)).setCell ⟨w.heap.size, 2, none⟩ (.slice a k c)).setCell ⟨w.heap.size, 3, none⟩ (.slice a3 k3 c3)).cell? ⟨tq, 3, none⟩ = some (.slice a3 k3 c3)) := fun W h => h.cellsN _ _ _ _
            obtain ⟨zc0, zf0⟩ := blk_cell HP.a 0 (x := .int .i64 0) rfl
            obtain ⟨zc1, zf1⟩ := blk_cell HP.a 1 (x := .int .i64 0) rfl
            obtain ⟨zc2, zf2⟩ := blk_cell HP.a 2 (x := .slice none 0 0) rfl
            obtain ⟨zc3, zf3⟩ := blk_cell HP.a 3 (x := .slice none 0 0) rfl
            clear HFZ HP HT HFO p hs1 hi0 hz0 hz1 hz2 hj0 hy0 hy1 hy2 hk0 hx0 hx1 hx2
            go_upto_region 28 with fail
            clear hbad
            refine wp_region_noPanic ?_
            refine wp_region_held_drew (S := fun W => W.cell? ⟨w.heap.size + 1, 0, none⟩ = some (.string s') ∧ W.cell? ⟨w.heap.size + 1, 1, none⟩ = some (.bool true) ∧ W.cell? ⟨tq, 0, none⟩ = some (.int .i64 z0) ∧ W.cell? ⟨tq, 1, none⟩ = some (.int .i64 z1) ∧ W.cell? ⟨tq, 2, none⟩ = some (.slice a k c) ∧ W.cell? ⟨tq, 3, none⟩ = some (.slice a3 k3 c3)) (by kernel_rfl) (HS.out _ J.out.drew) (fun hHeld => ?_)
            refine wpAnyH_take (i := 0) (oi := { dst := some 126, op := Go.Op.load 36 (Go.Operand.tmp 5), type := 36, pos := "l05_locks.go:331", after := #[], guard := none }) (v := ?v67) rfl (by kernel_rfl) (by kernel_rfl) (by kernel_rfl) (fun _ _ _ h => h) (Or.inl ⟨by rfl, ?h67⟩) hHeld ?r67
            case h67 => intro wz hz; (try dsimp only at hz); go_simp; try (with_reducible rfl)
            simp only [Act.put, List.setIfInBounds_toArray, List.set_cons_zero, List.set_cons_succ]
            refine wpAnyH_take (i := 1) (oi := { dst := some 127, op := Go.Op.move (Go.Operand.tmp 4), type := 142, pos := "l05_locks.go:331", after := #[], guard := none }) (v := ?v68) rfl (by kernel_rfl) (by kernel_rfl) (by kernel_rfl) (fun _ _ _ h => h) (Or.inl ⟨by rfl, ?h68⟩) hHeld ?r68
            case h68 => intro wz hz; (try dsimp only at hz); go_simp; try (with_reducible rfl)
            simp only [Act.put, List.setIfInBounds_toArray, List.set_cons_zero, List.set_cons_succ]
            refine wpAnyH_take (i := 2) (oi := { dst := some 128, op := Go.Op.nilCheck (Go.Operand.tmp 127), type := 0, pos := "l05_locks.go:331", after := #[{ on := 1, ground := Go.Ground.data }], guard := none }) (v := ?v69) rfl (by kernel_rfl) (by kernel_rfl) (by kernel_rfl) (fun _ _ _ h => h) (Or.inl ⟨by rfl, ?h69⟩) hHeld ?r69
            case h69 => intro wz hz; (try dsimp only at hz); go_simp; try (with_reducible rfl)
            simp only [Act.put, List.setIfInBounds_toArray, List.set_cons_zero, List.set_cons_succ]
            refine wpAnyH_take (i := 3) (oi := { dst := some 129, op := Go.Op.fieldAddr 144 (Go.Operand.tmp 128) 1, type := 0, pos := "l05_locks.go:331", after := #[{ on := 2, ground := Go.Ground.data }], guard := none }) (v := ?v70) rfl (by kernel_rfl) (by kernel_rfl) (by kernel_rfl) (fun _ _ _ h => h) (Or.inl ⟨by rfl, ?h70⟩) hHeld ?r70
            case h70 => intro wz hz; (try dsimp only at hz); go_simp; try (with_reducible rfl)
            simp only [Act.put, List.setIfInBounds_toArray, List.set_cons_zero, List.set_cons_succ]
            refine wpAnyH_take (i := 4) (oi := { dst := some 130, op := Go.Op.load 4 (Go.Operand.tmp 129), type := 4, pos := "l05_locks.go:331", after := #[{ on := 3, ground := Go.Ground.data }], guard := none }) (v := ?v71) rfl (by kernel_rfl) (by kernel_rfl) (by kernel_rfl) (fun _ _ _ h => h) (Or.inl ⟨by rfl, ?h71⟩) hHeld ?r71
            case h71 => intro wz hz; (try dsimp only at hz); go_simp; try (with_reducible rfl)
            simp only [Act.put, List.setIfInBounds_toArray, List.set_cons_zero, List.set_cons_succ]
            refine wpAnyH_take (i := 5) (oi := { dst := some 131, op := Go.Op.unOp Go.UnOp.not 4 (Go.Operand.tmp 130), type := 4, pos := "l05_locks.go:331", after := #[{ on := 4, ground := Go.Ground.data }], guard := none }) (v := ?v72) rfl (by kernel_rfl) (by kernel_rfl) (by kernel_rfl) (fun _ _ _ h => h) (Or.inl ⟨by rfl, ?h72⟩) hHeld ?r72
            case h72 => intro wz hz; (try dsimp only at hz); go_simp; try (with_reducible rfl)
            simp only [Act.put, List.setIfInBounds_toArray, List.set_cons_zero, List.set_cons_succ]
            refine wpAnyH_take (i := 6) (oi := { dst := some 132, op := Go.Op.move (Go.Operand.tmp 131), type := 4, pos := "l05_locks.go:331", after := #[{ on := 5, ground := Go.Ground.data }], guard := none }) (v := ?v73) rfl (by kernel_rfl) (by kernel_rfl) (by kernel_rfl) (fun _ _ _ h => h) (Or.inl ⟨by rfl, ?h73⟩) hHeld ?r73
            case h73 => intro wz hz; (try dsimp only at hz); go_simp; try (with_reducible rfl)
            simp only [Act.put, List.setIfInBounds_toArray, List.set_cons_zero, List.set_cons_succ]
            refine wpAnyH_take (i := 7) (oi := { dst := some 133, op := Go.Op.move (Go.Operand.tmp 4), type := 142, pos := "l05_locks.go:331", after := #[{ on := 6, ground := Go.Ground.guard }], guard := some (6, true) }) (v := undef) rfl (by kernel_rfl) (by kernel_rfl) (by kernel_rfl) (fun _ _ _ h => h) (Or.inr ⟨by rfl, rfl⟩) hHeld ?_
            simp only [Act.put, List.setIfInBounds_toArray, List.set_cons_zero, List.set_cons_succ]
            refine wpAnyH_take (i := 8) (oi := { dst := some 134, op := Go.Op.nilCheck (Go.Operand.tmp 133), type := 0, pos := "l05_locks.go:331", after := #[{ on := 7, ground := Go.Ground.data }, { on := 6, ground := Go.Ground.guard }], guard := some (6, true) }) (v := undef) rfl (by kernel_rfl) (by kernel_rfl) (by kernel_rfl) (fun _ _ _ h => h) (Or.inr ⟨by rfl, rfl⟩) hHeld ?_
            simp only [Act.put, List.setIfInBounds_toArray, List.set_cons_zero, List.set_cons_succ]
            refine wpAnyH_take (i := 9) (oi := { dst := some 135, op := Go.Op.fieldAddr 144 (Go.Operand.tmp 134) 0, type := 0, pos := "l05_locks.go:331", after := #[{ on := 8, ground := Go.Ground.data }, { on := 6, ground := Go.Ground.guard }], guard := some (6, true) }) (v := undef) rfl (by kernel_rfl) (by kernel_rfl) (by kernel_rfl) (fun _ _ _ h => h) (Or.inr ⟨by rfl, rfl⟩) hHeld ?_
            simp only [Act.put, List.setIfInBounds_toArray, List.set_cons_zero, List.set_cons_succ]
            refine wpAnyH_take (i := 10) (oi := { dst := some 136, op := Go.Op.load 9 (Go.Operand.tmp 135), type := 9, pos := "l05_locks.go:331", after := #[{ on := 9, ground := Go.Ground.data }, { on := 6, ground := Go.Ground.guard }], guard := some (6, true) }) (v := undef) rfl (by kernel_rfl) (by kernel_rfl) (by kernel_rfl) (fun _ _ _ h => h) (Or.inr ⟨by rfl, rfl⟩) hHeld ?_
            simp only [Act.put, List.setIfInBounds_toArray, List.set_cons_zero, List.set_cons_succ]
            refine wpAnyH_take (i := 11) (oi := { dst := some 137, op := Go.Op.binOp Go.BinOp.eql 9 (Go.Operand.tmp 136) (Go.Operand.const (Go.Value.string { data := #[] })) 9, type := 4, pos := "l05_locks.go:331", after := #[{ on := 10, ground := Go.Ground.data }, { on := 6, ground := Go.Ground.guard }], guard := some (6, true) }) (v := undef) rfl (by kernel_rfl) (by kernel_rfl) (by kernel_rfl) (fun _ _ _ h => h) (Or.inr ⟨by rfl, rfl⟩) hHeld ?_
            simp only [Act.put, List.setIfInBounds_toArray, List.set_cons_zero, List.set_cons_succ]
            refine wpAnyH_take (i := 12) (oi := { dst := some 138, op := Go.Op.pick (Go.Operand.tmp 132) (Go.Operand.tmp 137) (Go.Operand.const (Go.Value.bool false)), type := 4, pos := "l05_locks.go:331", after := #[{ on := 6, ground := Go.Ground.data }, { on := 11, ground := Go.Ground.data }], guard := none }) (v := ?v74) rfl (by kernel_rfl) (by kernel_rfl) (by kernel_rfl) (fun _ _ _ h => h) (Or.inl ⟨by rfl, ?h74⟩) hHeld ?r74
            case h74 => intro wz hz; (try dsimp only at hz); go_simp; try (with_reducible rfl)
            simp only [Act.put, List.setIfInBounds_toArray, List.set_cons_zero, List.set_cons_succ]
            refine wpAnyH_take (i := 13) (oi := { dst := some 139, op := Go.Op.move (Go.Operand.tmp 138), type := 4, pos := "l05_locks.go:331", after := #[{ on := 12, ground := Go.Ground.data }, { on := 6, ground := Go.Ground.chain }], guard := none }) (v := ?v75) rfl (by kernel_rfl) (by kernel_rfl) (by kernel_rfl) (fun _ _ _ h => h) (Or.inl ⟨by rfl, ?h75⟩) hHeld ?r75
            case h75 => intro wz hz; (try dsimp only at hz); go_simp; try (with_reducible rfl)
            simp only [Act.put, List.setIfInBounds_toArray, List.set_cons_zero, List.set_cons_succ]
            refine wpAnyH_take (i := 14) (oi := { dst := some 140, op := Go.Op.load 36 (Go.Operand.tmp 5), type := 36, pos := "l05_locks.go:331", after := #[{ on := 13, ground := Go.Ground.guard }], guard := some (13, true) }) (v := undef) rfl (by kernel_rfl) (by kernel_rfl) (by kernel_rfl) (fun _ _ _ h => h) (Or.inr ⟨by rfl, rfl⟩) hHeld ?_
            simp only [Act.put, List.setIfInBounds_toArray, List.set_cons_zero, List.set_cons_succ]
            refine wpAnyH_take (i := 15) (oi := { dst := some 141, op := Go.Op.call { callee := Go.Callee.value (Go.Operand.func 30), args := #[Go.Operand.tmp 140], argTypes := #[36] }, type := 4, pos := "l05_locks.go:331", after := #[{ on := 14, ground := Go.Ground.data }, { on := 13, ground := Go.Ground.chain }, { on := 13, ground := Go.Ground.guard }], guard := some (13, true) }) (v := undef) rfl (by kernel_rfl) (by kernel_rfl) (by kernel_rfl) (fun _ _ _ h => h) (Or.inr ⟨by rfl, rfl⟩) hHeld ?_
            simp only [Act.put, List.setIfInBounds_toArray, List.set_cons_zero, List.set_cons_succ]
            refine wpAnyH_take (i := 16) (oi := { dst := some 142, op := Go.Op.pick (Go.Operand.tmp 139) (Go.Operand.tmp 141) (Go.Operand.const (Go.Value.bool false)), type := 4, pos := "l05_locks.go:331", after := #[{ on := 13, ground := Go.Ground.data }, { on := 15, ground := Go.Ground.data }, { on := 17, ground := Go.Ground.gcOnly Go.Departure.lateStores }], guard := none }) (v := ?v76) rfl (by kernel_rfl) (by kernel_rfl) (by kernel_rfl) (fun _ _ _ h => h) (Or.inl ⟨by rfl, ?h76⟩) hHeld ?r76
            case h76 => intro wz hz; (try dsimp only at hz); go_simp; try (with_reducible rfl)
            simp only [Act.put, List.setIfInBounds_toArray, List.set_cons_zero, List.set_cons_succ]
            refine wpAnyH_ready (rs := [17]) (by kernel_rfl) (by simp) ?_
            refine AllReadyH.cons (o := { dst := none, op := Go.Op.store 36 (Go.Operand.tmp 2) (Go.Operand.tmp 126), type := 0, pos := "l05_locks.go:331", after := #[{ on := 0, ground := Go.Ground.data }, { on := 15, ground := Go.Ground.chain }, { on := 0, ground := Go.Ground.phase }, { on := 1, ground := Go.Ground.textOnly Go.Departure.lateStores }, { on := 2, ground := Go.Ground.textOnly Go.Departure.lateStores }, { on := 3, ground := Go.Ground.textOnly Go.Departure.lateStores }, { on := 4, ground := Go.Ground.textOnly Go.Departure.lateStores }, { on := 5, ground := Go.Ground.textOnly Go.Departure.lateStores }, { on := 6, ground := Go.Ground.textOnly Go.Departure.lateStores }, { on := 7, ground := Go.Ground.textOnly Go.Departure.lateStores }, { on := 8, ground := Go.Ground.textOnly Go.Departure.lateStores }, { on := 9, ground := Go.Ground.textOnly Go.Departure.lateStores }, { on := 10, ground := Go.Ground.textOnly Go.Departure.lateStores }, { on := 11, ground := Go.Ground.textOnly Go.Departure.lateStores }, { on := 12, ground := Go.Ground.textOnly Go.Departure.lateStores }, { on := 13, ground := Go.Ground.textOnly Go.Departure.lateStores }, { on := 14, ground := Go.Ground.textOnly Go.Departure.lateStores }, { on := 15, ground := Go.Ground.textOnly Go.Departure.lateStoresUnsure }, { on := 16, ground := Go.Ground.textOnly Go.Departure.lateStores }], guard := none }) rfl (fun K hK => ?_) AllReadyH.nil
            go_simp
            refine hK.out _ _ ?_ (fun hHeld => ?_)
            · first | exact HSN.out _ J.out | exact HSN.out _ J.out.drew
            clear hK K
            refine wpAnyH_take (i := 18) (oi := { dst := some 3, op := Go.Op.assign (Go.Operand.tmp 142), type := 4, pos := "l05_locks.go:331", after := #[{ on := 16, ground := Go.Ground.data }, { on := 17, ground := Go.Ground.chain }, { on := 0, ground := Go.Ground.phase }, { on := 1, ground := Go.Ground.phase }, { on := 2, ground := Go.Ground.phase }, { on := 3, ground := Go.Ground.phase }, { on := 4, ground := Go.Ground.phase }, { on := 5, ground := Go.Ground.phase }, { on := 6, ground := Go.Ground.phase }, { on := 7, ground := Go.Ground.phase }, { on := 8, ground := Go.Ground.phase }, { on := 9, ground := Go.Ground.phase }, { on := 10, ground := Go.Ground.phase }, { on := 11, ground := Go.Ground.phase }, { on := 12, ground := Go.Ground.phase }, { on := 13, ground := Go.Ground.phase }, { on := 14, ground := Go.Ground.phase }, { on := 15, ground := Go.Ground.phase }, { on := 16, ground := Go.Ground.phase }, { on := 17, ground := Go.Ground.phase }], guard := none }) (v := ?v77) rfl (by kernel_rfl) (by kernel_rfl) (by kernel_rfl) (fun _ _ _ h => h) (Or.inl ⟨by rfl, ?h77⟩) hHeld ?r77
            case h77 => intro wz hz; (try dsimp only at hz); go_simp; try (with_reducible rfl)
            simp only [Act.put, List.setIfInBounds_toArray, List.set_cons_zero, List.set_cons_succ]
            refine wpAnyH_done (by kernel_rfl) ?_ _
            refine NoPanic.normal ?_
            clear hHeld HS HSN
            have AF := J.out.sp.done
            go_wp2_with fail
            generalize ((((wr.setCell ⟨w.heap.size, 0, none⟩ (.int .i64 z0)).setCell ⟨w.heap.size, 1, none⟩ (.int .i64 z1)).setCell ⟨w.heap.size, 2, none⟩ (.slice a k c)).setCell ⟨w.heap.size, 3, none⟩ (.slice a3 k3 c3)) = wf at AF ⊢
            have d0 := (blk_cell AF.1 0 (x := .int .i64 z0) rfl).1
            have d1 := (blk_cell AF.1 1 (x := .int .i64 z1) rfl).1
            have d2 := (blk_cell AF.1 2 (x := .slice a k c) rfl).1
            have d3 := (blk_cell AF.1 3 (x := .slice a3 k3 c3) rfl).1
            refine bodyPost_ret (v := .tuple #[.agg #[.int .i64 z0, .int .i64 z1, .slice a k c, .slice a3 k3 c3], .bool false]) (by simp [results, Tryz.results49, go_sem, d0, d1, d2, d3]) rfl ?_
            exact ⟨z0, z1, _, _, ms, ss, by rw [HOK.out]; rfl, ⟨Mem.mono (Mem.kept (W' := wf.drew) AF.2.2 fun _ _ _ => rfl) (by omega), fun h => by rw [HOK.out] at h; cases h⟩, AF.2.1.drew⟩
          · subst hsb
            obtain ⟨g1, g2, g3⟩ := HFZ0.1 rfl
            clear HFZ0
            rcases zs with _ | ⟨y, zs⟩
            rotate_left
            · have HOK : Hid (rtOK xs = false) := by show _ = _; unfold rtOK; rw [g2]; simp
              have HP := HT.out.2.2.1
              obtain ⟨s', p, hs1, _, _⟩ := HP.rd
              have J : Hid (Rs w tq s' wr z0 z1 (.slice a k c) (.slice a3 k3 c3) ms ss (y :: zs) false) := ⟨HP, p⟩
              have HS : Hid (∀ W, Rs w tq s' W z0 z1 (.slice a k c) (.slice a3 k3 c3) ms ss (y :: zs) false → W.cell? ⟨w.heap.size + 1, 0, none⟩ = some (.string s') ∧ W.cell? ⟨w.heap.size + 1, 1, none⟩ = some (.bool false) ∧ W.cell? ⟨tq, 0, none⟩ = some (.int .i64 z0) ∧ W.cell? ⟨tq, 1, none⟩ = some (.int .i64 z1) ∧ W.cell? ⟨tq, 2, none⟩ = some (.slice a k c) ∧ W.cell? ⟨tq, 3, none⟩ = some (.slice a3 k3 c3)) := fun W h => h.cells
              have HSN : Hid (∀ W, Rs w tq s' W z0 z1 (.slice a k c) (.slice a3 k3 c3) ms ss (y :: zs) false → ((((W.setCell ⟨w.heap.size, 0, none⟩ (.int .i64 z0)).setCell ⟨w.heap.size, 1, none⟩ (.int .i64 z1)).setCell ⟨w.heap.size, 2, none⟩ (.slice a k c)).setCell ⟨w.heap.size, 3, none⟩ (.slice a3 k3 c3)).cell? ⟨w.heap.size + 1, 0, none⟩ = some (.string s') ∧ ((((W.setCell ⟨w.heap.size, 0, none⟩ (.int .i64 z0)).setCell ⟨w.heap.size, 1, none⟩ (.int .i64 z1)).setCell ⟨w.heap.size, 2, none⟩ (.slice a k c)).setCell ⟨w.heap.size, 3, none⟩ (.slice a3 k3 c3)).cell? ⟨w.heap.size + 1, 1, none⟩ = some (.bool false) ∧ ((((W.setCell ⟨w.heap.size, 0, none⟩ (.int .i64 z0)).setCell ⟨w.heap.size, 1, none⟩ (.int .i64 z1)).setCell ⟨w.heap.size, 2, none⟩ (.slice a k c)).setCell ⟨w.heap.size, 3, none⟩ (.slice a3 k3 c3)).cell? ⟨tq, 0, none⟩ = some (.int .i64 z0) ∧ ((((W.setCell ⟨w.heap.size, 0, none⟩ (.int .i64 z0)).setCell ⟨w.heap.size, 1, none⟩ (.int .i64 z1)).setCell ⟨w.heap.size, 2, none⟩ (.slice a k c)).setCell ⟨w.heap.size, 3, none⟩ (.slice a3 k3 c3)).cell? ⟨tq, 1, none⟩ = some (.int .i64 z1) ∧ ((((W.setCell ⟨w.heap.size, 0, none⟩ (.int .i64 z0)).setCell ⟨w.heap.size, 1, none⟩ (.int .i64 z1)).setCell ⟨w.heap.size, 2, none⟩ (.slice a k c)).setCell ⟨w.heap.size, 3, none⟩ (.slice a3 k3 c3)).cell? ⟨tq, 2, none⟩ = some (.slice a k c) ∧ ((((W.setCell ⟨w.heap.size, 0, none⟩ (.int .i64 z0)).setCell ⟨w.heap.size, 1, none⟩ (.int .i64 z1)).setCell ⟨w.heap.size, 2, none⟩ (.slice a k c)).setCell ⟨w.heap.size, 3, none⟩ (.slice a3 k3 c3)).cell? ⟨tq, 3, none⟩ = some (.slice a3 k3 c3)) := fun W h => h.cellsN _ _ _ _
              obtain ⟨zc0, zf0⟩ := blk_cell HP.a 0 (x := .int .i64 0) rfl
              obtain ⟨zc1, zf1⟩ := blk_cell HP.a 1 (x := .int .i64 0) rfl
              obtain ⟨zc2, zf2⟩ := blk_cell HP.a 2 (x := .slice none 0 0) rfl
              obtain ⟨zc3, zf3⟩ := blk_cell HP.a 3 (x := .slice none 0 0) rfl
              have hne : ¬ s'.toList = [] := by rw [Lib.toList_data]; intro e; have h := hs1 rfl; unfold bys at h; rw [e] at h; cases h
              clear g1 g2 g3 HP HT HFO p hbad hs1 hi0 hz0 hz1 hz2 hj0 hy0 hy1 hy2 hk0 hx0 hx1 hx2
              go_upto_region 28 with fail
              refine wp_region_noPanic ?_
              refine wp_region_held_drew (S := fun W => W.cell? ⟨w.heap.size + 1, 0, none⟩ = some (.string s') ∧ W.cell? ⟨w.heap.size + 1, 1, none⟩ = some (.bool false) ∧ W.cell? ⟨tq, 0, none⟩ = some (.int .i64 z0) ∧ W.cell? ⟨tq, 1, none⟩ = some (.int .i64 z1) ∧ W.cell? ⟨tq, 2, none⟩ = some (.slice a k c) ∧ W.cell? ⟨tq, 3, none⟩ = some (.slice a3 k3 c3)) (by kernel_rfl) (HS.out _ J.out.drew) (fun hHeld => ?_)
              refine wpAnyH_take (i := 0) (oi := { dst := some 126, op := Go.Op.load 36 (Go.Operand.tmp 5), type := 36, pos := "l05_locks.go:331", after := #[], guard := none }) (v := ?v78) rfl (by kernel_rfl) (by kernel_rfl) (by kernel_rfl) (fun _ _ _ h => h) (Or.inl ⟨by rfl, ?h78⟩) hHeld ?r78
              case h78 => intro wz hz; (try dsimp only at hz); go_simp; try (with_reducible rfl)
              simp only [Act.put, List.setIfInBounds_toArray, List.set_cons_zero, List.set_cons_succ]
              refine wpAnyH_take (i := 1) (oi := { dst := some 127, op := Go.Op.move (Go.Operand.tmp 4), type := 142, pos := "l05_locks.go:331", after := #[], guard := none }) (v := ?v79) rfl (by kernel_rfl) (by kernel_rfl) (by kernel_rfl) (fun _ _ _ h => h) (Or.inl ⟨by rfl, ?h79⟩) hHeld ?r79
              case h79 => intro wz hz; (try dsimp only at hz); go_simp; try (with_reducible rfl)
              simp only [Act.put, List.setIfInBounds_toArray, List.set_cons_zero, List.set_cons_succ]
              refine wpAnyH_take (i := 2) (oi := { dst := some 128, op := Go.Op.nilCheck (Go.Operand.tmp 127), type := 0, pos := "l05_locks.go:331", after := #[{ on := 1, ground := Go.Ground.data }], guard := none }) (v := ?v80) rfl (by kernel_rfl) (by kernel_rfl) (by kernel_rfl) (fun _ _ _ h => h) (Or.inl ⟨by rfl, ?h80⟩) hHeld ?r80
              case h80 => intro wz hz; (try dsimp only at hz); go_simp; try (with_reducible rfl)
              simp only [Act.put, List.setIfInBounds_toArray, List.set_cons_zero, List.set_cons_succ]
              refine wpAnyH_take (i := 3) (oi := { dst := some 129, op := Go.Op.fieldAddr 144 (Go.Operand.tmp 128) 1, type := 0, pos := "l05_locks.go:331", after := #[{ on := 2, ground := Go.Ground.data }], guard := none }) (v := ?v81) rfl (by kernel_rfl) (by kernel_rfl) (by kernel_rfl) (fun _ _ _ h => h) (Or.inl ⟨by rfl, ?h81⟩) hHeld ?r81
              case h81 => intro wz hz; (try dsimp only at hz); go_simp; try (with_reducible rfl)
              simp only [Act.put, List.setIfInBounds_toArray, List.set_cons_zero, List.set_cons_succ]
              refine wpAnyH_take (i := 4) (oi := { dst := some 130, op := Go.Op.load 4 (Go.Operand.tmp 129), type := 4, pos := "l05_locks.go:331", after := #[{ on := 3, ground := Go.Ground.data }], guard := none }) (v := ?v82) rfl (by kernel_rfl) (by kernel_rfl) (by kernel_rfl) (fun _ _ _ h => h) (Or.inl ⟨by rfl, ?h82⟩) hHeld ?r82
              case h82 => intro wz hz; (try dsimp only at hz); go_simp; try (with_reducible rfl)
              simp only [Act.put, List.setIfInBounds_toArray, List.set_cons_zero, List.set_cons_succ]
              refine wpAnyH_take (i := 5) (oi := { dst := some 131, op := Go.Op.unOp Go.UnOp.not 4 (Go.Operand.tmp 130), type := 4, pos := "l05_locks.go:331", after := #[{ on := 4, ground := Go.Ground.data }], guard := none }) (v := ?v83) rfl (by kernel_rfl) (by kernel_rfl) (by kernel_rfl) (fun _ _ _ h => h) (Or.inl ⟨by rfl, ?h83⟩) hHeld ?r83
              case h83 => intro wz hz; (try dsimp only at hz); go_simp; try (with_reducible rfl)
              simp only [Act.put, List.setIfInBounds_toArray, List.set_cons_zero, List.set_cons_succ]
              refine wpAnyH_take (i := 6) (oi := { dst := some 132, op := Go.Op.move (Go.Operand.tmp 131), type := 4, pos := "l05_locks.go:331", after := #[{ on := 5, ground := Go.Ground.data }], guard := none }) (v := ?v84) rfl (by kernel_rfl) (by kernel_rfl) (by kernel_rfl) (fun _ _ _ h => h) (Or.inl ⟨by rfl, ?h84⟩) hHeld ?r84
              case h84 => intro wz hz; (try dsimp only at hz); go_simp; try (with_reducible rfl)
              simp only [Act.put, List.setIfInBounds_toArray, List.set_cons_zero, List.set_cons_succ]
              refine wpAnyH_take (i := 7) (oi := { dst := some 133, op := Go.Op.move (Go.Operand.tmp 4), type := 142, pos := "l05_locks.go:331", after := #[{ on := 6, ground := Go.Ground.guard }], guard := some (6, true) }) (v := ?v85) rfl (by kernel_rfl) (by kernel_rfl) (by kernel_rfl) (fun _ _ _ h => h) (Or.inl ⟨by rfl, ?h85⟩) hHeld ?r85
              case h85 => intro wz hz; (try dsimp only at hz); go_simp; try (with_reducible rfl)
              simp only [Act.put, List.setIfInBounds_toArray, List.set_cons_zero, List.set_cons_succ]
              refine wpAnyH_take (i := 8) (oi := { dst := some 134, op := Go.Op.nilCheck (Go.Operand.tmp 133), type := 0, pos := "l05_locks.go:331", after := #[{ on := 7, ground := Go.Ground.data }, { on := 6, ground := Go.Ground.guard }], guard := some (6, true) }) (v := ?v86) rfl (by kernel_rfl) (by kernel_rfl) (by kernel_rfl) (fun _ _ _ h => h) (Or.inl ⟨by rfl, ?h86⟩) hHeld ?r86
              case h86 => intro wz hz; (try dsimp only at hz); go_simp; try (with_reducible rfl)
              simp only [Act.put, List.setIfInBounds_toArray, List.set_cons_zero, List.set_cons_succ]
              refine wpAnyH_take (i := 9) (oi := { dst := some 135, op := Go.Op.fieldAddr 144 (Go.Operand.tmp 134) 0, type := 0, pos := "l05_locks.go:331", after := #[{ on := 8, ground := Go.Ground.data }, { on := 6, ground := Go.Ground.guard }], guard := some (6, true) }) (v := ?v87) rfl (by kernel_rfl) (by kernel_rfl) (by kernel_rfl) (fun _ _ _ h => h) (Or.inl ⟨by rfl, ?h87⟩) hHeld ?r87
              case h87 => intro wz hz; (try dsimp only at hz); go_simp; try (with_reducible rfl)
              simp only [Act.put, List.setIfInBounds_toArray, List.set_cons_zero, List.set_cons_succ]
              refine wpAnyH_take (i := 10) (oi := { dst := some 136, op := Go.Op.load 9 (Go.Operand.tmp 135), type := 9, pos := "l05_locks.go:331", after := #[{ on := 9, ground := Go.Ground.data }, { on := 6, ground := Go.Ground.guard }], guard := some (6, true) }) (v := ?v88) rfl (by kernel_rfl) (by kernel_rfl) (by kernel_rfl) (fun _ _ _ h => h) (Or.inl ⟨by rfl, ?h88⟩) hHeld ?r88
              case h88 => intro wz hz; (try dsimp only at hz); go_simp; try (with_reducible rfl)
              simp only [Act.put, List.setIfInBounds_toArray, List.set_cons_zero, List.set_cons_succ]
              refine wpAnyH_take (i := 11) (oi := { dst := some 137, op := Go.Op.binOp Go.BinOp.eql 9 (Go.Operand.tmp 136) (Go.Operand.const (Go.Value.string { data := #[] })) 9, type := 4, pos := "l05_locks.go:331", after := #[{ on := 10, ground := Go.Ground.data }, { on := 6, ground := Go.Ground.guard }], guard := some (6, true) }) (v := .bool false) rfl (by kernel_rfl) (by kernel_rfl) (by kernel_rfl) (fun _ _ _ h => h) (Or.inl ⟨by rfl, ?h89⟩) hHeld ?r89
              case h89 => intro wz hz; (try dsimp only at hz); go_simp; try exact hne
              simp only [Act.put, List.setIfInBounds_toArray, List.set_cons_zero, List.set_cons_succ]
              refine wpAnyH_take (i := 12) (oi := { dst := some 138, op := Go.Op.pick (Go.Operand.tmp 132) (Go.Operand.tmp 137) (Go.Operand.const (Go.Value.bool false)), type := 4, pos := "l05_locks.go:331", after := #[{ on := 6, ground := Go.Ground.data }, { on := 11, ground := Go.Ground.data }], guard := none }) (v := ?v90) rfl (by kernel_rfl) (by kernel_rfl) (by kernel_rfl) (fun _ _ _ h => h) (Or.inl ⟨by rfl, ?h90⟩) hHeld ?r90
              case h90 => intro wz hz; (try dsimp only at hz); go_simp; try (with_reducible rfl)
              simp only [Act.put, List.setIfInBounds_toArray, List.set_cons_zero, List.set_cons_succ]
              refine wpAnyH_take (i := 13) (oi := { dst := some 139, op := Go.Op.move (Go.Operand.tmp 138), type := 4, pos := "l05_locks.go:331", after := #[{ on := 12, ground := Go.Ground.data }, { on := 6, ground := Go.Ground.chain }], guard := none }) (v := ?v91) rfl (by kernel_rfl) (by kernel_rfl) (by kernel_rfl) (fun _ _ _ h => h) (Or.inl ⟨by rfl, ?h91⟩) hHeld ?r91
              case h91 => intro wz hz; (try dsimp only at hz); go_simp; try (with_reducible rfl)
              simp only [Act.put, List.setIfInBounds_toArray, List.set_cons_zero, List.set_cons_succ]
              refine wpAnyH_take (i := 14) (oi := { dst := some 140, op := Go.Op.load 36 (Go.Operand.tmp 5), type := 36, pos := "l05_locks.go:331", after := #[{ on := 13, ground := Go.Ground.guard }], guard := some (13, true) }) (v := undef) rfl (by kernel_rfl) (by kernel_rfl) (by kernel_rfl) (fun _ _ _ h => h) (Or.inr ⟨by rfl, rfl⟩) hHeld ?_
              simp only [Act.put, List.setIfInBounds_toArray, List.set_cons_zero, List.set_cons_succ]
              refine wpAnyH_take (i := 15) (oi := { dst := some 141, op := Go.Op.call { callee := Go.Callee.value (Go.Operand.func 30), args := #[Go.Operand.tmp 140], argTypes := #[36] }, type := 4, pos := "l05_locks.go:331", after := #[{ on := 14, ground := Go.Ground.data }, { on := 13, ground := Go.Ground.chain }, { on := 13, ground := Go.Ground.guard }], guard := some (13, true) }) (v := undef) rfl (by kernel_rfl) (by kernel_rfl) (by kernel_rfl) (fun _ _ _ h => h) (Or.inr ⟨by rfl, rfl⟩) hHeld ?_
              simp only [Act.put, List.setIfInBounds_toArray, List.set_cons_zero, List.set_cons_succ]
              refine wpAnyH_take (i := 16) (oi := { dst := some 142, op := Go.Op.pick (Go.Operand.tmp 139) (Go.Operand.tmp 141) (Go.Operand.const (Go.Value.bool false)), type := 4, pos := "l05_locks.go:331", after := #[{ on := 13, ground := Go.Ground.data }, { on := 15, ground := Go.Ground.data }, { on := 17, ground := Go.Ground.gcOnly Go.Departure.lateStores }], guard := none }) (v := ?v92) rfl (by kernel_rfl) (by kernel_rfl) (by kernel_rfl) (fun _ _ _ h => h) (Or.inl ⟨by rfl, ?h92⟩) hHeld ?r92
              case h92 => intro wz hz; (try dsimp only at hz); go_simp; try (with_reducible rfl)
              simp only [Act.put, List.setIfInBounds_toArray, List.set_cons_zero, List.set_cons_succ]
              refine wpAnyH_ready (rs := [17]) (by kernel_rfl) (by simp) ?_
              refine AllReadyH.cons (o := { dst := none, op := Go.Op.store 36 (Go.Operand.tmp 2) (Go.Operand.tmp 126), type := 0, pos := "l05_locks.go:331", after := #[{ on := 0, ground := Go.Ground.data }, { on := 15, ground := Go.Ground.chain }, { on := 0, ground := Go.Ground.phase }, { on := 1, ground := Go.Ground.textOnly Go.Departure.lateStores }, { on := 2, ground := Go.Ground.textOnly Go.Departure.lateStores }, { on := 3, ground := Go.Ground.textOnly Go.Departure.lateStores }, { on := 4, ground := Go.Ground.textOnly Go.Departure.lateStores }, { on := 5, ground := Go.Ground.textOnly Go.Departure.lateStores }, { on := 6, ground := Go.Ground.textOnly Go.Departure.lateStores }, { on := 7, ground := Go.Ground.textOnly Go.Departure.lateStores }, { on := 8, ground := Go.Ground.textOnly Go.Departure.lateStores }, { on := 9, ground := Go.Ground.textOnly Go.Departure.lateStores }, { on := 10, ground := Go.Ground.textOnly Go.Departure.lateStores }, { on := 11, ground := Go.Ground.textOnly Go.Departure.lateStores }, { on := 12, ground := Go.Ground.textOnly Go.Departure.lateStores }, { on := 13, ground := Go.Ground.textOnly Go.Departure.lateStores }, { on := 14, ground := Go.Ground.textOnly Go.Departure.lateStores }, { on := 15, ground := Go.Ground.textOnly Go.Departure.lateStoresUnsure }, { on := 16, ground := Go.Ground.textOnly Go.Departure.lateStores }], guard := none }) rfl (fun K hK => ?_) AllReadyH.nil
              go_simp
              refine hK.out _ _ ?_ (fun hHeld => ?_)
              · first | exact HSN.out _ J.out | exact HSN.out _ J.out.drew
              clear hK K
              refine wpAnyH_take (i := 18) (oi := { dst := some 3, op := Go.Op.assign (Go.Operand.tmp 142), type := 4, pos := "l05_locks.go:331", after := #[{ on := 16, ground := Go.Ground.data }, { on := 17, ground := Go.Ground.chain }, { on := 0, ground := Go.Ground.phase }, { on := 1, ground := Go.Ground.phase }, { on := 2, ground := Go.Ground.phase }, { on := 3, ground := Go.Ground.phase }, { on := 4, ground := Go.Ground.phase }, { on := 5, ground := Go.Ground.phase }, { on := 6, ground := Go.Ground.phase }, { on := 7, ground := Go.Ground.phase }, { on := 8, ground := Go.Ground.phase }, { on := 9, ground := Go.Ground.phase }, { on := 10, ground := Go.Ground.phase }, { on := 11, ground := Go.Ground.phase }, { on := 12, ground := Go.Ground.phase }, { on := 13, ground := Go.Ground.phase }, { on := 14, ground := Go.Ground.phase }, { on := 15, ground := Go.Ground.phase }, { on := 16, ground := Go.Ground.phase }, { on := 17, ground := Go.Ground.phase }], guard := none }) (v := ?v93) rfl (by kernel_rfl) (by kernel_rfl) (by kernel_rfl) (fun _ _ _ h => h) (Or.inl ⟨by rfl, ?h93⟩) hHeld ?r93
              case h93 => intro wz hz; (try dsimp only at hz); go_simp; try (with_reducible rfl)
              simp only [Act.put, List.setIfInBounds_toArray, List.set_cons_zero, List.set_cons_succ]
              refine wpAnyH_done (by kernel_rfl) ?_ _
              refine NoPanic.normal ?_
              clear hHeld HS HSN
              have AF := J.out.sp.done
              go_wp2_with fail
              generalize ((((wr.setCell ⟨w.heap.size, 0, none⟩ (.int .i64 z0)).setCell ⟨w.heap.size, 1, none⟩ (.int .i64 z1)).setCell ⟨w.heap.size, 2, none⟩ (.slice a k c)).setCell ⟨w.heap.size, 3, none⟩ (.slice a3 k3 c3)) = wf at AF ⊢
              have d0 := (blk_cell AF.1 0 (x := .int .i64 z0) rfl).1
              have d1 := (blk_cell AF.1 1 (x := .int .i64 z1) rfl).1
              have d2 := (blk_cell AF.1 2 (x := .slice a k c) rfl).1
              have d3 := (blk_cell AF.1 3 (x := .slice a3 k3 c3) rfl).1
              refine bodyPost_ret (v := .tuple #[.agg #[.int .i64 z0, .int .i64 z1, .slice a k c, .slice a3 k3 c3], .bool false]) (by simp [results, Tryz.results49, go_sem, d0, d1, d2, d3]) rfl ?_
              exact ⟨z0, z1, _, _, ms, ss, by rw [HOK.out]; rfl, ⟨Mem.mono (Mem.kept (W' := wf.drew) AF.2.2 fun _ _ _ => rfl) (by omega), fun h => by rw [HOK.out] at h; cases h⟩, AF.2.1.drew⟩
            · have HSM := tbO_small xs HRX.out
              have hOK : rtOK xs = bOf (TOK (tbO xs)) := by unfold rtOK; rw [g1, g2]; rfl
              rw [g3] at hOK HSM
              have HP := HT.out.2.2.1
              obtain ⟨s', p, hs1, _, _⟩ := HP.rd
              have J : Hid (Rs w tq s' wr z0 z1 (.slice a k c) (.slice a3 k3 c3) ms ss [] false) := ⟨HP, p⟩
              have HS : Hid (∀ W, Rs w tq s' W z0 z1 (.slice a k c) (.slice a3 k3 c3) ms ss [] false → W.cell? ⟨w.heap.size + 1, 0, none⟩ = some (.string s') ∧ W.cell? ⟨w.heap.size + 1, 1, none⟩ = some (.bool false) ∧ W.cell? ⟨tq, 0, none⟩ = some (.int .i64 z0) ∧ W.cell? ⟨tq, 1, none⟩ = some (.int .i64 z1) ∧ W.cell? ⟨tq, 2, none⟩ = some (.slice a k c) ∧ W.cell? ⟨tq, 3, none⟩ = some (.slice a3 k3 c3)) := fun W h => h.cells
              have HSN : Hid (∀ W, Rs w tq s' W z0 z1 (.slice a k c) (.slice a3 k3 c3) ms ss [] false → ((((W.setCell ⟨w.heap.size, 0, none⟩ (.int .i64 z0)).setCell ⟨w.heap.size, 1, none⟩ (.int .i64 z1)).setCell ⟨w.heap.size, 2, none⟩ (.slice a k c)).setCell ⟨w.heap.size, 3, none⟩ (.slice a3 k3 c3)).cell? ⟨w.heap.size + 1, 0, none⟩ = some (.string s') ∧ ((((W.setCell ⟨w.heap.size, 0, none⟩ (.int .i64 z0)).setCell ⟨w.heap.size, 1, none⟩ (.int .i64 z1)).setCell ⟨w.heap.size, 2, none⟩ (.slice a k c)).setCell ⟨w.heap.size, 3, none⟩ (.slice a3 k3 c3)).cell? ⟨w.heap.size + 1, 1, none⟩ = some (.bool false) ∧ ((((W.setCell ⟨w.heap.size, 0, none⟩ (.int .i64 z0)).setCell ⟨w.heap.size, 1, none⟩ (.int .i64 z1)).setCell ⟨w.heap.size, 2, none⟩ (.slice a k c)).setCell ⟨w.heap.size, 3, none⟩ (.slice a3 k3 c3)).cell? ⟨tq, 0, none⟩ = some (.int .i64 z0) ∧ ((((W.setCell ⟨w.heap.size, 0, none⟩ (.int .i64 z0)).setCell ⟨w.heap.size, 1, none⟩ (.int .i64 z1)).setCell ⟨w.heap.size, 2, none⟩ (.slice a k c)).setCell ⟨w.heap.size, 3, none⟩ (.slice a3 k3 c3)).cell? ⟨tq, 1, none⟩ = some (.int .i64 z1) ∧ ((((W.setCell ⟨w.heap.size, 0, none⟩ (.int .i64 z0)).setCell ⟨w.heap.size, 1, none⟩ (.int .i64 z1)).setCell ⟨w.heap.size, 2, none⟩ (.slice a k c)).setCell ⟨w.heap.size, 3, none⟩ (.slice a3 k3 c3)).cell? ⟨tq, 2, none⟩ = some (.slice a k c) ∧ ((((W.setCell ⟨w.heap.size, 0, none⟩ (.int .i64 z0)).setCell ⟨w.heap.size, 1, none⟩ (.int .i64 z1)).setCell ⟨w.heap.size, 2, none⟩ (.slice a k c)).setCell ⟨w.heap.size, 3, none⟩ (.slice a3 k3 c3)).cell? ⟨tq, 3, none⟩ = some (.slice a3 k3 c3)) := fun W h => h.cellsN _ _ _ _
              obtain ⟨zc0, zf0⟩ := blk_cell HP.a 0 (x := .int .i64 0) rfl
              obtain ⟨zc1, zf1⟩ := blk_cell HP.a 1 (x := .int .i64 0) rfl
              obtain ⟨zc2, zf2⟩ := blk_cell HP.a 2 (x := .slice none 0 0) rfl
              obtain ⟨zc3, zf3⟩ := blk_cell HP.a 3 (x := .slice none 0 0) rfl
              obtain rfl : s' = ⟨#[]⟩ := bys_nil (hs1 rfl)
              have HTB : Hid (tbO xs = ⟨z0, z1, ms.map (·.1), ss⟩) := g3
              have HTO : Hid (∀ W, Rs w tq ⟨#[]⟩ W z0 z1 (.slice a k c) (.slice a3 k3 c3) ms ss [] false → Calls Tryz.prog 30 #[.agg #[.int .i64 z0, .int .i64 z1, .slice a k c, .slice a3 k3 c3]] W fun e w' => e = .returned (.bool (rtOK xs)) ∧ Rs w tq ⟨#[]⟩ w' z0 z1 (.slice a k c) (.slice a3 k3 c3) ms ss [] false) := fun W hW => by
                obtain ⟨r1, r2⟩ := Mem.rows hW.sp.me
                obtain ⟨t1, t2, t3⟩ := HSM
                refine (Go.Proofs.YtnebohdlndiejaaGreatDoor.Tq.specTableOK_any z0 z1 _ _ (ms.map (·.1)) ss W r1 r2 t3 (by dsimp only at t1; omega) (by dsimp only at t2; omega)).mono ?_
                rintro e w' ⟨rfl, b⟩
                exact ⟨by rw [hOK], hW.up b⟩
              obtain ⟨bb, HOK⟩ : ∃ b, Hid (rtOK xs = b) := ⟨_, rfl⟩
              rw [HOK.out] at HTO
              clear hOK HSM g1 g2 g3 HP HT HFO p hbad hs1 hi0 hz0 hz1 hz2 hj0 hy0 hy1 hy2 hk0 hx0 hx1 hx2
              go_upto_region 28 with fail
              refine wp_region_noPanic ?_
              refine wp_region_held_drew (S := fun W => W.cell? ⟨w.heap.size + 1, 0, none⟩ = some (.string ⟨#[]⟩) ∧ W.cell? ⟨w.heap.size + 1, 1, none⟩ = some (.bool false) ∧ W.cell? ⟨tq, 0, none⟩ = some (.int .i64 z0) ∧ W.cell? ⟨tq, 1, none⟩ = some (.int .i64 z1) ∧ W.cell? ⟨tq, 2, none⟩ = some (.slice a k c) ∧ W.cell? ⟨tq, 3, none⟩ = some (.slice a3 k3 c3)) (by kernel_rfl) (HS.out _ J.out.drew) (fun hHeld => ?_)
              refine wpAnyH_take (i := 0) (oi := { dst := some 126, op := Go.Op.load 36 (Go.Operand.tmp 5), type := 36, pos := "l05_locks.go:331", after := #[], guard := none }) (v := ?v94) rfl (by kernel_rfl) (by kernel_rfl) (by kernel_rfl) (fun _ _ _ h => h) (Or.inl ⟨by rfl, ?h94⟩) hHeld ?r94
              case h94 => intro wz hz; (try dsimp only at hz); go_simp; try (with_reducible rfl)
              simp only [Act.put, List.setIfInBounds_toArray, List.set_cons_zero, List.set_cons_succ]
              refine wpAnyH_take (i := 1) (oi := { dst := some 127, op := Go.Op.move (Go.Operand.tmp 4), type := 142, pos := "l05_locks.go:331", after := #[], guard := none }) (v := ?v95) rfl (by kernel_rfl) (by kernel_rfl) (by kernel_rfl) (fun _ _ _ h => h) (Or.inl ⟨by rfl, ?h95⟩) hHeld ?r95
              case h95 => intro wz hz; (try dsimp only at hz); go_simp; try (with_reducible rfl)
              simp only [Act.put, List.setIfInBounds_toArray, List.set_cons_zero, List.set_cons_succ]
              refine wpAnyH_take (i := 2) (oi := { dst := some 128, op := Go.Op.nilCheck (Go.Operand.tmp 127), type := 0, pos := "l05_locks.go:331", after := #[{ on := 1, ground := Go.Ground.data }], guard := none }) (v := ?v96) rfl (by kernel_rfl) (by kernel_rfl) (by kernel_rfl) (fun _ _ _ h => h) (Or.inl ⟨by rfl, ?h96⟩) hHeld ?r96
              case h96 => intro wz hz; (try dsimp only at hz); go_simp; try (with_reducible rfl)
              simp only [Act.put, List.setIfInBounds_toArray, List.set_cons_zero, List.set_cons_succ]
              refine wpAnyH_take (i := 3) (oi := { dst := some 129, op := Go.Op.fieldAddr 144 (Go.Operand.tmp 128) 1, type := 0, pos := "l05_locks.go:331", after := #[{ on := 2, ground := Go.Ground.data }], guard := none }) (v := ?v97) rfl (by kernel_rfl) (by kernel_rfl) (by kernel_rfl) (fun _ _ _ h => h) (Or.inl ⟨by rfl, ?h97⟩) hHeld ?r97
              case h97 => intro wz hz; (try dsimp only at hz); go_simp; try (with_reducible rfl)
              simp only [Act.put, List.setIfInBounds_toArray, List.set_cons_zero, List.set_cons_succ]
              refine wpAnyH_take (i := 4) (oi := { dst := some 130, op := Go.Op.load 4 (Go.Operand.tmp 129), type := 4, pos := "l05_locks.go:331", after := #[{ on := 3, ground := Go.Ground.data }], guard := none }) (v := ?v98) rfl (by kernel_rfl) (by kernel_rfl) (by kernel_rfl) (fun _ _ _ h => h) (Or.inl ⟨by rfl, ?h98⟩) hHeld ?r98
              case h98 => intro wz hz; (try dsimp only at hz); go_simp; try (with_reducible rfl)
              simp only [Act.put, List.setIfInBounds_toArray, List.set_cons_zero, List.set_cons_succ]
              refine wpAnyH_take (i := 5) (oi := { dst := some 131, op := Go.Op.unOp Go.UnOp.not 4 (Go.Operand.tmp 130), type := 4, pos := "l05_locks.go:331", after := #[{ on := 4, ground := Go.Ground.data }], guard := none }) (v := ?v99) rfl (by kernel_rfl) (by kernel_rfl) (by kernel_rfl) (fun _ _ _ h => h) (Or.inl ⟨by rfl, ?h99⟩) hHeld ?r99
              case h99 => intro wz hz; (try dsimp only at hz); go_simp; try (with_reducible rfl)
              simp only [Act.put, List.setIfInBounds_toArray, List.set_cons_zero, List.set_cons_succ]
              refine wpAnyH_take (i := 6) (oi := { dst := some 132, op := Go.Op.move (Go.Operand.tmp 131), type := 4, pos := "l05_locks.go:331", after := #[{ on := 5, ground := Go.Ground.data }], guard := none }) (v := ?v100) rfl (by kernel_rfl) (by kernel_rfl) (by kernel_rfl) (fun _ _ _ h => h) (Or.inl ⟨by rfl, ?h100⟩) hHeld ?r100
              case h100 => intro wz hz; (try dsimp only at hz); go_simp; try (with_reducible rfl)
              simp only [Act.put, List.setIfInBounds_toArray, List.set_cons_zero, List.set_cons_succ]
              refine wpAnyH_take (i := 7) (oi := { dst := some 133, op := Go.Op.move (Go.Operand.tmp 4), type := 142, pos := "l05_locks.go:331", after := #[{ on := 6, ground := Go.Ground.guard }], guard := some (6, true) }) (v := ?v101) rfl (by kernel_rfl) (by kernel_rfl) (by kernel_rfl) (fun _ _ _ h => h) (Or.inl ⟨by rfl, ?h101⟩) hHeld ?r101
              case h101 => intro wz hz; (try dsimp only at hz); go_simp; try (with_reducible rfl)
              simp only [Act.put, List.setIfInBounds_toArray, List.set_cons_zero, List.set_cons_succ]
              refine wpAnyH_take (i := 8) (oi := { dst := some 134, op := Go.Op.nilCheck (Go.Operand.tmp 133), type := 0, pos := "l05_locks.go:331", after := #[{ on := 7, ground := Go.Ground.data }, { on := 6, ground := Go.Ground.guard }], guard := some (6, true) }) (v := ?v102) rfl (by kernel_rfl) (by kernel_rfl) (by kernel_rfl) (fun _ _ _ h => h) (Or.inl ⟨by rfl, ?h102⟩) hHeld ?r102
              case h102 => intro wz hz; (try dsimp only at hz); go_simp; try (with_reducible rfl)
              simp only [Act.put, List.setIfInBounds_toArray, List.set_cons_zero, List.set_cons_succ]
              refine wpAnyH_take (i := 9) (oi := { dst := some 135, op := Go.Op.fieldAddr 144 (Go.Operand.tmp 134) 0, type := 0, pos := "l05_locks.go:331", after := #[{ on := 8, ground := Go.Ground.data }, { on := 6, ground := Go.Ground.guard }], guard := some (6, true) }) (v := ?v103) rfl (by kernel_rfl) (by kernel_rfl) (by kernel_rfl) (fun _ _ _ h => h) (Or.inl ⟨by rfl, ?h103⟩) hHeld ?r103
              case h103 => intro wz hz; (try dsimp only at hz); go_simp; try (with_reducible rfl)
              simp only [Act.put, List.setIfInBounds_toArray, List.set_cons_zero, List.set_cons_succ]
              refine wpAnyH_take (i := 10) (oi := { dst := some 136, op := Go.Op.load 9 (Go.Operand.tmp 135), type := 9, pos := "l05_locks.go:331", after := #[{ on := 9, ground := Go.Ground.data }, { on := 6, ground := Go.Ground.guard }], guard := some (6, true) }) (v := ?v104) rfl (by kernel_rfl) (by kernel_rfl) (by kernel_rfl) (fun _ _ _ h => h) (Or.inl ⟨by rfl, ?h104⟩) hHeld ?r104
              case h104 => intro wz hz; (try dsimp only at hz); go_simp; try (with_reducible rfl)
              simp only [Act.put, List.setIfInBounds_toArray, List.set_cons_zero, List.set_cons_succ]
              refine wpAnyH_take (i := 11) (oi := { dst := some 137, op := Go.Op.binOp Go.BinOp.eql 9 (Go.Operand.tmp 136) (Go.Operand.const (Go.Value.string { data := #[] })) 9, type := 4, pos := "l05_locks.go:331", after := #[{ on := 10, ground := Go.Ground.data }, { on := 6, ground := Go.Ground.guard }], guard := some (6, true) }) (v := ?v105) rfl (by kernel_rfl) (by kernel_rfl) (by kernel_rfl) (fun _ _ _ h => h) (Or.inl ⟨by rfl, ?h105⟩) hHeld ?r105
              case h105 => intro wz hz; (try dsimp only at hz); go_simp; try (with_reducible rfl)
              simp only [Act.put, List.setIfInBounds_toArray, List.set_cons_zero, List.set_cons_succ]
              refine wpAnyH_take (i := 12) (oi := { dst := some 138, op := Go.Op.pick (Go.Operand.tmp 132) (Go.Operand.tmp 137) (Go.Operand.const (Go.Value.bool false)), type := 4, pos := "l05_locks.go:331", after := #[{ on := 6, ground := Go.Ground.data }, { on := 11, ground := Go.Ground.data }], guard := none }) (v := ?v106) rfl (by kernel_rfl) (by kernel_rfl) (by kernel_rfl) (fun _ _ _ h => h) (Or.inl ⟨by rfl, ?h106⟩) hHeld ?r106
              case h106 => intro wz hz; (try dsimp only at hz); go_simp; try (with_reducible rfl)
              simp only [Act.put, List.setIfInBounds_toArray, List.set_cons_zero, List.set_cons_succ]
              refine wpAnyH_take (i := 13) (oi := { dst := some 139, op := Go.Op.move (Go.Operand.tmp 138), type := 4, pos := "l05_locks.go:331", after := #[{ on := 12, ground := Go.Ground.data }, { on := 6, ground := Go.Ground.chain }], guard := none }) (v := ?v107) rfl (by kernel_rfl) (by kernel_rfl) (by kernel_rfl) (fun _ _ _ h => h) (Or.inl ⟨by rfl, ?h107⟩) hHeld ?r107
              case h107 => intro wz hz; (try dsimp only at hz); go_simp; try (with_reducible rfl)
              simp only [Act.put, List.setIfInBounds_toArray, List.set_cons_zero, List.set_cons_succ]
              refine wpAnyH_take (i := 14) (oi := { dst := some 140, op := Go.Op.load 36 (Go.Operand.tmp 5), type := 36, pos := "l05_locks.go:331", after := #[{ on := 13, ground := Go.Ground.guard }], guard := some (13, true) }) (v := ?v108) rfl (by kernel_rfl) (by kernel_rfl) (by kernel_rfl) (fun _ _ _ h => h) (Or.inl ⟨by rfl, ?h108⟩) hHeld ?r108
              case h108 => intro wz hz; (try dsimp only at hz); go_simp; try (with_reducible rfl)
              simp only [Act.put, List.setIfInBounds_toArray, List.set_cons_zero, List.set_cons_succ]
              refine wpAnyH_ready (rs := [15]) (by kernel_rfl) (by simp) ?_
              refine AllReadyH.cons (o := { dst := some 141, op := Go.Op.call { callee := Go.Callee.value (Go.Operand.func 30), args := #[Go.Operand.tmp 140], argTypes := #[36] }, type := 4, pos := "l05_locks.go:331", after := #[{ on := 14, ground := Go.Ground.data }, { on := 13, ground := Go.Ground.chain }, { on := 13, ground := Go.Ground.guard }], guard := some (13, true) }) rfl (fun K hK => ?_) AllReadyH.nil
              go_simp
              go_at_call 30
              refine (HTO.out _ (by first | exact J.out | exact J.out.drew)).mono ?_
              rintro e w6 ⟨rfl, J6⟩
              have j6 := J6.sp
              obtain ⟨yc0, yf0⟩ := blk_cell j6.a 0 (x := .int .i64 0) rfl
              obtain ⟨yc1, yf1⟩ := blk_cell j6.a 1 (x := .int .i64 0) rfl
              obtain ⟨yc2, yf2⟩ := blk_cell j6.a 2 (x := .slice none 0 0) rfl
              obtain ⟨yc3, yf3⟩ := blk_cell j6.a 3 (x := .slice none 0 0) rfl
              try go_simp
              refine hK.out _ _ ?_ (fun hHeld => ?_)
              · exact HS.out _ J6
              clear hK K
              refine wpAnyH_take (i := 16) (oi := { dst := some 142, op := Go.Op.pick (Go.Operand.tmp 139) (Go.Operand.tmp 141) (Go.Operand.const (Go.Value.bool false)), type := 4, pos := "l05_locks.go:331", after := #[{ on := 13, ground := Go.Ground.data }, { on := 15, ground := Go.Ground.data }, { on := 17, ground := Go.Ground.gcOnly Go.Departure.lateStores }], guard := none }) (v := ?v109) rfl (by kernel_rfl) (by kernel_rfl) (by kernel_rfl) (fun _ _ _ h => h) (Or.inl ⟨by rfl, ?h109⟩) hHeld ?r109
              case h109 => intro wz hz; (try dsimp only at hz); go_simp; try (with_reducible rfl)
              simp only [Act.put, List.setIfInBounds_toArray, List.set_cons_zero, List.set_cons_succ]
              refine wpAnyH_ready (rs := [17]) (by kernel_rfl) (by simp) ?_
              refine AllReadyH.cons (o := { dst := none, op := Go.Op.store 36 (Go.Operand.tmp 2) (Go.Operand.tmp 126), type := 0, pos := "l05_locks.go:331", after := #[{ on := 0, ground := Go.Ground.data }, { on := 15, ground := Go.Ground.chain }, { on := 0, ground := Go.Ground.phase }, { on := 1, ground := Go.Ground.textOnly Go.Departure.lateStores }, { on := 2, ground := Go.Ground.textOnly Go.Departure.lateStores }, { on := 3, ground := Go.Ground.textOnly Go.Departure.lateStores }, { on := 4, ground := Go.Ground.textOnly Go.Departure.lateStores }, { on := 5, ground := Go.Ground.textOnly Go.Departure.lateStores }, { on := 6, ground := Go.Ground.textOnly Go.Departure.lateStores }, { on := 7, ground := Go.Ground.textOnly Go.Departure.lateStores }, { on := 8, ground := Go.Ground.textOnly Go.Departure.lateStores }, { on := 9, ground := Go.Ground.textOnly Go.Departure.lateStores }, { on := 10, ground := Go.Ground.textOnly Go.Departure.lateStores }, { on := 11, ground := Go.Ground.textOnly Go.Departure.lateStores }, { on := 12, ground := Go.Ground.textOnly Go.Departure.lateStores }, { on := 13, ground := Go.Ground.textOnly Go.Departure.lateStores }, { on := 14, ground := Go.Ground.textOnly Go.Departure.lateStores }, { on := 15, ground := Go.Ground.textOnly Go.Departure.lateStoresUnsure }, { on := 16, ground := Go.Ground.textOnly Go.Departure.lateStores }], guard := none }) rfl (fun K hK => ?_) AllReadyH.nil
              go_simp
              refine hK.out _ _ ?_ (fun hHeld => ?_)
              · exact HSN.out _ J6
              clear hK K
              refine wpAnyH_take (i := 18) (oi := { dst := some 3, op := Go.Op.assign (Go.Operand.tmp 142), type := 4, pos := "l05_locks.go:331", after := #[{ on := 16, ground := Go.Ground.data }, { on := 17, ground := Go.Ground.chain }, { on := 0, ground := Go.Ground.phase }, { on := 1, ground := Go.Ground.phase }, { on := 2, ground := Go.Ground.phase }, { on := 3, ground := Go.Ground.phase }, { on := 4, ground := Go.Ground.phase }, { on := 5, ground := Go.Ground.phase }, { on := 6, ground := Go.Ground.phase }, { on := 7, ground := Go.Ground.phase }, { on := 8, ground := Go.Ground.phase }, { on := 9, ground := Go.Ground.phase }, { on := 10, ground := Go.Ground.phase }, { on := 11, ground := Go.Ground.phase }, { on := 12, ground := Go.Ground.phase }, { on := 13, ground := Go.Ground.phase }, { on := 14, ground := Go.Ground.phase }, { on := 15, ground := Go.Ground.phase }, { on := 16, ground := Go.Ground.phase }, { on := 17, ground := Go.Ground.phase }], guard := none }) (v := ?v110) rfl (by kernel_rfl) (by kernel_rfl) (by kernel_rfl) (fun _ _ _ h => h) (Or.inl ⟨by rfl, ?h110⟩) hHeld ?r110
              case h110 => intro wz hz; (try dsimp only at hz); go_simp; try (with_reducible rfl)
              simp only [Act.put, List.setIfInBounds_toArray, List.set_cons_zero, List.set_cons_succ]
              refine wpAnyH_done (by kernel_rfl) ?_ _
              refine NoPanic.normal ?_
              clear hHeld HS HSN
              have AF := j6.done
              go_wp2_with fail
              generalize ((((w6.setCell ⟨w.heap.size, 0, none⟩ (.int .i64 z0)).setCell ⟨w.heap.size, 1, none⟩ (.int .i64 z1)).setCell ⟨w.heap.size, 2, none⟩ (.slice a k c)).setCell ⟨w.heap.size, 3, none⟩ (.slice a3 k3 c3)) = wf at AF ⊢
              have d0 := (blk_cell AF.1 0 (x := .int .i64 z0) rfl).1
              have d1 := (blk_cell AF.1 1 (x := .int .i64 z1) rfl).1
              have d2 := (blk_cell AF.1 2 (x := .slice a k c) rfl).1
              have d3 := (blk_cell AF.1 3 (x := .slice a3 k3 c3) rfl).1
              refine bodyPost_ret (v := .tuple #[.agg #[.int .i64 z0, .int .i64 z1, .slice a k c, .slice a3 k3 c3], .bool bb]) (by simp [results, Tryz.results49, go_sem, d0, d1, d2, d3]) rfl ?_
              exact ⟨z0, z1, _, _, ms, ss, by rw [HOK.out]; rfl, ⟨Mem.mono AF.2.2 (by omega), fun _ => HTB.out⟩, AF.2.1⟩
end Go.Proofs.YtnebohdlndiejaaGreatDoor.Us
