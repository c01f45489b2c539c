/- Replicas of a new group: marked, held. -/
import Derived.Test.YtdhmmbbdckahmaaNgg
namespace Go.Proofs.Ytdhmmbbdckahmaa.Ng
open Go.RowKit Go.Proofs.Ytdhmmbbdckahmaa.Rg Go.Proofs.Ytdhmmbbdckahmaa.Tm Go.Proofs.Ytdhmmbbdckahmaa.Nr Go.Proofs.Ytdhmmbbdckahmaa.Is
open Go.Proofs.Ytdhmmbbdckahmaa.So hiding bel_new
open Go.Proofs.Ytdhmmbbdckahmaa.Sl (nth)
open Go.Proofs.Ytdhmmbbdckahmaa.Qm (inB)
open Go.Proofs.Ytdhmmbbdckahmaa.Rr (grown_set grown_trans grown_refl grown_alloc)
/-- Block g holds the replicas ps, with four cells of each that are F's. -/
def MQ (w : World) (g : Nat) (F : Nat → Int × Int × Int × Bool) (ps : List RV) : Prop := ∃ A, w.heap[g]? = some (.cells A 65 (0, 0)) ∧ ∀ (i : Nat) (p : RV), ps[i]? = some p → A[i * 8]? = some (.int .i64 (F i).1) ∧ A[i * 8 + 1]? = some (.int .i64 (F i).2.1) ∧ A[i * 8 + 2]? = some (.int .i64 (F i).2.2.1) ∧ A[i * 8 + 3]? = some (.bool (F i).2.2.2) ∧ A[i * 8 + 4]? = some (.slice p.sa 8 p.sc) ∧ A[i * 8 + 5]? = some (.slice p.ca 8 p.cc) ∧ A[i * 8 + 6]? = some (.slice p.la 0 p.lc) ∧ A[i * 8 + 7]? = some (.slice p.ma 0 p.mc)
def qf (a i : Nat) : Int × Int × Int × Bool := (((a + 36 * i : Nat) : Int), ((a + 36 * i : Nat) : Int) + 1, ((a + 36 * i : Nat) : Int) + 1 + 1, b3 (((a + 36 * i : Nat) : Int) + 1 + 1 + 1))
theorem MQ.kept {w w' : World} {g : Nat} {F : Nat → Int × Int × Int × Bool} {ps : List RV} (h : MQ w g F ps) (hb : w'.heap[g]? = w.heap[g]?) : MQ w' g F ps := by obtain ⟨A, h1, h2⟩ := h; exact ⟨A, hb.trans h1, h2⟩
theorem MQ.lt {w : World} {g : Nat} {F : Nat → Int × Int × Int × Bool} {ps : List RV} (h : MQ w g F ps) : g < w.heap.size := by obtain ⟨A, h1, _⟩ := h; exact (Array.getElem?_eq_some_iff.1 h1).1
theorem MQ.below {w w' : World} {g : Nat} {F : Nat → Int × Int × Int × Bool} {ps : List RV} (h : MQ w g F ps) (hb : Below w.heap.size w w') : MQ w' g F ps := h.kept (hb.block g h.lt)
theorem MQ.cells {w : World} {g : Nat} {F : Nat → Int × Int × Int × Bool} {ps : List RV} (h : MQ w g F ps) {i : Nat} {p : RV} (hi : ps[i]? = some p) : (w.cell? ⟨g, i * 8, none⟩ = some (.int .i64 (F i).1) ∧ w.frozen? ⟨g, i * 8, none⟩ = false) ∧ (w.cell? ⟨g, i * 8 + 1, none⟩ = some (.int .i64 (F i).2.1) ∧ w.frozen? ⟨g, i * 8 + 1, none⟩ = false) ∧ (w.cell? ⟨g, i * 8 + 2, none⟩ = some (.int .i64 (F i).2.2.1) ∧ w.frozen? ⟨g, i * 8 + 2, none⟩ = false) ∧ (w.cell? ⟨g, i * 8 + 3, none⟩ = some (.bool (F i).2.2.2) ∧ w.frozen? ⟨g, i * 8 + 3, none⟩ = false) ∧ (w.cell? ⟨g, i * 8 + 4, none⟩ = some (.slice p.sa 8 p.sc) ∧ w.frozen? ⟨g, i * 8 + 4, none⟩ = false) ∧ (w.cell? ⟨g, i * 8 + 5, none⟩ = some (.slice p.ca 8 p.cc) ∧ w.frozen? ⟨g, i * 8 + 5, none⟩ = false) ∧ (w.cell? ⟨g, i * 8 + 6, none⟩ = some (.slice p.la 0 p.lc) ∧ w.frozen? ⟨g, i * 8 + 6, none⟩ = false) ∧ (w.cell? ⟨g, i * 8 + 7, none⟩ = some (.slice p.ma 0 p.mc) ∧ w.frozen? ⟨g, i * 8 + 7, none⟩ = false) := by
  obtain ⟨A, h1, h2⟩ := h
  obtain ⟨a0, a1, a2, a3, a4, a5, a6, a7⟩ := h2 i p hi
  exact ⟨blk_cell h1 _ a0, blk_cell h1 _ a1, blk_cell h1 _ a2, blk_cell h1 _ a3, blk_cell h1 _ a4, blk_cell h1 _ a5, blk_cell h1 _ a6, blk_cell h1 _ a7⟩
theorem MQ.put0 {w : World} {g : Nat} {F : Nat → Int × Int × Int × Bool} {ps : List RV} (h : MQ w g F ps) {q : Nat} {p0 : RV} (hq : ps[q]? = some p0) (x : Int) : MQ (w.setCell ⟨g, q * 8, none⟩ (.int .i64 x)) g (upd F q (x, (F q).2)) ps := by
  obtain ⟨A, h1, h2⟩ := h
  refine ⟨_, blk_set h1 _ _, fun i p hi => ?_⟩
  obtain ⟨a0, a1, a2, a3, a4, a5, a6, a7⟩ := h2 i p hi
  have hs : q * 8 + 3 < A.size := (Array.getElem?_eq_some_iff.1 (h2 q p0 hq).2.2.2.1).1
  by_cases e : i = q
  · subst e
    rw [upd_q]
    refine ⟨?_, ?_, ?_, ?_, ?_, ?_, ?_, ?_⟩ <;> rw [Array.getElem?_setIfInBounds] <;> first | (rw [if_pos (by omega), if_pos (by omega)]) | (rw [if_neg (by omega)]; assumption)
  · rw [upd_o _ _ e]
    refine ⟨?_, ?_, ?_, ?_, ?_, ?_, ?_, ?_⟩ <;> rw [Array.getElem?_setIfInBounds, if_neg (by omega)] <;> assumption
theorem MQ.put1 {w : World} {g : Nat} {F : Nat → Int × Int × Int × Bool} {ps : List RV} (h : MQ w g F ps) {q : Nat} {p0 : RV} (hq : ps[q]? = some p0) (x : Int) : MQ (w.setCell ⟨g, q * 8 + 1, none⟩ (.int .i64 x)) g (upd F q ((F q).1, x, (F q).2.2)) ps := by
  obtain ⟨A, h1, h2⟩ := h
  refine ⟨_, blk_set h1 _ _, fun i p hi => ?_⟩
  obtain ⟨a0, a1, a2, a3, a4, a5, a6, a7⟩ := h2 i p hi
  have hs : q * 8 + 3 < A.size := (Array.getElem?_eq_some_iff.1 (h2 q p0 hq).2.2.2.1).1
  by_cases e : i = q
  · subst e
    rw [upd_q]
    refine ⟨?_, ?_, ?_, ?_, ?_, ?_, ?_, ?_⟩ <;> rw [Array.getElem?_setIfInBounds] <;> first | (rw [if_pos (by omega), if_pos (by omega)]) | (rw [if_neg (by omega)]; assumption)
  · rw [upd_o _ _ e]
    refine ⟨?_, ?_, ?_, ?_, ?_, ?_, ?_, ?_⟩ <;> rw [Array.getElem?_setIfInBounds, if_neg (by omega)] <;> assumption
theorem MQ.put2 {w : World} {g : Nat} {F : Nat → Int × Int × Int × Bool} {ps : List RV} (h : MQ w g F ps) {q : Nat} {p0 : RV} (hq : ps[q]? = some p0) (x : Int) : MQ (w.setCell ⟨g, q * 8 + 2, none⟩ (.int .i64 x)) g (upd F q ((F q).1, (F q).2.1, x, (F q).2.2.2)) ps := by
  obtain ⟨A, h1, h2⟩ := h
  refine ⟨_, blk_set h1 _ _, fun i p hi => ?_⟩
  obtain ⟨a0, a1, a2, a3, a4, a5, a6, a7⟩ := h2 i p hi
  have hs : q * 8 + 3 < A.size := (Array.getElem?_eq_some_iff.1 (h2 q p0 hq).2.2.2.1).1
  by_cases e : i = q
  · subst e
    rw [upd_q]
    refine ⟨?_, ?_, ?_, ?_, ?_, ?_, ?_, ?_⟩ <;> rw [Array.getElem?_setIfInBounds] <;> first | (rw [if_pos (by omega), if_pos (by omega)]) | (rw [if_neg (by omega)]; assumption)
  · rw [upd_o _ _ e]
    refine ⟨?_, ?_, ?_, ?_, ?_, ?_, ?_, ?_⟩ <;> rw [Array.getElem?_setIfInBounds, if_neg (by omega)] <;> assumption
theorem MQ.put3 {w : World} {g : Nat} {F : Nat → Int × Int × Int × Bool} {ps : List RV} (h : MQ w g F ps) {q : Nat} {p0 : RV} (hq : ps[q]? = some p0) (x : Bool) : MQ (w.setCell ⟨g, q * 8 + 3, none⟩ (.bool x)) g (upd F q ((F q).1, (F q).2.1, (F q).2.2.1, x)) ps := by
  obtain ⟨A, h1, h2⟩ := h
  refine ⟨_, blk_set h1 _ _, fun i p hi => ?_⟩
  obtain ⟨a0, a1, a2, a3, a4, a5, a6, a7⟩ := h2 i p hi
  have hs : q * 8 + 3 < A.size := (Array.getElem?_eq_some_iff.1 (h2 q p0 hq).2.2.2.1).1
  by_cases e : i = q
  · subst e
    rw [upd_q]
    refine ⟨?_, ?_, ?_, ?_, ?_, ?_, ?_, ?_⟩ <;> rw [Array.getElem?_setIfInBounds] <;> first | (rw [if_pos (by omega), if_pos (by omega)]) | (rw [if_neg (by omega)]; assumption)
  · rw [upd_o _ _ e]
    refine ⟨?_, ?_, ?_, ?_, ?_, ?_, ?_, ?_⟩ <;> rw [Array.getElem?_setIfInBounds, if_neg (by omega)] <;> assumption
/-- A replica whose slots and certificates may be written. -/
def HU (B : Nat) (w : World) (p : RV) : Prop := ∃ gs gc, ((p.sa = some ⟨gs, 0, none⟩ ∧ p.sc = 8 ∧ p.ca = some ⟨gc, 0, none⟩ ∧ p.cc = 8) ∧ (p.la = none ∧ p.lc = 0 ∧ p.ma = none ∧ p.mc = 0) ∧ B ≤ gs ∧ B ≤ gc) ∧ (∃ f, MS w gs 8 f) ∧ (∃ h, MC w gc 8 h)
/-- A replica that is marked from a on. -/
def HM (w : World) (a : Nat) (p : RV) : Prop := ∃ gs gc, ((p.sa = some ⟨gs, 0, none⟩ ∧ p.sc = 8 ∧ p.ca = some ⟨gc, 0, none⟩ ∧ p.cc = 8) ∧ (p.la = none ∧ p.lc = 0 ∧ p.ma = none ∧ p.mc = 0)) ∧ (∃ f, MS w gs 8 f ∧ ∀ j, j < 8 → f j = mf (a + 4) j) ∧ (∃ h, MC w gc 8 h ∧ ∀ j, j < 8 → h j = mtext (a + 28 + j))
theorem HU.far {B x : Nat} {w w' : World} {p : RV} (h : HU B w p) (hx : x < w.heap.size → p.sa ≠ some ⟨x, 0, none⟩ ∧ p.ca ≠ some ⟨x, 0, none⟩) (hk : ∀ k, k < w.heap.size → k ≠ x → w'.heap[k]? = w.heap[k]?) : HU B w' p := by
  obtain ⟨gs, gc, e, ⟨f, m⟩, ⟨h, c⟩⟩ := h
  refine ⟨gs, gc, e, ⟨f, m.kept (hk gs m.lt fun e2 => ?_)⟩, ⟨h, c.kept (hk gc c.lt fun e2 => ?_)⟩⟩
  · subst e2; exact (hx m.lt).1 e.1.1
  · subst e2; exact (hx c.lt).2 e.1.2.2.1
theorem HM.far {x a : Nat} {w w' : World} {p : RV} (h : HM w a p) (hx : x < w.heap.size → p.sa ≠ some ⟨x, 0, none⟩ ∧ p.ca ≠ some ⟨x, 0, none⟩) (hk : ∀ k, k < w.heap.size → k ≠ x → w'.heap[k]? = w.heap[k]?) : HM w' a p := by
  obtain ⟨gs, gc, e, ⟨f, m, mf⟩, ⟨h, c, ch⟩⟩ := h
  refine ⟨gs, gc, e, ⟨f, m.kept (hk gs m.lt fun e2 => ?_), mf⟩, ⟨h, c.kept (hk gc c.lt fun e2 => ?_), ch⟩⟩
  · subst e2; exact (hx m.lt).1 e.1.1
  · subst e2; exact (hx c.lt).2 e.1.2.2.1
theorem HM.below {a : Nat} {w w' : World} {p : RV} (h : HM w a p) (hb : Below w.heap.size w w') : HM w' a p := by
  obtain ⟨gs, gc, e, ⟨f, m, mf⟩, ⟨h, c, ch⟩⟩ := h
  exact ⟨gs, gc, e, ⟨f, m.below hb, mf⟩, ⟨h, c.below hb, ch⟩⟩
/-- A replica's blocks are none of another kind. -/
theorem HU.kind {B x : Nat} {w : World} {p : RV} {cs : Array Value} {t : TypeId} (h : HU B w p) (hx : w.heap[x]? = some (.cells cs t (0, 0))) : (t ≠ 112 → p.sa ≠ some ⟨x, 0, none⟩) ∧ (t ≠ 106 → p.ca ≠ some ⟨x, 0, none⟩) := by
  obtain ⟨gs, gc, e, ⟨f, A, m, _⟩, ⟨h, C, c, _⟩⟩ := h
  refine ⟨fun ht e2 => ?_, fun ht e2 => ?_⟩
  · rw [e.1.1] at e2
    injection e2 with e2
    injection e2 with e2
    subst e2
    rw [m] at hx
    injection hx with hx
    injection hx with _ hx _
    exact ht hx.symm
  · rw [e.1.2.2.1] at e2
    injection e2 with e2
    injection e2 with e2
    subst e2
    rw [c] at hx
    injection hx with hx
    injection hx with _ hx _
    exact ht hx.symm
theorem HM.hu {w : World} {a : Nat} {p : RV} (h : HM w a p) : HU 0 w p := by
  obtain ⟨gs, gc, e, ⟨f, m, _⟩, ⟨h, c, _⟩⟩ := h
  exact ⟨gs, gc, ⟨e.1, e.2, Nat.zero_le _, Nat.zero_le _⟩, ⟨f, m⟩, ⟨h, c⟩⟩
/-- What lies below B, and all that is no replica's, is as it was. -/
structure Fm (B : Nat) (w wr : World) : Prop where
  b : Below B w wr
  k : ∀ (k : Nat) (cs : Array Value) (t : TypeId), t ≠ 65 → t ≠ 112 → t ≠ 106 → w.heap[k]? = some (.cells cs t (0, 0)) → wr.heap[k]? = some (.cells cs t (0, 0))
theorem Fm.refl (B : Nat) (w : World) : Fm B w w := ⟨Below.refl _ _, fun _ _ _ _ _ _ h => h⟩
theorem Fm.step {B g : Nat} {w wr w2 : World} {A : Array Value} {t : TypeId} (h : Fm B w wr) (hg : wr.heap[g]? = some (.cells A t (0, 0))) (ht : t = 65 ∨ t = 112 ∨ t = 106) (hB : B ≤ g) (hgr : wr.grownBy w2 (some g)) : Fm B w w2 := by
  have lg := (Array.getElem?_eq_some_iff.1 hg).1
  refine ⟨h.b.trans (grown_bel hgr (by omega) hB), fun k cs t' n1 n2 n3 hk => ?_⟩
  have h1 := h.k k cs t' n1 n2 n3 hk
  refine (hgr.block k (Array.getElem?_eq_some_iff.1 h1).1 fun e => ?_).trans h1
  injection e with e
  subst e
  rw [hg] at h1
  injection h1 with h1
  injection h1 with _ h1 _
  rcases ht with ht | ht | ht
  · exact n1 (h1.symm.trans ht)
  · exact n2 (h1.symm.trans ht)
  · exact n3 (h1.symm.trans ht)
/-- While replicas are marked: q of them are. -/
structure Rst (B g a q : Nat) (ps : List RV) (w wr : World) (F : Nat → Int × Int × Int × Bool) : Prop where
  m : MQ wr g F ps
  f : ∀ j, j < q → F j = qf a j
  u : ∀ (k : Nat) (p : RV), ps[k]? = some p → HU B wr p
  h : ∀ (k : Nat) (p : RV), k < q → ps[k]? = some p → HM wr (a + 36 * k) p
  fm : Fm B w wr
theorem Rst.put {B g a q : Nat} {ps : List RV} {w wr : World} {F F' : Nat → Int × Int × Int × Bool} {i : Nat} {x : Value} (h : Rst B g a q ps w wr F) (hB : B ≤ g) (hm : MQ (wr.setCell ⟨g, i, none⟩ x) g F' ps) (hF : ∀ j, j < q → F' j = F j) : Rst B g a q ps w (wr.setCell ⟨g, i, none⟩ x) F' := by
  obtain ⟨A, hA, _⟩ := h.m
  have hk : ∀ k, k < wr.heap.size → k ≠ g → (wr.setCell ⟨g, i, none⟩ x).heap[k]? = wr.heap[k]? := fun k _ hn => blk_far hn _ _
  refine ⟨hm, fun j hj => (hF j hj).trans (h.f j hj), fun k p hp => (h.u k p hp).far (fun _ => ?_) hk, fun k p hq hp => (h.h k p hq hp).far (fun _ => ?_) hk, h.fm.step hA (by decide) hB (grown_set _ _)⟩
  · exact ⟨((h.u k p hp).kind hA).1 (by decide), ((h.u k p hp).kind hA).2 (by decide)⟩
  · exact ⟨((h.u k p hp).kind hA).1 (by decide), ((h.u k p hp).kind hA).2 (by decide)⟩
theorem Rst.next {B g a q : Nat} {ps : List RV} {w s w1 w2 : World} {F : Nat → Int × Int × Int × Bool} {p : RV} {gs gc : Nat} (h : Rst B g a q ps w s F) (hB : B ≤ gs ∧ B ≤ gc) (ap : Apart ps) (hq : ps[q]? = some p) (hF : F q = qf a q)
    (e : (p.sa = some ⟨gs, 0, none⟩ ∧ p.sc = 8 ∧ p.ca = some ⟨gc, 0, none⟩ ∧ p.cc = 8) ∧ (p.la = none ∧ p.lc = 0 ∧ p.ma = none ∧ p.mc = 0)) (m0 : ∃ f, MS s gs 8 f) (c0 : ∃ h, MC s gc 8 h)
    (m1 : ∃ f, MS w1 gs 8 f ∧ ∀ j, j < 8 → f j = mf (a + 36 * q + 4) j) (g1 : s.grownBy w1 (some gs)) (c1 : ∃ h, MC w2 gc 8 h ∧ ∀ j, j < 8 → h j = mtext (a + 36 * q + 28 + j)) (g2 : w1.grownBy w2 (some gc)) : Rst B g a (q + 1) ps w w2 F := by
  obtain ⟨f0, A, mA, _⟩ := m0
  obtain ⟨h0, C, cC, _⟩ := c0
  have hne : gs ≠ gc := fun e2 => by
    subst e2
    rw [mA] at cC
    simp at cC
  have k1 : ∀ k, k < s.heap.size → k ≠ gs → w1.heap[k]? = s.heap[k]? := fun k hk hn => g1.block k hk (fun e2 => hn (by injection e2))
  have k2 : ∀ k, k < w1.heap.size → k ≠ gc → w2.heap[k]? = w1.heap[k]? := fun k hk hn => g2.block k hk (fun e2 => hn (by injection e2))
  have cC1 : w1.heap[gc]? = some (.cells C 106 (0, 0)) := (k1 gc (Array.getElem?_eq_some_iff.1 cC).1 (Ne.symm hne)).trans cC
  have hapart : ∀ (k : Nat) (p' : RV), ps[k]? = some p' → k ≠ q → p'.sa ≠ some ⟨gs, 0, none⟩ ∧ p'.ca ≠ some ⟨gc, 0, none⟩ := fun k p' hp hk => by
    rcases Nat.lt_or_gt_of_ne hk with hl | hl
    · have := ap k q p' p hl hp hq
      rw [e.1.1, e.1.2.2.1] at this
      exact this
    · have := ap q k p p' hl hq hp
      rw [e.1.1, e.1.2.2.1] at this
      exact ⟨Ne.symm this.1, Ne.symm this.2⟩
  have hu1 : ∀ (k : Nat) (p' : RV), ps[k]? = some p' → k ≠ q → HU B w1 p' := fun k p' hp hk => (h.u k p' hp).far (fun _ => ⟨(hapart k p' hp hk).1, ((h.u k p' hp).kind mA).2 (by decide)⟩) k1
  have hu2 : ∀ (k : Nat) (p' : RV), ps[k]? = some p' → k ≠ q → HU B w2 p' := fun k p' hp hk => (hu1 k p' hp hk).far (fun _ => ⟨((hu1 k p' hp hk).kind cC1).1 (by decide), (hapart k p' hp hk).2⟩) k2
  obtain ⟨f1, m1, m1f⟩ := m1
  have hmq : HM w2 (a + 36 * q) p := ⟨gs, gc, e, ⟨f1, m1.kept (k2 gs m1.lt hne), m1f⟩, c1⟩
  refine ⟨?_, fun j hj => ?_, fun k p' hp => ?_, fun k p' hk hp => ?_, ?_⟩
  · obtain ⟨D, dD, dd⟩ := h.m
    have d1 : w1.heap[g]? = some (.cells D 65 (0, 0)) := (k1 g (Array.getElem?_eq_some_iff.1 dD).1 (fun e2 => by subst e2; rw [mA] at dD; simp at dD)).trans dD
    have d2 := (k2 g (Array.getElem?_eq_some_iff.1 d1).1 (fun e2 => by subst e2; rw [cC1] at d1; simp at d1)).trans d1
    exact ⟨D, d2, dd⟩
  · by_cases ej : j = q
    · subst ej; exact hF
    · exact h.f j (by omega)
  · by_cases ek : k = q
    · subst ek
      rw [hq] at hp
      cases hp
      obtain ⟨gs', gc', e', m', c'⟩ := hmq
      rw [e.1.1, e.1.2.2.1] at e'
      obtain ⟨f', m', _⟩ := m'
      obtain ⟨h', c', _⟩ := c'
      have e1 : gs = gs' := by have := e'.1.1; injection this with this; injection this
      have e2 : gc = gc' := by have := e'.1.2.2.1; injection this with this; injection this
      subst e1
      subst e2
      exact ⟨gs, gc, ⟨e.1, e.2, hB⟩, ⟨f', m'⟩, ⟨h', c'⟩⟩
    · exact hu2 k p' hp ek
  · by_cases ek : k = q
    · subst ek
      rw [hq] at hp
      cases hp
      exact hmq
    · have h1 : HM w1 (a + 36 * k) p' := (h.h k p' (by omega) hp).far (fun _ => ⟨(hapart k p' hp ek).1, ((h.u k p' hp).kind mA).2 (by decide)⟩) k1
      exact h1.far (fun _ => ⟨((hu1 k p' hp ek).kind cC1).1 (by decide), (hapart k p' hp ek).2⟩) k2
  · exact (h.fm.step mA (by decide) hB.1 g1).step cC1 (by decide) hB.2 g2
end Go.Proofs.Ytdhmmbbdckahmaa.Ng
