/- A table at work in memory of the call's own: its box, its locks, those that wait (apart from one another), its Seens; cells that are written. -/
import Derived.Test.YtlgfeohoebmbcaaGreatOw
import Derived.Test.YtlgfeohoebmbcaaGreatFa
namespace Go.Proofs.YtlgfeohoebmbcaaGreat.Ea
open Go.RowKit Go.Proofs.YtlgfeohoebmbcaaGreat.Sl Go.Proofs.YtlgfeohoebmbcaaGreat.By Go.Proofs.YtlgfeohoebmbcaaGreat.Ap Go.Proofs.YtlgfeohoebmbcaaGreat.Tb Go.Proofs.YtlgfeohoebmbcaaGreat.Tw Go.Proofs.YtlgfeohoebmbcaaGreat.Mw Go.Proofs.YtlgfeohoebmbcaaGreat.Wa Go.Proofs.YtlgfeohoebmbcaaGreat.Tp Go.Proofs.YtlgfeohoebmbcaaGreat.Da
open Go.Proofs.YtlgfeohoebmbcaaGreat.Lo (LkA uV clL OwnL OwnL.kept OwnL.lt OwnL.below OwnL.row OwnL.slice own_block kind_ne Apart)
open Go.Proofs.YtlgfeohoebmbcaaGreat.Tx (blk_cell blk_set blk_far blk_new bel_new)

structure TM (w0 w : World) (B x : Nat) (T : Tab) (v2 v3 : Value) (ps : List LkA) : Prop where
  hx : w.heap[x]? = some (.cells #[.int .i64 T.tm, .int .i64 T.nx, v2, v3] 30 (0, 0))
  ol : OwnL w B v2 ps
  os : OwnS w B v3 T.ss
  ow : ∀ p ∈ ps, OwnW w B (uV p) p.1.ws
  ap : Apart ps
  eq : ps.map (·.1) = T.ls
  bel : Below B w0 w
  b0 : B ≤ w0.heap.size
  le : B ≤ x
theorem TM.size {w0 w : World} {B x : Nat} {T : Tab} {v2 v3 : Value} {ps : List LkA} (h : TM w0 w B x T v2 v3 ps) : B ≤ w.heap.size := Nat.le_trans h.b0 h.bel.size
theorem TM.xlt {w0 w : World} {B x : Nat} {T : Tab} {v2 v3 : Value} {ps : List LkA} (h : TM w0 w B x T v2 v3 ps) : x < w.heap.size := (Array.getElem?_eq_some_iff.1 h.hx).1
theorem TM.up {w0 w w' : World} {B x : Nat} {T : Tab} {v2 v3 : Value} {ps : List LkA} (h : TM w0 w B x T v2 v3 ps) (hb : Below w.heap.size w w') : TM w0 w' B x T v2 v3 ps :=
  ⟨(hb.block x h.xlt).trans h.hx, h.ol.below hb, h.os.below hb, fun p hp => (h.ow p hp).below hb, h.ap, h.eq, h.bel.trans (hb.mono h.size), h.b0, h.le⟩
theorem TM.at {w0 w : World} {B x : Nat} {T : Tab} {v2 v3 : Value} {ps : List LkA} (h : TM w0 w B x T v2 v3 ps) {k : Nat} {y : Lk} (hk : T.ls[k]? = some y) : ∃ p, ps[k]? = some p ∧ p.1 = y := by
  rw [← h.eq, List.getElem?_map] at hk
  obtain ⟨p, hp, e⟩ := Option.map_eq_some_iff.1 hk
  exact ⟨p, hp, e⟩
theorem TM.len {w0 w : World} {B x : Nat} {T : Tab} {v2 v3 : Value} {ps : List LkA} (h : TM w0 w B x T v2 v3 ps) : ps.length = T.ls.length := by rw [← h.eq, List.length_map]
/-- Where the locks lie. -/
theorem TM.row {w0 w : World} {B x : Nat} {T : Tab} {v2 v3 : Value} {ps : List LkA} (h : TM w0 w B x T v2 v3 ps) {k : Nat} {p : LkA} (hk : ps[k]? = some p) :
    ∃ g cap, v2 = .slice (some ⟨g, 0, none⟩) ps.length cap ∧ B ≤ g ∧ g ≠ x ∧ ps.length ≤ cap ∧ (∀ j u, (clL p)[j]? = some u → w.cell? ⟨g, k * 5 + j, none⟩ = some u ∧ w.frozen? ⟨g, k * 5 + j, none⟩ = false) := by
  have hlt : k < ps.length := (List.getElem?_eq_some_iff.1 hk).1
  obtain ⟨hl, h1 | ⟨g, cap, cur, e, hB, hg, hc, hm, hs, htk⟩⟩ := h.ol
  · rw [h1.2] at hlt; exact absurd hlt (by omega)
  refine ⟨g, cap, e, hB, fun hgx => by rw [hgx] at hg; have := h.hx; rw [hg] at this; injection this with this; injection this with _ h2 _; exact absurd h2 (by decide), hc, fun j u hj => ?_⟩
  have hj5 : j < 5 := (List.getElem?_eq_some_iff.1 hj).1
  have h1 := Lo.atL ps k p j hk hj5
  rw [← htk, List.getElem?_take, if_pos (by omega), hj] at h1
  refine ⟨by rw [Joins.cell_of_block hg, ← Array.getElem?_toList]; exact h1, by simp [World.frozen?, hg]⟩
theorem flat_set : ∀ (ps : List LkA) (k j : Nat) (p q : LkA) (z : Value), ps[k]? = some p → clL q = (clL p).set j z → j < 5 → (ps.flatMap clL).set (k * 5 + j) z = (ps.set k q).flatMap clL
  | [], k, j, p, q, z, h, _, _ => by simp at h
  | a :: r, 0, j, p, q, z, h, hq, hj => by
    simp at h; subst h
    rw [List.flatMap_cons, List.set_cons_zero, List.flatMap_cons, hq, Nat.zero_mul, Nat.zero_add, List.set_append_left _ _ (by show _ < 5; omega)]
  | a :: r, k + 1, j, p, q, z, h, hq, hj => by
    have h' : r[k]? = some p := by simpa using h
    rw [List.flatMap_cons, List.set_cons_succ, List.flatMap_cons, List.set_append_right _ _ (by show 5 ≤ _; omega)]
    rw [show (k + 1) * 5 + j - (clL a).length = k * 5 + j by show _ - 5 = _; omega, flat_set r k j p q z h' hq hj]
/-- One cell of one lock is written. -/
theorem OwnL.set {w : World} {B : Nat} {g cap n : Nat} {ps : List LkA} (h : OwnL w B (.slice (some ⟨g, 0, none⟩) n cap) ps) {k j : Nat} {p q : LkA} {z : Value} (hk : ps[k]? = some p) (hq : clL q = (clL p).set j z) (hj : j < 5) :
    OwnL (w.setCell ⟨g, k * 5 + j, none⟩ z) B (.slice (some ⟨g, 0, none⟩) n cap) (ps.set k q) := by
  have hlt : k < ps.length := (List.getElem?_eq_some_iff.1 hk).1
  obtain ⟨hl, h1 | ⟨g', cap', cur, e, hB, hg, hc, hm, hs, htk⟩⟩ := h
  · exact absurd h1.1 (by simp)
  cases e
  refine ⟨by rw [← flat_set ps k j p q z hk hq hj, List.length_set, List.length_set]; exact hl, .inr ⟨g, cap, cur.setIfInBounds (k * 5 + j) z, by rw [List.length_set], hB, blk_set hg _ _, by rw [List.length_set]; exact hc, hm, by simpa using hs, ?_⟩⟩
  rw [List.length_set, ← flat_set ps k j p q z hk hq hj, ← htk, Array.toList_setIfInBounds, List.take_set]
theorem map_set {ps : List LkA} {k : Nat} {q : LkA} {ls : List Lk} (h : ps.map (·.1) = ls) : (ps.set k q).map (·.1) = ls.set k q.1 := by rw [List.map_set, h]
/-- A field of a lock is written. -/
theorem TM.put {w0 w : World} {B x : Nat} {T : Tab} {v3 : Value} {ps : List LkA} {g cap n : Nat} (h : TM w0 w B x T (.slice (some ⟨g, 0, none⟩) n cap) v3 ps) {k j : Nat} {p q : LkA} {z : Value} (hk : ps[k]? = some p) (hq : clL q = (clL p).set j z) (hj : j < 5) (hw : OwnW w B (uV q) q.1.ws) (ha : Apart (ps.set k q)) (hg : B ≤ g) :
    TM w0 (w.setCell ⟨g, k * 5 + j, none⟩ z) B x { T with ls := T.ls.set k q.1 } (.slice (some ⟨g, 0, none⟩) n cap) v3 (ps.set k q) := by
  obtain ⟨cl, hcl⟩ := own_block h.ol (g := g) rfl
  have far : ∀ (u : Value) (ws : List Wt), OwnW w B u ws → OwnW (w.setCell ⟨g, k * 5 + j, none⟩ z) B u ws := fun u ws hu => hu.kept (fun g' hg' => by
    obtain ⟨c1, h1⟩ := own_block hu hg'
    exact blk_far (kind_ne h1 hcl (by decide)) _ _)
  refine ⟨(blk_far (kind_ne h.hx hcl (by decide)) _ _).trans h.hx, OwnL.set h.ol hk hq hj, h.os.kept (fun g' hg' => ?_), fun a ha' => ?_, ha, map_set h.eq, Below.setCell h.bel (p := ⟨g, _, none⟩) hg z, h.b0, h.le⟩
  · obtain ⟨c1, h1⟩ := own_block h.os hg'
    exact blk_far (kind_ne h1 hcl (by decide)) _ _
  · rcases List.mem_or_eq_of_mem_set ha' with ha' | rfl
    · exact far _ _ (h.ow a ha')
    · exact far _ _ hw
/-- The time or the next token is written. -/
theorem TM.box {w0 w : World} {B x : Nat} {T T' : Tab} {v2 v3 : Value} {ps : List LkA} (h : TM w0 w B x T v2 v3 ps) (i : Nat) (z : Value) (hs : T'.ss = T.ss) (hl : T'.ls = T.ls) (hz : (#[.int .i64 T.tm, .int .i64 T.nx, v2, v3] : Array Value).setIfInBounds i z = #[.int .i64 T'.tm, .int .i64 T'.nx, v2, v3]) :
    TM w0 (w.setCell ⟨x, i, none⟩ z) B x T' v2 v3 ps := by
  refine ⟨by rw [blk_set h.hx, hz], h.ol.kept (fun g hg => ?_), hs ▸ (h.os.kept (fun g hg => by obtain ⟨c1, h1⟩ := own_block h.os hg; exact blk_far (kind_ne h1 h.hx (by decide)) _ _)), fun p hp => (h.ow p hp).kept (fun g hg => ?_), h.ap, by rw [hl]; exact h.eq, Below.setCell h.bel (p := ⟨x, _, none⟩) h.le z, h.b0, h.le⟩
  · obtain ⟨c1, h1⟩ := own_block h.ol hg
    exact blk_far (kind_ne h1 h.hx (by decide)) _ _
  · obtain ⟨c1, h1⟩ := own_block (h.ow p hp) hg
    exact blk_far (kind_ne h1 h.hx (by decide)) _ _
/-- Blocks of other kinds than a table's are as they were. -/
def Oth (w w' : World) : Prop := ∀ (b : Nat) (cs : Array Value) (e : TypeId), w.heap[b]? = some (.cells cs e (0, 0)) → e ≠ 30 → e ≠ 95 → e ≠ 111 → e ≠ 113 → w'.heap[b]? = some (.cells cs e (0, 0))
theorem Oth.refl (w : World) : Oth w w := fun _ _ _ h _ _ _ _ => h
theorem Oth.trans {w w1 w2 : World} (h : Oth w w1) (g : Oth w1 w2) : Oth w w2 := fun b cs e hb h1 h2 h3 h4 => g b cs e (h b cs e hb h1 h2 h3 h4) h1 h2 h3 h4
theorem Oth.of_below {w w' : World} (h : Below w.heap.size w w') : Oth w w' := fun b _ _ hb _ _ _ _ => (h.block b (Array.getElem?_eq_some_iff.1 hb).1).trans hb
theorem Oth.drew {w w' : World} (h : Oth w w') : Oth w w'.drew := h
theorem TM.othL {w0 w : World} {B x : Nat} {T : Tab} {v3 : Value} {ps : List LkA} {g cap n : Nat} (h : TM w0 w B x T (.slice (some ⟨g, 0, none⟩) n cap) v3 ps) (i : Nat) (z : Value) : Oth w (w.setCell ⟨g, i, none⟩ z) := fun _ _ _ hb _ h2 _ _ => by
  obtain ⟨cl, hcl⟩ := own_block h.ol (g := g) rfl
  exact (blk_far (kind_ne hb hcl h2) _ _).trans hb
theorem TM.othX {w0 w : World} {B x : Nat} {T : Tab} {v2 v3 : Value} {ps : List LkA} (h : TM w0 w B x T v2 v3 ps) (i : Nat) (z : Value) : Oth w (w.setCell ⟨x, i, none⟩ z) := fun _ _ _ hb h1 _ _ _ => (blk_far (kind_ne hb h.hx h1) _ _).trans hb
/-- A block of another kind is written. -/
theorem TM.far {w0 w : World} {B x : Nat} {T : Tab} {v2 v3 : Value} {ps : List LkA} (h : TM w0 w B x T v2 v3 ps) {r : Nat} {cs : Array Value} {e : TypeId} (hr : w.heap[r]? = some (.cells cs e (0, 0))) (h1 : e ≠ 30) (h2 : e ≠ 95) (h3 : e ≠ 111) (h4 : e ≠ 113) (hB : B ≤ r) (i : Nat) (z : Value) : TM w0 (w.setCell ⟨r, i, none⟩ z) B x T v2 v3 ps := by
  refine ⟨(blk_far (kind_ne h.hx hr (Ne.symm h1)) _ _).trans h.hx, h.ol.kept (fun g hg => ?_), h.os.kept (fun g hg => ?_), fun p hp => (h.ow p hp).kept (fun g hg => ?_), h.ap, h.eq, Below.setCell h.bel (p := ⟨r, _, none⟩) hB z, h.b0, h.le⟩
  · obtain ⟨c1, hc⟩ := own_block h.ol hg
    exact blk_far (kind_ne hc hr (Ne.symm h2)) _ _
  · obtain ⟨c1, hc⟩ := own_block h.os hg
    exact blk_far (kind_ne hc hr (Ne.symm h4)) _ _
  · obtain ⟨c1, hc⟩ := own_block (h.ow p hp) hg
    exact blk_far (kind_ne hc hr (Ne.symm h3)) _ _
end Go.Proofs.YtlgfeohoebmbcaaGreat.Ea
