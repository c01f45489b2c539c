/- Those that wait in a slice from anywhere in a block of one's own; a book at work. -/
import Derived.Test.YtlgfeohoebmbcaaGreatJa
import Derived.Test.YtlgfeohoebmbcaaGreatOw
import Derived.Deep.RegionLaw
import Derived.Deep.RegionHeldLaw
namespace Go.Proofs.YtlgfeohoebmbcaaGreat.Jb
open Go.RowKit Go.Proofs.YtlgfeohoebmbcaaGreat.Sl Go.Proofs.YtlgfeohoebmbcaaGreat.By Go.Proofs.YtlgfeohoebmbcaaGreat.Ap Go.Proofs.YtlgfeohoebmbcaaGreat.Tb Go.Proofs.YtlgfeohoebmbcaaGreat.Tw Go.Proofs.YtlgfeohoebmbcaaGreat.Mw Go.Proofs.YtlgfeohoebmbcaaGreat.Wa Go.Proofs.YtlgfeohoebmbcaaGreat.Bk Go.Proofs.YtlgfeohoebmbcaaGreat.Tp Go.Proofs.YtlgfeohoebmbcaaGreat.Da Go.Proofs.YtlgfeohoebmbcaaGreat.Ja
open Go.Proofs.YtlgfeohoebmbcaaGreat.Lo (LkA uV clL OwnL own_block kind_ne Apart)
open Go.Proofs.YtlgfeohoebmbcaaGreat.Tx (blk_cell blk_set blk_far blk_new bel_new)

/-- Those that wait, from any place of a block on. -/
def OwnO (W : World) (B : Nat) (v : Value) (ws : List Wt) : Prop :=
  (v = .slice none 0 0 ∧ ws = []) ∨ ∃ g o cap cur, v = .slice (some ⟨g, o, none⟩) ws.length cap ∧ B ≤ g ∧ W.heap[g]? = some (.cells cur 111 (0, 0)) ∧ ws.length ≤ cap ∧ cap ≤ maxLen ∧ o + cap * 2 ≤ cur.size ∧ (cur.toList.drop o).take (ws.length * 2) = ws.flatMap clW
theorem OwnO.of {W : World} {B : Nat} {v : Value} {ws : List Wt} (h : OwnW W B v ws) : OwnO W B v ws := by
  obtain ⟨_, ⟨rfl, h0⟩ | ⟨g, cap, cur, rfl, h1, h2, h3, h4, h5, h6⟩⟩ := h
  · exact .inl ⟨rfl, List.length_eq_zero_iff.1 h0⟩
  · exact .inr ⟨g, 0, cap, cur, rfl, h1, h2, h3, h4, by omega, by simpa using h6⟩
theorem OwnO.slice {W : World} {B : Nat} {v : Value} {ws : List Wt} (h : OwnO W B v ws) : ∃ a cap, v = .slice a ws.length cap := by
  rcases h with ⟨rfl, rfl⟩ | ⟨g, o, cap, cur, rfl, _⟩
  · exact ⟨none, 0, rfl⟩
  · exact ⟨_, cap, rfl⟩
theorem OwnO.lt {W : World} {B : Nat} {v : Value} {ws : List Wt} (h : OwnO W B v ws) : ∀ g, v.ownBlock = some g → B ≤ g ∧ g < W.heap.size := by
  rcases h with ⟨rfl, rfl⟩ | ⟨g, o, cap, cur, rfl, h1, h2, _⟩
  · intro g hg; cases hg
  · intro k hk; cases hk; exact ⟨h1, (Array.getElem?_eq_some_iff.1 h2).1⟩
theorem OwnO.kept {W W' : World} {B : Nat} {v : Value} {ws : List Wt} (h : OwnO W B v ws) (hk : ∀ g, v.ownBlock = some g → W'.heap[g]? = W.heap[g]?) : OwnO W' B v ws := by
  rcases h with h | ⟨g, o, cap, cur, rfl, h1, h2, h3⟩
  · exact .inl h
  · exact .inr ⟨g, o, cap, cur, rfl, h1, (hk g rfl).trans h2, h3⟩
theorem OwnO.below {W W' : World} {B : Nat} {v : Value} {ws : List Wt} (h : OwnO W B v ws) (hb : Below W.heap.size W W') : OwnO W' B v ws := h.kept fun g hg => hb.block g (h.lt g hg).2
theorem OwnO.mono {W : World} {B B' : Nat} {v : Value} {ws : List Wt} (h : OwnO W B v ws) (hb : B' ≤ B) : OwnO W B' v ws := by
  rcases h with h | ⟨g, o, cap, cur, rfl, h1, h2⟩
  · exact .inl h
  · exact .inr ⟨g, o, cap, cur, rfl, Nat.le_trans hb h1, h2⟩
theorem OwnO.kind {W : World} {B : Nat} {v : Value} {ws : List Wt} (h : OwnO W B v ws) {b : Nat} {ob : Obj} (hb : W.heap[b]? = some ob) (hn : ∀ cs, ob ≠ .cells cs 111 (0, 0)) : v.ownBlock ≠ some b := by
  rcases h with ⟨rfl, rfl⟩ | ⟨g, o, cap, cur, rfl, _, h2, _⟩
  · intro e; cases e
  · intro e; cases e; rw [h2] at hb; cases hb; exact hn cur rfl
theorem OwnO.row {W : World} {B : Nat} {v : Value} {ws : List Wt} (h : OwnO W B v ws) : RowW W v ws := by
  rcases h with ⟨rfl, rfl⟩ | ⟨g, o, cap, cur, rfl, hB, hg, hc, _, hs, htk⟩
  · exact ⟨none, 0, rfl, .inl rfl⟩
  · refine ⟨_, cap, rfl, .inr ⟨g, o, rfl, hc, (Array.getElem?_eq_some_iff.1 hg).1, fun i x hi => ?_⟩⟩
    have hil := (List.getElem?_eq_some_iff.1 hi).1
    have key : ∀ j u, j < 2 → (clW x)[j]? = some u → W.cell? ⟨g, o + i * 2 + j, none⟩ = some u := fun j u hj hu => by
      rw [Joins.cell_of_block hg, ← Array.getElem?_toList]
      have h1 := atW ws i x j hi hj
      rw [← htk, List.getElem?_take, if_pos (by omega), List.getElem?_drop] at h1
      rw [show o + i * 2 + j = o + (i * 2 + j) by omega, h1, hu]
    exact ⟨key 0 _ (by decide) rfl, key 1 _ (by decide) rfl⟩
/-- All but the first one. -/
theorem OwnO.tail {W : World} {B g o n cap : Nat} {x : Wt} {ws : List Wt} (h : OwnO W B (.slice (some ⟨g, o, none⟩) n cap) (x :: ws)) (o' : Nat) (ho : o' = o + 2 ∨ (o' = o ∧ cap = 1)) : OwnO W B (.slice (some ⟨g, o', none⟩) ws.length (cap - 1)) ws := by
  rcases h with ⟨h, _⟩ | ⟨g', o1, cap', cur, e, h1, h2, h3, h4, h5, h6⟩
  · cases h
  · cases e
    simp only [List.length_cons] at h3 h6
    rcases ho with rfl | ⟨rfl, hc⟩
    · refine .inr ⟨g, o + 2, cap - 1, cur, rfl, h1, h2, by omega, by omega, by omega, ?_⟩
      rw [List.flatMap_cons] at h6
      have h7 := congrArg (List.drop 2) h6
      rw [List.drop_take, List.drop_drop] at h7
      rw [show (ws.length + 1) * 2 - 2 = ws.length * 2 by omega] at h7
      rw [h7]
      rfl
    · obtain rfl : ws = [] := List.length_eq_zero_iff.1 (by omega)
      exact .inr ⟨g, o', cap - 1, cur, rfl, h1, h2, by simp, by omega, by omega, by simp⟩
/-- What a book's functions keep: all but its box, its maps, and those that wait. -/
structure Fx (p bL bS : Nat) (w w' : World) : Prop where
  size : w.heap.size ≤ w'.heap.size
  block : ∀ (b : Nat) (o : Obj), w.heap[b]? = some o → b ≠ p → b ≠ bL → b ≠ bS → (∀ cs, o ≠ .cells cs 111 (0, 0)) → w'.heap[b]? = some o
theorem Fx.refl (p bL bS : Nat) (w : World) : Fx p bL bS w w := ⟨Nat.le_refl _, fun _ _ h _ _ _ _ => h⟩
theorem Fx.trans {p bL bS : Nat} {w w1 w2 : World} (h : Fx p bL bS w w1) (g : Fx p bL bS w1 w2) : Fx p bL bS w w2 := ⟨Nat.le_trans h.size g.size, fun b o hb h1 h2 h3 h4 => g.block b o (h.block b o hb h1 h2 h3 h4) h1 h2 h3 h4⟩
theorem Fx.of_below {p bL bS : Nat} {w w' : World} (h : Below w.heap.size w w') : Fx p bL bS w w' := ⟨h.size, fun b _ hb _ _ _ _ => (h.block b (Array.getElem?_eq_some_iff.1 hb).1).trans hb⟩
/-- Nothing but the book's box is written. -/
structure Bx (p : Nat) (w w' : World) : Prop where
  size : w.heap.size ≤ w'.heap.size
  block : ∀ b, b < w.heap.size → b ≠ p → w'.heap[b]? = w.heap[b]?
theorem Bx.of_below {p : Nat} {w w' : World} (h : Below w.heap.size w w') : Bx p w w' := ⟨h.size, fun b hb _ => h.block b hb⟩
theorem Bx.trans {p : Nat} {w w1 w2 : World} (h : Bx p w w1) (g : Bx p w1 w2) : Bx p w w2 := ⟨Nat.le_trans h.size g.size, fun b hb hn => (g.block b (Nat.lt_of_lt_of_le hb h.size) hn).trans (h.block b hb hn)⟩
theorem Bx.fx {p bL bS : Nat} {w w' : World} (h : Bx p w w') : Fx p bL bS w w' := ⟨h.size, fun b _ hb h1 _ _ _ => (h.block b (Array.getElem?_eq_some_iff.1 hb).1 h1).trans hb⟩
theorem bxBox (p : Nat) (w : World) (i : Nat) (z : Value) : Bx p w (w.setCell ⟨p, i, none⟩ z) := ⟨by simp, fun b _ h1 => blk_far h1 i z⟩
/-- A book at work: its box, its maps, those that wait. -/
structure BK (w0 w : World) (B p bL bS : Nat) (T : Tab) (ps : List LkA) : Prop where
  hp : w.heap[p]? = some (.cells #[.int .i64 T.tm, .int .i64 T.nx, .map (some bL), .map (some bS)] 102 (0, 0))
  ml : MapL w bL ps.length (mL ps)
  ms : MapS w bS T.ss.length (mS T.ss)
  ow : ∀ q ∈ ps, OwnO w B (uV q) q.1.ws
  ap : Apart ps
  eq : ps.map (·.1) = T.ls
  nm : NmA T.ls
  cl : ClA T.ss
  sn : ∀ x ∈ T.ls, x.n.size ≤ 1000000
  sc : ∀ s ∈ T.ss, 0 ≤ s.c ∧ s.c ≤ 255
  bel : Below B w0 w
  b0 : B ≤ w0.heap.size
  le : B ≤ p ∧ B ≤ bL ∧ B ≤ bS ∧ bL ≠ bS
section
variable {w0 w w' : World} {B p bL bS : Nat} {T : Tab} {ps : List LkA}
theorem BK.plt (h : BK w0 w B p bL bS T ps) : p < w.heap.size := (Array.getElem?_eq_some_iff.1 h.hp).1
theorem BK.llt (h : BK w0 w B p bL bS T ps) : bL < w.heap.size := h.ml.lt
theorem BK.slt (h : BK w0 w B p bL bS T ps) : bS < w.heap.size := h.ms.lt
theorem BK.size (h : BK w0 w B p bL bS T ps) : B ≤ w.heap.size := Nat.le_trans h.b0 h.bel.size
theorem map_obj {k : TypeId} {b n : Nat} {D : DataW Value} (h : w.ownsMap Tryz.prog k RV b n D) : ∃ es c, w.heap[b]? = some (.map es c) := by
  obtain ⟨es, c, h, _⟩ := h
  exact ⟨es, c, h⟩
theorem BK.ne (h : BK w0 w B p bL bS T ps) : p ≠ bL ∧ p ≠ bS := by
  obtain ⟨_, _, h1⟩ := map_obj h.ml
  obtain ⟨_, _, h2⟩ := map_obj h.ms
  have h3 := h.hp
  constructor
  · intro e; subst e; rw [h1] at h3; cases h3
  · intro e; subst e; rw [h2] at h3; cases h3
theorem BK.len (h : BK w0 w B p bL bS T ps) : ps.length = T.ls.length := by rw [← h.eq, List.length_map]
/-- More memory. -/
theorem BK.up (h : BK w0 w B p bL bS T ps) (hb : Below w.heap.size w w') : BK w0 w' B p bL bS T ps :=
  ⟨(hb.block p h.plt).trans h.hp, map_kept h.ml (hb.block bL h.llt), map_kept h.ms (hb.block bS h.slt), fun q hq => (h.ow q hq).below hb, h.ap, h.eq, h.nm, h.cl, h.sn, h.sc, h.bel.trans (hb.mono h.size), h.b0, h.le⟩
/-- Another block is written. -/
theorem BK.far (h : BK w0 w B p bL bS T ps) {y : Nat} {ob : Obj} (hy : w.heap[y]? = some ob) (h1 : y ≠ p) (h2 : ∀ es c, ob ≠ .map es c) (h3 : ∀ cs, ob ≠ .cells cs 111 (0, 0)) (hB : B ≤ y) (i : Nat) (v : Value) : BK w0 (w.setCell ⟨y, i, none⟩ v) B p bL bS T ps := by
  have e1 : bL ≠ y := fun e => by obtain ⟨es, c, hm⟩ := map_obj h.ml; rw [e, hy] at hm; cases hm; exact h2 _ _ rfl
  have e2 : bS ≠ y := fun e => by obtain ⟨es, c, hm⟩ := map_obj h.ms; rw [e, hy] at hm; cases hm; exact h2 _ _ rfl
  exact ⟨(blk_far (Ne.symm h1) i v).trans h.hp, map_kept h.ml (blk_far e1 i v), map_kept h.ms (blk_far e2 i v), fun q hq => (h.ow q hq).kept (fun g hg => blk_far (fun e => (h.ow q hq).kind hy h3 (by rw [hg, e])) i v), h.ap, h.eq, h.nm, h.cl, h.sn, h.sc, Below.setCell h.bel (p := ⟨y, i, none⟩) hB v, h.b0, h.le⟩
/-- The book's box is written. -/
theorem BK.box {T' : Tab} (h : BK w0 w B p bL bS T ps) (i : Nat) (z : Value) (hl : T'.ls = T.ls) (hs : T'.ss = T.ss) (hz : (#[.int .i64 T.tm, .int .i64 T.nx, .map (some bL), .map (some bS)] : Array Value).setIfInBounds i z = #[.int .i64 T'.tm, .int .i64 T'.nx, .map (some bL), .map (some bS)]) : BK w0 (w.setCell ⟨p, i, none⟩ z) B p bL bS T' ps := by
  refine ⟨by rw [← hz]; exact blk_set h.hp i z, map_kept h.ml (blk_far (Ne.symm h.ne.1) i z), by rw [hs]; exact map_kept h.ms (blk_far (Ne.symm h.ne.2) i z), fun q hq => (h.ow q hq).kept (fun g hg => blk_far (fun e => (h.ow q hq).kind h.hp (fun cs => by intro e; cases e) (by rw [hg, e])) i z), h.ap, h.eq.trans hl.symm, by rw [hl]; exact h.nm, by rw [hs]; exact h.cl, by rw [hl]; exact h.sn, by rw [hs]; exact h.sc, Below.setCell h.bel (p := ⟨p, i, none⟩) h.le.1 z, h.b0, h.le⟩
theorem fxBox (p bL bS : Nat) (w : World) (i : Nat) (z : Value) : Fx p bL bS w (w.setCell ⟨p, i, none⟩ z) := ⟨by simp, fun b o hb h1 _ _ _ => (blk_far h1 i z).trans hb⟩
end
end Go.Proofs.YtlgfeohoebmbcaaGreat.Jb
