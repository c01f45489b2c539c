/- A lock is put back into a book; time goes on. -/
import Derived.Test.YtlgfeohoebmbcaaGreatJg
import Derived.Test.YtlgfeohoebmbcaaGreatJd
import Derived.Test.YtlgfeohoebmbcaaGreatEc
namespace Go.Proofs.YtlgfeohoebmbcaaGreat.Jh
open Go.RowKit Go.Proofs.YtlgfeohoebmbcaaGreat.Sl Go.Proofs.YtlgfeohoebmbcaaGreat.By Go.Proofs.YtlgfeohoebmbcaaGreat.Ap Go.Proofs.YtlgfeohoebmbcaaGreat.Tb Go.Proofs.YtlgfeohoebmbcaaGreat.Tw Go.Proofs.YtlgfeohoebmbcaaGreat.Mw Go.Proofs.YtlgfeohoebmbcaaGreat.Wa Go.Proofs.YtlgfeohoebmbcaaGreat.Bk Go.Proofs.YtlgfeohoebmbcaaGreat.Tp Go.Proofs.YtlgfeohoebmbcaaGreat.Da Go.Proofs.YtlgfeohoebmbcaaGreat.Ja Go.Proofs.YtlgfeohoebmbcaaGreat.Jb Go.Proofs.YtlgfeohoebmbcaaGreat.Jc
open Go.Proofs.YtlgfeohoebmbcaaGreat.Lo (LkA uV clL OwnL own_block kind_ne Apart nest2 OwnL.below OwnL.slice OwnL.kept OwnL.lt atL)
open Go.Proofs.YtlgfeohoebmbcaaGreat.Tx (blk_cell blk_set blk_far blk_new bel_new)
open Go.Proofs.YtlgfeohoebmbcaaGreat.Je Go.Proofs.YtlgfeohoebmbcaaGreat.Jf Go.Proofs.YtlgfeohoebmbcaaGreat.Jd
open Go.Proofs.YtlgfeohoebmbcaaGreat.Ea (mid mid_at mid_0 mid_len mid_all mid_set mid_here mid_same Tk)
theorem tightL {w : World} {b n : Nat} {qs : List LkA} (h : MapL w b n (mL qs)) : MapL w b qs.length (mL qs) := by
  obtain ⟨es, c, h1, h2, h3, h4⟩ := h
  refine ⟨es, c, h1, h2, ?_, h4⟩
  have e := congrArg Maps.size h4
  rw [show Maps.size (mL qs) = qs.length from size_mapOf qs] at e
  rw [e]
  simp [Maps.size, length_sorted]
theorem tightS {w : World} {b n : Nat} {ss : List Sn} (h : MapS w b n (mS ss)) : MapS w b ss.length (mS ss) := by
  obtain ⟨es, c, h1, h2, h3, h4⟩ := h
  refine ⟨es, c, h1, h2, ?_, h4⟩
  have e := congrArg Maps.size h4
  rw [show Maps.size (mS ss) = ss.length from size_mapOf ss] at e
  rw [e]
  simp [Maps.size, length_sorted]
section
variable {w0 w w' : World} {B p bL bS : Nat} {T : Tab} {ps : List LkA}
/-- What the book's other parts are when one of its maps is written. -/
theorem grown_fxL (hg : w.grownBy w' (some bL)) : Fx p bL bS w w' := ⟨hg.size, fun b o hb _ h2 _ _ => (hg.block b (Array.getElem?_eq_some_iff.1 hb).1 (fun e => h2 (by injection e))).trans hb⟩
theorem grown_fxS (hg : w.grownBy w' (some bS)) : Fx p bL bS w w' := ⟨hg.size, fun b o hb _ _ h3 _ => (hg.block b (Array.getElem?_eq_some_iff.1 hb).1 (fun e => h3 (by injection e))).trans hb⟩
theorem bk_grownL (h : BK w0 w B p bL bS T ps) {n : Nat} {ls : List Lk} {qs : List LkA} (hm : MapL w' bL n (mL qs)) (hg : w.grownBy w' (some bL)) (he : qs.map (·.1) = ls) (how : ∀ q ∈ qs, OwnO w B (uV q) q.1.ws) (hap : Apart qs) (hn : NmA ls) (hs : ∀ x ∈ ls, x.n.size ≤ 1000000) : BK w0 w' B p bL bS { T with ls := ls } qs := by
  have k : ∀ j, j < w.heap.size → j ≠ bL → w'.heap[j]? = w.heap[j]? := fun j hj hne => hg.block j hj (fun e => hne (by injection e))
  have hL := map_obj h.ml
  refine ⟨(k p h.plt h.ne.1).trans h.hp, tightL hm, map_kept h.ms (k bS h.slt (Ne.symm h.le.2.2.2)), fun q hq => (how q hq).kept (fun g hg' => k g ((how q hq).lt g hg').2 (fun e => ?_)), hap, he, hn, h.cl, hs, h.sc, ⟨hg.os.trans h.bel.os, hg.tape.trans h.bel.tape, hg.output.trans h.bel.output, Nat.le_trans h.bel.size hg.size, fun j hj => (k j (Nat.lt_of_lt_of_le hj h.size) (by have := h.le; omega)).trans (h.bel.block j hj)⟩, h.b0, h.le⟩
  obtain ⟨es, c, hm0⟩ := hL
  exact (how q hq).kind hm0 (fun cs => by intro e; cases e) (by rw [hg', e])
theorem bk_grownS (h : BK w0 w B p bL bS T ps) {n : Nat} {ss : List Sn} (hm : MapS w' bS n (mS ss)) (hg : w.grownBy w' (some bS)) (hc : ClA ss) (hs : ∀ s ∈ ss, 0 ≤ s.c ∧ s.c ≤ 255) : BK w0 w' B p bL bS { T with ss := ss } ps := by
  have k : ∀ j, j < w.heap.size → j ≠ bS → w'.heap[j]? = w.heap[j]? := fun j hj hne => hg.block j hj (fun e => hne (by injection e))
  have hL := map_obj h.ms
  refine ⟨(k p h.plt h.ne.2).trans h.hp, map_kept h.ml (k bL h.llt h.le.2.2.2), tightS hm, fun q hq => (h.ow q hq).kept (fun g hg' => k g ((h.ow q hq).lt g hg').2 (fun e => ?_)), h.ap, h.eq, h.nm, hc, h.sn, hs, ⟨hg.os.trans h.bel.os, hg.tape.trans h.bel.tape, hg.output.trans h.bel.output, Nat.le_trans h.bel.size hg.size, fun j hj => (k j (Nat.lt_of_lt_of_le hj h.size) (by have := h.le; omega)).trans (h.bel.block j hj)⟩, h.b0, h.le⟩
  obtain ⟨es, c, hm0⟩ := hL
  exact (h.ow q hq).kind hm0 (fun cs => by intro e; cases e) (by rw [hg', e])
/-- A lock that is there is put back: the run, and the book behind it. -/
theorem bk_setL (h : BK w0 w B p bL bS T ps) {k : Nat} {q q' : LkA} (hk : ps[k]? = some q) (hn : q'.1.n = q.1.n) (how : OwnO w B (uV q') q'.1.ws) (hap : Apart (ps.set k q')) (hl : ps.length ≤ 1000) : ∃ w', (Instr.mapUpdate 98 (.map (some bL)) (.string q'.1.n) (lkV q'.1 (uV q'))).run Tryz.prog w = .ok () w' ∧ BK w0 w' B p bL bS { T with ls := T.ls.set k q'.1 } (ps.set k q') ∧ Fx p bL bS w w' ∧ w.grownBy w' (some bL) := by
  have hq1 : q.1 ∈ T.ls := by rw [← h.eq]; exact List.mem_map.2 ⟨q, List.mem_of_getElem? hk, rfl⟩
  have hsz := h.sn _ hq1
  rw [← hn] at hsz
  obtain ⟨w', hrun, hm, hg⟩ := h.ml.update (Maps.string_keyed Tryz.underlying9) Tryz.underlying98 (by unfold maxLen; omega) (key := .string q'.1.n) (val := lkV q'.1 (uV q')) (WideMaps.keyOf_string_mk Tryz.underlying9 (s := q'.1.n) (by unfold maxLen; omega)) (d := .held (lkV q'.1 (uV q'))) (ps := []) rfl
  have hA : Asc eL ps := NmA.asc (by rw [h.eq]; exact h.nm)
  have hput : (mL ps).put (.string q'.1.n.data.toList) (.held (lkV q'.1 (uV q'))) = mL (ps.set k q') := put_hit (E := eL) key_L hA hk (y := q') (by show kS _ = kS _; rw [hn])
  rw [hput] at hm
  have he : (ps.set k q').map (·.1) = T.ls.set k q'.1 := by rw [List.map_set, h.eq]
  have hkl : T.ls[k]? = some q.1 := by rw [← h.eq, List.getElem?_map, hk]; rfl
  refine ⟨w', hrun, bk_grownL h hm hg he (fun z hz => ?_) hap ?_ ?_, grown_fxL hg, hg⟩
  · rcases List.mem_or_eq_of_mem_set hz with h1 | rfl
    · exact h.ow z h1
    · exact how
  · refine List.pairwise_iff_getElem.2 fun i j hi hj hij => ?_
    have h0 := List.pairwise_iff_getElem.1 h.nm i j (by simpa using hi) (by simpa using hj) hij
    have hn2 : ∀ (m : Nat) (hm : m < (T.ls.set k q'.1).length), (T.ls.set k q'.1)[m].n = (T.ls[m]'(by simpa using hm)).n := fun m hm => by
      rw [List.getElem_set]
      split
      · rename_i e; subst e; rw [hn]; obtain ⟨_, e2⟩ := List.getElem?_eq_some_iff.1 hkl; rw [e2]
      · rfl
    rw [hn2 i hi, hn2 j hj]
    exact h0
  · intro z hz
    rcases List.mem_or_eq_of_mem_set hz with h1 | rfl
    · exact h.sn z h1
    · exact hsz
end
end Go.Proofs.YtlgfeohoebmbcaaGreat.Jh
