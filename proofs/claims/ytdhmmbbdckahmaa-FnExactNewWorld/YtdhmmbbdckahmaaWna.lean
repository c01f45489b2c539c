/- Clients in a row of one's own; a world's box. -/
import Derived.Test.YtdhmmbbdckahmaaNgf
namespace Go.Proofs.Ytdhmmbbdckahmaa.Wn
open Go.RowKit Go.Proofs.Ytdhmmbbdckahmaa.Rg Go.Proofs.Ytdhmmbbdckahmaa.Nr Go.Proofs.Ytdhmmbbdckahmaa.Is
open Go.Proofs.Ytdhmmbbdckahmaa.Rr (grown_set grown_trans grown_refl grown_alloc)
open Go.Proofs.Ytdhmmbbdckahmaa.Nr (Kq)
/-- A new client's cells: its number, its two empty lists. -/
structure CV where
  id : Int
  ra : Option Addr
  ca : Option Addr
def clD (p : CV) : List Value := [.int .i64 p.id, .int .i64 0, .bool false, .int .i64 0, .int .i64 0, .int .i64 0, .int .i64 0, .string ⟨#[]⟩, .slice p.ra 0 0, .slice p.ca 0 0]
theorem oneD (p : CV) : ∀ u ∈ clD p, u.oneCell' = true := by
  intro u hu
  simp [clD] at hu
  rcases hu with rfl | rfl | rfl | rfl | rfl | rfl | rfl | rfl | rfl | rfl
  all_goals rfl
theorem lenD : ∀ (ms : List CV), (ms.flatMap clD).length = ms.length * 10
  | [] => rfl
  | x :: r => by rw [List.flatMap_cons, List.length_append, lenD r]; show 10 + _ = _; simp only [List.length_cons]; omega
theorem atD : ∀ (ms : List CV) (i : Nat) (x : CV) (j : Nat), ms[i]? = some x → j < 10 → (ms.flatMap clD)[i * 10 + j]? = (clD x)[j]?
  | [], i, x, j, h, _ => by simp at h
  | y :: r, 0, x, j, h, hj => by
    simp at h; subst h
    rw [List.flatMap_cons, List.getElem?_append_left (by show _ < 10; omega)]
    simp
  | y :: r, i + 1, x, j, h, hj => by
    have h' : r[i]? = some x := by simpa using h
    rw [List.flatMap_cons, List.getElem?_append_right (by show 10 ≤ _; omega)]
    rw [show (i + 1) * 10 + j - (clD y).length = i * 10 + j by show _ - 10 = _; omega]
    exact atD r i x j h' hj
def OwnD (w : World) (B : Nat) (v : Value) (ms : List CV) : Prop := w.ownsRow B 49 10 v ms.length (ms.flatMap clD)
theorem OwnD.kept {w w' : World} {B : Nat} {v : Value} {ms : List CV} (h : OwnD w B v ms) (hk : ∀ g, v.ownBlock = some g → w'.heap[g]? = w.heap[g]?) : OwnD w' B v ms := by
  obtain ⟨hl, h⟩ := h
  refine ⟨hl, ?_⟩
  rcases h with h | ⟨g, cap, cur, rfl, h1, hg, h2⟩
  · exact .inl h
  · exact .inr ⟨g, cap, cur, rfl, h1, (hk g rfl).trans hg, h2⟩
theorem OwnD.lt {w : World} {B : Nat} {v : Value} {ms : List CV} (h : OwnD w B v ms) : ∀ g, v.ownBlock = some g → B ≤ g ∧ g < w.heap.size := World.ownsRow.lt h
theorem OwnD.below {w w' : World} {B : Nat} {v : Value} {ms : List CV} (h : OwnD w B v ms) (hb : Below w.heap.size w w') : OwnD w' B v ms := h.kept fun g hg => hb.block g (h.lt g hg).2
theorem OwnD.alloc {w : World} {B : Nat} {v : Value} {ms : List CV} (h : OwnD w B v ms) (o : Obj) : OwnD (w.alloc o) B v ms := h.below (bel_new _ _)
theorem OwnD.made (w : World) (B : Nat) (hB : B ≤ w.heap.size) : OwnD (w.alloc (.cells #[] 49)) B (.slice (some ⟨w.heap.size, 0, none⟩) 0 0) [] := World.ownsRow_made w #[] 0 hB (by decide) rfl
theorem OwnD.at {w : World} {B : Nat} {v : Value} {ps : List CV} (h : OwnD w B v ps) {i : Nat} {p : CV} (hi : ps[i]? = some p) : ∃ g cap cur, v = .slice (some ⟨g, 0, none⟩) ps.length cap ∧ ps.length ≤ cap ∧ B ≤ g ∧ w.heap[g]? = some (.cells cur 49 (0, 0)) ∧ ∀ j u, j < 10 → (clD p)[j]? = some u → cur[i * 10 + j]? = some u := by
  obtain ⟨hl, h⟩ := h
  have hil := lt_at hi
  rcases h with ⟨rfl, h0⟩ | ⟨g, cap, cur, rfl, hB, hg, hc, _, hs, htk⟩
  · omega
  · refine ⟨g, cap, cur, rfl, hc, hB, hg, fun j u hj hu => ?_⟩
    have h1 := atD ps i p j hi hj
    rw [← htk, List.getElem?_take, if_pos (by omega)] at h1
    rw [← Array.getElem?_toList, h1, hu]
theorem OwnD.slice {w : World} {B : Nat} {v : Value} {ms : List CV} (h : OwnD w B v ms) : ∃ a cap, v = .slice a ms.length cap := by
  obtain ⟨_, h | ⟨g, cap, cur, he, _⟩⟩ := h
  · exact ⟨none, 0, by rw [h.1, h.2]⟩
  · exact ⟨_, cap, he⟩
theorem OwnD.set {w : World} {B b : Nat} {v : Value} {ms : List CV} (h : OwnD w B v ms) (hb : some b ≠ v.ownBlock) (i : Nat) (x : Value) : OwnD (w.setCell ⟨b, i, none⟩ x) B v ms :=
  h.kept fun g hg => blk_far (fun e => hb (by rw [hg, e])) i x
theorem OwnD.mono {w : World} {B B' : Nat} {v : Value} {ms : List CV} (h : OwnD w B v ms) (hb : B' ≤ B) : OwnD w B' v ms := by
  obtain ⟨hl, h⟩ := h
  refine ⟨hl, ?_⟩
  rcases h with h | ⟨g, cap, cur, rfl, h1, hg, h2⟩
  · exact .inl h
  · exact .inr ⟨g, cap, cur, rfl, Nat.le_trans hb h1, hg, h2⟩
theorem OwnD.nil (w : World) (B : Nat) : OwnD w B (.slice none 0 0) [] := World.ownsRow_nil _ _ _ _
theorem ownD_ne {w : World} {B x : Nat} {v : Value} {ms : List CV} {cs : Array Value} (h : OwnD w B v ms) (hx : w.heap[x]? = some (.cells cs 31 (0, 0))) : some x ≠ v.ownBlock := by
  intro e
  obtain ⟨_, h | ⟨g', cap', cur, he, _, hgg, _⟩⟩ := h
  · rw [h.1] at e; simp [Value.ownBlock] at e
  · rw [he] at e
    simp [Value.ownBlock] at e
    subst e
    rw [hx] at hgg
    simp at hgg
theorem infoD : (Try.prog.info? 49).map (fun i => (i.zero, i.size, i.bytes)) = some (some (.agg #[.int .i64 0, .int .i64 0, .bool false, .int .i64 0, .int .i64 0, .int .i64 0, .int .i64 0, .string ⟨#[]⟩, .slice none 0 0, .slice none 0 0]), 10, 120) := by kernel_rfl
theorem listD {P : Program} {ops : Array Oper} {rest : List Oper} {o : Oper} {a : Act} {Q : Exit → Act → World → Prop} (hgd : o.guard = none) (s x : Operand) (t : TypeId)
    (ho : o.op = .call { callee := .builtin .append, args := #[s, x], argTypes := #[t, t] }) (i : TypeInfo) (ht : P.underlying t = some (.slice 49)) (hi : P.info? 49 = some i) (hz : i.zero = some (.agg #[.int .i64 0, .int .i64 0, .bool false, .int .i64 0, .int .i64 0, .int .i64 0, .int .i64 0, .string ⟨#[]⟩, .slice none 0 0, .slice none 0 0]))
    (hsize : i.size = 10) (hby : i.bytes = 120) (B : Nat) (w0 W : World) (v : Value) (ms : List CV) (m : CV) (hs : a.eval s = v) (hown : OwnD W B v ms) (hg0 : Below B w0 W) (hB : B ≤ W.heap.size)
    (gx : Nat) (hx : a.eval x = .slice (some ⟨gx, 0, none⟩) 1 1) (hgx : W.heap.size = gx) (hlen : ms.length ≤ 1000000)
    (h : ∀ v' w', OwnD w' B v' (ms ++ [m]) → Below B w0 w' → Kq W w' v v' → wpList P ops Q rest (a.put o.dst v') w') : wpList P ops Q (o :: rest) a (W.alloc (.cells (clD m).toArray 49)) := by
  subst hgx
  have hown' := hown.alloc (.cells (clD m).toArray 49)
  refine wpList_append_own_at (P := P) _ hgd s x t ho B 49 i _ 10 120 ht hi hz hsize hby rfl (by decide) v ms.length _ hs hown' ⟨W.heap.size, 0, none⟩ 1 1 (clD m) hx rfl ?_ (oneD m) (by unfold maxLen; omega) (by omega) (by simp; omega) ?_
  · intro j u hj
    have h2 : (⟨W.heap.size, 0, none⟩ : Addr).add j = ⟨W.heap.size, j, none⟩ := by unfold Addr.add; split <;> simp_all
    rw [h2, Joins.cell_of_block (heap_alloc_new W _), ← hj]
    simp
  · intro v' w' h1 h2 h3 h4
    refine h v' w' (by unfold OwnD; rw [List.flatMap_append, List.length_append]; simpa using h1) ((hg0.alloc hB _).grown h2 (by simp; omega) (fun k hk => (hown'.lt k hk).1)) (fun k hk hn => ⟨(h2.block k (by simp; omega) hn).trans (Below.heap_alloc W _ k hk), fun e => ?_⟩)
    rcases h4 with h4 | h4
    · exact hn (e.trans h4)
    · rw [h4] at e
      simp at e
      omega

/-- Blocks of other kinds than a client's and a world's are as they were. -/
def Ot (w w' : World) : Prop := ∀ (k : Nat) (cs : Array Value) (t : TypeId), w.heap[k]? = some (.cells cs t (0, 0)) → t ≠ 49 → t ≠ 31 → w'.heap[k]? = some (.cells cs t (0, 0))
theorem Ot.refl (w : World) : Ot w w := fun _ _ _ h _ _ => h
theorem Ot.trans {w w1 w2 : World} (h : Ot w w1) (g : Ot w1 w2) : Ot w w2 := fun k cs t hk h1 h2 => g k cs t (h k cs t hk h1 h2) h1 h2
theorem Ot.of_below {w w' : World} (h : Below w.heap.size w w') : Ot w w' := fun k _ _ hk _ _ => (h.block k (Array.getElem?_eq_some_iff.1 hk).1).trans hk
theorem Ot.set {w : World} {x : Nat} {cs : Array Value} (hx : w.heap[x]? = some (.cells cs 31 (0, 0))) (i : Nat) (z : Value) : Ot w (w.setCell ⟨x, i, none⟩ z) := fun k ds t hk _ h2 => by
  refine (blk_far (fun e => h2 ?_) _ _).trans hk
  subst e
  rw [hx] at hk
  injection hk with hk
  injection hk with _ hk _
  exact hk.symm
theorem ownD_kind {w : World} {B k : Nat} {v : Value} {ms : List CV} (h : OwnD w B v ms) (hk : v.ownBlock = some k) : ∃ cs, w.heap[k]? = some (.cells cs 49 (0, 0)) := by
  obtain ⟨_, h | ⟨g', cap', cur, he, _, hgg, _⟩⟩ := h
  · rw [h.1] at hk; simp [Value.ownBlock] at hk
  · rw [he] at hk
    simp [Value.ownBlock] at hk
    subst hk
    exact ⟨_, hgg⟩
/-- While a world is made: its result, its box, its clients. -/
structure WIn (B x : Nat) (a0 a1 a2 a3 a4 v6 : Value) (w w1 wr : World) (vc : Value) (cs : List CV) : Prop where
  z : wr.heap[B]? = some (.cells #[.int .i64 0, .slice none 0 0, .slice none 0 0, .slice none 0 0, .slice none 0 0, .slice none 0 0, .slice none 0 0, .int .i64 0] 31 (0, 0))
  g : wr.heap[x]? = some (.cells #[a0, a1, a2, a3, a4, vc, v6, .int .i64 0] 31 (0, 0))
  c : OwnD wr B vc cs
  ot : Ot w1 wr
  b : Below B w wr
  hx : B < x
theorem WIn.below {B x : Nat} {a0 a1 a2 a3 a4 v6 : Value} {w w1 wr w2 : World} {vc : Value} {cs : List CV} (h : WIn B x a0 a1 a2 a3 a4 v6 w w1 wr vc cs) (hb : Below wr.heap.size wr w2) : WIn B x a0 a1 a2 a3 a4 v6 w w1 w2 vc cs :=
  ⟨(hb.block _ (Array.getElem?_eq_some_iff.1 h.z).1).trans h.z, (hb.block _ (Array.getElem?_eq_some_iff.1 h.g).1).trans h.g, h.c.below hb, h.ot.trans (Ot.of_below hb), h.b.trans (hb.mono (Nat.le_of_lt (Array.getElem?_eq_some_iff.1 h.z).1)), h.hx⟩
theorem bel_drew (w : World) : Below w.heap.size w w.drew := ⟨rfl, rfl, rfl, Nat.le_refl _, fun _ _ => rfl⟩
theorem WIn.alloc {B x : Nat} {a0 a1 a2 a3 a4 v6 : Value} {w w1 wr : World} {vc : Value} {cs : List CV} (h : WIn B x a0 a1 a2 a3 a4 v6 w w1 wr vc cs) (o : Obj) : WIn B x a0 a1 a2 a3 a4 v6 w w1 (wr.alloc o) vc cs := h.below (Rg.bel_new _ _)
theorem WIn.drew {B x : Nat} {a0 a1 a2 a3 a4 v6 : Value} {w w1 wr : World} {vc : Value} {cs : List CV} (h : WIn B x a0 a1 a2 a3 a4 v6 w w1 wr vc cs) : WIn B x a0 a1 a2 a3 a4 v6 w w1 wr.drew vc cs := h.below (bel_drew _)
theorem WIn.c5 {B x : Nat} {a0 a1 a2 a3 a4 v6 : Value} {w w1 wr : World} {vc : Value} {cs : List CV} (h : WIn B x a0 a1 a2 a3 a4 v6 w w1 wr vc cs) : wr.cell? ⟨x, 5, none⟩ = some vc := (blk_cell h.g 5 (x := vc) rfl).1
/-- The state behind the append. -/
structure WDr (B x : Nat) (a0 a1 a2 a3 a4 v6 : Value) (w w1 w' : World) (v v' : Value) (cs : List CV) : Prop where
  g : w'.heap[x]? = some (.cells #[a0, a1, a2, a3, a4, v, v6, .int .i64 0] 31 (0, 0))
  own : OwnD w' B v' cs
  set : WIn B x a0 a1 a2 a3 a4 v6 w w1 (w'.setCell ⟨x, 5, none⟩ v') v' cs
theorem WIn.step {B x : Nat} {a0 a1 a2 a3 a4 v6 : Value} {w w1 wr w4 : World} {vr v' : Value} {cs : List CV} {m : CV} (h : WIn B x a0 a1 a2 a3 a4 v6 w w1 wr vr cs) (o4 : OwnD w4 B v' (cs ++ [m])) (b4 : Below B w w4) (hk : ∀ k, k < wr.heap.size → some k ≠ vr.ownBlock → w4.heap[k]? = wr.heap[k]?) : WDr B x a0 a1 a2 a3 a4 v6 w w1 w4 vr v' (cs ++ [m]) := by
  have hq : ∀ (k : Nat) (ds : Array Value) (t : TypeId), wr.heap[k]? = some (.cells ds t (0, 0)) → t ≠ 49 → w4.heap[k]? = some (.cells ds t (0, 0)) := fun k ds t hc ht => by
    refine (hk k (Array.getElem?_eq_some_iff.1 hc).1 fun e => ?_).trans hc
    obtain ⟨es, hd⟩ := ownD_kind h.c e.symm
    rw [hc] at hd
    injection hd with hd
    injection hd with _ hd _
    exact ht hd
  have hz := hq _ _ _ h.z (by decide)
  have hx := hq _ _ _ h.g (by decide)
  have hx2 := blk_set hx 5 v'
  refine ⟨hx, o4, ⟨(blk_far (by have := h.hx; omega) _ _).trans hz, by simpa using hx2, OwnD.set o4 (ownD_ne o4 hx) 5 v', (h.ot.trans (fun k ds t hc h1 _ => hq k ds t hc h1)).trans (Ot.set hx 5 v'), Below.setCell b4 (p := ⟨x, 5, none⟩) (Nat.le_of_lt h.hx) v', h.hx⟩⟩
theorem step_cv {P : Program} {ops : Array Oper} {o : Oper} {a : Act} {K : Act → World → Prop} {Q : Exit → Act → World → Prop} {E : Prop} {i : TypeInfo} (hgd : o.guard = none) (s z : Operand) (t : TypeId) (ho : o.op = .call { callee := .builtin .append, args := #[s, z], argTypes := #[t, t] }) (ht : P.underlying t = some (.slice 49)) (hi : P.info? 49 = some i) (hz : i.zero = some (.agg #[.int .i64 0, .int .i64 0, .bool false, .int .i64 0, .int .i64 0, .int .i64 0, .int .i64 0, .string ⟨#[]⟩, .slice none 0 0, .slice none 0 0]))
    (hsize : i.size = 10) (hby : i.bytes = 120) (W w w1 : World) (B x : Nat) (a0 a1 a2 a3 a4 v6 : Value) (v : Value) (cs : List CV) (m : CV) (hs : a.eval s = v) (gx : Nat) (hx : a.eval z = .slice (some ⟨gx, 0, none⟩) 1 1) (hbx : W.heap[gx]? = some (.cells (clD m).toArray 49 (0, 0)))
    (htb : WIn B x a0 a1 a2 a3 a4 v6 w w1 W v cs) (hlen : cs.length ≤ 1000000)
    (h : ∀ v' w', WDr B x a0 a1 a2 a3 a4 v6 w w1 w' v v' (cs ++ [m]) → K (a.put o.dst v') w') : if Region.wanted o (yielded ops a.tmps) = true then Oper.wp P o a W K Q else E := by
  have hw : Region.wanted o (yielded ops a.tmps) = true := by simp [Region.wanted, hgd]
  rw [if_pos hw]
  have hbl := (Array.getElem?_eq_some_iff.1 htb.z).1
  obtain ⟨v', w', hr, h2, h3, _, h5⟩ := run_append_own_at (P := P) W B t o.type 49 i _ 10 120 ht hi hz hsize hby rfl (by decide) v cs.length _ htb.c ⟨gx, 0, none⟩ 1 1 (clD m) rfl (by
    intro j u hj
    have e2 : (⟨gx, 0, none⟩ : Addr).add j = ⟨gx, j, none⟩ := by unfold Addr.add; split <;> simp_all
    rw [e2, Joins.cell_of_block hbx, ← hj]
    simp [clD]) (oneD m) (by unfold maxLen; omega) (by omega) (Nat.le_of_lt hbl)
  refine Ap.wp_app ho hs hx hr (h v' w' (htb.step (by unfold OwnD; rw [List.flatMap_append, List.length_append]; simpa using h2) (htb.b.grown h3 (Nat.le_of_lt hbl) (fun k hk => (htb.c.lt k hk).1)) (fun k hk hne => h3.block k hk hne)))
theorem set8 {w : World} {b : Nat} {t : TypeId} (z0 z1 z2 z3 z4 z5 z6 z7 v0 v1 v2 v3 v4 v5 v6 v7 : Value) (h : w.heap[b]? = some (.cells #[z0, z1, z2, z3, z4, z5, z6, z7] t (0, 0))) :
    ((((((((w.setCell ⟨b, 0, none⟩ v0).setCell ⟨b, 1, none⟩ v1).setCell ⟨b, 2, none⟩ v2).setCell ⟨b, 3, none⟩ v3).setCell ⟨b, 4, none⟩ v4).setCell ⟨b, 5, none⟩ v5).setCell ⟨b, 6, none⟩ v6).setCell ⟨b, 7, none⟩ v7).heap[b]? = some (.cells #[v0, v1, v2, v3, v4, v5, v6, v7] t (0, 0)) ∧ (∀ k, k ≠ b → ((((((((w.setCell ⟨b, 0, none⟩ v0).setCell ⟨b, 1, none⟩ v1).setCell ⟨b, 2, none⟩ v2).setCell ⟨b, 3, none⟩ v3).setCell ⟨b, 4, none⟩ v4).setCell ⟨b, 5, none⟩ v5).setCell ⟨b, 6, none⟩ v6).setCell ⟨b, 7, none⟩ v7).heap[k]? = w.heap[k]?) ∧ ∀ {B : Nat} {w0 : World}, Below B w0 w → B ≤ b → Below B w0 ((((((((w.setCell ⟨b, 0, none⟩ v0).setCell ⟨b, 1, none⟩ v1).setCell ⟨b, 2, none⟩ v2).setCell ⟨b, 3, none⟩ v3).setCell ⟨b, 4, none⟩ v4).setCell ⟨b, 5, none⟩ v5).setCell ⟨b, 6, none⟩ v6).setCell ⟨b, 7, none⟩ v7) := by
  refine ⟨?_, fun k hk => (Rg.blk_far hk 7 v7).trans ((Rg.blk_far hk 6 v6).trans ((Rg.blk_far hk 5 v5).trans ((Rg.blk_far hk 4 v4).trans ((Rg.blk_far hk 3 v3).trans ((Rg.blk_far hk 2 v2).trans ((Rg.blk_far hk 1 v1).trans (Rg.blk_far hk 0 v0))))))), fun hb hB => (Below.setCell (Below.setCell (Below.setCell (Below.setCell (Below.setCell (Below.setCell (Below.setCell (Below.setCell hb (p := ⟨b, 0, none⟩) hB v0) (p := ⟨b, 1, none⟩) hB v1) (p := ⟨b, 2, none⟩) hB v2) (p := ⟨b, 3, none⟩) hB v3) (p := ⟨b, 4, none⟩) hB v4) (p := ⟨b, 5, none⟩) hB v5) (p := ⟨b, 6, none⟩) hB v6) (p := ⟨b, 7, none⟩) hB v7)⟩
  have := (Rg.blk_set (Rg.blk_set (Rg.blk_set (Rg.blk_set (Rg.blk_set (Rg.blk_set (Rg.blk_set (Rg.blk_set h 0 v0) 1 v1) 2 v2) 3 v3) 4 v4) 5 v5) 6 v6) 7 v7)
  simpa only [List.setIfInBounds_toArray, List.set_cons_zero, List.set_cons_succ] using this
/-- What a new world has of its group lies in other blocks. -/
theorem gr_impl {w1 wf : World} {B : Nat} {n : Int} {vf vr : Value} {xs : List Int} {ps : List Ng.RV} (o : Ot w1 wf) (h1 : OwnI w1 B vf xs) (h2 : Ng.OwnQ w1 B vr ps) (h3 : Ng.ImpP B w1 n ps) : OwnI wf B vf xs ∧ Ng.OwnQ wf B vr ps ∧ Ng.ImpP B wf n ps := by
  refine ⟨Ng.ownI_kept h1 fun k e => ?_, h2.kept fun k e => ?_, fun k p hp => ?_⟩
  · obtain ⟨cs, hc⟩ := Ng.ownI_kind h1 e
    rw [hc]; exact o k cs _ hc (by decide) (by decide)
  · obtain ⟨cs, hc⟩ := Ng.ownQ_kind h2 e
    rw [hc]; exact o k cs _ hc (by decide) (by decide)
  · obtain ⟨a1, a2, a3, gs, gc, a4, a5, a6, a7, a8⟩ := h3 k p hp
    refine ⟨a1, a2, a3, gs, gc, a4, a5, a6, a7.kept ?_, a8.kept ?_⟩
    · obtain ⟨A, c1, _⟩ := a7; rw [c1]; exact o _ _ _ c1 (by decide) (by decide)
    · obtain ⟨A, c1, _⟩ := a8; rw [c1]; exact o _ _ _ c1 (by decide) (by decide)
theorem gr_spec {w1 wf : World} {B : Nat} {n : Int} {vf vr : Value} {xs : List Int} {ps : List Ng.RV} (o : Ot w1 wf) (h1 : OwnI w1 B vf xs) (h2 : Ng.OwnQ w1 B vr ps) (h3 : Ng.SpP B w1 n ps) : OwnI wf B vf xs ∧ Ng.OwnQ wf B vr ps ∧ Ng.SpP B wf n ps := by
  refine ⟨Ng.ownI_kept h1 fun k e => ?_, h2.kept fun k e => ?_, fun k p hp => ?_⟩
  · obtain ⟨cs, hc⟩ := Ng.ownI_kind h1 e
    rw [hc]; exact o k cs _ hc (by decide) (by decide)
  · obtain ⟨cs, hc⟩ := Ng.ownQ_kind h2 e
    rw [hc]; exact o k cs _ hc (by decide) (by decide)
  · obtain ⟨b1, b2, us8, us, ⟨b3, b4⟩, b5, b6⟩ := h3 k p hp
    refine ⟨b1, b2, us8, us, ⟨b3.kept fun g hg => ?_, b4⟩, b5.kept fun g hg => ?_, b6⟩
    · obtain ⟨cs, hc⟩ := Ng.ownS_kind b3 hg
      rw [hc]; exact o g cs _ hc (by decide) (by decide)
    · obtain ⟨cs, hc⟩ := Ng.ownC_kind b5 hg
      rw [hc]; exact o g cs _ hc (by decide) (by decide)
theorem ot_fin {w2 wr wf : World} {b : Nat} {Z : Array Value} (ho : Ot w2 wr) (hz : wr.heap[b]? = some (.cells Z 31 (0, 0))) (fa : ∀ k, k ≠ b → wf.heap[k]? = wr.heap[k]?) : Ot w2 wf := fun k ds t hk h1 h2 => by
  have e1 := ho k ds t hk h1 h2
  refine (fa k fun e => h2 ?_).trans e1
  rw [e, hz] at e1
  injection e1 with e1
  injection e1 with _ e1 _
  exact e1.symm
theorem own_fin {wr wf : World} {b B : Nat} {Z : Array Value} {v : Value} {cs : List CV} (h : OwnD wr B v cs) (hz : wr.heap[b]? = some (.cells Z 31 (0, 0))) (fa : ∀ k, k ≠ b → wf.heap[k]? = wr.heap[k]?) : OwnD wf B v cs := h.kept fun k e => fa k fun e2 => by
  obtain ⟨ds, hc⟩ := ownD_kind h e
  rw [e2, hz] at hc
  injection hc with hc
  injection hc with _ hc _
  exact absurd hc (by decide)
/-- New clients bear the numbers from 10 on. -/
def NewD (cs : List CV) : Prop := ∀ (k : Nat) (p : CV), cs[k]? = some p → p.id = 10 + (k : Int)
theorem NewD.snoc {cs : List CV} {j : Nat} (h : NewD cs) (hj : cs.length = j) (ra ca : Option Addr) : NewD (cs ++ [⟨10 + (j : Int), ra, ca⟩]) := fun k p hp => by
  by_cases hk : k < cs.length
  · rw [List.getElem?_append_left hk] at hp; exact h k p hp
  · have e : k = cs.length := by have := (List.getElem?_eq_some_iff.1 hp).1; simp at this; omega
    subst e
    rw [List.getElem?_append_right (Nat.le_refl _), Nat.sub_self] at hp
    obtain rfl : _ = p := by simpa using hp
    rw [hj]
end Go.Proofs.Ytdhmmbbdckahmaa.Wn
