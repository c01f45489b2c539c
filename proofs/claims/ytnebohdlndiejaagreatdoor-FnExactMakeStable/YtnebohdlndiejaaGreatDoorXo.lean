/- Votes in slices of the call's own. -/
import Derived.Test.YtnebohdlndiejaaGreatDoorGt
import Derived.Test.YtnebohdlndiejaaGreatDoorAp
import Derived.Deep.Upon
import Derived.Maps.AppendAt
namespace Go.Proofs.YtnebohdlndiejaaGreatDoor.Xo
open Go.RowKit Go.Proofs.YtnebohdlndiejaaGreatDoor.Sl Go.Proofs.YtnebohdlndiejaaGreatDoor.Rg
open Go.Proofs.YtnebohdlndiejaaGreatDoor.Gt (Vo)
open Go.Proofs.YtnebohdlndiejaaGreatDoor.Ap (addr_add wp_app)

def clV (p : Vo) : List Value := [.int .i64 p.f, .string p.m]
theorem oneV (p : Vo) : ∀ u ∈ clV p, u.oneCell' = true := by
  intro u hu
  simp [clV] at hu
  rcases hu with rfl | rfl
  all_goals rfl
theorem lenV : ∀ (ms : List Vo), (ms.flatMap clV).length = ms.length * 2
  | [] => rfl
  | x :: r => by rw [List.flatMap_cons, List.length_append, lenV r]; show 2 + _ = _; simp only [List.length_cons]; omega
theorem atV : ∀ (ms : List Vo) (i : Nat) (x : Vo) (j : Nat), ms[i]? = some x → j < 2 → (ms.flatMap clV)[i * 2 + j]? = (clV x)[j]?
  | [], i, x, j, h, _ => by simp at h
  | y :: r, 0, x, j, h, hj => by
    simp at h; subst h
    rw [List.flatMap_cons, List.getElem?_append_left (by show _ < 2; omega)]
    simp
  | y :: r, i + 1, x, j, h, hj => by
    have h' : r[i]? = some x := by simpa using h
    rw [List.flatMap_cons, List.getElem?_append_right (by show 2 ≤ _; omega)]
    rw [show (i + 1) * 2 + j - (clV y).length = i * 2 + j by show _ - 2 = _; omega]
    exact atV r i x j h' hj
theorem memV (ms : List Vo) : ∀ u ∈ ms.flatMap clV, u.oneCell' = true := by
  intro u hu
  obtain ⟨x, _, hx⟩ := List.mem_flatMap.1 hu
  exact oneV x u hx
def OwnV (w : World) (B : Nat) (v : Value) (ms : List Vo) : Prop := w.ownsRow B 112 2 v ms.length (ms.flatMap clV)
theorem OwnV.kept {w w' : World} {B : Nat} {v : Value} {ms : List Vo} (h : OwnV w B v ms) (hk : ∀ g, v.ownBlock = some g → w'.heap[g]? = w.heap[g]?) : OwnV w' B v ms := by
  obtain ⟨hl, h⟩ := h
  refine ⟨hl, ?_⟩
  rcases h with h | ⟨g, cap, cur, rfl, h1, hg, h2⟩
  · exact .inl h
  · exact .inr ⟨g, cap, cur, rfl, h1, (hk g rfl).trans hg, h2⟩
theorem OwnV.lt {w : World} {B : Nat} {v : Value} {ms : List Vo} (h : OwnV w B v ms) : ∀ g, v.ownBlock = some g → B ≤ g ∧ g < w.heap.size := World.ownsRow.lt h
theorem OwnV.below {w w' : World} {B : Nat} {v : Value} {ms : List Vo} (h : OwnV w B v ms) (hb : Below w.heap.size w w') : OwnV w' B v ms := h.kept fun g hg => hb.block g (h.lt g hg).2
theorem OwnV.alloc {w : World} {B : Nat} {v : Value} {ms : List Vo} (h : OwnV w B v ms) (o : Obj) : OwnV (w.alloc o) B v ms := h.below ((Below.refl _ _).alloc (Nat.le_refl _) _)
theorem OwnV.made (w : World) (B : Nat) (hB : B ≤ w.heap.size) : OwnV (w.alloc (.cells #[] 112)) B (.slice (some ⟨w.heap.size, 0, none⟩) 0 0) [] := World.ownsRow_made w #[] 0 hB (by decide) rfl
theorem OwnV.nil (w : World) (B : Nat) : OwnV w B (.slice none 0 0) [] := World.ownsRow_nil _ _ _ _
theorem OwnV.slice {w : World} {B : Nat} {v : Value} {ms : List Vo} (h : OwnV w B v ms) : ∃ a cap, v = .slice a ms.length cap := by
  obtain ⟨_, h | ⟨g, cap, cur, he, _⟩⟩ := h
  · exact ⟨none, 0, by rw [h.1, h.2]⟩
  · exact ⟨_, cap, he⟩
theorem OwnV.mono {w : World} {B B' : Nat} {v : Value} {ms : List Vo} (h : OwnV w B v ms) (hb : B' ≤ B) : OwnV w B' v ms := by
  obtain ⟨hl, h⟩ := h
  refine ⟨hl, ?_⟩
  rcases h with h | ⟨g, cap, cur, rfl, h1, hg, h2⟩
  · exact .inl h
  · exact .inr ⟨g, cap, cur, rfl, Nat.le_trans hb h1, hg, h2⟩
theorem OwnV.row {w : World} {B : Nat} {v : Value} {ms : List Vo} (h : OwnV w B v ms) : Gt.Row w v ms := by
  obtain ⟨hl, h⟩ := h
  rcases h with ⟨rfl, h0⟩ | ⟨g, cap, cur, rfl, hB, hg, hc, _, hs, htk⟩
  · exact ⟨none, 0, by rw [h0], .inl (List.length_eq_zero_iff.1 h0)⟩
  · refine ⟨_, cap, rfl, .inr ⟨g, 0, rfl, hc, (Array.getElem?_eq_some_iff.1 hg).1, fun i x hi => ?_⟩⟩
    have hil := (List.getElem?_eq_some_iff.1 hi).1
    have key : ∀ j u, j < 2 → (clV x)[j]? = some u → w.cell? ⟨g, 0 + i * 2 + j, none⟩ = some u := fun j u hj hu => by
      rw [Nat.zero_add, Joins.cell_of_block hg, ← Array.getElem?_toList]
      have h1 := atV ms i x j hi hj
      rw [← htk, List.getElem?_take, if_pos (by omega)] at h1
      rw [h1, hu]
    exact ⟨key 0 _ (by decide) rfl, key 1 _ (by decide) rfl⟩
theorem infoV : (Tryz.prog.info? 112).map (fun i => (i.zero, i.size, i.bytes)) = some (some (.agg #[.int .i64 0, .string ⟨#[]⟩]), 2, 24) := by kernel_rfl
theorem srcV {w : World} {a : Addr} {xs : List Vo} {cap : Nat} (h : Gt.Row w (.slice (some a) xs.length cap) xs) : ∀ j u, (xs.flatMap clV)[j]? = some u → w.cell? (a.add j) = some u := by
  intro j u hj
  have hlt := (List.getElem?_eq_some_iff.1 hj).1
  rw [lenV] at hlt
  obtain ⟨x, hx⟩ : ∃ x, xs[j / 2]? = some x := ⟨_, List.getElem?_eq_getElem (by omega)⟩
  obtain ⟨b, off, hab, _, hE⟩ := RowG.at h rfl hx
  cases hab
  have h2 := atV xs (j / 2) x (j % 2) hx (Nat.mod_lt _ (by decide))
  rw [show j / 2 * 2 + j % 2 = j by omega, hj] at h2
  rw [addr_add, show off + j = off + j / 2 * 2 + j % 2 by omega]
  obtain ⟨e0, e1⟩ := hE
  rcases (by omega : j % 2 = 0 ∨ j % 2 = 1) with q | q
  · rw [q] at h2 ⊢; exact e0.trans h2.symm
  · rw [q] at h2 ⊢; exact e1.trans h2.symm

/-- A checkpoint's votes are gathered: x is its block, y the answer's. -/
structure Vb (sq sz : Int) (rt : ByteArray) (w W : World) (x y B : Nat) (v : Value) (ms : List Vo) : Prop where
  hx : W.heap[x]? = some (.cells #[.int .i64 sq, .int .i64 sz, .string rt, v] 30 (0, 0))
  hy : W.heap[y]? = some (.cells #[.int .i64 0, .int .i64 0, .string ⟨#[]⟩, .slice none 0 0] 30 (0, 0))
  own : OwnV W B v ms
  gr : Below w.heap.size w W
  lt : w.heap.size ≤ x ∧ w.heap.size ≤ y ∧ x ≠ y ∧ x < W.heap.size ∧ y < W.heap.size ∧ w.heap.size ≤ B ∧ B ≤ W.heap.size
/-- One vote was appended, and is not stored yet. -/
structure Vd (sq sz : Int) (rt : ByteArray) (w W : World) (x y B : Nat) (v v' : Value) (ms : List Vo) : Prop where
  hx : W.heap[x]? = some (.cells #[.int .i64 sq, .int .i64 sz, .string rt, v] 30 (0, 0))
  hy : W.heap[y]? = some (.cells #[.int .i64 0, .int .i64 0, .string ⟨#[]⟩, .slice none 0 0] 30 (0, 0))
  own : OwnV W B v' ms
  gr : Below w.heap.size w W
  lt : w.heap.size ≤ x ∧ w.heap.size ≤ y ∧ x ≠ y ∧ x < W.heap.size ∧ y < W.heap.size ∧ w.heap.size ≤ B ∧ B ≤ W.heap.size
theorem own_ne {W : World} {B x : Nat} {v : Value} {ms : List Vo} {c : Array Value} {fz : Nat × Nat} (h : OwnV W B v ms) (hx : W.heap[x]? = some (.cells c 30 fz)) : ∀ g, v.ownBlock = some g → g ≠ x := by
  intro g hg e
  subst e
  obtain ⟨hl, h⟩ := h
  rcases h with ⟨rfl, _⟩ | ⟨g', cap, cur, rfl, h1, hb, h2⟩
  · simp [Value.ownBlock] at hg
  · simp [Value.ownBlock] at hg
    subst hg
    rw [hx] at hb
    have := Option.some.inj hb
    injection this with _ ht _
    exact absurd ht (by decide)
section
variable {sq sz : Int} {rt : ByteArray} {w W : World} {x y B : Nat} {v v' : Value} {ms : List Vo}
theorem Vb.below (h : Vb sq sz rt w W x y B v ms) {W' : World} (hb : Below W.heap.size W W') : Vb sq sz rt w W' x y B v ms :=
  ⟨(hb.block x (by have := h.lt; omega)).trans h.hx, (hb.block y (by have := h.lt; omega)).trans h.hy, h.own.below hb, h.gr.trans (hb.mono h.gr.size), by have := h.lt; have := hb.size; omega⟩
theorem Vb.drew (h : Vb sq sz rt w W x y B v ms) : Vb sq sz rt w W.drew x y B v ms := h.below (Below.refl _ _).drew
theorem Vb.alloc (h : Vb sq sz rt w W x y B v ms) (o : Obj) : Vb sq sz rt w (W.alloc o) x y B v ms := h.below ((Below.refl _ _).alloc (Nat.le_refl _) o)
theorem Vb.cells (h : Vb sq sz rt w W x y B v ms) : W.cell? ⟨x, 0, none⟩ = some (.int .i64 sq) ∧ W.cell? ⟨x, 1, none⟩ = some (.int .i64 sz) ∧ W.cell? ⟨x, 2, none⟩ = some (.string rt) ∧ W.cell? ⟨x, 3, none⟩ = some v :=
  ⟨(blk_cell h.hx 0 rfl).1, (blk_cell h.hx 1 rfl).1, (blk_cell h.hx 2 rfl).1, (blk_cell h.hx 3 rfl).1⟩
theorem Vd.cells (h : Vd sq sz rt w W x y B v v' ms) : W.cell? ⟨x, 3, none⟩ = some v ∧ W.frozen? ⟨x, 3, none⟩ = false := blk_cell h.hx 3 rfl
theorem Vd.set (h : Vd sq sz rt w W x y B v v' ms) : Vb sq sz rt w (W.setCell ⟨x, 3, none⟩ v') x y B v' ms := by
  have hl := h.lt
  refine ⟨blk_set h.hx 3 v', (blk_far (by omega) 3 v').trans h.hy, h.own.kept (fun g hg => blk_far (own_ne h.own h.hx g hg) 3 v'), h.gr.setCell (p := ⟨x, 3, none⟩) (by show _ ≤ x; omega) v', by simpa using h.lt⟩
end
theorem step_vb {P : Program} {ops : Array Oper} {o : Oper} {a : Act} {K : Act → World → Prop} {Q : Exit → Act → World → Prop} {E : Prop} {i : TypeInfo} (hgd : o.guard = none) (s z : Operand) (t : TypeId) (ho : o.op = .call { callee := .builtin .append, args := #[s, z], argTypes := #[t, t] }) (ht : P.underlying t = some (.slice 112)) (hi : P.info? 112 = some i) (hz : i.zero = some (.agg #[.int .i64 0, .string ⟨#[]⟩]))
    (hsize : i.size = 2) (hby : i.bytes = 24) (sq sz : Int) (rt : ByteArray) (W w : World) (x y B : Nat) (v : Value) (ms : List Vo) (m : Vo) (hs : a.eval s = v) (gx : Nat) (hx : a.eval z = .slice (some ⟨gx, 0, none⟩) 1 1) (hbx : W.heap[gx]? = some (.cells #[.int .i64 m.f, .string m.m] 112 (0, 0)))
    (htb : Vb sq sz rt w W x y B v ms) (hlen : ms.length ≤ 1000000)
    (h : ∀ v' w', Vd sq sz rt w w' x y B v v' (ms ++ [m]) → K (a.put o.dst v') w') : if Region.wanted o (yielded ops a.tmps) = true then Oper.wp P o a W K Q else E := by
  have hw : Region.wanted o (yielded ops a.tmps) = true := by simp [Region.wanted, hgd]
  rw [if_pos hw]
  have hlt := htb.lt
  obtain ⟨v', w', hr, h2, h3, _, h5⟩ := run_append_own_at (P := P) W B t o.type 112 i _ 2 24 ht hi hz hsize hby rfl (by decide) v ms.length _ htb.own ⟨gx, 0, none⟩ 1 1 (clV m) rfl (by
    intro j u hj
    have e2 : (⟨gx, 0, none⟩ : Addr).add j = ⟨gx, j, none⟩ := by unfold Addr.add; split <;> simp_all
    rw [e2, Joins.cell_of_block hbx, ← hj]
    simp [clV]) (oneV m) (by unfold maxLen; omega) (by omega) (by omega)
  have farx : w'.heap[x]? = W.heap[x]? := h3.block x (by omega) (fun e => own_ne htb.own htb.hx x e.symm rfl)
  have fary : w'.heap[y]? = W.heap[y]? := h3.block y (by omega) (fun e => own_ne htb.own htb.hy y e.symm rfl)
  refine wp_app ho hs hx hr (h v' w' ⟨farx.trans htb.hx, fary.trans htb.hy, by unfold OwnV; rw [List.flatMap_append, List.length_append]; simpa using h2, htb.gr.grown h3 (by omega) (fun k hk => by have := (htb.own.lt k hk).1; omega), by have := h3.size; omega⟩)
end Go.Proofs.YtnebohdlndiejaaGreatDoor.Xo
