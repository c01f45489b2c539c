/- Voices in slices: read, of the call's own. -/
import Derived.Test.YtiflfcpoajijaaaDoorRyp
import Derived.Deep.Upon
import Derived.Maps.AppendAt
import Derived.Laws.StructEq
namespace Go.Proofs.YtiflfcpoajijaaaDoor.Rk
open Go.RowKit Go.Proofs.YtiflfcpoajijaaaDoor.Sl Go.Proofs.YtiflfcpoajijaaaDoor.Rg
open Go.Proofs.YtiflfcpoajijaaaDoor.Ap (addr_add wp_app)

def E1 (w : World) (b o : Nat) (x : Vo) : Prop := w.cell? ⟨b, o, none⟩ = some (.int .i64 x.1) ∧ w.cell? ⟨b, o + 1, none⟩ = some (.int .i64 x.2.1) ∧ w.cell? ⟨b, o + 2, none⟩ = some (.int .i64 x.2.2.1) ∧ w.cell? ⟨b, o + 3, none⟩ = some (.int .i64 x.2.2.2.1) ∧ w.cell? ⟨b, o + 4, none⟩ = some (.int .i64 x.2.2.2.2)
def RowV (w : World) (v : Value) (xs : List Vo) : Prop := RowG 5 E1 w v xs
theorem staysV : Stays E1 := fun _ _ b _ _ hb hlt ⟨h0, h1, h2, h3, h4⟩ => ⟨(hb.cell (p := ⟨b, _, none⟩) hlt).trans h0, (hb.cell (p := ⟨b, _, none⟩) hlt).trans h1, (hb.cell (p := ⟨b, _, none⟩) hlt).trans h2, (hb.cell (p := ⟨b, _, none⟩) hlt).trans h3, (hb.cell (p := ⟨b, _, none⟩) hlt).trans h4⟩
theorem RowV.below {w w' : World} {v : Value} {xs : List Vo} (h : RowV w v xs) (hb : Below w.heap.size w w') : RowV w' v xs := RowG.below staysV h hb
theorem RowV.take {w : World} {a : Option Addr} {n cap : Nat} {xs : List Vo} (h : RowV w (.slice a n cap) xs) (k : Nat) (hk : k ≤ xs.length) : RowV w (.slice a k cap) (xs.take k) := by
  obtain ⟨a', cap', e, h⟩ := h
  cases e
  refine ⟨a, cap, by rw [List.length_take, Nat.min_eq_left hk], ?_⟩
  rcases h with h | ⟨b, off, rfl, hc, hlt, h⟩
  · exact .inl (by rw [h]; simp)
  · refine .inr ⟨b, off, rfl, by rw [List.length_take]; omega, hlt, fun i x hi => h i x ?_⟩
    rw [List.getElem?_take] at hi
    split at hi
    · exact hi
    · cases hi
def clV (p : Vo) : List Value := [.int .i64 p.1, .int .i64 p.2.1, .int .i64 p.2.2.1, .int .i64 p.2.2.2.1, .int .i64 p.2.2.2.2]
theorem oneV (p : Vo) : ∀ u ∈ clV p, u.oneCell' = true := by
  intro u hu
  simp [clV] at hu
  rcases hu with rfl | rfl | rfl | rfl | rfl
  all_goals rfl
theorem lenV : ∀ (ms : List Vo), (ms.flatMap clV).length = ms.length * 5
  | [] => rfl
  | x :: r => by rw [List.flatMap_cons, List.length_append, lenV r]; show 5 + _ = _; simp only [List.length_cons]; omega
theorem atV : ∀ (ms : List Vo) (i : Nat) (x : Vo) (j : Nat), ms[i]? = some x → j < 5 → (ms.flatMap clV)[i * 5 + j]? = (clV x)[j]?
  | [], i, x, j, h, _ => by simp at h
  | y :: r, 0, x, j, h, hj => by
    simp at h; subst h
    rw [List.flatMap_cons, List.getElem?_append_left (by show _ < 5; omega)]
    simp
  | y :: r, i + 1, x, j, h, hj => by
    have h' : r[i]? = some x := by simpa using h
    rw [List.flatMap_cons, List.getElem?_append_right (by show 5 ≤ _; omega)]
    rw [show (i + 1) * 5 + j - (clV y).length = i * 5 + j by show _ - 5 = _; omega]
    exact atV r i x j h' hj
theorem memV (ms : List Vo) : ∀ u ∈ ms.flatMap clV, u.oneCell' = true := by
  intro u hu
  obtain ⟨x, _, hx⟩ := List.mem_flatMap.1 hu
  exact oneV x u hx
def OwnV (w : World) (B : Nat) (v : Value) (ms : List Vo) : Prop := w.ownsRow B 136 5 v ms.length (ms.flatMap clV)
theorem OwnV.kept {w w' : World} {B : Nat} {v : Value} {ms : List Vo} (h : OwnV w B v ms) (hk : ∀ g, v.ownBlock = some g → w'.heap[g]? = w.heap[g]?) : OwnV w' B v ms := by
  obtain ⟨hl, h⟩ := h
  refine ⟨hl, ?_⟩
  rcases h with h | ⟨g, cap, cur, rfl, h1, hg, h2⟩
  · exact .inl h
  · exact .inr ⟨g, cap, cur, rfl, h1, (hk g rfl).trans hg, h2⟩
theorem OwnV.lt {w : World} {B : Nat} {v : Value} {ms : List Vo} (h : OwnV w B v ms) : ∀ g, v.ownBlock = some g → B ≤ g ∧ g < w.heap.size := World.ownsRow.lt h
theorem OwnV.below {w w' : World} {B : Nat} {v : Value} {ms : List Vo} (h : OwnV w B v ms) (hb : Below w.heap.size w w') : OwnV w' B v ms := h.kept fun g hg => hb.block g (h.lt g hg).2
theorem OwnV.alloc {w : World} {B : Nat} {v : Value} {ms : List Vo} (h : OwnV w B v ms) (o : Obj) : OwnV (w.alloc o) B v ms := h.below ((Below.refl _ _).alloc (Nat.le_refl _) _)
theorem OwnV.made (w : World) (B : Nat) (hB : B ≤ w.heap.size) : OwnV (w.alloc (.cells #[] 136)) B (.slice (some ⟨w.heap.size, 0, none⟩) 0 0) [] := World.ownsRow_made w #[] 0 hB (by decide) rfl
theorem OwnV.nil (w : World) (B : Nat) : OwnV w B (.slice none 0 0) [] := World.ownsRow_nil _ _ _ _
theorem OwnV.slice {w : World} {B : Nat} {v : Value} {ms : List Vo} (h : OwnV w B v ms) : ∃ a cap, v = .slice a ms.length cap := by
  obtain ⟨_, h | ⟨g, cap, cur, he, _⟩⟩ := h
  · exact ⟨none, 0, by rw [h.1, h.2]⟩
  · exact ⟨_, cap, he⟩
theorem OwnV.mono {w : World} {B B' : Nat} {v : Value} {ms : List Vo} (h : OwnV w B v ms) (hb : B' ≤ B) : OwnV w B' v ms := by
  obtain ⟨hl, h⟩ := h
  refine ⟨hl, ?_⟩
  rcases h with h | ⟨g, cap, cur, rfl, h1, hg, h2⟩
  · exact .inl h
  · exact .inr ⟨g, cap, cur, rfl, Nat.le_trans hb h1, hg, h2⟩
theorem OwnV.row {w : World} {B : Nat} {v : Value} {ms : List Vo} (h : OwnV w B v ms) : RowV w v ms := by
  obtain ⟨hl, h⟩ := h
  rcases h with ⟨rfl, h0⟩ | ⟨g, cap, cur, rfl, hB, hg, hc, _, hs, htk⟩
  · exact ⟨none, 0, by rw [h0], .inl (List.length_eq_zero_iff.1 h0)⟩
  · refine ⟨_, cap, rfl, .inr ⟨g, 0, rfl, hc, (Array.getElem?_eq_some_iff.1 hg).1, fun i x hi => ?_⟩⟩
    have hil := (List.getElem?_eq_some_iff.1 hi).1
    have key : ∀ j u, j < 5 → (clV x)[j]? = some u → w.cell? ⟨g, 0 + i * 5 + j, none⟩ = some u := fun j u hj hu => by
      rw [Nat.zero_add, Joins.cell_of_block hg, ← Array.getElem?_toList]
      have h1 := atV ms i x j hi hj
      rw [← htk, List.getElem?_take, if_pos (by omega)] at h1
      rw [h1, hu]
    exact ⟨key 0 _ (by decide) rfl, key 1 _ (by decide) rfl, key 2 _ (by decide) rfl, key 3 _ (by decide) rfl, key 4 _ (by decide) rfl⟩
theorem infoV : (Tryd.prog.info? 136).map (fun i => (i.zero, i.size, i.bytes)) = some (some (.agg #[.int .i64 0, .int .i64 0, .int .i64 0, .int .i64 0, .int .i64 0]), 5, 40) := by kernel_rfl
theorem list_vo {P : Program} {ops : Array Oper} {rest : List Oper} {o : Oper} {a : Act} {Q : Exit → Act → World → Prop} (hgd : o.guard = none) (s x0 : Operand) (t : TypeId)
    (ho : o.op = .call { callee := .builtin .append, args := #[s, x0], argTypes := #[t, t] }) (i : TypeInfo) (ht : P.underlying t = some (.slice 136)) (hi : P.info? 136 = some i) (hz : i.zero = some (.agg #[.int .i64 0, .int .i64 0, .int .i64 0, .int .i64 0, .int .i64 0]))
    (hsize : i.size = 5) (hby : i.bytes = 40) (B : Nat) (w0 W : World) (v : Value) (ms : List Vo) (x : Vo) (hs : a.eval s = v) (hown : OwnV W B v ms) (hg0 : Below B w0 W) (hB : B ≤ W.heap.size)
    (hx : a.eval x0 = .slice (some ⟨W.heap.size, 0, none⟩) 1 1) (hlen : ms.length ≤ 1000000)
    (h : ∀ v' w', OwnV w' B v' (ms ++ [x]) → Below B w0 w' → wpList P ops Q rest (a.put o.dst v') w') : wpList P ops Q (o :: rest) a (W.alloc (.cells #[.int .i64 x.1, .int .i64 x.2.1, .int .i64 x.2.2.1, .int .i64 x.2.2.2.1, .int .i64 x.2.2.2.2] 136)) := by
  have hown' := hown.alloc (.cells #[.int .i64 x.1, .int .i64 x.2.1, .int .i64 x.2.2.1, .int .i64 x.2.2.2.1, .int .i64 x.2.2.2.2] 136)
  refine wpList_append_own_at (P := P) _ hgd s x0 t ho B 136 i _ 5 40 ht hi hz hsize hby rfl (by decide) v ms.length _ hs hown' ⟨W.heap.size, 0, none⟩ 1 1 (clV x) hx rfl ?_ (oneV x) (by unfold maxLen; omega) (by omega) (by simp; omega) ?_
  · intro j u hj
    have h2 : (⟨W.heap.size, 0, none⟩ : Addr).add j = ⟨W.heap.size, j, none⟩ := by unfold Addr.add; split <;> simp_all
    rw [h2, Joins.cell_of_block (heap_alloc_new W _), ← hj]
    simp [clV]
  · intro v' w' h1 h2 h3 h4
    exact h v' w' (by unfold OwnV; rw [List.flatMap_append, List.length_append]; simpa using h1) ((hg0.alloc hB _).grown h2 (by simp; omega) (fun k hk => (hown'.lt k hk).1))
end Go.Proofs.YtiflfcpoajijaaaDoor.Rk
