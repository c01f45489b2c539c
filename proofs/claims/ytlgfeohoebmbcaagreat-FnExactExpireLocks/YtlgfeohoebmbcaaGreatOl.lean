/- Locks in a slice of one's own. -/
import Derived.Test.YtlgfeohoebmbcaaGreatWa
namespace Go.Proofs.YtlgfeohoebmbcaaGreat.Lo
open Go.RowKit Go.Proofs.YtlgfeohoebmbcaaGreat.Sl Go.Proofs.YtlgfeohoebmbcaaGreat.By Go.Proofs.YtlgfeohoebmbcaaGreat.Ap Go.Proofs.YtlgfeohoebmbcaaGreat.Tb Go.Proofs.YtlgfeohoebmbcaaGreat.Tw Go.Proofs.YtlgfeohoebmbcaaGreat.Mw Go.Proofs.YtlgfeohoebmbcaaGreat.Wa
open Go.Proofs.YtlgfeohoebmbcaaGreat.Tx (bel_new)
/-- A lock, and where its waiters lie. -/
abbrev LkA := Lk × Option Addr × Nat
def uV (p : LkA) : Value := .slice p.2.1 p.1.ws.length p.2.2
def clL (p : LkA) : List Value := [.string p.1.n, .int .i64 p.1.t, .int .i64 p.1.h, .int .i64 p.1.e, uV p]
theorem oneL (p : LkA) : ∀ u ∈ clL p, u.oneCell' = true := by
  intro u hu
  unfold clL at hu
  simp only [List.mem_cons, List.not_mem_nil, or_false] at hu
  rcases hu with h | h | h | h | h <;> (rw [h]; rfl)
theorem lenL : ∀ (ms : List LkA), (ms.flatMap clL).length = ms.length * 5
  | [] => rfl
  | x :: xs => by rw [List.flatMap_cons, List.length_append, lenL xs]; show 5 + _ = _; rw [List.length_cons]; omega
theorem atL : ∀ (ms : List LkA) (i : Nat) (x : LkA) (j : Nat), ms[i]? = some x → j < 5 → (ms.flatMap clL)[i * 5 + j]? = (clL x)[j]?
  | [], i, x, j, h, _ => by simp at h
  | y :: ys, 0, x, j, h, hj => by
    simp at h
    subst h
    rw [List.flatMap_cons, Nat.zero_mul, Nat.zero_add, List.getElem?_append_left (by show _ < 5; exact hj)]
  | y :: ys, i + 1, x, j, h, hj => by
    have h' : ys[i]? = some x := by simpa using h
    rw [List.flatMap_cons, List.getElem?_append_right (by show 5 ≤ _; omega), show (i + 1) * 5 + j - (clL y).length = i * 5 + j by show _ - 5 = _; omega]
    exact atL ys i x j h' hj
def OwnL (w : World) (B : Nat) (v : Value) (ms : List LkA) : Prop := w.ownsRow B 95 5 v ms.length (ms.flatMap clL)
theorem OwnL.kept {w w' : World} {B : Nat} {v : Value} {ms : List LkA} (h : OwnL w B v ms) (hk : ∀ g, v.ownBlock = some g → w'.heap[g]? = w.heap[g]?) : OwnL w' B v ms := by
  obtain ⟨hl, h⟩ := h
  refine ⟨hl, ?_⟩
  rcases h with h | ⟨g, cap, cur, rfl, h1, hg, h2⟩
  · exact .inl h
  · exact .inr ⟨g, cap, cur, rfl, h1, (hk g rfl).trans hg, h2⟩
theorem OwnL.lt {w : World} {B : Nat} {v : Value} {ms : List LkA} (h : OwnL w B v ms) : ∀ g, v.ownBlock = some g → B ≤ g ∧ g < w.heap.size := World.ownsRow.lt h
theorem OwnL.below {w w' : World} {B : Nat} {v : Value} {ms : List LkA} (h : OwnL w B v ms) (hb : Below w.heap.size w w') : OwnL w' B v ms := h.kept fun g hg => hb.block g (h.lt g hg).2
theorem OwnL.alloc {w : World} {B : Nat} {v : Value} {ms : List LkA} (h : OwnL w B v ms) (o : Obj) : OwnL (w.alloc o) B v ms := h.below (bel_new _ _)
theorem OwnL.slice {w : World} {B : Nat} {v : Value} {ms : List LkA} (h : OwnL w B v ms) : ∃ a cap, v = .slice a ms.length cap := by
  obtain ⟨_, h | ⟨g, cap, cur, he, _⟩⟩ := h
  · exact ⟨none, 0, by rw [h.1, h.2]⟩
  · exact ⟨_, cap, he⟩
/-- Rows of things of different kinds lie in different blocks. -/
theorem own_block {w : World} {B e n m : Nat} {v : Value} {xs : List Value} (h : w.ownsRow B e n v m xs) {g : Nat} (hg : v.ownBlock = some g) : ∃ cur, w.heap[g]? = some (.cells cur e (0, 0)) := by
  obtain ⟨_, ⟨rfl, _⟩ | ⟨g', cap, cur, rfl, _, h1, _⟩⟩ := h
  · cases hg
  · cases hg; exact ⟨cur, h1⟩
theorem kind_ne {w : World} {g x : Nat} {cs ds : Array Value} {e d : TypeId} (h : w.heap[g]? = some (.cells cs e (0, 0))) (k : w.heap[x]? = some (.cells ds d (0, 0))) (hne : e ≠ d) : g ≠ x := by
  rintro rfl
  rw [h] at k
  injection k with k
  injection k with _ k
  exact hne k
theorem OwnL.row {w : World} {B : Nat} {v : Value} {ms : List LkA} (h : OwnL w B v ms) (hr : ∀ p ∈ ms, RowW w (uV p) p.1.ws) : RowL w v (ms.map (·.1)) := by
  obtain ⟨hl, h⟩ := h
  rcases h with ⟨rfl, h0⟩ | ⟨g, cap, cur, rfl, hB, hg, hc, _, hs, htk⟩
  · exact ⟨none, 0, by rw [List.length_map, h0], .inl (by rw [List.length_eq_zero_iff.1 h0]; rfl)⟩
  · refine ⟨_, cap, by rw [List.length_map], .inr ⟨g, 0, rfl, by rw [List.length_map]; exact hc, (Array.getElem?_eq_some_iff.1 hg).1, fun i x hi => ?_⟩⟩
    rw [List.getElem?_map] at hi
    obtain ⟨p, hp, rfl⟩ := Option.map_eq_some_iff.1 hi
    have hil := lt_at hp
    have key : ∀ j u, j < 5 → (clL p)[j]? = some u → w.cell? ⟨g, 0 + i * 5 + j, none⟩ = some u := fun j u hj hu => by
      rw [Nat.zero_add, Joins.cell_of_block hg, ← Array.getElem?_toList]
      have h1 := atL ms i p j hp hj
      rw [← htk, List.getElem?_take, if_pos (by omega)] at h1
      rw [h1, hu]
    exact ⟨uV p, key 0 _ (by decide) rfl, key 1 _ (by decide) rfl, key 2 _ (by decide) rfl, key 3 _ (by decide) rfl, key 4 _ (by decide) rfl, hr p (mem_at hp)⟩
theorem infoL : (Tryz.prog.info? 95).map (fun i => (i.zero, i.size, i.bytes)) = some (some (.agg #[.string ⟨#[]⟩, .int .i64 0, .int .i64 0, .int .i64 0, .slice none 0 0]), 5, 64) := by kernel_rfl
/-- One lock more. -/
theorem list_lk {P : Program} {ops : Array Oper} {rest : List Oper} {o : Oper} {a : Act} {Q : Exit → Act → World → Prop} (hgd : o.guard = none) (s x : Operand) (t : TypeId)
    (ho : o.op = .call { callee := .builtin .append, args := #[s, x], argTypes := #[t, t] }) (i : TypeInfo) (ht : P.underlying t = some (.slice 95)) (hi : P.info? 95 = some i) (hz : i.zero = some (.agg #[.string ⟨#[]⟩, .int .i64 0, .int .i64 0, .int .i64 0, .slice none 0 0]))
    (hsize : i.size = 5) (hby : i.bytes = 64) (B : Nat) (w0 W : World) (v : Value) (ms : List LkA) (m : LkA) (hs : a.eval s = v) (hown : OwnL W B v ms) (hg0 : Below B w0 W) (hB : B ≤ W.heap.size)
    (gx : Nat) (hx : a.eval x = .slice (some ⟨gx, 0, none⟩) 1 1) (hgx : W.heap.size = gx) (hlen : ms.length ≤ 1000000)
    (h : ∀ v' w', OwnL w' B v' (ms ++ [m]) → Below B w0 w' → (∀ k, k < W.heap.size → some k ≠ v.ownBlock → w'.heap[k]? = W.heap[k]?) → wpList P ops Q rest (a.put o.dst v') w') : wpList P ops Q (o :: rest) a (W.alloc (.cells #[.string m.1.n, .int .i64 m.1.t, .int .i64 m.1.h, .int .i64 m.1.e, .slice m.2.1 m.1.ws.length m.2.2] 95)) := by
  subst hgx
  have hown' := hown.alloc (.cells #[.string m.1.n, .int .i64 m.1.t, .int .i64 m.1.h, .int .i64 m.1.e, .slice m.2.1 m.1.ws.length m.2.2] 95)
  refine wpList_append_own_at (P := P) _ hgd s x t ho B 95 i _ 5 64 ht hi hz hsize hby rfl (by decide) v ms.length _ hs hown' ⟨W.heap.size, 0, none⟩ 1 1 (clL m) hx rfl ?_ (oneL m) (by unfold maxLen; omega) (by omega) (by simp; omega) ?_
  · intro j u hj
    have h2 : (⟨W.heap.size, 0, none⟩ : Addr).add j = ⟨W.heap.size, j, none⟩ := by unfold Addr.add; split <;> simp_all
    rw [h2, Joins.cell_of_block (heap_alloc_new W _), ← hj]
    simp [clL, uV]
  · intro v' w' h1 h2 h3 h4
    exact h v' w' (by unfold OwnL; rw [List.flatMap_append, List.length_append]; simpa using h1) ((hg0.alloc hB _).grown h2 (by simp; omega) (fun k hk => (hown'.lt k hk).1)) (fun k hk hn => (h2.block k (by simp; omega) hn).trans (Below.heap_alloc W _ k hk))
theorem OwnL.mono {w : World} {B B' : Nat} {v : Value} {ms : List LkA} (h : OwnL w B v ms) (hb : B' ≤ B) : OwnL w B' v ms := by
  obtain ⟨hl, h⟩ := h
  refine ⟨hl, ?_⟩
  rcases h with h | ⟨g, cap, cur, rfl, h1, hg, h2⟩
  · exact .inl h
  · exact .inr ⟨g, cap, cur, rfl, Nat.le_trans hb h1, hg, h2⟩
end Go.Proofs.YtlgfeohoebmbcaaGreat.Lo
