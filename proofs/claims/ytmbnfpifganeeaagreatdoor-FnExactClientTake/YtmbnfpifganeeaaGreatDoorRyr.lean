/- Replies in slices of the call's own; replies that are held against one another. -/
import Derived.Test.YtmbnfpifganeeaaGreatDoorGy
import Derived.Deep.Upon
import Derived.Maps.AppendAt
import Derived.Laws.StructEq
namespace Go.Proofs.YtmbnfpifganeeaaGreatDoor.Rr11
open Go.RowKit Go.Proofs.YtmbnfpifganeeaaGreatDoor.Sl Go.Proofs.YtmbnfpifganeeaaGreatDoor.Rg
open Go.Proofs.YtmbnfpifganeeaaGreatDoor.Gy (Re)
open Go.Proofs.YtmbnfpifganeeaaGreatDoor.Ap (addr_add wp_app)

def clV (p : Re) : List Value := [.int .i64 p.nd, .int .i64 p.cl, .int .i64 p.st, .int .i64 p.kd, .int .i64 p.tk, .int .i64 p.hd, .int .i64 p.ex, .string p.mc]
theorem oneV (p : Re) : ∀ u ∈ clV p, u.oneCell' = true := by
  intro u hu
  simp [clV] at hu
  rcases hu with rfl | rfl | rfl | rfl | rfl | rfl | rfl | rfl
  all_goals rfl
theorem lenV : ∀ (ms : List Re), (ms.flatMap clV).length = ms.length * 8
  | [] => rfl
  | x :: r => by rw [List.flatMap_cons, List.length_append, lenV r]; show 8 + _ = _; simp only [List.length_cons]; omega
theorem atV : ∀ (ms : List Re) (i : Nat) (x : Re) (j : Nat), ms[i]? = some x → j < 8 → (ms.flatMap clV)[i * 8 + j]? = (clV x)[j]?
  | [], i, x, j, h, _ => by simp at h
  | y :: r, 0, x, j, h, hj => by
    simp at h; subst h
    rw [List.flatMap_cons, List.getElem?_append_left (by show _ < 8; omega)]
    simp
  | y :: r, i + 1, x, j, h, hj => by
    have h' : r[i]? = some x := by simpa using h
    rw [List.flatMap_cons, List.getElem?_append_right (by show 8 ≤ _; omega)]
    rw [show (i + 1) * 8 + j - (clV y).length = i * 8 + j by show _ - 8 = _; omega]
    exact atV r i x j h' hj
theorem memV (ms : List Re) : ∀ u ∈ ms.flatMap clV, u.oneCell' = true := by
  intro u hu
  obtain ⟨x, _, hx⟩ := List.mem_flatMap.1 hu
  exact oneV x u hx
def OwnR (w : World) (B : Nat) (v : Value) (ms : List Re) : Prop := w.ownsRow B 44 8 v ms.length (ms.flatMap clV)
theorem OwnR.kept {w w' : World} {B : Nat} {v : Value} {ms : List Re} (h : OwnR w B v ms) (hk : ∀ g, v.ownBlock = some g → w'.heap[g]? = w.heap[g]?) : OwnR w' B v ms := by
  obtain ⟨hl, h⟩ := h
  refine ⟨hl, ?_⟩
  rcases h with h | ⟨g, cap, cur, rfl, h1, hg, h2⟩
  · exact .inl h
  · exact .inr ⟨g, cap, cur, rfl, h1, (hk g rfl).trans hg, h2⟩
theorem OwnR.lt {w : World} {B : Nat} {v : Value} {ms : List Re} (h : OwnR w B v ms) : ∀ g, v.ownBlock = some g → B ≤ g ∧ g < w.heap.size := World.ownsRow.lt h
theorem OwnR.below {w w' : World} {B : Nat} {v : Value} {ms : List Re} (h : OwnR w B v ms) (hb : Below w.heap.size w w') : OwnR w' B v ms := h.kept fun g hg => hb.block g (h.lt g hg).2
theorem OwnR.alloc {w : World} {B : Nat} {v : Value} {ms : List Re} (h : OwnR w B v ms) (o : Obj) : OwnR (w.alloc o) B v ms := h.below ((Below.refl _ _).alloc (Nat.le_refl _) _)
theorem OwnR.made (w : World) (B : Nat) (hB : B ≤ w.heap.size) : OwnR (w.alloc (.cells #[] 44)) B (.slice (some ⟨w.heap.size, 0, none⟩) 0 0) [] := World.ownsRow_made w #[] 0 hB (by decide) rfl
theorem OwnR.nil (w : World) (B : Nat) : OwnR w B (.slice none 0 0) [] := World.ownsRow_nil _ _ _ _
theorem OwnR.slice {w : World} {B : Nat} {v : Value} {ms : List Re} (h : OwnR w B v ms) : ∃ a cap, v = .slice a ms.length cap := by
  obtain ⟨_, h | ⟨g, cap, cur, he, _⟩⟩ := h
  · exact ⟨none, 0, by rw [h.1, h.2]⟩
  · exact ⟨_, cap, he⟩
theorem OwnR.mono {w : World} {B B' : Nat} {v : Value} {ms : List Re} (h : OwnR w B v ms) (hb : B' ≤ B) : OwnR w B' v ms := by
  obtain ⟨hl, h⟩ := h
  refine ⟨hl, ?_⟩
  rcases h with h | ⟨g, cap, cur, rfl, h1, hg, h2⟩
  · exact .inl h
  · exact .inr ⟨g, cap, cur, rfl, Nat.le_trans hb h1, hg, h2⟩
theorem OwnR.row {w : World} {B : Nat} {v : Value} {ms : List Re} (h : OwnR w B v ms) : Gy.Row w v ms := by
  obtain ⟨hl, h⟩ := h
  rcases h with ⟨rfl, h0⟩ | ⟨g, cap, cur, rfl, hB, hg, hc, _, hs, htk⟩
  · exact ⟨none, 0, by rw [h0], .inl (List.length_eq_zero_iff.1 h0)⟩
  · refine ⟨_, cap, rfl, .inr ⟨g, 0, rfl, hc, (Array.getElem?_eq_some_iff.1 hg).1, fun i x hi => ?_⟩⟩
    have hil := (List.getElem?_eq_some_iff.1 hi).1
    have key : ∀ j u, j < 8 → (clV x)[j]? = some u → w.cell? ⟨g, 0 + i * 8 + j, none⟩ = some u := fun j u hj hu => by
      rw [Nat.zero_add, Joins.cell_of_block hg, ← Array.getElem?_toList]
      have h1 := atV ms i x j hi hj
      rw [← htk, List.getElem?_take, if_pos (by omega)] at h1
      rw [h1, hu]
    exact ⟨key 0 _ (by decide) rfl, key 1 _ (by decide) rfl, key 2 _ (by decide) rfl, key 3 _ (by decide) rfl, key 4 _ (by decide) rfl, key 5 _ (by decide) rfl, key 6 _ (by decide) rfl, key 7 _ (by decide) rfl⟩
theorem infoR : (Tryz.prog.info? 44).map (fun i => (i.zero, i.size, i.bytes)) = some (some (.agg #[.int .i64 0, .int .i64 0, .int .i64 0, .int .i64 0, .int .i64 0, .int .i64 0, .int .i64 0, .string ⟨#[]⟩]), 8, 72) := by kernel_rfl
theorem list_re {P : Program} {ops : Array Oper} {rest : List Oper} {o : Oper} {a : Act} {Q : Exit → Act → World → Prop} (hgd : o.guard = none) (s x0 : Operand) (t : TypeId)
    (ho : o.op = .call { callee := .builtin .append, args := #[s, x0], argTypes := #[t, t] }) (i : TypeInfo) (ht : P.underlying t = some (.slice 44)) (hi : P.info? 44 = some i) (hz : i.zero = some (.agg #[.int .i64 0, .int .i64 0, .int .i64 0, .int .i64 0, .int .i64 0, .int .i64 0, .int .i64 0, .string ⟨#[]⟩]))
    (hsize : i.size = 8) (hby : i.bytes = 72) (B : Nat) (w0 W : World) (v : Value) (ms : List Re) (x : Re) (hs : a.eval s = v) (hown : OwnR W B v ms) (hg0 : Below B w0 W) (hB : B ≤ W.heap.size)
    (hx : a.eval x0 = .slice (some ⟨W.heap.size, 0, none⟩) 1 1) (hlen : ms.length ≤ 1000000)
    (h : ∀ v' w', OwnR w' B v' (ms ++ [x]) → Below B w0 w' → wpList P ops Q rest (a.put o.dst v') w') : wpList P ops Q (o :: rest) a (W.alloc (.cells #[.int .i64 x.nd, .int .i64 x.cl, .int .i64 x.st, .int .i64 x.kd, .int .i64 x.tk, .int .i64 x.hd, .int .i64 x.ex, .string x.mc] 44)) := by
  have hown' := hown.alloc (.cells #[.int .i64 x.nd, .int .i64 x.cl, .int .i64 x.st, .int .i64 x.kd, .int .i64 x.tk, .int .i64 x.hd, .int .i64 x.ex, .string x.mc] 44)
  refine wpList_append_own_at (P := P) _ hgd s x0 t ho B 44 i _ 8 72 ht hi hz hsize hby rfl (by decide) v ms.length _ hs hown' ⟨W.heap.size, 0, none⟩ 1 1 (clV x) hx rfl ?_ (oneV x) (by unfold maxLen; omega) (by omega) (by simp; omega) ?_
  · intro j u hj
    have h2 : (⟨W.heap.size, 0, none⟩ : Addr).add j = ⟨W.heap.size, j, none⟩ := by unfold Addr.add; split <;> simp_all
    rw [h2, Joins.cell_of_block (heap_alloc_new W _), ← hj]
    simp [clV]
  · intro v' w' h1 h2 h3 h4
    exact h v' w' (by unfold OwnR; rw [List.flatMap_append, List.length_append]; simpa using h1) ((hg0.alloc hB _).grown h2 (by simp; omega) (fun k hk => (hown'.lt k hk).1))
theorem guardR (op : BinOp) (a b : Operand) (xs ys : Array Value) (W : World) : (eqGuard op 44 a b (.agg xs) (.agg ys)).run Tryz.prog W = .ok () W := run_eqGuard_agg W op 44 a b xs ys (by kernel_rfl)
set_option maxRecDepth 100000 in
theorem neqR (x : Re) (W : World) : (binOp .neq 44 (.agg #[.int .i64 x.nd, .int .i64 x.cl, .int .i64 x.st, .int .i64 x.kd, .int .i64 x.tk, .int .i64 x.hd, .int .i64 x.ex, .string x.mc]) (.agg #[.int .i64 x.nd, .int .i64 x.cl, .int .i64 x.st, .int .i64 x.kd, .int .i64 x.tk, .int .i64 x.hd, .int .i64 x.ex, .string x.mc])).run Tryz.prog W = .ok (.bool false) W := by
  rw [run_neq_struct, run_equalIn_struct W 9999 44 _ _ (by kernel_rfl) (by kernel_rfl)]
  simp [go_sem, Program.fieldsOf, Tryz.underlying44, Tryz.underlying42, Tryz.underlying3, Tryz.underlying9]
end Go.Proofs.YtmbnfpifganeeaaGreatDoor.Rr11
