/- One integer more in a list of the call's own. -/
import Derived.Test.YtddmdnljfnimbaaGreatDoorSo
namespace Go.Proofs.YtddmdnljfnimbaaGreatDoor.So
open Go.RowKit Go.Proofs.YtddmdnljfnimbaaGreatDoor.Sl Go.Proofs.YtddmdnljfnimbaaGreatDoor.Is

theorem list_int1 {P : Program} {ops : Array Oper} {rest : List Oper} {o : Oper} {a : Act} {Q : Exit → Act → World → Prop} (hgd : o.guard = none) (s x : Operand) (t : TypeId)
    (ho : o.op = .call { callee := .builtin .append, args := #[s, x], argTypes := #[t, t] }) (i : TypeInfo) (ht : P.underlying t = some (.slice 3)) (hi : P.info? 3 = some i) (hz : i.zero = some (.int .i64 0))
    (hsize : i.size = 1) (hby : i.bytes = 8) (B : Nat) (w0 W : World) (v : Value) (zs : List Int) (z : Int) (hs : a.eval s = v) (hown : OwnI W B v zs) (hg0 : Below B w0 W) (hB : B ≤ W.heap.size)
    (hx : a.eval x = .slice (some ⟨W.heap.size, 0, none⟩) 1 1) (hlen : zs.length + 1 ≤ 1000000)
    (h : ∀ v' w', OwnI w' B v' (zs ++ [z]) → Below B w0 w' → v' ≠ .slice none 0 0 → wpList P ops Q rest (a.put o.dst v') w') : wpList P ops Q (o :: rest) a (W.alloc (.cells #[.int .i64 z] 3)) := by
  refine list_ints hgd s x t ho i ht hi hz hsize hby B w0 _ v zs [z] W.heap.size 0 1 1 rfl hs ?_ (hg0.alloc hB _) (by simp; omega) hx ?_ (by simpa using hlen) ?_
  · unfold OwnI at hown ⊢; exact hown.alloc _
  · intro j hj
    obtain rfl : j = 0 := by simpa using hj
    rw [Joins.cell_of_block (heap_alloc_new W _)]
    rfl
  · intro v' w' h1 h2 _ _ h4
    exact h v' w' h1 h2 (fun e => by have := (h4.1 e).2; omega)
theorem OwnI.below {w w' : World} {B : Nat} {v : Value} {ts : List Int} (h : OwnI w B v ts) (hb : Below w.heap.size w w') : OwnI w' B v ts := by
  obtain ⟨hl, h⟩ := h
  refine ⟨hl, ?_⟩
  rcases h with h | ⟨g, cap, cur, hv, hB, hgb, h⟩
  · exact .inl h
  · exact .inr ⟨g, cap, cur, hv, hB, (hb.block g (Array.getElem?_eq_some_iff.1 hgb).1).trans hgb, h⟩
end Go.Proofs.YtddmdnljfnimbaaGreatDoor.So
