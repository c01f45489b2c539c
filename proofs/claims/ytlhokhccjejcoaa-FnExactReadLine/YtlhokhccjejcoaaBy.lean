/- Bytes that a call has gathered in a slice of its own, and the text that they make: of no program. -/
import Derived.WalkKit
import Derived.ProofKit
import Derived.Laws.BytesArg
import Derived.Deep.AppendLies
namespace Go.Proofs.Ytlhokhccjejcoaa.By
open Go.RowKit

/-- The slice v holds the bytes zs in memory of the call's own (blocks from B on). -/
def OwnB (e : TypeId) (w : World) (B : Nat) (v : Value) (zs : List Int) : Prop := w.ownsRow B e 1 v zs.length (zs.map (Value.int .u8))
theorem own_made (e : TypeId) (w : World) (B : Nat) (cur : Array Value) (cap : Nat) (hb : B ≤ w.heap.size) (hm : cap ≤ maxLen) (hs : cur.size = cap) : OwnB e (w.alloc (.cells cur e)) B (.slice (some ⟨w.heap.size, 0, none⟩) 0 cap) [] :=
  World.ownsRow_made w cur cap hb hm (by omega)
theorem own_nil (e : TypeId) (w : World) (B : Nat) : OwnB e w B (.slice none 0 0) [] := World.ownsRow_nil w B e 1

theorem run_convert_own {P : Program} (w : World) (base : Nat) (src e dst : TypeId) (hs : P.underlying src = some (.slice e)) (he : P.underlying e = some (.int .u8)) (hd : P.underlying dst = some .string)
    (v : Value) (zs : List Int) (h : OwnB e w base v zs) : (convert src dst v).run P w = .ok (.string (strOfNums zs)) w := by
  obtain ⟨hl, h⟩ := h
  obtain ⟨n, hn⟩ : ∃ n, zs.length = n := ⟨_, rfl⟩
  rw [hn] at h
  rcases h with ⟨rfl, h0⟩ | ⟨g, cap, cur, rfl, _, hg, _, _, hcs, htk⟩
  · obtain rfl : zs = [] := List.length_eq_zero_iff.1 (by omega)
    rw [run_convert_bytes_nil w src e hs he 0 0 dst hd]
    rfl
  · refine run_convert_bytes_arg w src e hs he g 0 n cap zs hn (fun i hi => ?_) dst hd
    have h1 : (cur.toList.take (n * 1))[i]? = some (.int .u8 (zs.getD i 0)) := by
      rw [htk, List.getElem?_map, List.getElem?_eq_getElem (by omega)]
      simp [List.getD, List.getElem?_eq_getElem (show i < zs.length by omega)]
    have h2 : cur[i]? = some (.int .u8 (zs.getD i 0)) := by
      rw [List.getElem?_take] at h1
      split at h1
      · simpa using h1
      · cases h1
    simp [World.cell?, hg, h2]

/-- Where the row that is appended to and the call's own blocks lie: all that was there stays. -/
theorem below_own {w0 W w' : World} {B e n : Nat} {v : Value} {xs : List Value} (o : Obj) (hown : W.ownsRow B e 1 v n xs) (hbel : Below B w0 W) (hB : B ≤ W.heap.size) (hg : (W.alloc o).grownBy w' v.ownBlock) : Below B w0 w' :=
  (hbel.alloc hB o).grown hg (by simp; omega) (fun k hk => (hown.lt k hk).1)

/-- 'append(out, x)' of one byte onto a slice of the call's own, in a plain region. -/
theorem wpList_append_byte {P : Program} {ops : Array Oper} {rest : List Oper} {o : Oper} {a : Act} {Q : Exit → Act → World → Prop} (hgd : o.guard = none) (s x : Operand) (t : TypeId)
    (ho : o.op = .call { callee := .builtin .append, args := #[s, x], argTypes := #[t, t] }) (e : TypeId) (i : TypeInfo) (ht : P.underlying t = some (.slice e)) (hi : P.info? e = some i) (hz : i.zero = some (.int .u8 0))
    (hsize : i.size = 1) (hby : i.bytes = 1) (B : Nat) (w0 W : World) (v : Value) (zs : List Int) (z : Int) (hs : a.eval s = v) (hown : OwnB e W B v zs) (hbel : Below B w0 W) (hB : B ≤ W.heap.size)
    (hx : a.eval x = .slice (some ⟨W.heap.size, 0, none⟩) 1 1) (hlen : zs.length + 1 ≤ 140737488355328)
    (h : ∀ v' w', OwnB e w' B v' (zs ++ [z]) → Below B w0 w' → B ≤ w'.heap.size → wpList P ops Q rest (a.put o.dst v') w') : wpList P ops Q (o :: rest) a (W.alloc (.cells #[.int .u8 z] e)) := by
  refine wpList_append_own _ hgd s x t ho B e i (.int .u8 0) 1 1 ht hi hz hsize hby rfl (by decide) v zs.length _ hs (hown.alloc _) ⟨W.heap.size, 0, none⟩ 1 1 [.int .u8 z] hx rfl ?_ ?_ ?_ ?_ ?_ ?_
  · exact World.news_of_block (cs := #[.int .u8 z]) (t := e) (fr := (0, 0)) (heap_alloc_new W _)
  · simp [Value.oneCell']
  · unfold maxLen; omega
  · omega
  · simp; omega
  · intro v' w' h1 h2 _
    refine h v' w' (by unfold OwnB; simpa using h1) (below_own _ hown hbel hB h2) ?_
    have := h2.size
    simp at this
    omega

/-- The like of two bytes, at a step of a region that draws its order: behind the draw. -/
theorem step_append_two {P : Program} {ops : Array Oper} {o : Oper} {a : Act} {K : Act → World → Prop} {Q : Exit → Act → World → Prop} {E : Prop} (hgd : o.guard = none) (s x : Operand) (t : TypeId)
    (ho : o.op = .call { callee := .builtin .append, args := #[s, x], argTypes := #[t, t] }) (e : TypeId) (i : TypeInfo) (ht : P.underlying t = some (.slice e)) (hi : P.info? e = some i) (hz : i.zero = some (.int .u8 0))
    (hsize : i.size = 1) (hby : i.bytes = 1) (B : Nat) (w0 W : World) (v : Value) (zs : List Int) (z y : Int) (hs : a.eval s = v) (hown : OwnB e W B v zs) (hbel : Below B w0 W) (hB : B ≤ W.heap.size)
    (hx : a.eval x = .slice (some ⟨W.heap.size, 0, none⟩) 2 2) (hlen : zs.length + 2 ≤ 140737488355328)
    (h : ∀ v' w', OwnB e w' B v' (zs ++ [z, y]) → Below B w0 w' → B ≤ w'.heap.size → K (a.put o.dst v') w') :
    if Region.wanted o (yielded ops a.tmps) = true then Oper.wp P o a (W.alloc (.cells #[.int .u8 z, .int .u8 y] e)).drew K Q else E := by
  refine step_append_lies _ hgd s x t ho B e i (.int .u8 0) 1 1 ht hi hz hsize hby rfl (by decide) v zs.length _ hs ((hown.alloc _).drew) ⟨W.heap.size, 0, none⟩ 2 2 [.int .u8 z, .int .u8 y] hx rfl ?_ ?_ (by omega) ?_ ?_ ?_ (W.heap.size + 1) (by simp) ?_
  · exact World.news_of_block (cs := #[.int .u8 z, .int .u8 y]) (t := e) (fr := (0, 0)) (heap_alloc_new W _)
  · simp [Value.oneCell']
  · unfold maxLen; omega
  · omega
  · simp; omega
  · intro g cap w' h1 h2 _ _
    refine h _ w' (by unfold OwnB; simpa using h1) (below_own _ hown hbel hB ⟨h2.os, h2.tape, h2.output, h2.size, h2.block⟩) ?_
    have := h2.size
    simp at this
    omega
end Go.Proofs.Ytlhokhccjejcoaa.By
