/- Texts put together: Nq, Tz, Shelf, Ho. -/
import Derived.Test.YtdeologdmdimoaaDoorBo2
import Derived.Laws.StructEq
import Derived.Test.YtdeologdmdimoaaDoorAp
import Derived.Lib.SmallJoins
import Derived.Lib.ConvBytes
import Derived.Laws.MakeOwn
import Derived.Laws.NewBlocks
import Derived.Deep.QuietTactic
import Derived.BigQuiet
import Derived.Shelf.Strings.OnBuilder
import Derived.Test.YtdeologdmdimoaaDoorProg
import Derived.Test.YtdeologdmdimoaaDoorShaH
/- Two messages, requests or readings that are alike do not differ. -/
namespace Go.Proofs.YtdeologdmdimoaaDoor.Wb
open Go.RowKit

theorem guardM (op : BinOp) (a b : Operand) (xs ys : Array Value) (W : World) : (eqGuard op 24 a b (.agg xs) (.agg ys)).run Tryd.prog W = .ok () W := run_eqGuard_agg W op 24 a b xs ys (by kernel_rfl)
set_option maxRecDepth 100000 in
theorem neqM (kd vw sq fr : Int) (dg bd mc : ByteArray) (W : World) : (binOp .neq 24 (.agg #[.int .i64 kd, .int .i64 vw, .int .i64 sq, .int .i64 fr, .string dg, .string bd, .string mc]) (.agg #[.int .i64 kd, .int .i64 vw, .int .i64 sq, .int .i64 fr, .string dg, .string bd, .string mc])).run Tryd.prog W = .ok (.bool false) W := by
  rw [run_neq_struct, run_equalIn_struct W 9999 24 _ _ (by kernel_rfl) (by kernel_rfl)]
  simp [go_sem, Program.fieldsOf, Tryd.underlying24, Tryd.underlying3, Tryd.underlying9]
theorem guardQ (op : BinOp) (a b : Operand) (xs ys : Array Value) (W : World) : (eqGuard op 71 a b (.agg xs) (.agg ys)).run Tryd.prog W = .ok () W := run_eqGuard_agg W op 71 a b xs ys (by kernel_rfl)
set_option maxRecDepth 100000 in
theorem neqQ (c st k l : Int) (n : ByteArray) (W : World) : (binOp .neq 71 (.agg #[.int .i64 c, .int .i64 st, .int .i64 k, .int .i64 l, .string n]) (.agg #[.int .i64 c, .int .i64 st, .int .i64 k, .int .i64 l, .string n])).run Tryd.prog W = .ok (.bool false) W := by
  rw [run_neq_struct, run_equalIn_struct W 9999 71 _ _ (by kernel_rfl) (by kernel_rfl)]
  simp [go_sem, Program.fieldsOf, Tryd.underlying71, Tryd.underlying3, Tryd.underlying9]
theorem guardD (op : BinOp) (a b : Operand) (xs ys : Array Value) (W : World) : (eqGuard op 40 a b (.agg xs) (.agg ys)).run Tryd.prog W = .ok () W := run_eqGuard_agg W op 40 a b xs ys (by kernel_rfl)
set_option maxRecDepth 100000 in
theorem neqD (f x : Int) (m : ByteArray) (W : World) : (binOp .neq 40 (.agg #[.int .i64 f, .int .i64 x, .string m]) (.agg #[.int .i64 f, .int .i64 x, .string m])).run Tryd.prog W = .ok (.bool false) W := by
  rw [run_neq_struct, run_equalIn_struct W 9999 40 _ _ (by kernel_rfl) (by kernel_rfl)]
  simp [go_sem, Program.fieldsOf, Tryd.underlying40, Tryd.underlying3, Tryd.underlying9]
end Go.Proofs.YtdeologdmdimoaaDoor.Wb

/- Blocks; texts in a slice: read, gathered. -/
namespace Go.Proofs.YtdeologdmdimoaaDoor.Tx
open Go.RowKit Go.Proofs.YtdeologdmdimoaaDoor.Sl Go.Proofs.YtdeologdmdimoaaDoor.By Go.Proofs.YtdeologdmdimoaaDoor.Ap

theorem val_eq {k : IntKind} {a b : Int} (h : a = b) : Value.int k a = .int k b := by rw [h]
theorem str_eq {a b : ByteArray} (h : a = b) : Value.string a = .string b := by rw [h]
theorem ret_str {a b : ByteArray} (h : a = b) : Ending.returned (.string a) = .returned (.string b) := by rw [h]
theorem size_new (w : World) (o : Obj) : (w.alloc o).heap.size = w.heap.size + 1 := by simp
theorem blk_cell {w : World} {b : Nat} {cs : Array Value} {t : TypeId} (h : w.heap[b]? = some (.cells cs t (0, 0))) (i : Nat) {x : Value} (hx : cs[i]? = some x) : w.cell? ⟨b, i, none⟩ = some x ∧ w.frozen? ⟨b, i, none⟩ = false := by
  refine ⟨(Joins.cell_of_block h i).trans hx, ?_⟩
  simp [World.frozen?, h]
theorem blk_set {w : World} {b : Nat} {cs : Array Value} {t : TypeId} (h : w.heap[b]? = some (.cells cs t (0, 0))) (i : Nat) (x : Value) : (w.setCell ⟨b, i, none⟩ x).heap[b]? = some (.cells (cs.setIfInBounds i x) t (0, 0)) := Joins.block_setCell (i := i) h x
theorem blk_far {w : World} {b k : Nat} (hk : k ≠ b) (i : Nat) (x : Value) : (w.setCell ⟨b, i, none⟩ x).heap[k]? = w.heap[k]? := Below.heap_setCell w ⟨b, i, none⟩ x k hk
theorem blk_new (w : World) (cs : Array Value) (t : TypeId) : (w.alloc (.cells cs t)).heap[w.heap.size]? = some (.cells cs t (0, 0)) := heap_alloc_new w _
theorem bel_new (w : World) (o : Obj) : Below w.heap.size w (w.alloc o) := (Below.refl _ _).alloc (Nat.le_refl _) _

def tnth (ts : List ByteArray) (i : Nat) : ByteArray := ts.getD i ⟨#[]⟩
/-- The slice v holds the texts ts. -/
def RowT (w : World) (v : Value) (ts : List ByteArray) : Prop :=
  ∃ a cap, v = .slice a ts.length cap ∧ (ts = [] ∨ ∃ b off, a = some ⟨b, off, none⟩ ∧ ts.length ≤ cap ∧ b < w.heap.size ∧ ∀ i, i < ts.length → w.cell? ⟨b, off + i, none⟩ = some (.string (tnth ts i)))
theorem RowT.below {w w' : World} {v : Value} {ts : List ByteArray} (h : RowT w v ts) (hb : Below w.heap.size w w') : RowT w' v ts := by
  obtain ⟨a, cap, rfl, h⟩ := h
  refine ⟨a, cap, rfl, ?_⟩
  rcases h with h | ⟨b, off, rfl, hc, hlt, h⟩
  · exact .inl h
  · exact .inr ⟨b, off, rfl, hc, Nat.lt_of_lt_of_le hlt hb.size, fun i hi => (hb.cell (p := ⟨b, off + i, none⟩) hlt).trans (h i hi)⟩
theorem tnth_at {ts : List ByteArray} {i : Nat} (h : i < ts.length) : ts[i]? = some (tnth ts i) := by
  unfold tnth; rw [List.getD_eq_getElem?_getD, List.getElem?_eq_getElem h]; rfl
theorem tnth_mem {ts : List ByteArray} {i : Nat} (h : i < ts.length) : tnth ts i ∈ ts := List.mem_of_getElem? (tnth_at h)
theorem tnth_append_left {xs ys : List ByteArray} {i : Nat} (h : i < xs.length) : tnth (xs ++ ys) i = tnth xs i := by
  unfold tnth; rw [List.getD_eq_getElem?_getD, List.getD_eq_getElem?_getD, List.getElem?_append_left h]
/-- A slice of texts that was written out. -/
theorem row_lit (w : World) (e : TypeId) (ts : List ByteArray) (cs : Array Value) (n : Nat) (hn : ts.length = n) (hcs : cs = (ts.map Value.string).toArray) : RowT (w.alloc (.cells cs e)) (.slice (some ⟨w.heap.size, 0, none⟩) n n) ts := by
  subst hn hcs
  refine ⟨_, _, rfl, .inr ⟨w.heap.size, 0, rfl, Nat.le_refl _, by simp, fun i hi => ?_⟩⟩
  rw [Nat.zero_add, Joins.cell_of_block (blk_new w _ e) i, List.getElem?_toArray, List.getElem?_map, tnth_at hi]
  rfl
theorem info9 : (Tryd.prog.info? 9).map (fun i => (i.zero, i.size, i.bytes)) = some (some (.string ⟨#[]⟩), 1, 16) := by kernel_rfl

/-- Texts in a slice of the call's own that may have room behind. -/
def OwnS (w : World) (B : Nat) (v : Value) (ts : List ByteArray) : Prop := w.ownsRow B 9 1 v ts.length (ts.map Value.string)
theorem OwnS.row {w : World} {B : Nat} {v : Value} {ts : List ByteArray} (h : OwnS w B v ts) : RowT w v ts := by
  obtain ⟨hl, h⟩ := h
  rcases h with ⟨rfl, h0⟩ | ⟨g, cap, cur, rfl, hB, hg, hc, _, hs, htk⟩
  · exact ⟨none, 0, by rw [h0], .inl (List.length_eq_zero_iff.1 h0)⟩
  · refine ⟨_, cap, rfl, .inr ⟨g, 0, rfl, hc, (Array.getElem?_eq_some_iff.1 hg).1, fun i hi => ?_⟩⟩
    rw [Nat.zero_add, Joins.cell_of_block hg i]
    have h1 : (cur.toList.take (ts.length * 1))[i]? = some (.string (tnth ts i)) := by
      rw [htk, List.getElem?_map, List.getElem?_eq_getElem hi]
      simp [tnth, List.getD_eq_getElem?_getD, List.getElem?_eq_getElem hi]
    rw [List.getElem?_take] at h1
    split at h1
    · simpa using h1
    · cases h1
theorem OwnS.below {w w' : World} {B : Nat} {v : Value} {ts : List ByteArray} (h : OwnS w B v ts) (hb : Below w.heap.size w w') : OwnS w' B v ts := by
  obtain ⟨hl, h⟩ := h
  refine ⟨hl, ?_⟩
  rcases h with h | ⟨g, cap, cur, hv, hB, hgb, h⟩
  · exact .inl h
  · exact .inr ⟨g, cap, cur, hv, hB, (hb.block g (Array.getElem?_eq_some_iff.1 hgb).1).trans hgb, h⟩
theorem OwnS.mono {w : World} {B B' : Nat} {v : Value} {ts : List ByteArray} (h : OwnS w B v ts) (hb : B' ≤ B) : OwnS w B' v ts := by
  obtain ⟨hl, h⟩ := h
  refine ⟨hl, ?_⟩
  rcases h with h | ⟨g, cap, cur, hv, hB, h⟩
  · exact .inl h
  · exact .inr ⟨g, cap, cur, hv, by omega, h⟩
theorem OwnS.nil (w : World) (B : Nat) : OwnS w B (.slice none 0 0) [] := World.ownsRow_nil _ _ _ _
theorem OwnS.made (w : World) (B : Nat) (hB : B ≤ w.heap.size) : OwnS (w.alloc (.cells #[] 9)) B (.slice (some ⟨w.heap.size, 0, none⟩) 0 0) [] :=
  World.ownsRow_made w #[] 0 hB (by decide) rfl
/-- 'append(list, t ..)' of some texts in a plain region, where nothing old is written. -/
theorem list_texts {P : Program} {ops : Array Oper} {rest : List Oper} {o : Oper} {a : Act} {Q : Exit → Act → World → Prop} (hgd : o.guard = none) (s x : Operand) (t : TypeId)
    (ho : o.op = .call { callee := .builtin .append, args := #[s, x], argTypes := #[t, t] }) (i : TypeInfo) (ht : P.underlying t = some (.slice 9)) (hi : P.info? 9 = some i) (hz : i.zero = some (.string ⟨#[]⟩))
    (hsize : i.size = 1) (hby : i.bytes = 16) (B : Nat) (w0 W : World) (v : Value) (ts zs : List ByteArray) (cs : Array Value) (n : Nat) (hn : zs.length = n) (hcs : cs = (zs.map Value.string).toArray) (hn1 : n ≤ 1000) (hs : a.eval s = v) (hown : OwnS W B v ts) (hg0 : Below B w0 W) (hB : B ≤ W.heap.size)
    (hx : a.eval x = .slice (some ⟨W.heap.size, 0, none⟩) n n) (hlen : ts.length ≤ 1000000)
    (h : ∀ v' w', OwnS w' B v' (ts ++ zs) → Below B w0 w' → W.heap.size ≤ w'.heap.size → (∀ k, k < W.heap.size → some k ≠ v.ownBlock → w'.heap[k]? = W.heap[k]?) → wpList P ops Q rest (a.put o.dst v') w') : wpList P ops Q (o :: rest) a (W.alloc (.cells cs 9)) := by
  subst hcs hn
  refine wpList_append_own _ hgd s x t ho B 9 i (.string ⟨#[]⟩) 1 16 ht hi hz hsize hby rfl (by decide) v ts.length _ hs (hown.alloc _) ⟨W.heap.size, 0, none⟩ zs.length zs.length (zs.map Value.string) hx (by simp) ?_ ?_ ?_ ?_ ?_ ?_
  · have := World.news_of_block (cs := (zs.map Value.string).toArray) (t := 9) (fr := (0, 0)) (heap_alloc_new W _)
    simpa using this
  · intro c hc
    obtain ⟨z, _, rfl⟩ := List.mem_map.1 hc
    rfl
  · unfold maxLen; omega
  · omega
  · simp; omega
  · intro v' w' h1 h2 _
    have hs2 := h2.size
    simp at hs2
    have hk : ∀ k, k < W.heap.size → some k ≠ v.ownBlock → w'.heap[k]? = W.heap[k]? := fun k hk hne => (h2.block k (by simp; omega) hne).trans (Below.heap_alloc W _ k hk)
    refine h v' w' (by unfold OwnS; simpa using h1) ?_ (by omega) hk
    exact (hg0.alloc hB _).grown h2 (by simp; omega) (fun k hk => (hown.lt k hk).1)
/-- 'append(list, t ..)', run. -/
theorem run_txt {P : Program} {i : TypeInfo} (t ty : TypeId) (ht : P.underlying t = some (.slice 9)) (hi : P.info? 9 = some i) (hz : i.zero = some (.string ⟨#[]⟩)) (hsize : i.size = 1) (hby : i.bytes = 16)
    (B : Nat) (W : World) (v u : Value) (zs xs : List ByteArray) (hown : OwnS W B v zs) (hB : B ≤ W.heap.size) (hu : RowT W u xs) (hlen : zs.length + xs.length ≤ 1000000000) :
    ∃ v' w', (Builtin.append_ #[t, t] ty #[v, u]).run P W = .ok v' w' ∧ OwnS w' B v' (zs ++ xs) ∧ Kp W w' v v' := by
  obtain ⟨ad, cap, rfl, hc⟩ := hu
  have hown2 := hown
  unfold OwnS at hown2
  cases ad with
  | none =>
    obtain rfl : xs = [] := by
      rcases hc with h | ⟨_, _, h, _⟩
      · exact h
      · cases h
    refine ⟨v, W, ?_, by simpa using hown, Kp.refl _ _⟩
    rcases hown2.2 with ⟨rfl, _⟩ | ⟨g, c, cur, rfl, _, _, hn, _⟩
    · exact run_append_nothing W t t ty 9 i ht hi none 0 0 (Nat.le_refl _) _ (Src.ofNil W ht cap)
    · exact run_append_nothing W t t ty 9 i ht hi _ _ _ hn _ (Src.ofNil W ht cap)
  | some ad =>
    obtain ⟨v', w', h1, h2, h3, _, h5⟩ := run_append_own_at (P := P) W B t ty 9 i (.string ⟨#[]⟩) 1 16 ht hi hz hsize hby rfl (by decide) v zs.length _ hown2 ad xs.length cap (xs.map Value.string) (by simp)
      (by
        intro j y hy
        rcases hc with rfl | ⟨b, off, e1, _, hb, hcell⟩
        · simp at hy
        · cases e1
          have hj : j < xs.length := by have := (List.getElem?_eq_some_iff.1 hy).1; simpa using this
          rw [addr_add, hcell j hj, ← hy, List.getElem?_map, tnth_at hj]
          rfl)
      (by intro y hy; obtain ⟨z, _, rfl⟩ := List.mem_map.1 hy; rfl) (by unfold maxLen; omega) (by omega) hB
    exact ⟨v', w', h1, by unfold OwnS; simpa using h2, Kp.of_grown h3 h5⟩
theorem OwnS.kp {w w1 : World} {v v1 : Value} {B : Nat} {zs : List ByteArray} (h : Kp w w1 v v1) (ho : OwnS w B v zs) (hB : B ≤ w.heap.size) : Below B w w1 := by
  refine ⟨h.os, h.tape, h.output, h.size, fun k hk => h.block k (Nat.lt_of_lt_of_le hk hB) fun hn => ?_⟩
  unfold OwnS at ho
  have := (ho.lt k hn.symm).1
  omega
theorem OwnS.drew {w : World} {B : Nat} {v : Value} {ts : List ByteArray} (h : OwnS w B v ts) : OwnS w.drew B v ts := h
/-- The same at a step of a region that draws its order. -/
theorem step_txt {P : Program} {i : TypeInfo} {ops : Array Oper} {o : Oper} {a : Act} {K : Act → World → Prop} {Q : Exit → Act → World → Prop} {E : Prop} (hgd : o.guard = none) (s x : Operand) (t : TypeId) (ho : o.op = .call { callee := .builtin .append, args := #[s, x], argTypes := #[t, t] }) (ht : P.underlying t = some (.slice 9)) (hi : P.info? 9 = some i) (hz : i.zero = some (.string ⟨#[]⟩))
    (hsize : i.size = 1) (hby : i.bytes = 16) (B : Nat) (W : World) (v u : Value) (zs xs : List ByteArray) (hs : a.eval s = v) (hx : a.eval x = u) (hown : OwnS W B v zs) (hB : B ≤ W.heap.size) (hu : RowT W u xs) (hlen : zs.length + xs.length ≤ 1000000000)
    (h : ∀ v' w', OwnS w' B v' (zs ++ xs) → Below B W w' → K (a.put o.dst v') w') : if Region.wanted o (yielded ops a.tmps) = true then Oper.wp P o a W K Q else E := by
  have hw : Region.wanted o (yielded ops a.tmps) = true := by simp [Region.wanted, hgd]
  rw [if_pos hw]
  obtain ⟨v', w', hr, ho', hg⟩ := run_txt (P := P) t o.type ht hi hz hsize hby B W v u zs xs hown hB hu hlen
  exact wp_app ho hs hx hr (h v' w' ho' (OwnS.kp hg hown hB))
/-- What was owned, and old texts, behind a call in a region that draws. -/
theorem ordS {w0 wc w1 : World} {B : Nat} {v : Value} {zs : List ByteArray} (o1 : OwnS wc B v zs) (g1 : Below B w0 wc) (hB : B ≤ wc.heap.size) (b1 : Below wc.drew.heap.size wc.drew w1) : OwnS w1 B v zs ∧ Below B w0 w1 ∧ B ≤ w1.heap.size :=
  ⟨OwnS.below o1.drew b1, g1.drew.trans (b1.mono hB), Nat.le_trans hB b1.size⟩
end Go.Proofs.YtdeologdmdimoaaDoor.Tx

/- strings.Join at this program: the library's contract, laid. -/
namespace Go.Proofs.YtdeologdmdimoaaDoor.Sf
open Go.Shelf Go.RowKit
def lays156_ren : Go.Shelf.Ren := ⟨fun | 156 => 73 | 165 => 74 | 166 => 75 | 169 => 76 | 240 => 77 | 241 => 78 | 276 => 79 | 277 => 80 | n => n, fun | 31 => 76 | 9 => 9 | 3 => 3 | 4 => 4 | 0 => 0 | 20 => 20 | 72 => 106 | 76 => 110 | 70 => 104 | 37 => 22 | 75 => 109 | 127 => 113 | 164 => 114 | 5 => 5 | 80 => 112 | n => n, fun | n => n⟩
theorem lays156 : Go.Proofs.Lays.n156 Tryd.prog lays156_ren := {
  mixed := by kernel_rfl
  f156 := Tryd.func73.trans (congrArg some (by kernel_rfl))
  f165 := Tryd.func74.trans (congrArg some (by kernel_rfl))
  f166 := Tryd.func75.trans (congrArg some (by kernel_rfl))
  f169 := Tryd.func76.trans (congrArg some (by kernel_rfl))
  f240 := Tryd.func77.trans (congrArg some (by kernel_rfl))
  f241 := Tryd.func78.trans (congrArg some (by kernel_rfl))
  f276 := Tryd.func79.trans (congrArg some (by kernel_rfl))
  f277 := Tryd.func80.trans (congrArg some (by kernel_rfl))
  t0 := Tryd.underlying0
  a0 := Tryd.isAgg0
  z0 := Tryd.sizeOf0
  v0 := Tryd.zeroValue0
  t3 := Tryd.underlying3
  a3 := Tryd.isAgg3
  z3 := Tryd.sizeOf3
  v3 := Tryd.zeroValue3
  t4 := Tryd.underlying4
  a4 := Tryd.isAgg4
  z4 := Tryd.sizeOf4
  v4 := Tryd.zeroValue4
  t9 := Tryd.underlying9
  a9 := Tryd.isAgg9
  z9 := Tryd.sizeOf9
  v9 := Tryd.zeroValue9
  t20 := Tryd.underlying20
  a20 := Tryd.isAgg20
  z20 := Tryd.sizeOf20
  v20 := Tryd.zeroValue20
  t31 := Tryd.underlying76
  a31 := Tryd.isAgg76
  z31 := Tryd.sizeOf76
  v31 := Tryd.zeroValue76
  t37 := Tryd.underlying22
  a37 := Tryd.isAgg22
  z37 := Tryd.sizeOf22
  v37 := Tryd.zeroValue22
  t70 := Tryd.underlying104
  a70 := Tryd.isAgg104
  z70 := Tryd.sizeOf104
  v70 := Tryd.zeroValue104
  t72 := Tryd.underlying106
  a72 := Tryd.isAgg106
  z72 := Tryd.sizeOf106
  v72 := Tryd.zeroValue106
  t75 := Tryd.underlying109
  a75 := Tryd.isAgg109
  z75 := Tryd.sizeOf109
  v75 := Tryd.zeroValue109
  t76 := Tryd.underlying110
  a76 := Tryd.isAgg110
  z76 := Tryd.sizeOf110
  v76 := Tryd.zeroValue110
  t127 := Tryd.underlying113
  a127 := Tryd.isAgg113
  z127 := Tryd.sizeOf113
  v127 := Tryd.zeroValue113
  t164 := Tryd.underlying114
  a164 := Tryd.isAgg114
  z164 := Tryd.sizeOf114
  v164 := Tryd.zeroValue114 }
theorem extra156 : Builder.Extra Tryd.prog lays156_ren := {
  sizeBuilder := by kernel_rfl
  liesBuilder := by kernel_rfl
  t5 := Tryd.underlying5
  a5 := Tryd.isAgg5
  z5 := Tryd.sizeOf5
  v5 := Tryd.zeroValue5
  infoByte := by kernel_rfl
  cellsByte := by kernel_rfl
  sizeByte := by kernel_rfl
  neB5 := by decide }
theorem join_laid (bk o c : Nat) (xs : List ByteArray) (sep : ByteArray) (w : World) (hcells : ∀ (j : Nat) x, xs[j]? = some x → w.cell? ⟨bk, o + j, none⟩ = some (.string x)) (hbk : bk < w.heap.size) (hN : xs.length ≤ 140737488355328) (hcap : xs.length ≤ c) (hlen : (Lib.join (xs.map (·.data.toList)) sep.data.toList).length ≤ 140737488355328) :
    Calls Tryd.prog 73 #[.slice (some ⟨bk, o, none⟩) xs.length c, .string sep] w fun e w' => e = .returned (.string ⟨(Lib.join (xs.map (·.data.toList)) sep.data.toList).toArray⟩) ∧ Below w.heap.size w w' := Any.strings_Join lays156 extra156 bk o c xs sep w hcells hbk hN hcap hlen
end Go.Proofs.YtdeologdmdimoaaDoor.Sf

/- Texts joined and hashed: impl.hashOf, secretOf, nodeOf, keyOf. -/
namespace Go.Proofs.YtdeologdmdimoaaDoor.Ho
open Go.RowKit Go.Proofs.YtdeologdmdimoaaDoor.Sl Go.Proofs.YtdeologdmdimoaaDoor.By Go.Proofs.YtdeologdmdimoaaDoor.Ap Go.Proofs.YtdeologdmdimoaaDoor.Tx Go.Proofs.YtdeologdmdimoaaDoor.Sh

theorem bys_str (xs : List Int) (h : ∀ x ∈ xs, 0 ≤ x ∧ x ≤ 255) : bys (strOfNums xs) = xs := by
  unfold bys
  rw [strOfNums_data, List.map_map]
  apply List.ext_getElem?
  intro i
  rw [List.getElem?_map]
  cases hx : xs[i]? with
  | none => rfl
  | some x =>
    have := h x (List.mem_of_getElem? hx)
    simp only [Option.map_some, Function.comp_apply]
    congr 1
    rw [UInt8.toNat_ofNat_of_lt' (by unfold UInt8.size; omega)]
    omega
theorem bys_append (a b : ByteArray) : bys (a ++ b) = bys a ++ bys b := by
  unfold bys
  rw [← List.map_append]
  congr 1
/-- All the bytes of some texts, one behind the other. -/
def cat (ts : List ByteArray) : List Int := ts.flatMap bys
def catS (ts : List ByteArray) : ByteArray := ⟨(ts.flatMap fun t => t.data.toList).toArray⟩
theorem bys_catS (ts : List ByteArray) : bys (catS ts) = cat ts := by
  unfold bys catS cat
  induction ts with
  | nil => rfl
  | cons t ts ih => simp only [List.flatMap_cons, List.map_append] at ih ⊢; rw [ih]; rfl
theorem catS_size (ts : List ByteArray) : (catS ts).size = (cat ts).length := by rw [← bys_catS, bys_length]
theorem cat_append (xs ys : List ByteArray) : cat (xs ++ ys) = cat xs ++ cat ys := by unfold cat; rw [List.flatMap_append]
theorem cat_len {n : Nat} : ∀ (ts : List ByteArray), (∀ t ∈ ts, t.size = n) → (cat ts).length = n * ts.length
  | [], _ => by simp [cat]
  | t :: ts, h => by
    have ih := cat_len ts (fun x hx => h x (List.mem_cons_of_mem _ hx))
    unfold cat at ih ⊢
    rw [List.flatMap_cons, List.length_append, ih, bys_length, h t List.mem_cons_self, List.length_cons, Nat.mul_succ]
    omega
theorem join_nosep : ∀ xs : List (List UInt8), Lib.join xs [] = xs.flatten
  | [] => rfl
  | x :: r => by rw [Lib.join_cons]; unfold Lib.joinTail; simp

/-- strings.Join of some texts, nothing between them. -/
theorem join_any (v : Value) (ts : List ByteArray) (w : World) (h : RowT w v ts) (hne : ts ≠ []) (hl : ts.length ≤ 1000000) (hs : (cat ts).length ≤ 1000000000) :
    Calls Tryd.prog 73 #[v, .string ⟨#[]⟩] w fun e w' => e = .returned (.string (catS ts)) ∧ Below w.heap.size w w' := by
  obtain ⟨a, cap, rfl, h⟩ := h
  rcases h with h | ⟨b, off, rfl, hc, hb, hcell⟩
  · exact absurd h hne
  have e : (Lib.join (ts.map (·.data.toList)) (⟨#[]⟩ : ByteArray).data.toList) = ts.flatMap fun t => t.data.toList := by
    rw [show (⟨#[]⟩ : ByteArray).data.toList = [] from rfl, join_nosep, List.flatMap_def]
  have hz : (ts.flatMap fun t => t.data.toList).length ≤ 1000000000 := by
    have h1 := catS_size ts
    have h2 : (catS ts).size = (ts.flatMap fun t => t.data.toList).length := List.size_toArray
    omega
  have := Sf.join_laid b off cap ts ⟨#[]⟩ w (fun j x hj => by
    have hj' : j < ts.length := (List.getElem?_eq_some_iff.1 hj).1
    rw [hcell j hj']
    rw [tnth_at hj'] at hj
    rw [Option.some.inj hj]) hb (by omega) hc (by rw [e]; omega)
  rw [e] at this
  exact this

/-- '[]byte(s)': the text's bytes in a new row. -/
theorem bytes_run (s : ByteArray) (w : World) : ∃ v' w', (convert 9 22 (.string s)).run Tryd.prog w = .ok v' w' ∧ RowB w' v' (bys s) ∧ Below w.heap.size w w' := by
  refine ⟨_, _, Lib.run_convert_string_bytes w 9 22 5 s (u := .string) Tryd.underlying9 Tryd.underlying22 Tryd.underlying5, ⟨_, _, by rw [bys_length], .inr ⟨w.heap.size, 0, rfl, by rw [bys_length]; exact grownCap_ge _ _ _ _, by rw [Lib.bytesWorld_size]; omega, fun i hi => ?_⟩, bys_range s⟩, ?_⟩
  · rw [bys_length] at hi
    rw [Nat.zero_add, Lib.bytesWorld_cell w 5 s i hi]
    unfold nth bys
    have hi' : i < s.data.toList.length := by simpa using hi
    rw [List.getD_eq_getElem?_getD, List.getD_eq_getElem?_getD, List.getElem?_map, List.getElem?_eq_getElem hi']
    rfl
  · refine ⟨?_, ?_, ?_, by rw [Lib.bytesWorld_size]; omega, fun k hk => Lib.bytesWorld_at_old w _ s k hk⟩ <;> simp [Lib.bytesWorld, World.freeze, World.alloc, World.drew, -World.alloc_eq, -World.drew_eq]

set_option maxHeartbeats 400000 in
theorem hashOf_any (v : Value) (ts : List ByteArray) (w : World) (h : RowT w v ts) (hne : ts ≠ []) (hl : ts.length ≤ 1000000) (hs : (cat ts).length ≤ 1000000000) (hK : KTab w) (hp : 0 < w.heap.size) :
    Calls Tryd.prog 68 #[v] w fun e w' => e = .returned (.string (hashS (cat ts))) ∧ Below w.heap.size w w' := by
  have HJ := join_any v ts w h hne hl hs
  have GK : Hid (KTab w) := hK
  clear hK h hl hs hne
  go_enter Tryd.func68, Tryd.ntmps68
  go_wp2_with fail
  refine HJ.mono ?_
  rintro e w1 ⟨rfl, b1⟩
  obtain ⟨v2, w2, hcv, r2, b2⟩ := bytes_run (catS ts) w1
  have R2 : Hid (RowB w2 v2 (bys (catS ts))) := r2
  have B2 : Hid (Below w.heap.size w w2) := b1.trans (b2.mono b1.size)
  clear r2 b2 b1
  go_wp2_with fail
  refine (implHash_any v2 _ w2 R2.out (GK.out.below B2.out hp) (Nat.lt_of_lt_of_le hp B2.out.size)).mono ?_
  rintro e w3 ⟨rfl, b3⟩
  rw [bys_catS]
  go_wp2_with fail
  go_ret
  exact ⟨rfl, B2.out.trans (b3.mono B2.out.size)⟩
/-- Of texts that are written out at the call. -/
theorem hashOf_lit (W : World) (g n : Nat) (hg : W.heap.size = g) (cs : Array Value) (ts : List ByteArray) (hn : ts.length = n) (hcs : cs = (ts.map Value.string).toArray) (h0 : 0 < n) (hl : n ≤ 1000000) (hs : (cat ts).length ≤ 1000000000) (hK : KTab W) (hp : 0 < W.heap.size) :
    Calls Tryd.prog 68 #[.slice (some ⟨g, 0, none⟩) n n] (W.alloc (.cells cs 9)) fun e w' => e = .returned (.string (hashS (cat ts))) ∧ Below W.heap.size W w' := by
  subst hg
  have b0 := bel_new W (.cells cs 9)
  refine (hashOf_any _ ts _ (row_lit W 9 ts cs n hn hcs) (fun e => by rw [e] at hn; simp at hn; omega) (by omega) hs (hK.below b0 hp) (Nat.lt_of_lt_of_le hp b0.size)).mono ?_
  rintro e w' ⟨rfl, b⟩
  exact ⟨rfl, b0.trans (b.mono b0.size)⟩
end Go.Proofs.YtdeologdmdimoaaDoor.Ho
