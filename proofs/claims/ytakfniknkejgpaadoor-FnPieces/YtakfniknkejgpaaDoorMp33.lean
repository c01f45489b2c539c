/- Texts put together: Rg, Htb, ReqPut. -/
import Derived.Test.YtakfniknkejgpaaDoorMp2
import Derived.Test.YtakfniknkejgpaaDoorMp4
import Derived.Lib.SmallJoins
import Derived.Laws.MakeOwn
import Derived.Laws.NewBlocks
import Derived.Deep.QuietTactic
import Derived.BigQuiet
import Derived.Deep.Slices
import Derived.Deep.Fields23
import Derived.OpenShut
import Derived.Deep.RegionLaw
import Derived.BigRegion
import Derived.Laws.ResultCell
import Derived.Deep.CutRange
import Derived.Deep.DeepCutAuto
import Derived.Deep.RegionWith
import Derived.Test.YtakfniknkejgpaaDoorMp31
import Derived.Test.YtakfniknkejgpaaDoorMp32
import Derived.Maps.AppendAt
import Derived.Test.YtakfniknkejgpaaDoorMp7
import Derived.Test.YtakfniknkejgpaaDoorMp30
/- Rows of things of several cells; memory that may be written; the laws' marks of texts. -/
namespace Go.Proofs.YtakfniknkejgpaaDoor.Rg
open Go.RowKit Go.Proofs.YtakfniknkejgpaaDoor.Sl Go.Proofs.YtakfniknkejgpaaDoor.By Go.Proofs.YtakfniknkejgpaaDoor.Ap

theorem size_new (w : World) (o : Obj) : (w.alloc o).heap.size = w.heap.size + 1 := by simp
theorem blk_cell {w : World} {b : Nat} {cs : Array Value} {t : TypeId} (h : w.heap[b]? = some (.cells cs t (0, 0))) (i : Nat) {x : Value} (hx : cs[i]? = some x) : w.cell? ⟨b, i, none⟩ = some x ∧ w.frozen? ⟨b, i, none⟩ = false := by
 refine ⟨(Joins.cell_of_block h i).trans hx, ?_⟩
 simp [World.frozen?, h]
theorem blk_set {w : World} {b : Nat} {cs : Array Value} {t : TypeId} (h : w.heap[b]? = some (.cells cs t (0, 0))) (i : Nat) (x : Value) : (w.setCell ⟨b, i, none⟩ x).heap[b]? = some (.cells (cs.setIfInBounds i x) t (0, 0)) := Joins.block_setCell (i := i) h x
theorem blk_far {w : World} {b k : Nat} (hk : k ≠ b) (i : Nat) (x : Value) : (w.setCell ⟨b, i, none⟩ x).heap[k]? = w.heap[k]? := Below.heap_setCell w ⟨b, i, none⟩ x k hk
theorem blk_new (w : World) (cs : Array Value) (t : TypeId) : (w.alloc (.cells cs t)).heap[w.heap.size]? = some (.cells cs t (0, 0)) := heap_alloc_new w _
theorem bel_new (w : World) (o : Obj) : Below w.heap.size w (w.alloc o) := (Below.refl _ _).alloc (Nat.le_refl _) _
def RowG {α : Type} (c : Nat) (E : World → Nat → Nat → α → Prop) (w : World) (v : Value) (xs : List α) : Prop :=
 ∃ a cap, v = .slice a xs.length cap ∧ (xs = [] ∨ ∃ b off, a = some ⟨b, off, none⟩ ∧ xs.length ≤ cap ∧ b < w.heap.size ∧ ∀ i x, xs[i]? = some x → E w b (off + i * c) x)
def Stays {α : Type} (E : World → Nat → Nat → α → Prop) : Prop := ∀ w w' b o x, Below w.heap.size w w' → b < w.heap.size → E w b o x → E w' b o x
theorem RowG.below {α : Type} {c : Nat} {E : World → Nat → Nat → α → Prop} (hE : Stays E) {w w' : World} {v : Value} {xs : List α} (h : RowG c E w v xs) (hb : Below w.heap.size w w') : RowG c E w' v xs := by
 obtain ⟨a, cap, rfl, h⟩ := h
 refine ⟨a, cap, rfl, ?_⟩
 rcases h with h | ⟨b, off, rfl, hc, hlt, h⟩
 ·exact .inl h
 ·exact .inr ⟨b, off, rfl, hc, Nat.lt_of_lt_of_le hlt hb.size, fun i x hi => hE _ _ _ _ _ hb hlt (h i x hi)⟩
theorem RowG.at {α : Type} {c : Nat} {E : World → Nat → Nat → α → Prop} {w : World} {v : Value} {a : Option Addr} {n cap : Nat} {xs : List α} (h : RowG c E w v xs) (hv : v = .slice a n cap) {i : Nat} {x : α} (hi : xs[i]? = some x) :
 ∃ b off, a = some ⟨b, off, none⟩ ∧ b < w.heap.size ∧ E w b (off + i * c) x := by
 obtain ⟨a', cap', rfl, h⟩ := h
 cases hv
 rcases h with h | ⟨b, off, rfl, hc, hlt, h⟩
 ·rw [h] at hi; simp at hi
 ·exact ⟨b, off, rfl, hlt, h i x hi⟩
theorem RowG.slice {α : Type} {c : Nat} {E : World → Nat → Nat → α → Prop} {w : World} {v : Value} {xs : List α} (h : RowG c E w v xs) : ∃ a cap, v = .slice a xs.length cap := by
 obtain ⟨a, cap, rfl, _⟩ := h
 exact ⟨a, cap, rfl⟩

theorem ret_i {a b : Int} (h : a = b) : Ending.returned (.int .i64 a) = .returned (.int .i64 b) := by rw [h]
theorem get_at {α : Type} {xs : List α} {k : Nat} (h : k < xs.length) : ∃ x, xs[k]? = some x := ⟨_, List.getElem?_eq_getElem h⟩
theorem lt_at {α : Type} {xs : List α} {k : Nat} {x : α} (h : xs[k]? = some x) : k < xs.length := (List.getElem?_eq_some_iff.1 h).1
theorem mem_at {α : Type} {xs : List α} {k : Nat} {x : α} (h : xs[k]? = some x) : x ∈ xs := List.mem_of_getElem? h
theorem three {w w1 : World} {o0 o1 o2 : Obj} (b : Below (((w.alloc o0).alloc o1).alloc o2).heap.size (((w.alloc o0).alloc o1).alloc o2) w1) :
 w1.heap[w.heap.size]? = some o0 ∧ w1.heap[w.heap.size + 1]? = some o1 ∧ w1.heap[w.heap.size + 1 + 1]? = some o2 ∧ w.heap.size + 1 + 1 + 1 ≤ w1.heap.size ∧ Below w.heap.size w w1 := by
 have e1 : (w.alloc o0).heap.size = w.heap.size + 1 := size_new _ _
 have e2 : ((w.alloc o0).alloc o1).heap.size = w.heap.size + 1 + 1 := by rw [size_new, e1]
 have e3 : (((w.alloc o0).alloc o1).alloc o2).heap.size = w.heap.size + 1 + 1 + 1 := by rw [size_new, e2]
 have b1 : Below w.heap.size w (((w.alloc o0).alloc o1).alloc o2) := (((Below.refl _ _).alloc (Nat.le_refl _) _).alloc (by rw [e1]; omega) _).alloc (by rw [e2]; omega) _
 have s := b.size
 rw [e3] at b s
 refine ⟨?_, ?_, ?_, s, b1.trans (b.mono (by omega))⟩
 ·rw [b.block _ (by omega), Below.heap_alloc _ _ _ (by omega), Below.heap_alloc _ _ _ (by omega)]; exact heap_alloc_new w _
 ·rw [b.block _ (by omega), Below.heap_alloc _ _ _ (by omega), ← e1]; exact heap_alloc_new _ _
 ·rw [b.block _ (by omega), ← e2]; exact heap_alloc_new _ _
structure Mid (B C : Nat) (w w' : World) : Prop where
 os : w'.os = w.os
 tape : w'.tape = w.tape
 output : w'.output = w.output
 size : w.heap.size ≤ w'.heap.size
 block : ∀ k, k < w.heap.size → (k < B ∨ C ≤ k) → w'.heap[k]? = w.heap[k]?
theorem Mid.refl (B C : Nat) (w : World) : Mid B C w w := ⟨rfl, rfl, rfl, Nat.le_refl _, fun _ _ _ => rfl⟩
theorem Mid.trans {B C : Nat} {w w1 w2 : World} (h : Mid B C w w1) (g : Mid B C w1 w2) : Mid B C w w2 :=
 ⟨g.os.trans h.os, g.tape.trans h.tape, g.output.trans h.output, Nat.le_trans h.size g.size, fun k hk hn => (g.block k (Nat.lt_of_lt_of_le hk h.size) hn).trans (h.block k hk hn)⟩
theorem Mid.of_below {B C : Nat} {w w1 : World} (h : Below w.heap.size w w1) : Mid B C w w1 := ⟨h.os, h.tape, h.output, h.size, fun k hk _ => h.block k hk⟩
theorem Mid.set {B C : Nat} {w : World} {g : Nat} (h1 : B ≤ g) (h2 : g < C) (j : Nat) (x : Value) : Mid B C w (w.setCell ⟨g, j, none⟩ x) :=
 ⟨rfl, rfl, rfl, by simp, fun k _ hk => Below.heap_setCell w ⟨g, j, none⟩ x k (fun e => by have e' : k = g := e; omega)⟩
theorem Mid.below {B C : Nat} {w w1 : World} (h : Mid B C w w1) (hB : B ≤ w.heap.size) : Below B w w1 := ⟨h.os, h.tape, h.output, h.size, fun k hk => h.block k (Nat.lt_of_lt_of_le hk hB) (.inl hk)⟩
def Wr (w : World) (g n : Nat) : Prop := ∃ A t, w.heap[g]? = some (.cells A t (0, 0)) ∧ n ≤ A.size
theorem Wr.lt {w : World} {g n : Nat} (h : Wr w g n) : g < w.heap.size := by obtain ⟨A, t, h, _⟩ := h; exact (Array.getElem?_eq_some_iff.1 h).1
theorem Wr.below {w w' : World} {g n : Nat} (h : Wr w g n) (hb : Below w.heap.size w w') : Wr w' g n := by
 obtain ⟨A, t, h, hn⟩ := h
 exact ⟨A, t, (hb.block g (Array.getElem?_eq_some_iff.1 h).1).trans h, hn⟩
theorem Wr.set {w : World} {g n : Nat} (h : Wr w g n) (p j : Nat) (x : Value) : Wr (w.setCell ⟨p, j, none⟩ x) g n := by
 obtain ⟨A, t, h, hn⟩ := h
 by_cases e : p = g
 ·subst e
  exact ⟨_, t, blk_set h j x, by rw [Array.size_setIfInBounds]; exact hn⟩
 ·exact ⟨A, t, (blk_far (fun h => e h.symm) j x).trans h, hn⟩
theorem Wr.cell {w : World} {g n : Nat} (h : Wr w g n) {j : Nat} (hj : j < n) : (∃ x, w.cell? ⟨g, j, none⟩ = some x) ∧ w.frozen? ⟨g, j, none⟩ = false := by
 obtain ⟨A, t, h, hn⟩ := h
 obtain ⟨c, f⟩ := blk_cell h j (x := A[j]'(by omega)) (Array.getElem?_eq_getElem (by omega))
 exact ⟨⟨_, c⟩, f⟩
def Kw (w w' : World) : Prop := ∀ g n, Wr w g n → Wr w' g n
theorem Kw.trans {w w1 w2 : World} (h : Kw w w1) (g : Kw w1 w2) : Kw w w2 := fun a n x => g a n (h a n x)
end Go.Proofs.YtakfniknkejgpaaDoor.Rg
namespace Go.Proofs.YtakfniknkejgpaaDoor.Rg
open Go.ChangeShapes Go.WideShapes Go.ChangeAt Go.RowKit Go.Deep
end Go.Proofs.YtakfniknkejgpaaDoor.Rg

/- Requests and times in rows of one's own. -/
namespace Go.Proofs.YtakfniknkejgpaaDoor.Ea
open Go.RowKit Go.Proofs.YtakfniknkejgpaaDoor.Sl Go.Proofs.YtakfniknkejgpaaDoor.By Go.Proofs.YtakfniknkejgpaaDoor.Ap Go.Proofs.YtakfniknkejgpaaDoor.Tb Go.Proofs.YtakfniknkejgpaaDoor.Tw Go.Proofs.YtakfniknkejgpaaDoor.Wa Go.Proofs.YtakfniknkejgpaaDoor.Tp Go.Proofs.YtakfniknkejgpaaDoor.Da
open Go.Proofs.YtakfniknkejgpaaDoor.Lo (LkA uV clL OwnL own_block kind_ne)
open Go.Proofs.YtakfniknkejgpaaDoor.Rg (blk_cell blk_set bel_new)

theorem blk_far {w : World} {b k : Nat} (hk : k ≠ b) (i : Nat) (x : Value) : (w.setCell ⟨b, i, none⟩ x).heap[k]? = w.heap[k]? := Below.heap_setCell w ⟨b, i, none⟩ x k hk
theorem blk_new (w : World) (cs : Array Value) (t : TypeId) : (w.alloc (.cells cs t)).heap[w.heap.size]? = some (.cells cs t (0, 0)) := heap_alloc_new w _
def clRq (p : Da.Ask) : List Value := [.int .i64 p.cl, .int .i64 p.st, .int .i64 p.kd, .int .i64 p.le, .string p.nm]
theorem oneRq (p : Da.Ask) : ∀ u ∈ clRq p, u.oneCell' = true := by
 intro u hu
 simp [clRq] at hu
 rcases hu with rfl | rfl | rfl | rfl | rfl
 all_goals rfl
theorem atRq : ∀ (ms : List Da.Ask) (i : Nat) (x : Da.Ask) (j : Nat), ms[i]? = some x → j < 5 → (ms.flatMap clRq)[i * 5 + j]? = (clRq x)[j]?
 | [], i, x, j, h, _ => by simp at h
 | y :: r, 0, x, j, h, hj => by
   simp at h; subst h
   rw [List.flatMap_cons, List.getElem?_append_left (by show _ < 5; omega)]
   simp
 | y :: r, i + 1, x, j, h, hj => by
   have h' : r[i]? = some x := by simpa using h
   rw [List.flatMap_cons, List.getElem?_append_right (by show 5 ≤ _; omega)]
   rw [show (i + 1) * 5 + j - (clRq y).length = i * 5 + j by show _ - 5 = _; omega]
   exact atRq r i x j h' hj
def OwnRq (w : World) (B : Nat) (v : Value) (ms : List Da.Ask) : Prop := w.ownsRow B 123 5 v ms.length (ms.flatMap clRq)
theorem OwnRq.kept {w w' : World} {B : Nat} {v : Value} {ms : List Da.Ask} (h : OwnRq w B v ms) (hk : ∀ g, v.ownBlock = some g → w'.heap[g]? = w.heap[g]?) : OwnRq w' B v ms := by
 obtain ⟨hl, h⟩ := h
 refine ⟨hl, ?_⟩
 rcases h with h | ⟨g, cap, cur, rfl, h1, hg, h2⟩
 ·exact .inl h
 ·exact .inr ⟨g, cap, cur, rfl, h1, (hk g rfl).trans hg, h2⟩
theorem OwnRq.lt {w : World} {B : Nat} {v : Value} {ms : List Da.Ask} (h : OwnRq w B v ms) : ∀ g, v.ownBlock = some g → B ≤ g ∧ g < w.heap.size := World.ownsRow.lt h
theorem OwnRq.below {w w' : World} {B : Nat} {v : Value} {ms : List Da.Ask} (h : OwnRq w B v ms) (hb : Below w.heap.size w w') : OwnRq w' B v ms := h.kept fun g hg => hb.block g (h.lt g hg).2
theorem OwnRq.alloc {w : World} {B : Nat} {v : Value} {ms : List Da.Ask} (h : OwnRq w B v ms) (o : Obj) : OwnRq (w.alloc o) B v ms := h.below ((Below.refl _ _).alloc (Nat.le_refl _) _)
theorem OwnRq.made (w : World) (B : Nat) (hB : B ≤ w.heap.size) : OwnRq (w.alloc (.cells #[] 123)) B (.slice (some ⟨w.heap.size, 0, none⟩) 0 0) [] := World.ownsRow_made w #[] 0 hB (by decide) rfl
theorem OwnRq.nil (w : World) (B : Nat) : OwnRq w B (.slice none 0 0) [] := World.ownsRow_nil _ _ _ _
theorem OwnRq.slice {w : World} {B : Nat} {v : Value} {ms : List Da.Ask} (h : OwnRq w B v ms) : ∃ a cap, v = .slice a ms.length cap := by
 obtain ⟨_, h | ⟨g, cap, cur, he, _⟩⟩ := h
 ·exact ⟨none, 0, by rw [h.1, h.2]⟩
 ·exact ⟨_, cap, he⟩
theorem OwnRq.mono {w : World} {B B' : Nat} {v : Value} {ms : List Da.Ask} (h : OwnRq w B v ms) (hb : B' ≤ B) : OwnRq w B' v ms := by
 obtain ⟨hl, h⟩ := h
 refine ⟨hl, ?_⟩
 rcases h with h | ⟨g, cap, cur, rfl, h1, hg, h2⟩
 ·exact .inl h
 ·exact .inr ⟨g, cap, cur, rfl, Nat.le_trans hb h1, hg, h2⟩
theorem infoRq : (Tryd.prog.info? 123).map (fun i => (i.zero, i.size, i.bytes)) = some (some (.agg #[.int .i64 0, .int .i64 0, .int .i64 0, .int .i64 0, .string ⟨#[]⟩]), 5, 48) := by kernel_rfl
theorem listRq {P : Program} {ops : Array Oper} {rest : List Oper} {o : Oper} {a : Act} {Q : Exit → Act → World → Prop} (hgd : o.guard = none) (s x : Operand) (t : TypeId)
 (ho : o.op = .call { callee := .builtin .append, args := #[s, x], argTypes := #[t, t] }) (i : TypeInfo) (ht : P.underlying t = some (.slice 123)) (hi : P.info? 123 = some i) (hz : i.zero = some (.agg #[.int .i64 0, .int .i64 0, .int .i64 0, .int .i64 0, .string ⟨#[]⟩]))
 (hsize : i.size = 5) (hby : i.bytes = 48) (B : Nat) (w0 W : World) (v : Value) (ms : List Da.Ask) (m : Da.Ask) (hs : a.eval s = v) (hown : OwnRq W B v ms) (hg0 : Below B w0 W) (hB : B ≤ W.heap.size)
 (gx : Nat) (hx : a.eval x = .slice (some ⟨gx, 0, none⟩) 1 1) (hgx : W.heap.size = gx) (hlen : ms.length ≤ 1000000)
 (h : ∀ v' w', OwnRq w' B v' (ms ++ [m]) → Below B w0 w' → (∀ k, k < W.heap.size → some k ≠ v.ownBlock → w'.heap[k]? = W.heap[k]? ∧ some k ≠ v'.ownBlock) → wpList P ops Q rest (a.put o.dst v') w') : wpList P ops Q (o :: rest) a (W.alloc (.cells (clRq m).toArray 123)) := by
 subst hgx
 have hown' := hown.alloc (.cells (clRq m).toArray 123)
 refine wpList_append_own_at (P := P) _ hgd s x t ho B 123 i _ 5 48 ht hi hz hsize hby rfl (by decide) v ms.length _ hs hown' ⟨W.heap.size, 0, none⟩ 1 1 (clRq m) hx rfl ?_ (oneRq m) (by unfold maxLen; omega) (by omega) (by simp; omega) ?_
 ·intro j u hj
  have h2 : (⟨W.heap.size, 0, none⟩ : Addr).add j = ⟨W.heap.size, j, none⟩ := by unfold Addr.add; split <;> simp_all
  rw [h2, Joins.cell_of_block (heap_alloc_new W _), ← hj]
  simp
 ·intro v' w' h1 h2 h3 h4
  refine h v' w' (by unfold OwnRq; rw [List.flatMap_append, List.length_append]; simpa using h1) ((hg0.alloc hB _).grown h2 (by simp; omega) (fun k hk => (hown'.lt k hk).1)) (fun k hk hn => ⟨(h2.block k (by simp; omega) hn).trans (Below.heap_alloc W _ k hk), fun e => ?_⟩)
  rcases h4 with h4 | h4
  ·exact hn (e.trans h4)
  ·rw [h4] at e
   simp at e
   omega

theorem OwnRq.at {w : World} {B : Nat} {v : Value} {qs : List Da.Ask} (h : OwnRq w B v qs) {i : Nat} {q : Da.Ask} (hq : qs[i]? = some q) : ∃ b, v.ownBlock = some b ∧ (∃ c, v = .slice (some ⟨b, 0, none⟩) qs.length c) ∧ b < w.heap.size ∧ ∀ j z, (clRq q)[j]? = some z → w.cell? ⟨b, 0 + i * 5 + j, none⟩ = some z := by
 have hi := (List.getElem?_eq_some_iff.1 hq).1
 obtain ⟨hl, h | ⟨g, cap, cur, rfl, h1, hg, h2, h3, h4, htk⟩⟩ := h
 ·omega
 refine ⟨g, rfl, ⟨cap, rfl⟩, (Array.getElem?_eq_some_iff.1 hg).1, fun j z hz => ?_⟩
 have hj : j < 5 := (List.getElem?_eq_some_iff.1 hz).1
 have h5 := atRq qs i q j hq hj
 rw [hz, ← htk, List.getElem?_take] at h5
 rw [if_pos (by have : (i + 1) * 5 ≤ qs.length * 5 := Nat.mul_le_mul_right 5 hi; omega), Array.getElem?_toList] at h5
 rw [Nat.zero_add, Joins.cell_of_block hg]
 exact h5
def OwnTi (w : World) (B : Nat) (v : Value) (xs : List Int) : Prop := w.ownsRow B 3 1 v xs.length (xs.map (Value.int .i64))
theorem OwnTi.kept {w w' : World} {B : Nat} {v : Value} {ms : List Int} (h : OwnTi w B v ms) (hk : ∀ g, v.ownBlock = some g → w'.heap[g]? = w.heap[g]?) : OwnTi w' B v ms := by
 obtain ⟨hl, h⟩ := h
 refine ⟨hl, ?_⟩
 rcases h with h | ⟨g, cap, cur, rfl, h1, hg, h2⟩
 ·exact .inl h
 ·exact .inr ⟨g, cap, cur, rfl, h1, (hk g rfl).trans hg, h2⟩
theorem OwnTi.lt {w : World} {B : Nat} {v : Value} {ms : List Int} (h : OwnTi w B v ms) : ∀ g, v.ownBlock = some g → B ≤ g ∧ g < w.heap.size := World.ownsRow.lt h
theorem OwnTi.alloc {w : World} {B : Nat} {v : Value} {ms : List Int} (h : OwnTi w B v ms) (o : Obj) : OwnTi (w.alloc o) B v ms := h.kept fun g hg => ((Below.refl _ _).alloc (Nat.le_refl _) _).block g (h.lt g hg).2
theorem OwnTi.made (w : World) (B : Nat) (hB : B ≤ w.heap.size) : OwnTi (w.alloc (.cells #[] 3)) B (.slice (some ⟨w.heap.size, 0, none⟩) 0 0) [] := World.ownsRow_made w #[] 0 hB (by decide) rfl
theorem OwnTi.slice {w : World} {B : Nat} {v : Value} {ms : List Int} (h : OwnTi w B v ms) : ∃ a cap, v = .slice a ms.length cap := by
 obtain ⟨_, h | ⟨g, cap, cur, he, _⟩⟩ := h
 ·exact ⟨none, 0, by rw [h.1, h.2]⟩
 ·exact ⟨_, cap, he⟩
theorem infoTi : (Tryd.prog.info? 3).map (fun i => (i.zero, i.size, i.bytes)) = some (some (.int .i64 0), 1, 8) := by kernel_rfl
theorem OwnTi.at {w : World} {B : Nat} {v : Value} {qs : List Int} (h : OwnTi w B v qs) {i : Nat} {q : Int} (hq : qs[i]? = some q) : ∃ b, v.ownBlock = some b ∧ (∃ c, v = .slice (some ⟨b, 0, none⟩) qs.length c) ∧ b < w.heap.size ∧ w.cell? ⟨b, 0 + i, none⟩ = some (.int .i64 q) := by
 have hi := (List.getElem?_eq_some_iff.1 hq).1
 obtain ⟨hl, h | ⟨g, cap, cur, rfl, h1, hg, h2, h3, h4, htk⟩⟩ := h
 ·omega
 refine ⟨g, rfl, ⟨cap, rfl⟩, (Array.getElem?_eq_some_iff.1 hg).1, ?_⟩
 have h5 : (qs.map (Value.int .i64))[i]? = some (.int .i64 q) := by rw [List.getElem?_map, hq]; rfl
 rw [← htk, List.getElem?_take, if_pos (by omega), Array.getElem?_toList] at h5
 rw [Nat.zero_add, Joins.cell_of_block hg]
 exact h5
theorem listTi {P : Program} {ops : Array Oper} {rest : List Oper} {o : Oper} {a : Act} {Q : Exit → Act → World → Prop} (hgd : o.guard = none) (s x : Operand) (t : TypeId)
 (ho : o.op = .call { callee := .builtin .append, args := #[s, x], argTypes := #[t, t] }) (i : TypeInfo) (ht : P.underlying t = some (.slice 3)) (hi : P.info? 3 = some i) (hz : i.zero = some (.int .i64 0))
 (hsize : i.size = 1) (hby : i.bytes = 8) (B : Nat) (w0 W : World) (v : Value) (ms : List Int) (m : Int) (hs : a.eval s = v) (hown : OwnTi W B v ms) (hg0 : Below B w0 W) (hB : B ≤ W.heap.size)
 (gx : Nat) (hx : a.eval x = .slice (some ⟨gx, 0, none⟩) 1 1) (hgx : W.heap.size = gx) (hlen : ms.length ≤ 1000000)
 (h : ∀ v' w', OwnTi w' B v' (ms ++ [m]) → Below B w0 w' → (∀ k, k < W.heap.size → some k ≠ v.ownBlock → w'.heap[k]? = W.heap[k]? ∧ some k ≠ v'.ownBlock) → wpList P ops Q rest (a.put o.dst v') w') : wpList P ops Q (o :: rest) a (W.alloc (.cells #[.int .i64 m] 3)) := by
 subst hgx
 have hown' := hown.alloc (.cells #[.int .i64 m] 3)
 refine wpList_append_own_at (P := P) _ hgd s x t ho B 3 i _ 1 8 ht hi hz hsize hby rfl (by decide) v ms.length _ hs hown' ⟨W.heap.size, 0, none⟩ 1 1 [.int .i64 m] hx rfl ?_ (by intro u hu; simp at hu; subst hu; rfl) (by unfold maxLen; omega) (by omega) (by simp; omega) ?_
 ·intro j u hj
  have h2 : (⟨W.heap.size, 0, none⟩ : Addr).add j = ⟨W.heap.size, j, none⟩ := by unfold Addr.add; split <;> simp_all
  rw [h2, Joins.cell_of_block (heap_alloc_new W _), ← hj]
  simp
 ·intro v' w' h1 h2 h3 h4
  refine h v' w' (by unfold OwnTi; rw [List.map_append, List.length_append]; simpa using h1) ((hg0.alloc hB _).grown h2 (by simp; omega) (fun k hk => (hown'.lt k hk).1)) (fun k hk hn => ⟨(h2.block k (by simp; omega) hn).trans (Below.heap_alloc W _ k hk), fun e => ?_⟩)
  rcases h4 with h4 | h4
  ·exact hn (e.trans h4)
  ·rw [h4] at e
   simp at e
   omega
structure RqI (B : Nat) (w wr : World) (p : Nat) (xs : List Int) (K g : Nat) (S : Array Value) (vq vt : Value) (qs : List Da.Ask) (ts : List Int) : Prop where
 sr : Gn.Src B wr p xs K
 gr : w.grownBy wr (some p)
 hp : p < w.heap.size
 hB : B ≤ p
 oq : OwnRq wr w.heap.size vq qs
 ot : OwnTi wr w.heap.size vt ts
 sb : wr.heap[g]? = some (.cells S 3 (0, 0))
 hg : w.heap.size ≤ g
 ne : some g ≠ vt.ownBlock
theorem ownRq_block {w : World} {B : Nat} {v : Value} {qs : List Da.Ask} (h : OwnRq w B v qs) {g : Nat} (hg : v.ownBlock = some g) : ∃ cs, w.heap[g]? = some (.cells cs 123 (0, 0)) := by
 obtain ⟨_, h | ⟨g', cap, cur, rfl, _, hb, _, _, _, _⟩⟩ := h
 ·rw [h.1] at hg; cases hg
 ·cases hg; exact ⟨cur, hb⟩
theorem ownTi_block {w : World} {B : Nat} {v : Value} {qs : List Int} (h : OwnTi w B v qs) {g : Nat} (hg : v.ownBlock = some g) : ∃ cs, w.heap[g]? = some (.cells cs 3 (0, 0)) := by
 obtain ⟨_, h | ⟨g', cap, cur, rfl, _, hb, _, _, _, _⟩⟩ := h
 ·rw [h.1] at hg; cases hg
 ·cases hg; exact ⟨cur, hb⟩
theorem RqI.lts {B : Nat} {w wr : World} {p : Nat} {xs : List Int} {K g : Nat} {S : Array Value} {vq vt : Value} {qs : List Da.Ask} {ts : List Int} (h : RqI B w wr p xs K g S vq vt qs ts) :
 p < wr.heap.size ∧ g < wr.heap.size ∧ (∀ b, vq.ownBlock = some b → w.heap.size ≤ b ∧ b < wr.heap.size) ∧ (∀ b, vt.ownBlock = some b → w.heap.size ≤ b ∧ b < wr.heap.size) ∧ w.heap.size ≤ wr.heap.size :=
 ⟨Nat.lt_of_lt_of_le h.hp h.gr.size, (Array.getElem?_eq_some_iff.1 h.sb).1, fun b hb => h.oq.lt b hb, fun b hb => h.ot.lt b hb, h.gr.size⟩
theorem grown_tr {a b c : World} {r : Option Nat} (h : a.grownBy b r) (k : b.grownBy c r) : a.grownBy c r := ⟨k.os.trans h.os, k.tape.trans h.tape, k.output.trans h.output, Nat.le_trans h.size k.size, fun i hi hn => (k.block i (Nat.lt_of_lt_of_le hi h.size) hn).trans (h.block i hi hn)⟩
theorem RqI.src {B : Nat} {w wr w' : World} {p : Nat} {xs : List Int} {K K' g : Nat} {S : Array Value} {vq vt : Value} {qs : List Da.Ask} {ts : List Int} (h : RqI B w wr p xs K g S vq vt qs ts) (s : Gn.Src B w' p xs K') (k : wr.grownBy w' (some p)) : RqI B w w' p xs K' g S vq vt qs ts := by
 obtain ⟨l1, l2, l3, l4, l5⟩ := h.lts
 have hp := h.hp
 have hg := h.hg
 refine ⟨s, grown_tr h.gr k, h.hp, h.hB, h.oq.kept fun b hb => k.block b (l3 b hb).2 (fun e => ?_), h.ot.kept fun b hb => k.block b (l4 b hb).2 (fun e => ?_), (k.block g l2 (fun e => ?_)).trans h.sb, h.hg, h.ne⟩
 ·have := (l3 b hb).1; cases e; omega
 ·have := (l4 b hb).1; cases e; omega
 ·cases e; omega
theorem RqI.alloc {B : Nat} {w wr : World} {p : Nat} {xs : List Int} {K g : Nat} {S : Array Value} {vq vt : Value} {qs : List Da.Ask} {ts : List Int} (h : RqI B w wr p xs K g S vq vt qs ts) (o : Obj) : RqI B w (wr.alloc o) p xs K g S vq vt qs ts :=
 h.src (h.sr.kept (Below.heap_alloc wr o p h.lts.1) (fun k hk => Below.heap_alloc wr o k (by have := h.hB; have := h.lts.1; omega))) (World.grownBy_alloc wr o _)
theorem RqI.far {B : Nat} {w wr : World} {p : Nat} {xs : List Int} {K g : Nat} {S : Array Value} {vq vt : Value} {qs : List Da.Ask} {ts : List Int} (h : RqI B w wr p xs K g S vq vt qs ts) {x : Nat} (hp : p < x) (hg : g < x) (hq : ∀ b, vq.ownBlock = some b → b < x) (ht : ∀ b, vt.ownBlock = some b → b < x) (i : Nat) (u : Value) : RqI B w (wr.setCell ⟨x, i, none⟩ u) p xs K g S vq vt qs ts := by
 have hB := h.hB
 have hgg := h.hg
 refine ⟨h.sr.kept (blk_far (by omega) i u) (fun k hk => blk_far (by omega) i u), ⟨h.gr.os, h.gr.tape, h.gr.output, by simpa using h.gr.size, fun k hk hn => (blk_far (by omega) i u).trans (h.gr.block k hk hn)⟩, h.hp, h.hB, h.oq.kept fun b hb => blk_far (by have := hq b hb; omega) i u, h.ot.kept fun b hb => blk_far (by have := ht b hb; omega) i u, (blk_far (by omega) i u).trans h.sb, h.hg, h.ne⟩
theorem RqI.stamp {B : Nat} {w wr : World} {p : Nat} {xs : List Int} {K g : Nat} {S : Array Value} {vq vt : Value} {qs : List Da.Ask} {ts : List Int} (h : RqI B w wr p xs K g S vq vt qs ts) (c : Nat) (u : Value) : RqI B w (wr.setCell ⟨g, c, none⟩ u) p xs K g (S.setIfInBounds c u) vq vt qs ts := by
 have hp := h.hp
 have hB := h.hB
 have hgg := h.hg
 refine ⟨h.sr.kept (blk_far (by omega) c _) (fun k hk => blk_far (by omega) c _), ⟨h.gr.os, h.gr.tape, h.gr.output, by simpa using h.gr.size, fun k hk hn => (blk_far (by omega) c _).trans (h.gr.block k hk hn)⟩, h.hp, h.hB, h.oq.kept fun b hb => ?_, h.ot.kept fun b hb => blk_far (fun e => h.ne (by rw [hb, e])) c _, blk_set h.sb c u, h.hg, h.ne⟩
 obtain ⟨cs, hcs⟩ := ownRq_block h.oq hb
 exact blk_far (kind_ne hcs h.sb (by decide)) c _
theorem RqI.addQ {B : Nat} {w wr w' : World} {p : Nat} {xs : List Int} {K g : Nat} {S : Array Value} {vq vq' vt : Value} {qs qs' : List Da.Ask} {ts : List Int} (h : RqI B w wr p xs K g S vq vt qs ts) (ho : OwnRq w' w.heap.size vq' qs') (hb : Below w.heap.size wr w') (hk : ∀ k, k < wr.heap.size → some k ≠ vq.ownBlock → w'.heap[k]? = wr.heap[k]?) : RqI B w w' p xs K g S vq' vt qs' ts := by
 obtain ⟨l1, l2, l3, l4, l5⟩ := h.lts
 have hp := h.hp
 have hB := h.hB
 refine ⟨h.sr.kept (hb.block p hp) (fun k hk2 => hb.block k (by omega)), ⟨hb.os.trans h.gr.os, hb.tape.trans h.gr.tape, hb.output.trans h.gr.output, Nat.le_trans h.gr.size hb.size, fun k hk2 hn => (hb.block k hk2).trans (h.gr.block k hk2 hn)⟩, h.hp, h.hB, ho, h.ot.kept fun b hb2 => hk b (l4 b hb2).2 (fun e => ?_), (hk g l2 (fun e => ?_)).trans h.sb, h.hg, h.ne⟩
 ·obtain ⟨c1, h1⟩ := ownTi_block h.ot hb2
  obtain ⟨c2, h2⟩ := ownRq_block h.oq e.symm
  rw [h1] at h2; simp at h2
 ·obtain ⟨c2, h2⟩ := ownRq_block h.oq e.symm
  rw [h.sb] at h2; simp at h2
theorem RqI.addT {B : Nat} {w wr w' : World} {p : Nat} {xs : List Int} {K g : Nat} {S : Array Value} {vq vt vt' : Value} {qs : List Da.Ask} {ts ts' : List Int} (h : RqI B w wr p xs K g S vq vt qs ts) (ho : OwnTi w' w.heap.size vt' ts') (hb : Below w.heap.size wr w') (hk : ∀ k, k < wr.heap.size → some k ≠ vt.ownBlock → w'.heap[k]? = wr.heap[k]? ∧ some k ≠ vt'.ownBlock) : RqI B w w' p xs K g S vq vt' qs ts' := by
 obtain ⟨l1, l2, l3, l4, l5⟩ := h.lts
 have hp := h.hp
 have hB := h.hB
 refine ⟨h.sr.kept (hb.block p hp) (fun k hk2 => hb.block k (by omega)), ⟨hb.os.trans h.gr.os, hb.tape.trans h.gr.tape, hb.output.trans h.gr.output, Nat.le_trans h.gr.size hb.size, fun k hk2 hn => (hb.block k hk2).trans (h.gr.block k hk2 hn)⟩, h.hp, h.hB, h.oq.kept fun b hb2 => (hk b (l3 b hb2).2 (fun e => ?_)).1, ho, (hk g l2 h.ne).1.trans h.sb, h.hg, (hk g l2 h.ne).2⟩
 obtain ⟨c1, h1⟩ := ownTi_block h.ot e.symm
 obtain ⟨c2, h2⟩ := ownRq_block h.oq hb2
 rw [h1] at h2; simp at h2
end Go.Proofs.YtakfniknkejgpaaDoor.Ea

/- Requests' bytes: both RequestBytes functions. -/
namespace Go.Proofs.YtakfniknkejgpaaDoor.Rp
open Go.RowKit Go.Proofs.YtakfniknkejgpaaDoor.Sl Go.Proofs.YtakfniknkejgpaaDoor.By Go.Proofs.YtakfniknkejgpaaDoor.Rq Go.Proofs.YtakfniknkejgpaaDoor.Ap Go.Proofs.YtakfniknkejgpaaDoor.Pu

theorem own_away {e : TypeId} {w : World} {B : Nat} {v : Value} {zs : List Int} (h : OwnB e w B v zs) : some w.heap.size ≠ v.ownBlock := by
 intro hn
 unfold OwnB at h
 have := (h.lt _ hn.symm).2
 omega

theorem ret_tup {v : Value} {a b : Int} (h : a = b) : Ending.returned (.tuple #[v, .int .i64 a]) = .returned (.tuple #[v, .int .i64 b]) := by rw [h]
end Go.Proofs.YtakfniknkejgpaaDoor.Rp
