/- Texts put together: Tb, Tw, Tw2. -/
import Derived.Test.YtakfniknkejgpaaDoorMt3
import Derived.Test.YtakfniknkejgpaaDoorMt4
import Derived.Deep.Slices
import Derived.Deep.Fields23
import Derived.OpenShut
import Derived.Deep.RegionLaw
import Derived.BigRegion
import Derived.Laws.ResultCell
import Derived.Deep.CutRange
import Derived.Deep.DeepCutAuto
/- Tables: locks, those that wait, what was seen; slices of things of several cells. -/
namespace Go.Proofs.YtakfniknkejgpaaDoor.Tb
open Go.RowKit Go.Proofs.YtakfniknkejgpaaDoor.Sl Go.Proofs.YtakfniknkejgpaaDoor.Ap Go.Proofs.YtakfniknkejgpaaDoor.Tx

def RowG {α : Type} (c : Nat) (E : World → Nat → Nat → α → Prop) (w : World) (v : Value) (xs : List α) : Prop :=
 ∃ a cap, v = .slice a xs.length cap ∧ (xs = [] ∨ ∃ b off, a = some ⟨b, off, none⟩ ∧ xs.length ≤ cap ∧ b < w.heap.size ∧ ∀ i x, xs[i]? = some x → E w b (off + i * c) x)
def Stays {α : Type} (E : World → Nat → Nat → α → Prop) : Prop := ∀ w w' b o x, Below w.heap.size w w' → b < w.heap.size → E w b o x → E w' b o x
theorem RowG.below {α : Type} {c : Nat} {E : World → Nat → Nat → α → Prop} (hE : Stays E) {w w' : World} {v : Value} {xs : List α} (h : RowG c E w v xs) (hb : Below w.heap.size w w') : RowG c E w' v xs := by
 obtain ⟨a, cap, rfl, h⟩ := h
 refine ⟨a, cap, rfl, ?_⟩
 rcases h with h | ⟨b, off, rfl, hc, hlt, h⟩
 ·exact .inl h
 ·exact .inr ⟨b, off, rfl, hc, Nat.lt_of_lt_of_le hlt hb.size, fun i x hi => hE _ _ _ _ _ hb hlt (h i x hi)⟩
theorem RowG.at {α : Type} {c : Nat} {E : World → Nat → Nat → α → Prop} {w : World} {v : Value} {a : Option Addr} {n cap : Nat} {xs : List α} (h : RowG c E w v xs) (hv : v = .slice a n cap) {i : Nat} {x : α} (hi : xs[i]? = some x) :
 ∃ b off, a = some ⟨b, off, none⟩ ∧ b < w.heap.size ∧ E w b (off + i * c) x := by
 obtain ⟨a', cap', rfl, h⟩ := h
 cases hv
 rcases h with h | ⟨b, off, rfl, hc, hlt, h⟩
 ·rw [h] at hi; simp at hi
 ·exact ⟨b, off, rfl, hlt, h i x hi⟩
theorem RowG.slice {α : Type} {c : Nat} {E : World → Nat → Nat → α → Prop} {w : World} {v : Value} {xs : List α} (h : RowG c E w v xs) : ∃ a cap, v = .slice a xs.length cap := by
 obtain ⟨a, cap, rfl, _⟩ := h
 exact ⟨a, cap, rfl⟩

structure Wt where
 c : Int
 l : Int
structure Lk where
 n : ByteArray
 t : Int
 h : Int
 e : Int
 ws : List Wt
structure Sn where
 c : Int
 s : Int
 k : Int
 t : Int
 h : Int
 e : Int
structure Tab where
 tm : Int
 nx : Int
 ls : List Lk
 ss : List Sn
instance : Inhabited Wt := ⟨⟨0, 0⟩⟩
instance : Inhabited Lk := ⟨⟨⟨#[]⟩, 0, 0, 0, []⟩⟩
instance : Inhabited Sn := ⟨⟨0, 0, 0, 0, 0, 0⟩⟩
def EW (w : World) (b o : Nat) (x : Wt) : Prop := w.cell? ⟨b, o, none⟩ = some (.int .i64 x.c) ∧ w.cell? ⟨b, o + 1, none⟩ = some (.int .i64 x.l)
def RowW (w : World) (v : Value) (xs : List Wt) : Prop := RowG 2 EW w v xs
def EL (w : World) (b o : Nat) (x : Lk) : Prop := ∃ u, w.cell? ⟨b, o, none⟩ = some (.string x.n) ∧ w.cell? ⟨b, o + 1, none⟩ = some (.int .i64 x.t) ∧ w.cell? ⟨b, o + 2, none⟩ = some (.int .i64 x.h) ∧ w.cell? ⟨b, o + 3, none⟩ = some (.int .i64 x.e) ∧ w.cell? ⟨b, o + 4, none⟩ = some u ∧ RowW w u x.ws
def RowL (w : World) (v : Value) (xs : List Lk) : Prop := RowG 5 EL w v xs
def ES (w : World) (b o : Nat) (x : Sn) : Prop := w.cell? ⟨b, o, none⟩ = some (.int .i64 x.c) ∧ w.cell? ⟨b, o + 1, none⟩ = some (.int .i64 x.s) ∧ w.cell? ⟨b, o + 2, none⟩ = some (.int .i64 x.k) ∧ w.cell? ⟨b, o + 3, none⟩ = some (.int .i64 x.t) ∧ w.cell? ⟨b, o + 4, none⟩ = some (.int .i64 x.h) ∧ w.cell? ⟨b, o + 5, none⟩ = some (.int .i64 x.e)
def RowS (w : World) (v : Value) (xs : List Sn) : Prop := RowG 6 ES w v xs
theorem stays_W : Stays EW := fun _ _ b _ _ hb hlt ⟨h0, h1⟩ => ⟨(hb.cell (p := ⟨b, _, none⟩) hlt).trans h0, (hb.cell (p := ⟨b, _, none⟩) hlt).trans h1⟩
theorem RowW.below {w w' : World} {v : Value} {xs : List Wt} (h : RowW w v xs) (hb : Below w.heap.size w w') : RowW w' v xs := RowG.below stays_W h hb
theorem stays_L : Stays EL := fun _ _ b _ _ hb hlt ⟨u, h0, h1, h2, h3, h4, h5⟩ => ⟨u, (hb.cell (p := ⟨b, _, none⟩) hlt).trans h0, (hb.cell (p := ⟨b, _, none⟩) hlt).trans h1, (hb.cell (p := ⟨b, _, none⟩) hlt).trans h2, (hb.cell (p := ⟨b, _, none⟩) hlt).trans h3, (hb.cell (p := ⟨b, _, none⟩) hlt).trans h4, h5.below hb⟩
theorem RowL.below {w w' : World} {v : Value} {xs : List Lk} (h : RowL w v xs) (hb : Below w.heap.size w w') : RowL w' v xs := RowG.below stays_L h hb
theorem stays_S : Stays ES := fun _ _ b _ _ hb hlt ⟨h0, h1, h2, h3, h4, h5⟩ => ⟨(hb.cell (p := ⟨b, _, none⟩) hlt).trans h0, (hb.cell (p := ⟨b, _, none⟩) hlt).trans h1, (hb.cell (p := ⟨b, _, none⟩) hlt).trans h2, (hb.cell (p := ⟨b, _, none⟩) hlt).trans h3, (hb.cell (p := ⟨b, _, none⟩) hlt).trans h4, (hb.cell (p := ⟨b, _, none⟩) hlt).trans h5⟩
theorem RowS.below {w w' : World} {v : Value} {xs : List Sn} (h : RowS w v xs) (hb : Below w.heap.size w w') : RowS w' v xs := RowG.below stays_S h hb

def tabV (tm nx : Int) (vl vs : Value) : Value := .agg #[.int .i64 tm, .int .i64 nx, vl, vs]
end Go.Proofs.YtakfniknkejgpaaDoor.Tb
namespace Go.Proofs.YtakfniknkejgpaaDoor.Op
open Go.ChangeShapes Go.WideShapes Go.ChangeAt Go.RowKit Go.Deep Go.Proofs.YtakfniknkejgpaaDoor.Tb
section
variable {H : Type} {enc : TypeId × Value → H} {w : World} {base : Nat} {spare : Nat → Bool} {held : Bool}
theorem k1 : Tryd.prog.cellsOf 3 = 1 := by kernel_rfl
theorem k2 : Tryd.prog.cellsOf 9 = 1 := by kernel_rfl
end
end Go.Proofs.YtakfniknkejgpaaDoor.Op

/- The laws' own helpers over tables: their sizes, their copies, copies that are alike. -/
namespace Go.Proofs.YtakfniknkejgpaaDoor.Tw
open Go.RowKit Go.Proofs.YtakfniknkejgpaaDoor.Sl Go.Proofs.YtakfniknkejgpaaDoor.Ap Go.Proofs.YtakfniknkejgpaaDoor.Tx Go.Proofs.YtakfniknkejgpaaDoor.Tb

theorem ret_i {a b : Int} (h : a = b) : Ending.returned (.int .i64 a) = .returned (.int .i64 b) := by rw [h]
def lkV (x : Lk) (u : Value) : Value := .agg #[.string x.n, .int .i64 x.t, .int .i64 x.h, .int .i64 x.e, u]
def snV (x : Sn) : Value := .agg #[.int .i64 x.c, .int .i64 x.s, .int .i64 x.k, .int .i64 x.t, .int .i64 x.h, .int .i64 x.e]
def wtV (x : Wt) : Value := .agg #[.int .i64 x.c, .int .i64 x.l]
theorem get_at {α : Type} {xs : List α} {k : Nat} (h : k < xs.length) : ∃ x, xs[k]? = some x := ⟨_, List.getElem?_eq_getElem h⟩
theorem lt_at {α : Type} {xs : List α} {k : Nat} {x : α} (h : xs[k]? = some x) : k < xs.length := (List.getElem?_eq_some_iff.1 h).1
theorem mem_at {α : Type} {xs : List α} {k : Nat} {x : α} (h : xs[k]? = some x) : x ∈ xs := List.mem_of_getElem? h
end Go.Proofs.YtakfniknkejgpaaDoor.Tw

/- Copies of what was seen, of locks, of tables. -/
namespace Go.Proofs.YtakfniknkejgpaaDoor.Tw
open Go.RowKit Go.Proofs.YtakfniknkejgpaaDoor.Sl Go.Proofs.YtakfniknkejgpaaDoor.Ap Go.Proofs.YtakfniknkejgpaaDoor.Tx Go.Proofs.YtakfniknkejgpaaDoor.Tb

theorem three {w w1 : World} {o0 o1 o2 : Obj} (b : Below (((w.alloc o0).alloc o1).alloc o2).heap.size (((w.alloc o0).alloc o1).alloc o2) w1) :
 w1.heap[w.heap.size]? = some o0 ∧ w1.heap[w.heap.size + 1]? = some o1 ∧ w1.heap[w.heap.size + 1 + 1]? = some o2 ∧ w.heap.size + 1 + 1 + 1 ≤ w1.heap.size ∧ Below w.heap.size w w1 := by
 have e1 : (w.alloc o0).heap.size = w.heap.size + 1 := size_new _ _
 have e2 : ((w.alloc o0).alloc o1).heap.size = w.heap.size + 1 + 1 := by rw [size_new, e1]
 have e3 : (((w.alloc o0).alloc o1).alloc o2).heap.size = w.heap.size + 1 + 1 + 1 := by rw [size_new, e2]
 have b1 : Below w.heap.size w (((w.alloc o0).alloc o1).alloc o2) := (((Below.refl _ _).alloc (Nat.le_refl _) _).alloc (by rw [e1]; omega) _).alloc (by rw [e2]; omega) _
 have s := b.size
 rw [e3] at b s
 refine ⟨?_, ?_, ?_, s, b1.trans (b.mono (by omega))⟩
 ·rw [b.block _ (by omega), Below.heap_alloc _ _ _ (by omega), Below.heap_alloc _ _ _ (by omega)]; exact heap_alloc_new w _
 ·rw [b.block _ (by omega), Below.heap_alloc _ _ _ (by omega), ← e1]; exact heap_alloc_new _ _
 ·rw [b.block _ (by omega), ← e2]; exact heap_alloc_new _ _
end Go.Proofs.YtakfniknkejgpaaDoor.Tw
