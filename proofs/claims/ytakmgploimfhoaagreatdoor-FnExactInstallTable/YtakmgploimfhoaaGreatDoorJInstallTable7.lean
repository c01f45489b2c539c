/- Texts put together: Tb, Tw, Tw2, Tw3, Tw4. -/
import Derived.Test.YtakmgploimfhoaaGreatDoorTz
import Derived.Test.YtakmgploimfhoaaGreatDoorJInstallTable6
import Derived.Test.YtakmgploimfhoaaGreatDoorQc
import Derived.Deep.Slices
import Derived.Deep.Fields23
import Derived.OpenShut
import Derived.Deep.RegionLaw
import Derived.BigRegion
import Derived.Laws.ResultCell
import Derived.Deep.CutRange
import Derived.Deep.DeepCutAuto
/- Tables: locks, those that wait, what was seen; slices of things of several cells. -/
namespace Go.Proofs.YtakmgploimfhoaaGreatDoor.Tb
open Go.RowKit Go.Proofs.YtakmgploimfhoaaGreatDoor.Sl Go.Proofs.YtakmgploimfhoaaGreatDoor.Ap Go.Proofs.YtakmgploimfhoaaGreatDoor.Tx

/-- Things, each of c cells, in a slice. -/
def RowG {α : Type} (c : Nat) (E : World → Nat → Nat → α → Prop) (w : World) (v : Value) (xs : List α) : Prop :=
  ∃ a cap, v = .slice a xs.length cap ∧ (xs = [] ∨ ∃ b off, a = some ⟨b, off, none⟩ ∧ xs.length ≤ cap ∧ b < w.heap.size ∧ ∀ i x, xs[i]? = some x → E w b (off + i * c) x)
/-- What is said of a thing's cells stays where memory is added alone. -/
def Stays {α : Type} (E : World → Nat → Nat → α → Prop) : Prop := ∀ w w' b o x, Below w.heap.size w w' → b < w.heap.size → E w b o x → E w' b o x
theorem RowG.below {α : Type} {c : Nat} {E : World → Nat → Nat → α → Prop} (hE : Stays E) {w w' : World} {v : Value} {xs : List α} (h : RowG c E w v xs) (hb : Below w.heap.size w w') : RowG c E w' v xs := by
  obtain ⟨a, cap, rfl, h⟩ := h
  refine ⟨a, cap, rfl, ?_⟩
  rcases h with h | ⟨b, off, rfl, hc, hlt, h⟩
  · exact .inl h
  · exact .inr ⟨b, off, rfl, hc, Nat.lt_of_lt_of_le hlt hb.size, fun i x hi => hE _ _ _ _ _ hb hlt (h i x hi)⟩
theorem RowG.at {α : Type} {c : Nat} {E : World → Nat → Nat → α → Prop} {w : World} {v : Value} {a : Option Addr} {n cap : Nat} {xs : List α} (h : RowG c E w v xs) (hv : v = .slice a n cap) {i : Nat} {x : α} (hi : xs[i]? = some x) :
    ∃ b off, a = some ⟨b, off, none⟩ ∧ b < w.heap.size ∧ E w b (off + i * c) x := by
  obtain ⟨a', cap', rfl, h⟩ := h
  cases hv
  rcases h with h | ⟨b, off, rfl, hc, hlt, h⟩
  · rw [h] at hi; simp at hi
  · exact ⟨b, off, rfl, hlt, h i x hi⟩
theorem RowG.slice {α : Type} {c : Nat} {E : World → Nat → Nat → α → Prop} {w : World} {v : Value} {xs : List α} (h : RowG c E w v xs) : ∃ a cap, v = .slice a xs.length cap := by
  obtain ⟨a, cap, rfl, _⟩ := h
  exact ⟨a, cap, rfl⟩

/-- One that waits; a lock; what was seen; a table. -/
structure Wt where
  c : Int
  l : Int
structure Lk where
  n : ByteArray
  t : Int
  h : Int
  e : Int
  ws : List Wt
structure Sn where
  c : Int
  s : Int
  k : Int
  t : Int
  h : Int
  e : Int
structure Tab where
  tm : Int
  nx : Int
  ls : List Lk
  ss : List Sn
instance : Inhabited Wt := ⟨⟨0, 0⟩⟩
instance : Inhabited Lk := ⟨⟨⟨#[]⟩, 0, 0, 0, []⟩⟩
instance : Inhabited Sn := ⟨⟨0, 0, 0, 0, 0, 0⟩⟩
def EW (w : World) (b o : Nat) (x : Wt) : Prop := w.cell? ⟨b, o, none⟩ = some (.int .i64 x.c) ∧ w.cell? ⟨b, o + 1, none⟩ = some (.int .i64 x.l)
def RowW (w : World) (v : Value) (xs : List Wt) : Prop := RowG 2 EW w v xs
def EL (w : World) (b o : Nat) (x : Lk) : Prop := ∃ u, w.cell? ⟨b, o, none⟩ = some (.string x.n) ∧ w.cell? ⟨b, o + 1, none⟩ = some (.int .i64 x.t) ∧ w.cell? ⟨b, o + 2, none⟩ = some (.int .i64 x.h) ∧ w.cell? ⟨b, o + 3, none⟩ = some (.int .i64 x.e) ∧ w.cell? ⟨b, o + 4, none⟩ = some u ∧ RowW w u x.ws
def RowL (w : World) (v : Value) (xs : List Lk) : Prop := RowG 5 EL w v xs
def ES (w : World) (b o : Nat) (x : Sn) : Prop := w.cell? ⟨b, o, none⟩ = some (.int .i64 x.c) ∧ w.cell? ⟨b, o + 1, none⟩ = some (.int .i64 x.s) ∧ w.cell? ⟨b, o + 2, none⟩ = some (.int .i64 x.k) ∧ w.cell? ⟨b, o + 3, none⟩ = some (.int .i64 x.t) ∧ w.cell? ⟨b, o + 4, none⟩ = some (.int .i64 x.h) ∧ w.cell? ⟨b, o + 5, none⟩ = some (.int .i64 x.e)
def RowS (w : World) (v : Value) (xs : List Sn) : Prop := RowG 6 ES w v xs
theorem stays_W : Stays EW := fun _ _ b _ _ hb hlt ⟨h0, h1⟩ => ⟨(hb.cell (p := ⟨b, _, none⟩) hlt).trans h0, (hb.cell (p := ⟨b, _, none⟩) hlt).trans h1⟩
theorem RowW.below {w w' : World} {v : Value} {xs : List Wt} (h : RowW w v xs) (hb : Below w.heap.size w w') : RowW w' v xs := RowG.below stays_W h hb
theorem stays_L : Stays EL := fun _ _ b _ _ hb hlt ⟨u, h0, h1, h2, h3, h4, h5⟩ => ⟨u, (hb.cell (p := ⟨b, _, none⟩) hlt).trans h0, (hb.cell (p := ⟨b, _, none⟩) hlt).trans h1, (hb.cell (p := ⟨b, _, none⟩) hlt).trans h2, (hb.cell (p := ⟨b, _, none⟩) hlt).trans h3, (hb.cell (p := ⟨b, _, none⟩) hlt).trans h4, h5.below hb⟩
theorem RowL.below {w w' : World} {v : Value} {xs : List Lk} (h : RowL w v xs) (hb : Below w.heap.size w w') : RowL w' v xs := RowG.below stays_L h hb
theorem stays_S : Stays ES := fun _ _ b _ _ hb hlt ⟨h0, h1, h2, h3, h4, h5⟩ => ⟨(hb.cell (p := ⟨b, _, none⟩) hlt).trans h0, (hb.cell (p := ⟨b, _, none⟩) hlt).trans h1, (hb.cell (p := ⟨b, _, none⟩) hlt).trans h2, (hb.cell (p := ⟨b, _, none⟩) hlt).trans h3, (hb.cell (p := ⟨b, _, none⟩) hlt).trans h4, (hb.cell (p := ⟨b, _, none⟩) hlt).trans h5⟩
theorem RowS.below {w w' : World} {v : Value} {xs : List Sn} (h : RowS w v xs) (hb : Below w.heap.size w w') : RowS w' v xs := RowG.below stays_S h hb

/-- Texts are no longer than memory holds. -/
def LkZ (x : Lk) : Prop := x.n.size ≤ maxLen ∧ x.ws.length ≤ maxLen
/-- A table, as it is handed over. -/
def tabV (tm nx : Int) (vl vs : Value) : Value := .agg #[.int .i64 tm, .int .i64 nx, vl, vs]
end Go.Proofs.YtakmgploimfhoaaGreatDoor.Tb
namespace Go.Proofs.YtakmgploimfhoaaGreatDoor.Op
open Go.ChangeShapes Go.WideShapes Go.ChangeAt Go.RowKit Go.Deep Go.Proofs.YtakmgploimfhoaaGreatDoor.Tb
theorem open_rows {α : Type} [Inhabited α] {H : Type} {enc : TypeId × Value → H} {P : Program} {w : World} {base : Nat} {spare : Nat → Bool} {held : Bool} {t e : TypeId} {c : Nat} {E : World → Nat → Nat → α → Prop} {G : α → Prop}
    (hu : P.underlying t = some (.slice e)) (hce : P.cellsOf e = c) (h0 : 0 < c)
    (step : ∀ (n : Nat) (cs : List Value) (b o : Nat) (y : DataW H × List MemPlace), cs.length = c → (∀ j, j < c → w.cell? ⟨b, o + j, none⟩ = cs[j]?) → DataW.trod enc P w base spare held n e cs = some y → ∃ q, E w b o q ∧ G q)
    {fuel : Nat} {cs : List Value} {y : DataW H × List MemPlace} (hf : DataW.trod enc P w base spare held fuel t cs = some y) :
    ∃ v xs, cs = [v] ∧ RowG c E w v xs ∧ xs.length ≤ maxLen ∧ ∀ x ∈ xs, G x := by
  rcases open_slice hu hf with ⟨hcs, _⟩ | ⟨x, len, cap, m, n, D, Pl, hcs, _, hl, hm, hmm, _, hcell⟩
  · exact ⟨_, [], hcs, ⟨none, 0, rfl, .inl rfl⟩, by simp, fun _ hx => by cases hx⟩
  · have hlm : len ≤ m := by rw [hmm]; split <;> omega
    rw [hce] at hcell
    by_cases hz : len = 0
    · subst hz
      exact ⟨_, [], hcs, ⟨some x, cap, rfl, .inl rfl⟩, by simp, fun _ hx => by cases hx⟩
    obtain ⟨b, off, spot⟩ := x
    have hadd : ∀ (s : Nat) (j : Nat), (⟨b, s, none⟩ : Addr).add j = ⟨b, s + j, none⟩ := fun s j => by unfold Addr.add; split <;> simp_all
    have hspot : spot = none := by
      obtain ⟨cs', h1, _⟩ := hcell 0 (by omega)
      obtain ⟨_, hlen, hc⟩ := World.cells?_some h1
      have e0 := hc 0 h0
      rw [List.getElem?_eq_getElem (by omega)] at e0
      simpa [Addr.add] using World.cell?_spot e0
    subst hspot
    have hlt : b < w.heap.size := by
      obtain ⟨cs', h1, _⟩ := hcell 0 (by omega)
      obtain ⟨_, hlen, hc⟩ := World.cells?_some h1
      have e0 := hc 0 h0
      rw [List.getElem?_eq_getElem (by omega), hadd, hadd] at e0
      exact World.block_lt_of_cell? w _ e0
    have each : ∀ i, i < len → ∃ q : α, E w b (off + i * c) q ∧ G q := by
      intro i hi
      obtain ⟨cs', h1, h2⟩ := hcell i (by omega)
      obtain ⟨_, hlen, hc⟩ := World.cells?_some h1
      refine step n cs' b (off + i * c) _ hlen (fun j hj => ?_) h2
      have e0 := hc j hj
      rw [hadd, hadd] at e0
      exact e0
    obtain ⟨q, hq⟩ := choose_lt each
    have hrl : ((List.range len).map q).length = len := by simp
    refine ⟨_, (List.range len).map q, hcs, ⟨some ⟨b, off, none⟩, cap, by rw [hrl], .inr ⟨b, off, rfl, by rw [hrl]; exact hl, hlt, fun i x hi => ?_⟩⟩, by rw [hrl]; omega, fun x hx => ?_⟩
    · have hil : i < len := by have := (List.getElem?_eq_some_iff.1 hi).1; rw [hrl] at this; exact this
      simp [hil] at hi
      subst hi
      exact (hq i hil).1
    · obtain ⟨i, hi, rfl⟩ := List.mem_map.1 hx
      exact (hq i (List.mem_range.1 hi)).2
theorem cell_eq {w : World} {b o : Nat} {cs : List Value} {c : Nat} (h : ∀ j, j < c → w.cell? ⟨b, o + j, none⟩ = cs[j]?) (j : Nat) (hj : j < c) {v : Value} (hv : cs[j]? = some v) : w.cell? ⟨b, o + j, none⟩ = some v := (h j hj).trans hv
section
variable {H : Type} {enc : TypeId × Value → H} {w : World} {base : Nat} {spare : Nat → Bool} {held : Bool}
theorem k1 : Tryz.prog.cellsOf 3 = 1 := by kernel_rfl
theorem k2 : Tryz.prog.cellsOf 9 = 1 := by kernel_rfl
end
end Go.Proofs.YtakmgploimfhoaaGreatDoor.Op

/- The laws' own helpers over tables: their sizes, their copies, copies that are alike. -/
namespace Go.Proofs.YtakmgploimfhoaaGreatDoor.Tw
open Go.RowKit Go.Proofs.YtakmgploimfhoaaGreatDoor.Sl Go.Proofs.YtakmgploimfhoaaGreatDoor.Ap Go.Proofs.YtakmgploimfhoaaGreatDoor.Tx Go.Proofs.YtakmgploimfhoaaGreatDoor.Tb

theorem ret_i {a b : Int} (h : a = b) : Ending.returned (.int .i64 a) = .returned (.int .i64 b) := by rw [h]
def lft (left s : Int) : Int := if left < s then -1 else left - s
theorem lft_no {left s : Int} (h : left < s) : lft left s = -1 := if_pos h
theorem lft_yes {left s : Int} (h : ¬ left < s) : lft left s = left - s := if_neg h
def lkV (x : Lk) (u : Value) : Value := .agg #[.string x.n, .int .i64 x.t, .int .i64 x.h, .int .i64 x.e, u]
def snV (x : Sn) : Value := .agg #[.int .i64 x.c, .int .i64 x.s, .int .i64 x.k, .int .i64 x.t, .int .i64 x.h, .int .i64 x.e]
def wtV (x : Wt) : Value := .agg #[.int .i64 x.c, .int .i64 x.l]
theorem get_at {α : Type} {xs : List α} {k : Nat} (h : k < xs.length) : ∃ x, xs[k]? = some x := ⟨_, List.getElem?_eq_getElem h⟩
theorem lt_at {α : Type} {xs : List α} {k : Nat} {x : α} (h : xs[k]? = some x) : k < xs.length := (List.getElem?_eq_some_iff.1 h).1
theorem mem_at {α : Type} {xs : List α} {k : Nat} {x : α} (h : xs[k]? = some x) : x ∈ xs := List.mem_of_getElem? h
end Go.Proofs.YtakmgploimfhoaaGreatDoor.Tw

/- Copies of what was seen, of locks, of tables. -/
namespace Go.Proofs.YtakmgploimfhoaaGreatDoor.Tw
open Go.RowKit Go.Proofs.YtakmgploimfhoaaGreatDoor.Sl Go.Proofs.YtakmgploimfhoaaGreatDoor.Ap Go.Proofs.YtakmgploimfhoaaGreatDoor.Tx Go.Proofs.YtakmgploimfhoaaGreatDoor.Tb

/-- Three new blocks, one behind the other, in every later world. -/
theorem three {w w1 : World} {o0 o1 o2 : Obj} (b : Below (((w.alloc o0).alloc o1).alloc o2).heap.size (((w.alloc o0).alloc o1).alloc o2) w1) :
    w1.heap[w.heap.size]? = some o0 ∧ w1.heap[w.heap.size + 1]? = some o1 ∧ w1.heap[w.heap.size + 1 + 1]? = some o2 ∧ w.heap.size + 1 + 1 + 1 ≤ w1.heap.size ∧ Below w.heap.size w w1 := by
  have e1 : (w.alloc o0).heap.size = w.heap.size + 1 := size_new _ _
  have e2 : ((w.alloc o0).alloc o1).heap.size = w.heap.size + 1 + 1 := by rw [size_new, e1]
  have e3 : (((w.alloc o0).alloc o1).alloc o2).heap.size = w.heap.size + 1 + 1 + 1 := by rw [size_new, e2]
  have b1 : Below w.heap.size w (((w.alloc o0).alloc o1).alloc o2) := (((Below.refl _ _).alloc (Nat.le_refl _) _).alloc (by rw [e1]; omega) _).alloc (by rw [e2]; omega) _
  have s := b.size
  rw [e3] at b s
  refine ⟨?_, ?_, ?_, s, b1.trans (b.mono (by omega))⟩
  · rw [b.block _ (by omega), Below.heap_alloc _ _ _ (by omega), Below.heap_alloc _ _ _ (by omega)]; exact heap_alloc_new w _
  · rw [b.block _ (by omega), Below.heap_alloc _ _ _ (by omega), ← e1]; exact heap_alloc_new _ _
  · rw [b.block _ (by omega), ← e2]; exact heap_alloc_new _ _
theorem info_toWaiterS : (Tryz.prog.info? 87).map (fun i => (i.zero, i.size, i.bytes)) = some (some (.agg #[.int .i64 0, .int .i64 0]), 2, 16) := by kernel_rfl
/-- The copy: its first k are written. -/
def Cop_toWaiterS (xs : List Wt) (k : Nat) (A : Array Value) : Prop := A.size = xs.length * 2 ∧ ∀ j x, j < k → xs[j]? = some x → A[j * 2]? = some (.int .i64 x.c) ∧ A[j * 2 + 1]? = some (.int .i64 x.l)
theorem cop_toWaiterS {xs : List Wt} {k : Nat} {A : Array Value} {x : Wt} (h : Cop_toWaiterS xs k A) (hx : xs[k]? = some x) :
    Cop_toWaiterS xs (k + 1) (((A).setIfInBounds (k * 2) (.int .i64 x.c)).setIfInBounds (k * 2 + 1) (.int .i64 x.l)) := by
  have hk := lt_at hx
  have hs := h.1
  refine ⟨by simpa using h.1, fun j y hj hy => ?_⟩
  simp only [Array.getElem?_setIfInBounds, Array.size_setIfInBounds]
  by_cases e : j = k
  · subst e
    rw [hx] at hy
    cases hy
    refine ⟨?_, ?_⟩
    all_goals (repeat' (first | rw [if_pos rfl, if_pos (by omega)] | rw [if_neg (by omega)]))
  · obtain ⟨h0, h1⟩ := h.2 j y (by omega) hy
    refine ⟨?_, ?_⟩
    all_goals (repeat' rw [if_neg (by omega)])
    all_goals assumption
theorem info_toSeenS : (Tryz.prog.info? 91).map (fun i => (i.zero, i.size, i.bytes)) = some (some (.agg #[.int .i64 0, .int .i64 0, .int .i64 0, .int .i64 0, .int .i64 0, .int .i64 0]), 6, 48) := by kernel_rfl
/-- The copy: its first k are written. -/
def Cop_toSeenS (xs : List Sn) (k : Nat) (A : Array Value) : Prop := A.size = xs.length * 6 ∧ ∀ j x, j < k → xs[j]? = some x → A[j * 6]? = some (.int .i64 x.c) ∧ A[j * 6 + 1]? = some (.int .i64 x.s) ∧ A[j * 6 + 2]? = some (.int .i64 x.k) ∧ A[j * 6 + 3]? = some (.int .i64 x.t) ∧ A[j * 6 + 4]? = some (.int .i64 x.h) ∧ A[j * 6 + 5]? = some (.int .i64 x.e)
theorem cop_toSeenS {xs : List Sn} {k : Nat} {A : Array Value} {x : Sn} (h : Cop_toSeenS xs k A) (hx : xs[k]? = some x) :
    Cop_toSeenS xs (k + 1) (((((((A).setIfInBounds (k * 6) (.int .i64 x.c)).setIfInBounds (k * 6 + 1) (.int .i64 x.s)).setIfInBounds (k * 6 + 2) (.int .i64 x.k)).setIfInBounds (k * 6 + 3) (.int .i64 x.t)).setIfInBounds (k * 6 + 4) (.int .i64 x.h)).setIfInBounds (k * 6 + 5) (.int .i64 x.e)) := by
  have hk := lt_at hx
  have hs := h.1
  refine ⟨by simpa using h.1, fun j y hj hy => ?_⟩
  simp only [Array.getElem?_setIfInBounds, Array.size_setIfInBounds]
  by_cases e : j = k
  · subst e
    rw [hx] at hy
    cases hy
    refine ⟨?_, ?_, ?_, ?_, ?_, ?_⟩
    all_goals (repeat' (first | rw [if_pos rfl, if_pos (by omega)] | rw [if_neg (by omega)]))
  · obtain ⟨h0, h1, h2, h3, h4, h5⟩ := h.2 j y (by omega) hy
    refine ⟨?_, ?_, ?_, ?_, ?_, ?_⟩
    all_goals (repeat' rw [if_neg (by omega)])
    all_goals assumption
end Go.Proofs.YtakmgploimfhoaaGreatDoor.Tw

/- Copies of locks and tables; copies that are alike. -/
namespace Go.Proofs.YtakmgploimfhoaaGreatDoor.Tw
open Go.RowKit Go.Proofs.YtakmgploimfhoaaGreatDoor.Sl Go.Proofs.YtakmgploimfhoaaGreatDoor.Ap Go.Proofs.YtakmgploimfhoaaGreatDoor.Tx Go.Proofs.YtakmgploimfhoaaGreatDoor.Tb

theorem ew_set {w : World} {b o : Nat} {x : Wt} {p i : Nat} {v : Value} (hne : p ≠ b) (h : EW w b o x) : EW (w.setCell ⟨p, i, none⟩ v) b o x :=
  ⟨(World.cell?_setCell_other _ _ _ _ (fun e => hne (by have := congrArg Addr.block e; exact this))).trans h.1, (World.cell?_setCell_other _ _ _ _ (fun e => hne (by have := congrArg Addr.block e; exact this))).trans h.2⟩
theorem ew_below {w w' : World} {b o : Nat} {x : Wt} (hb : Below w.heap.size w w') (hlt : b < w.heap.size) (h : EW w b o x) : EW w' b o x := stays_W _ _ _ _ _ hb hlt h
/-- Rows that lie from block B on. -/
def EWA (B : Nat) (w : World) (b o : Nat) (x : Wt) : Prop := B ≤ b ∧ EW w b o x
def ESA (B : Nat) (w : World) (b o : Nat) (x : Sn) : Prop := B ≤ b ∧ ES w b o x
def ELA (B : Nat) (w : World) (b o : Nat) (x : Lk) : Prop := B ≤ b ∧ ∃ u, w.cell? ⟨b, o, none⟩ = some (.string x.n) ∧ w.cell? ⟨b, o + 1, none⟩ = some (.int .i64 x.t) ∧ w.cell? ⟨b, o + 2, none⟩ = some (.int .i64 x.h) ∧ w.cell? ⟨b, o + 3, none⟩ = some (.int .i64 x.e) ∧ w.cell? ⟨b, o + 4, none⟩ = some u ∧ RowG 2 (EWA B) w u x.ws
def RowLA (B : Nat) (w : World) (v : Value) (xs : List Lk) : Prop := RowG 5 (ELA B) w v xs
def RowSA (B : Nat) (w : World) (v : Value) (xs : List Sn) : Prop := RowG 6 (ESA B) w v xs
/-- From block B on both worlds are alike. -/
def Abv (B : Nat) (w w' : World) : Prop := w.heap.size ≤ w'.heap.size ∧ ∀ k, B ≤ k → k < w.heap.size → w'.heap[k]? = w.heap[k]?
theorem Abv.cell {B : Nat} {w w' : World} (h : Abv B w w') {b o : Nat} (hB : B ≤ b) {v : Value} (hc : w.cell? ⟨b, o, none⟩ = some v) : w'.cell? ⟨b, o, none⟩ = some v :=
  (World.cell?_of_block (w := w) (h.2 b hB (World.block_lt_of_cell? w _ hc))).trans hc
theorem Abv.set {B : Nat} {w w' : World} (h : Abv B w w') {p i : Nat} (hp : p < B) (v : Value) : Abv B w (w'.setCell ⟨p, i, none⟩ v) :=
  ⟨by simpa using h.1, fun k hk hk2 => (blk_far (by omega) i v).trans (h.2 k hk hk2)⟩
theorem Abv.refl (B : Nat) (w : World) : Abv B w w := ⟨Nat.le_refl _, fun _ _ _ => rfl⟩
theorem Abv.of {B : Nat} {w w' : World} (h : Below w.heap.size w w') : Abv B w w' := ⟨h.size, fun k _ hk => h.block k hk⟩
theorem RowG.keep {α : Type} {c B : Nat} {E E' : World → Nat → Nat → α → Prop} {w w' : World} {v : Value} {xs : List α} (h : RowG c E w v xs) (ha : Abv B w w') (hE : ∀ b o x, b < w.heap.size → E w b o x → E' w' b o x) : RowG c E' w' v xs := by
  obtain ⟨a, cap, rfl, h⟩ := h
  refine ⟨a, cap, rfl, ?_⟩
  rcases h with h | ⟨b, off, rfl, hc, hlt, h⟩
  · exact .inl h
  · exact .inr ⟨b, off, rfl, hc, Nat.lt_of_lt_of_le hlt ha.1, fun i x hi => hE _ _ _ hlt (h i x hi)⟩
theorem ewa_keep {B : Nat} {w w' : World} (ha : Abv B w w') {b o : Nat} {x : Wt} (h : EWA B w b o x) : EWA B w' b o x := ⟨h.1, ha.cell h.1 h.2.1, ha.cell h.1 h.2.2⟩
theorem RowLA.keep {B : Nat} {w w' : World} {v : Value} {xs : List Lk} (h : RowLA B w v xs) (ha : Abv B w w') : RowLA B w' v xs :=
  RowG.keep h ha fun _ _ _ _ ⟨hB, u, h0, h1, h2, h3, h4, h5⟩ => ⟨hB, u, ha.cell hB h0, ha.cell hB h1, ha.cell hB h2, ha.cell hB h3, ha.cell hB h4, RowG.keep h5 ha fun _ _ _ _ h => ewa_keep ha h⟩
theorem RowSA.keep {B : Nat} {w w' : World} {v : Value} {xs : List Sn} (h : RowSA B w v xs) (ha : Abv B w w') : RowSA B w' v xs :=
  RowG.keep h ha fun _ _ _ _ ⟨hB, h0, h1, h2, h3, h4, h5⟩ => ⟨hB, ha.cell hB h0, ha.cell hB h1, ha.cell hB h2, ha.cell hB h3, ha.cell hB h4, ha.cell hB h5⟩
theorem RowLA.row {B : Nat} {w : World} {v : Value} {xs : List Lk} (h : RowLA B w v xs) : RowL w v xs :=
  RowG.keep h (Abv.refl B w) fun _ _ _ _ ⟨_, u, h0, h1, h2, h3, h4, h5⟩ => ⟨u, h0, h1, h2, h3, h4, RowG.keep h5 (Abv.refl B w) fun _ _ _ _ h => h.2⟩
theorem RowSA.row {B : Nat} {w : World} {v : Value} {xs : List Sn} (h : RowSA B w v xs) : RowS w v xs :=
  RowG.keep h (Abv.refl B w) fun _ _ _ _ h => h.2
theorem RowLA.mono {B B' : Nat} {w : World} {v : Value} {xs : List Lk} (h : RowLA B w v xs) (hB : B' ≤ B) : RowLA B' w v xs :=
  RowG.keep h (Abv.refl B w) fun _ _ _ _ ⟨hb, u, h0, h1, h2, h3, h4, h5⟩ => ⟨Nat.le_trans hB hb, u, h0, h1, h2, h3, h4, RowG.keep h5 (Abv.refl B w) fun _ _ _ _ h => ⟨Nat.le_trans hB h.1, h.2⟩⟩
theorem info_toLockS : (Tryz.prog.info? 85).map (fun i => (i.zero, i.size, i.bytes)) = some (some (.agg #[.string ⟨#[]⟩, .int .i64 0, .int .i64 0, .int .i64 0, .slice none 0 0]), 5, 64) := by kernel_rfl
/-- The copy of locks: its first k are written, each with a new list of those that wait. -/
def CopL (w : World) (g : Nat) (xs : List Lk) (k : Nat) (A : Array Value) : Prop := A.size = xs.length * 5 ∧ ∀ j x, j < k → xs[j]? = some x → ∃ h, A[j * 5]? = some (.string x.n) ∧ A[j * 5 + 1]? = some (.int .i64 x.t) ∧ A[j * 5 + 2]? = some (.int .i64 x.h) ∧ A[j * 5 + 3]? = some (.int .i64 x.e) ∧ A[j * 5 + 4]? = some (.slice (some ⟨h, 0, none⟩) x.ws.length x.ws.length) ∧ g < h ∧ h < w.heap.size ∧ ∀ i y, x.ws[i]? = some y → EW w h (i * 2) y
theorem CopL.below {w w' : World} {g : Nat} {xs : List Lk} {k : Nat} {A : Array Value} (h : CopL w g xs k A) (hb : Below w.heap.size w w') : CopL w' g xs k A :=
  ⟨h.1, fun j x hj hx => by
    obtain ⟨q, h0, h1, h2, h3, h4, h5, h6, h7⟩ := h.2 j x hj hx
    exact ⟨q, h0, h1, h2, h3, h4, h5, Nat.lt_of_lt_of_le h6 hb.size, fun i y hy => ew_below hb h6 (h7 i y hy)⟩⟩
theorem CopL.set {w : World} {g i : Nat} {v : Value} {xs : List Lk} {k : Nat} {A : Array Value} (h : CopL w g xs k A) : CopL (w.setCell ⟨g, i, none⟩ v) g xs k A :=
  ⟨h.1, fun j x hj hx => by
    obtain ⟨q, h0, h1, h2, h3, h4, h5, h6, h7⟩ := h.2 j x hj hx
    exact ⟨q, h0, h1, h2, h3, h4, h5, by simpa using h6, fun i y hy => ew_set (by omega) (h7 i y hy)⟩⟩
theorem cop_toLockS {w : World} {g : Nat} {xs : List Lk} {k : Nat} {A : Array Value} {x : Lk} {q : Nat} (h : CopL w g xs k A) (hx : xs[k]? = some x) (hg : g < q) (hq : q < w.heap.size) (hr : ∀ i y, x.ws[i]? = some y → EW w q (i * 2) y) :
    CopL w g xs (k + 1) (((((A.setIfInBounds (k * 5) (.string x.n)).setIfInBounds (k * 5 + 1) (.int .i64 x.t)).setIfInBounds (k * 5 + 2) (.int .i64 x.h)).setIfInBounds (k * 5 + 3) (.int .i64 x.e)).setIfInBounds (k * 5 + 4) (.slice (some ⟨q, 0, none⟩) x.ws.length x.ws.length)) := by
  have hk := lt_at hx
  have hs := h.1
  refine ⟨by simpa using h.1, fun j y hj hy => ?_⟩
  simp only [Array.getElem?_setIfInBounds, Array.size_setIfInBounds]
  by_cases e : j = k
  · subst e
    rw [hx] at hy
    cases hy
    refine ⟨q, ?_, ?_, ?_, ?_, ?_, hg, hq, hr⟩
    all_goals (repeat' (first | rw [if_pos rfl, if_pos (by omega)] | rw [if_neg (by omega)]))
  · obtain ⟨p, h0, h1, h2, h3, h4, h5⟩ := h.2 j y (by omega) hy
    refine ⟨p, ?_, ?_, ?_, ?_, ?_, h5⟩
    all_goals (repeat' rw [if_neg (by omega)])
    all_goals assumption
end Go.Proofs.YtakmgploimfhoaaGreatDoor.Tw

/- Copies of tables; copies that are alike. -/
namespace Go.Proofs.YtakmgploimfhoaaGreatDoor.Tw
open Go.RowKit Go.Proofs.YtakmgploimfhoaaGreatDoor.Sl Go.Proofs.YtakmgploimfhoaaGreatDoor.Ap Go.Proofs.YtakmgploimfhoaaGreatDoor.Tx Go.Proofs.YtakmgploimfhoaaGreatDoor.Tb

theorem two_new (w : World) (o0 o1 : Obj) : Below w.heap.size w ((w.alloc o0).alloc o1) := ((Below.refl _ _).alloc (Nat.le_refl _) _).alloc (by simp) _
theorem two {w w1 : World} {o0 o1 : Obj} (b : Below ((w.alloc o0).alloc o1).heap.size ((w.alloc o0).alloc o1) w1) :
    w1.heap[w.heap.size]? = some o0 ∧ w1.heap[w.heap.size + 1]? = some o1 ∧ Below w.heap.size w w1 := by
  have e1 : (w.alloc o0).heap.size = w.heap.size + 1 := size_new _ _
  have e2 : ((w.alloc o0).alloc o1).heap.size = w.heap.size + 1 + 1 := by rw [size_new, e1]
  have b1 := two_new w o0 o1
  rw [e2] at b
  refine ⟨?_, ?_, b1.trans (b.mono (by omega))⟩
  · rw [b.block _ (by omega), Below.heap_alloc _ _ _ (by omega)]; exact heap_alloc_new w _
  · rw [b.block _ (by omega), ← e1]; exact heap_alloc_new _ _
set_option maxRecDepth 100000 in
set_option maxHeartbeats 800000 in
theorem eqWaiter_same (x : Wt) (w : World) :
    Calls Tryz.prog 112 #[wtV x, wtV x] w fun e w' => e = .returned (.bool true) ∧ Below w.heap.size w w' := by
  unfold wtV
  have e0 : (x.c != x.c) = false := by simp
  have e1 : (x.l != x.l) = false := by simp
  go_enter Tryz.func112, Tryz.ntmps112
  go_wp2_with fail
  go_ret
  exact ⟨rfl, two_new _ _ _⟩
set_option maxRecDepth 100000 in
set_option maxHeartbeats 800000 in
theorem eqAnswer_same (k t h e0 : Int) (w : World) :
    Calls Tryz.prog 89 #[.agg #[.int .i64 k, .int .i64 t, .int .i64 h, .int .i64 e0], .agg #[.int .i64 k, .int .i64 t, .int .i64 h, .int .i64 e0]] w fun e w' => e = .returned (.bool true) ∧ Below w.heap.size w w' := by
  have q0 : (k != k) = false := by simp
  have q1 : (t != t) = false := by simp
  have q2 : (h != h) = false := by simp
  have q3 : (e0 != e0) = false := by simp
  go_enter Tryz.func89, Tryz.ntmps89
  go_wp2_with fail
  go_ret
  exact ⟨rfl, two_new _ _ _⟩
set_option maxRecDepth 100000 in
set_option maxHeartbeats 800000 in
theorem eqSeen_same (x : Sn) (w : World) :
    Calls Tryz.prog 59 #[snV x, snV x] w fun e w' => e = .returned (.bool true) ∧ Below w.heap.size w w' := by
  unfold snV
  have q0 : (x.c != x.c) = false := by simp
  have q1 : (x.s != x.s) = false := by simp
  go_enter Tryz.func59, Tryz.ntmps59
  go_wp2_with fail
  refine (eqAnswer_same x.k x.t x.h x.e _).mono ?_
  rintro e w1 ⟨rfl, b1⟩
  have g1 := (two b1).2.2
  clear b1
  go_wp2_with fail
  go_ret
  exact ⟨rfl, g1⟩
set_option maxRecDepth 100000 in
set_option maxHeartbeats 800000 in
theorem eqWaiterS_same (v u0 : Value) (xs : List Wt) (w : World) (h : RowW w v xs) (g : RowW w u0 xs) (hl : xs.length ≤ 1048576) :
    Calls Tryz.prog 88 #[v, u0] w fun e w' => e = .returned (.bool true) ∧ Below w.heap.size w w' := by
  have HR : Hid (RowW w v xs) := h
  have HG : Hid (RowW w u0 xs) := g
  obtain ⟨a, cap, rfl⟩ := RowG.slice h
  obtain ⟨a', cap', rfl⟩ := RowG.slice g
  clear h g
  have hne : ((xs.length : Int) != (xs.length : Int)) = false := by simp
  go_enter Tryz.func88, Tryz.ntmps88
  go_wp2_with fail
  go_loopw [5] (fun i wr => ∃ k : Nat, k ≤ xs.length ∧ i = .int .i64 k ∧ Hid (Below w.heap.size w wr)) (fun i _ => xs.length - (intOf i).toNat)
  case atStart => exact ⟨0, by omega, rfl, Below.refl _ _⟩
  case round =>
    obtain ⟨k, hk, rfl, HB⟩ := hrel
    by_cases hlt : k < xs.length
    · obtain ⟨x, hx⟩ := get_at hlt
      obtain ⟨b, off, rfl, hb, c0, c1⟩ := RowG.at (HR.out.below HB.out) rfl hx
      obtain ⟨b', off', rfl, hb', d0, d1⟩ := RowG.at (HG.out.below HB.out) rfl hx
      have HK : Hid (xs[k]? = some x) := hx
      clear hx
      have hp0 : (0 : Int) ≤ (k : Int) := by omega
      have hp1 : (k : Int) < (xs.length : Int) := by omega
      go_upto_region 6 with fail
      obtain ⟨X, hX, W, QI0, QO0⟩ := Qc.klass wr
      have QI : Hid (∀ w', Below wr.heap.size wr w' → ∃ x, w' = W x) := QI0
      have QO : Hid (∀ x, Below wr.heap.size wr (W x)) := QO0
      clear QI0 QO0
      have y0 := Qc.cell_all QO.out c0
      have z0 := Qc.cell_all QO.out d0
      have y1 := Qc.cell_all QO.out c1
      have z1 := Qc.cell_all QO.out d1
      refine Qc.region_class (W := W) (by kernel_rfl) (by kernel_rfl) (QI.out _ Qc.from_drew) ?_
      repeat (go_big_quiet_step (first | (go_at_call 112; refine (eqWaiter_same x _).mono ?_; rintro e w2 ⟨rfl, b2⟩; exact ⟨rfl, Qc.back QI.out QO.out b2⟩)))
      refine wpQuiet_nil ?_
      rintro _ ⟨xq, rfl⟩
      have G2 : Hid (Below w.heap.size w (W xq)) := HB.out.trans ((QO.out xq).mono HB.out.size)
      generalize W xq = wq at G2 ⊢
      go_wp2_with fail
      exact ⟨⟨k + 1, by omega, by go_num, G2⟩, by simp [intOf]; omega⟩
    · go_wp2_with fail
      go_ret
      exact ⟨rfl, HB.out⟩
set_option maxRecDepth 100000 in
set_option maxHeartbeats 800000 in
theorem eqSeenS_same (v u0 : Value) (xs : List Sn) (w : World) (h : RowS w v xs) (g : RowS w u0 xs) (hl : xs.length ≤ 1048576) :
    Calls Tryz.prog 29 #[v, u0] w fun e w' => e = .returned (.bool true) ∧ Below w.heap.size w w' := by
  have HR : Hid (RowS w v xs) := h
  have HG : Hid (RowS w u0 xs) := g
  obtain ⟨a, cap, rfl⟩ := RowG.slice h
  obtain ⟨a', cap', rfl⟩ := RowG.slice g
  clear h g
  have hne : ((xs.length : Int) != (xs.length : Int)) = false := by simp
  go_enter Tryz.func29, Tryz.ntmps29
  go_wp2_with fail
  go_loopw [5] (fun i wr => ∃ k : Nat, k ≤ xs.length ∧ i = .int .i64 k ∧ Hid (Below w.heap.size w wr)) (fun i _ => xs.length - (intOf i).toNat)
  case atStart => exact ⟨0, by omega, rfl, Below.refl _ _⟩
  case round =>
    obtain ⟨k, hk, rfl, HB⟩ := hrel
    by_cases hlt : k < xs.length
    · obtain ⟨x, hx⟩ := get_at hlt
      obtain ⟨b, off, rfl, hb, c0, c1, c2, c3, c4, c5⟩ := RowG.at (HR.out.below HB.out) rfl hx
      obtain ⟨b', off', rfl, hb', d0, d1, d2, d3, d4, d5⟩ := RowG.at (HG.out.below HB.out) rfl hx
      have HK : Hid (xs[k]? = some x) := hx
      clear hx
      have hp0 : (0 : Int) ≤ (k : Int) := by omega
      have hp1 : (k : Int) < (xs.length : Int) := by omega
      go_upto_region 6 with fail
      obtain ⟨X, hX, W, QI0, QO0⟩ := Qc.klass wr
      have QI : Hid (∀ w', Below wr.heap.size wr w' → ∃ x, w' = W x) := QI0
      have QO : Hid (∀ x, Below wr.heap.size wr (W x)) := QO0
      clear QI0 QO0
      have y0 := Qc.cell_all QO.out c0
      have z0 := Qc.cell_all QO.out d0
      have y1 := Qc.cell_all QO.out c1
      have z1 := Qc.cell_all QO.out d1
      have y2 := Qc.cell_all QO.out c2
      have z2 := Qc.cell_all QO.out d2
      have y3 := Qc.cell_all QO.out c3
      have z3 := Qc.cell_all QO.out d3
      have y4 := Qc.cell_all QO.out c4
      have z4 := Qc.cell_all QO.out d4
      have y5 := Qc.cell_all QO.out c5
      have z5 := Qc.cell_all QO.out d5
      refine Qc.region_class (W := W) (by kernel_rfl) (by kernel_rfl) (QI.out _ Qc.from_drew) ?_
      repeat (go_big_quiet_step (first | (go_at_call 59; refine (eqSeen_same x _).mono ?_; rintro e w2 ⟨rfl, b2⟩; exact ⟨rfl, Qc.back QI.out QO.out b2⟩)))
      refine wpQuiet_nil ?_
      rintro _ ⟨xq, rfl⟩
      have G2 : Hid (Below w.heap.size w (W xq)) := HB.out.trans ((QO.out xq).mono HB.out.size)
      generalize W xq = wq at G2 ⊢
      go_wp2_with fail
      exact ⟨⟨k + 1, by omega, by go_num, G2⟩, by simp [intOf]; omega⟩
    · go_wp2_with fail
      go_ret
      exact ⟨rfl, HB.out⟩
set_option maxRecDepth 100000 in
set_option maxHeartbeats 800000 in
theorem eqLock_same (x : Lk) (u u' : Value) (w : World) (h : RowW w u x.ws) (g : RowW w u' x.ws) (hl : x.ws.length ≤ 1048576) :
    Calls Tryz.prog 58 #[lkV x u, lkV x u'] w fun e w' => e = .returned (.bool true) ∧ Below w.heap.size w w' := by
  have HR : Hid (RowW w u x.ws ∧ RowW w u' x.ws) := ⟨h, g⟩
  have HB : Hid (∀ o0 o1, Below w.heap.size w ((w.alloc o0).alloc o1)) := fun o0 o1 => two_new _ _ _
  clear h g
  unfold lkV
  have q0 : (x.n.toList != x.n.toList) = false := by simp
  have q1 : (x.t != x.t) = false := by simp
  have q2 : (x.h != x.h) = false := by simp
  have q3 : (x.e != x.e) = false := by simp
  go_enter Tryz.func58, Tryz.ntmps58
  go_wp2_with fail
  refine (eqWaiterS_same u u' x.ws _ (HR.out.1.below (HB.out _ _)) (HR.out.2.below (HB.out _ _)) hl).mono ?_
  rintro e w1 ⟨rfl, b1⟩
  have g1 := (two b1).2.2
  clear b1
  go_wp2_with fail
  go_ret
  exact ⟨rfl, g1⟩
set_option maxRecDepth 100000 in
set_option maxHeartbeats 800000 in
theorem eqLockS_same (v u0 : Value) (xs : List Lk) (w : World) (h : RowL w v xs) (g : RowL w u0 xs) (hl : xs.length ≤ 1048576) (hw : ∀ x ∈ xs, x.ws.length ≤ 1048576) :
    Calls Tryz.prog 28 #[v, u0] w fun e w' => e = .returned (.bool true) ∧ Below w.heap.size w w' := by
  have HR : Hid (RowL w v xs) := h
  have HG : Hid (RowL w u0 xs) := g
  have HW : Hid (∀ x ∈ xs, x.ws.length ≤ 1048576) := hw
  clear hw
  obtain ⟨a, cap, rfl⟩ := RowG.slice h
  obtain ⟨a', cap', rfl⟩ := RowG.slice g
  clear h g
  have hne : ((xs.length : Int) != (xs.length : Int)) = false := by simp
  go_enter Tryz.func28, Tryz.ntmps28
  go_wp2_with fail
  go_loopw [5] (fun i wr => ∃ k : Nat, k ≤ xs.length ∧ i = .int .i64 k ∧ Hid (Below w.heap.size w wr)) (fun i _ => xs.length - (intOf i).toNat)
  case atStart => exact ⟨0, by omega, rfl, Below.refl _ _⟩
  case round =>
    obtain ⟨k, hk, rfl, HB⟩ := hrel
    by_cases hlt : k < xs.length
    · obtain ⟨x, hx⟩ := get_at hlt
      obtain ⟨b, off, rfl, hb, u, c0, c1, c2, c3, c4, cr⟩ := RowG.at (HR.out.below HB.out) rfl hx
      obtain ⟨b', off', rfl, hb', u', d0, d1, d2, d3, d4, dr⟩ := RowG.at (HG.out.below HB.out) rfl hx
      have HK : Hid (xs[k]? = some x) := hx
      clear hx
      have hp0 : (0 : Int) ≤ (k : Int) := by omega
      have hp1 : (k : Int) < (xs.length : Int) := by omega
      go_upto_region 6 with fail
      obtain ⟨X, hX, W, QI0, QO0⟩ := Qc.klass wr
      have QI : Hid (∀ w', Below wr.heap.size wr w' → ∃ x, w' = W x) := QI0
      have QO : Hid (∀ x, Below wr.heap.size wr (W x)) := QO0
      clear QI0 QO0
      have y0 := Qc.cell_all QO.out c0
      have z0 := Qc.cell_all QO.out d0
      have y1 := Qc.cell_all QO.out c1
      have z1 := Qc.cell_all QO.out d1
      have y2 := Qc.cell_all QO.out c2
      have z2 := Qc.cell_all QO.out d2
      have y3 := Qc.cell_all QO.out c3
      have z3 := Qc.cell_all QO.out d3
      have y4 := Qc.cell_all QO.out c4
      have z4 := Qc.cell_all QO.out d4
      have HX : Hid (∀ x', RowW (W x') u x.ws ∧ RowW (W x') u' x.ws) := fun x' => ⟨cr.below (QO.out x'), dr.below (QO.out x')⟩
      clear cr dr
      refine Qc.region_class (W := W) (by kernel_rfl) (by kernel_rfl) (QI.out _ Qc.from_drew) ?_
      repeat (go_big_quiet_step (first | (go_at_call 58; refine (eqLock_same x u u' _ (HX.out _).1 (HX.out _).2 (HW.out _ (mem_at HK.out))).mono ?_; rintro e w2 ⟨rfl, b2⟩; exact ⟨rfl, Qc.back QI.out QO.out b2⟩)))
      refine wpQuiet_nil ?_
      rintro _ ⟨xq, rfl⟩
      have G2 : Hid (Below w.heap.size w (W xq)) := HB.out.trans ((QO.out xq).mono HB.out.size)
      generalize W xq = wq at G2 ⊢
      go_wp2_with fail
      exact ⟨⟨k + 1, by omega, by go_num, G2⟩, by simp [intOf]; omega⟩
    · go_wp2_with fail
      go_ret
      exact ⟨rfl, HB.out⟩
set_option maxRecDepth 100000 in
set_option maxHeartbeats 800000 in
theorem eqTable_same (tm nx : Int) (vl vs ul us : Value) (ls : List Lk) (ss : List Sn) (w : World) (hl : RowL w vl ls) (hs : RowS w vs ss) (gl : RowL w ul ls) (gs : RowS w us ss) (h1 : ls.length ≤ 1048576) (h2 : ss.length ≤ 1048576) (h3 : ∀ x ∈ ls, x.ws.length ≤ 1048576) :
    Calls Tryz.prog 10 #[tabV tm nx vl vs, tabV tm nx ul us] w fun e w' => e = .returned (.bool true) ∧ Below w.heap.size w w' := by
  have HR : Hid (RowL w vl ls ∧ RowL w ul ls ∧ RowS w vs ss ∧ RowS w us ss) := ⟨hl, gl, hs, gs⟩
  have HW : Hid (∀ x ∈ ls, x.ws.length ≤ 1048576) := h3
  have HB : Hid (∀ o0 o1, Below w.heap.size w ((w.alloc o0).alloc o1)) := fun o0 o1 => two_new _ _ _
  clear hl hs gl gs h3
  unfold tabV
  have q0 : (tm != tm) = false := by simp
  have q1 : (nx != nx) = false := by simp
  go_enter Tryz.func10, Tryz.ntmps10
  go_wp2_with fail
  refine (eqLockS_same vl ul ls _ (HR.out.1.below (HB.out _ _)) (HR.out.2.1.below (HB.out _ _)) h1 HW.out).mono ?_
  rintro e w1 ⟨rfl, b1⟩
  obtain ⟨k0, k1, kb⟩ := two b1
  have c0 := (blk_cell k0 3 (x := vs) rfl).1
  have c1 := (blk_cell k1 3 (x := us) rfl).1
  have KB : Hid (Below w.heap.size w w1) := kb
  clear b1 k0 k1 kb
  go_wp2_with fail
  refine (eqSeenS_same vs us ss _ (HR.out.2.2.1.below KB.out) (HR.out.2.2.2.below KB.out) h2).mono ?_
  rintro e w2 ⟨rfl, b2⟩
  have g2 := KB.out.trans (b2.mono KB.out.size)
  clear b2
  go_wp2_with fail
  go_ret
  exact ⟨rfl, g2⟩
end Go.Proofs.YtakmgploimfhoaaGreatDoor.Tw
