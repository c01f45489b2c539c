/- Texts put together: Qc, Rg, Gm. -/
import Derived.Test.YtondmbeccpekiaaGreatDoorProg
import Derived.RowKit
import Derived.Below
import Derived.BigQuiet
import Derived.Test.YtondmbeccpekiaaGreatDoorH0
import Derived.Lib.SmallJoins
import Derived.Laws.MakeOwn
import Derived.Laws.NewBlocks
import Derived.Deep.QuietTactic
import Derived.Deep.Slices
import Derived.Deep.Fields23
import Derived.OpenShut
import Derived.Deep.RegionLaw
import Derived.BigRegion
import Derived.Laws.ResultCell
import Derived.Deep.CutRange
import Derived.Deep.DeepCutAuto
import Derived.Deep.RegionWith
/- A region that draws its order, only reads, and calls functions that add to memory alone: one walk in the order of the text. -/
namespace Go.Proofs.YtondmbeccpekiaaGreatDoor.Qc
open Go.RowKit

theorem region_class {P : Program} {id : Nat} {Q : Exit → Act → World → Prop} {a : Act} {w : World} {l : List Oper} {X : Type} {W : X → World} (hm : P.follows .mixedOrders = true) (hB : Region.lexB .any l.toArray = true) (hC : ∃ x, w.drew = W x)
    (h : wpQuiet P l.toArray (fun w' => ∃ x, w' = W x) (fun a' => ∀ w', (∃ x, w' = W x) → Q .normal a' w') l a) : (Code.region id l.toArray true).wp P Q a w :=
  wp_region_quiet (C := fun w' => ∃ x, w' = W x) hm hB hC (by simpa using h)
theorem klass (w : World) : ∃ (X : Type) (_ : Nonempty X) (W : X → World), (∀ w', Below w.heap.size w w' → ∃ x, w' = W x) ∧ ∀ x, Below w.heap.size w (W x) :=
  ⟨{w' : World // Below w.heap.size w w'}, ⟨⟨w, Below.refl _ _⟩⟩, fun x => x.1, fun w' h => ⟨⟨w', h⟩, rfl⟩, fun x => x.2⟩
theorem from_drew {w : World} : Below w.heap.size w w.drew := (Below.refl _ _).drew
theorem back {w : World} {X : Type} {W : X → World} {x : X} {w' : World} (HI : ∀ w', Below w.heap.size w w' → ∃ x, w' = W x) (HO : ∀ x, Below w.heap.size w (W x)) (h : Below (W x).heap.size (W x) w') : ∃ m, w' = W m :=
  HI _ ((HO x).trans (h.mono (HO x).size))
theorem cell_in {w : World} {X : Type} {W : X → World} (HO : ∀ x, Below w.heap.size w (W x)) {p : Addr} {v : Value} (hp : p.block < w.heap.size) (h : w.cell? p = some v) : ∀ x, (W x).cell? p = some v := fun x => ((HO x).cell hp).trans h
theorem lt_of_cell {w : World} {p : Addr} {v : Value} (h : w.cell? p = some v) : p.block < w.heap.size := World.block_lt_of_cell? w p h
theorem cell_all {w : World} {X : Type} {W : X → World} (HO : ∀ x, Below w.heap.size w (W x)) {p : Addr} {v : Value} (h : w.cell? p = some v) : ∀ x, (W x).cell? p = some v := cell_in HO (lt_of_cell h) h
end Go.Proofs.YtondmbeccpekiaaGreatDoor.Qc

/- Rows of things of several cells; memory that may be written; the laws' marks of texts. -/
namespace Go.Proofs.YtondmbeccpekiaaGreatDoor.Rg
open Go.RowKit Go.Proofs.YtondmbeccpekiaaGreatDoor.Sl Go.Proofs.YtondmbeccpekiaaGreatDoor.By Go.Proofs.YtondmbeccpekiaaGreatDoor.Ap

theorem size_new (w : World) (o : Obj) : (w.alloc o).heap.size = w.heap.size + 1 := by simp
theorem blk_cell {w : World} {b : Nat} {cs : Array Value} {t : TypeId} (h : w.heap[b]? = some (.cells cs t (0, 0))) (i : Nat) {x : Value} (hx : cs[i]? = some x) : w.cell? ⟨b, i, none⟩ = some x ∧ w.frozen? ⟨b, i, none⟩ = false := by
  refine ⟨(Joins.cell_of_block h i).trans hx, ?_⟩
  simp [World.frozen?, h]
theorem blk_set {w : World} {b : Nat} {cs : Array Value} {t : TypeId} (h : w.heap[b]? = some (.cells cs t (0, 0))) (i : Nat) (x : Value) : (w.setCell ⟨b, i, none⟩ x).heap[b]? = some (.cells (cs.setIfInBounds i x) t (0, 0)) := Joins.block_setCell (i := i) h x
theorem blk_far {w : World} {b k : Nat} (hk : k ≠ b) (i : Nat) (x : Value) : (w.setCell ⟨b, i, none⟩ x).heap[k]? = w.heap[k]? := Below.heap_setCell w ⟨b, i, none⟩ x k hk
theorem blk_new (w : World) (cs : Array Value) (t : TypeId) : (w.alloc (.cells cs t)).heap[w.heap.size]? = some (.cells cs t (0, 0)) := heap_alloc_new w _
theorem bel_new (w : World) (o : Obj) : Below w.heap.size w (w.alloc o) := (Below.refl _ _).alloc (Nat.le_refl _) _
def RowG {α : Type} (c : Nat) (E : World → Nat → Nat → α → Prop) (w : World) (v : Value) (xs : List α) : Prop :=
  ∃ a cap, v = .slice a xs.length cap ∧ (xs = [] ∨ ∃ b off, a = some ⟨b, off, none⟩ ∧ xs.length ≤ cap ∧ b < w.heap.size ∧ ∀ i x, xs[i]? = some x → E w b (off + i * c) x)
def Stays {α : Type} (E : World → Nat → Nat → α → Prop) : Prop := ∀ w w' b o x, Below w.heap.size w w' → b < w.heap.size → E w b o x → E w' b o x
theorem RowG.below {α : Type} {c : Nat} {E : World → Nat → Nat → α → Prop} (hE : Stays E) {w w' : World} {v : Value} {xs : List α} (h : RowG c E w v xs) (hb : Below w.heap.size w w') : RowG c E w' v xs := by
  obtain ⟨a, cap, rfl, h⟩ := h
  refine ⟨a, cap, rfl, ?_⟩
  rcases h with h | ⟨b, off, rfl, hc, hlt, h⟩
  · exact .inl h
  · exact .inr ⟨b, off, rfl, hc, Nat.lt_of_lt_of_le hlt hb.size, fun i x hi => hE _ _ _ _ _ hb hlt (h i x hi)⟩
theorem RowG.at {α : Type} {c : Nat} {E : World → Nat → Nat → α → Prop} {w : World} {v : Value} {a : Option Addr} {n cap : Nat} {xs : List α} (h : RowG c E w v xs) (hv : v = .slice a n cap) {i : Nat} {x : α} (hi : xs[i]? = some x) :
    ∃ b off, a = some ⟨b, off, none⟩ ∧ b < w.heap.size ∧ E w b (off + i * c) x := by
  obtain ⟨a', cap', rfl, h⟩ := h
  cases hv
  rcases h with h | ⟨b, off, rfl, hc, hlt, h⟩
  · rw [h] at hi; simp at hi
  · exact ⟨b, off, rfl, hlt, h i x hi⟩
theorem RowG.slice {α : Type} {c : Nat} {E : World → Nat → Nat → α → Prop} {w : World} {v : Value} {xs : List α} (h : RowG c E w v xs) : ∃ a cap, v = .slice a xs.length cap := by
  obtain ⟨a, cap, rfl, _⟩ := h
  exact ⟨a, cap, rfl⟩

theorem get_at {α : Type} {xs : List α} {k : Nat} (h : k < xs.length) : ∃ x, xs[k]? = some x := ⟨_, List.getElem?_eq_getElem h⟩
theorem lt_at {α : Type} {xs : List α} {k : Nat} {x : α} (h : xs[k]? = some x) : k < xs.length := (List.getElem?_eq_some_iff.1 h).1
theorem mem_at {α : Type} {xs : List α} {k : Nat} {x : α} (h : xs[k]? = some x) : x ∈ xs := List.mem_of_getElem? h
theorem three {w w1 : World} {o0 o1 o2 : Obj} (b : Below (((w.alloc o0).alloc o1).alloc o2).heap.size (((w.alloc o0).alloc o1).alloc o2) w1) :
    w1.heap[w.heap.size]? = some o0 ∧ w1.heap[w.heap.size + 1]? = some o1 ∧ w1.heap[w.heap.size + 1 + 1]? = some o2 ∧ w.heap.size + 1 + 1 + 1 ≤ w1.heap.size ∧ Below w.heap.size w w1 := by
  have e1 : (w.alloc o0).heap.size = w.heap.size + 1 := size_new _ _
  have e2 : ((w.alloc o0).alloc o1).heap.size = w.heap.size + 1 + 1 := by rw [size_new, e1]
  have e3 : (((w.alloc o0).alloc o1).alloc o2).heap.size = w.heap.size + 1 + 1 + 1 := by rw [size_new, e2]
  have b1 : Below w.heap.size w (((w.alloc o0).alloc o1).alloc o2) := (((Below.refl _ _).alloc (Nat.le_refl _) _).alloc (by rw [e1]; omega) _).alloc (by rw [e2]; omega) _
  have s := b.size
  rw [e3] at b s
  refine ⟨?_, ?_, ?_, s, b1.trans (b.mono (by omega))⟩
  · rw [b.block _ (by omega), Below.heap_alloc _ _ _ (by omega), Below.heap_alloc _ _ _ (by omega)]; exact heap_alloc_new w _
  · rw [b.block _ (by omega), Below.heap_alloc _ _ _ (by omega), ← e1]; exact heap_alloc_new _ _
  · rw [b.block _ (by omega), ← e2]; exact heap_alloc_new _ _
theorem ret_str {a b : ByteArray} (h : a = b) : Ending.returned (.string a) = .returned (.string b) := by rw [h]
structure Mid (B C : Nat) (w w' : World) : Prop where
  os : w'.os = w.os
  tape : w'.tape = w.tape
  output : w'.output = w.output
  size : w.heap.size ≤ w'.heap.size
  block : ∀ k, k < w.heap.size → (k < B ∨ C ≤ k) → w'.heap[k]? = w.heap[k]?
theorem Mid.refl (B C : Nat) (w : World) : Mid B C w w := ⟨rfl, rfl, rfl, Nat.le_refl _, fun _ _ _ => rfl⟩
theorem Mid.trans {B C : Nat} {w w1 w2 : World} (h : Mid B C w w1) (g : Mid B C w1 w2) : Mid B C w w2 :=
  ⟨g.os.trans h.os, g.tape.trans h.tape, g.output.trans h.output, Nat.le_trans h.size g.size, fun k hk hn => (g.block k (Nat.lt_of_lt_of_le hk h.size) hn).trans (h.block k hk hn)⟩
theorem Mid.of_below {B C : Nat} {w w1 : World} (h : Below w.heap.size w w1) : Mid B C w w1 := ⟨h.os, h.tape, h.output, h.size, fun k hk _ => h.block k hk⟩
theorem Mid.set {B C : Nat} {w : World} {g : Nat} (h1 : B ≤ g) (h2 : g < C) (j : Nat) (x : Value) : Mid B C w (w.setCell ⟨g, j, none⟩ x) :=
  ⟨rfl, rfl, rfl, by simp, fun k _ hk => Below.heap_setCell w ⟨g, j, none⟩ x k (fun e => by have e' : k = g := e; omega)⟩
theorem Mid.below {B C : Nat} {w w1 : World} (h : Mid B C w w1) (hB : B ≤ w.heap.size) : Below B w w1 := ⟨h.os, h.tape, h.output, h.size, fun k hk => h.block k (Nat.lt_of_lt_of_le hk hB) (.inl hk)⟩
def Wr (w : World) (g n : Nat) : Prop := ∃ A t, w.heap[g]? = some (.cells A t (0, 0)) ∧ n ≤ A.size
theorem Wr.lt {w : World} {g n : Nat} (h : Wr w g n) : g < w.heap.size := by obtain ⟨A, t, h, _⟩ := h; exact (Array.getElem?_eq_some_iff.1 h).1
theorem Wr.below {w w' : World} {g n : Nat} (h : Wr w g n) (hb : Below w.heap.size w w') : Wr w' g n := by
  obtain ⟨A, t, h, hn⟩ := h
  exact ⟨A, t, (hb.block g (Array.getElem?_eq_some_iff.1 h).1).trans h, hn⟩
theorem Wr.set {w : World} {g n : Nat} (h : Wr w g n) (p j : Nat) (x : Value) : Wr (w.setCell ⟨p, j, none⟩ x) g n := by
  obtain ⟨A, t, h, hn⟩ := h
  by_cases e : p = g
  · subst e
    exact ⟨_, t, blk_set h j x, by rw [Array.size_setIfInBounds]; exact hn⟩
  · exact ⟨A, t, (blk_far (fun h => e h.symm) j x).trans h, hn⟩
theorem Wr.cell {w : World} {g n : Nat} (h : Wr w g n) {j : Nat} (hj : j < n) : (∃ x, w.cell? ⟨g, j, none⟩ = some x) ∧ w.frozen? ⟨g, j, none⟩ = false := by
  obtain ⟨A, t, h, hn⟩ := h
  obtain ⟨c, f⟩ := blk_cell h j (x := A[j]'(by omega)) (Array.getElem?_eq_getElem (by omega))
  exact ⟨⟨_, c⟩, f⟩
def Kw (w w' : World) : Prop := ∀ g n, Wr w g n → Wr w' g n
theorem Kw.trans {w w1 w2 : World} (h : Kw w w1) (g : Kw w1 w2) : Kw w w2 := fun a n x => g a n (h a n x)
end Go.Proofs.YtondmbeccpekiaaGreatDoor.Rg
namespace Go.Proofs.YtondmbeccpekiaaGreatDoor.Rg
open Go.ChangeShapes Go.WideShapes Go.ChangeAt Go.RowKit Go.Deep
theorem open_rows {α : Type} [Inhabited α] {H : Type} {enc : TypeId × Value → H} {P : Program} {w : World} {base : Nat} {spare : Nat → Bool} {held : Bool} {t e : TypeId} {c : Nat} {E : World → Nat → Nat → α → Prop} {G : α → Prop}
    (hu : P.underlying t = some (.slice e)) (hce : P.cellsOf e = c) (h0 : 0 < c)
    (step : ∀ (n : Nat) (cs : List Value) (b o : Nat) (y : DataW H × List MemPlace), cs.length = c → (∀ j, j < c → w.cell? ⟨b, o + j, none⟩ = cs[j]?) → DataW.trod enc P w base spare held n e cs = some y → ∃ q, E w b o q ∧ G q)
    {fuel : Nat} {cs : List Value} {y : DataW H × List MemPlace} (hf : DataW.trod enc P w base spare held fuel t cs = some y) :
    ∃ v xs, cs = [v] ∧ RowG c E w v xs ∧ xs.length ≤ maxLen ∧ ∀ x ∈ xs, G x := by
  rcases open_slice hu hf with ⟨hcs, _⟩ | ⟨x, len, cap, m, n, D, Pl, hcs, _, hl, hm, hmm, _, hcell⟩
  · exact ⟨_, [], hcs, ⟨none, 0, rfl, .inl rfl⟩, by simp, fun _ hx => by cases hx⟩
  · have hlm : len ≤ m := by rw [hmm]; split <;> omega
    rw [hce] at hcell
    by_cases hz : len = 0
    · subst hz
      exact ⟨_, [], hcs, ⟨some x, cap, rfl, .inl rfl⟩, by simp, fun _ hx => by cases hx⟩
    obtain ⟨b, off, spot⟩ := x
    have hadd : ∀ (s : Nat) (j : Nat), (⟨b, s, none⟩ : Addr).add j = ⟨b, s + j, none⟩ := fun s j => by unfold Addr.add; split <;> simp_all
    have hspot : spot = none := by
      obtain ⟨cs', h1, _⟩ := hcell 0 (by omega)
      obtain ⟨_, hlen, hc⟩ := World.cells?_some h1
      have e0 := hc 0 h0
      rw [List.getElem?_eq_getElem (by omega)] at e0
      simpa [Addr.add] using World.cell?_spot e0
    subst hspot
    have hlt : b < w.heap.size := by
      obtain ⟨cs', h1, _⟩ := hcell 0 (by omega)
      obtain ⟨_, hlen, hc⟩ := World.cells?_some h1
      have e0 := hc 0 h0
      rw [List.getElem?_eq_getElem (by omega), hadd, hadd] at e0
      exact World.block_lt_of_cell? w _ e0
    have each : ∀ i, i < len → ∃ q : α, E w b (off + i * c) q ∧ G q := by
      intro i hi
      obtain ⟨cs', h1, h2⟩ := hcell i (by omega)
      obtain ⟨_, hlen, hc⟩ := World.cells?_some h1
      refine step n cs' b (off + i * c) _ hlen (fun j hj => ?_) h2
      have e0 := hc j hj
      rw [hadd, hadd] at e0
      exact e0
    obtain ⟨q, hq⟩ := choose_lt each
    have hrl : ((List.range len).map q).length = len := by simp
    refine ⟨_, (List.range len).map q, hcs, ⟨some ⟨b, off, none⟩, cap, by rw [hrl], .inr ⟨b, off, rfl, by rw [hrl]; exact hl, hlt, fun i x hi => ?_⟩⟩, by rw [hrl]; omega, fun x hx => ?_⟩
    · have hil : i < len := by have := (List.getElem?_eq_some_iff.1 hi).1; rw [hrl] at this; exact this
      simp [hil] at hi
      subst hi
      exact (hq i hil).1
    · obtain ⟨i, hi, rfl⟩ := List.mem_map.1 hx
      exact (hq i (List.mem_range.1 hi)).2
theorem cell_eq {w : World} {b o : Nat} {cs : List Value} {c : Nat} (h : ∀ j, j < c → w.cell? ⟨b, o + j, none⟩ = cs[j]?) (j : Nat) (hj : j < c) {v : Value} (hv : cs[j]? = some v) : w.cell? ⟨b, o + j, none⟩ = some v := (h j hj).trans hv
end Go.Proofs.YtondmbeccpekiaaGreatDoor.Rg

/- Messages in a slice: read, measured, copied, compared. -/
namespace Go.Proofs.YtondmbeccpekiaaGreatDoor.Gm
open Go.RowKit Go.Proofs.YtondmbeccpekiaaGreatDoor.Sl Go.Proofs.YtondmbeccpekiaaGreatDoor.Ap Go.Proofs.YtondmbeccpekiaaGreatDoor.Rg

structure Mg where
  kd : Int
  vw : Int
  sq : Int
  fr : Int
  dg : ByteArray
  bd : ByteArray
  mc : ByteArray
instance : Inhabited Mg := ⟨⟨0, 0, 0, 0, ⟨#[]⟩, ⟨#[]⟩, ⟨#[]⟩⟩⟩
def E1 (w : World) (b o : Nat) (x : Mg) : Prop := w.cell? ⟨b, o, none⟩ = some (.int .i64 x.kd) ∧ w.cell? ⟨b, o + 1, none⟩ = some (.int .i64 x.vw) ∧ w.cell? ⟨b, o + 2, none⟩ = some (.int .i64 x.sq) ∧ w.cell? ⟨b, o + 3, none⟩ = some (.int .i64 x.fr) ∧ w.cell? ⟨b, o + 4, none⟩ = some (.string x.dg) ∧ w.cell? ⟨b, o + 5, none⟩ = some (.string x.bd) ∧ w.cell? ⟨b, o + 6, none⟩ = some (.string x.mc)
def Row (w : World) (v : Value) (xs : List Mg) : Prop := RowG 7 E1 w v xs
def oneV (x : Mg) : Value := .agg #[.int .i64 x.kd, .int .i64 x.vw, .int .i64 x.sq, .int .i64 x.fr, .string x.dg, .string x.bd, .string x.mc]
theorem stays1 : Stays E1 := fun _ _ b _ _ hb hlt ⟨h0, h1, h2, h3, h4, h5, h6⟩ => ⟨(hb.cell (p := ⟨b, _, none⟩) hlt).trans h0, (hb.cell (p := ⟨b, _, none⟩) hlt).trans h1, (hb.cell (p := ⟨b, _, none⟩) hlt).trans h2, (hb.cell (p := ⟨b, _, none⟩) hlt).trans h3, (hb.cell (p := ⟨b, _, none⟩) hlt).trans h4, (hb.cell (p := ⟨b, _, none⟩) hlt).trans h5, (hb.cell (p := ⟨b, _, none⟩) hlt).trans h6⟩
theorem Row.below {w w' : World} {v : Value} {xs : List Mg} (h : Row w v xs) (hb : Below w.heap.size w w') : Row w' v xs := RowG.below stays1 h hb
def Tz (n : Nat) (x : Mg) : Prop := x.dg.size ≤ n ∧ x.bd.size ≤ n ∧ x.mc.size ≤ n
set_option maxRecDepth 100000 in
set_option maxHeartbeats 800000 in
theorem sz1_any (x : Mg) (l : Nat) (w : World) (hl : l ≤ 1048576) (hz : Tz maxLen x) :
    Calls Tryz.prog 61 #[oneV x, .int .i64 l] w fun e w' => (∃ r : Int, e = .returned (.int .i64 r) ∧ (r = -1 ∨ ∃ q : Nat, r = q ∧ q ≤ l ∧ Tz l x)) ∧ Below w.heap.size w w' := by
  unfold Tz maxLen at hz
  obtain ⟨z0, z1, z2⟩ := hz
  unfold oneV
  by_cases g0 : (l : Int) < (x.dg.size : Int)
  · go_enter Tryz.func61, Tryz.ntmps61
    go_wp2_with fail
    go_ret
    exact ⟨⟨_, rfl, .inl rfl⟩, bel_new _ _⟩
  by_cases g1 : (l : Int) - (x.dg.size : Int) < (x.bd.size : Int)
  · go_enter Tryz.func61, Tryz.ntmps61
    go_wp2_with fail
    go_ret
    exact ⟨⟨_, rfl, .inl rfl⟩, bel_new _ _⟩
  by_cases g2 : (l : Int) - (x.dg.size : Int) - (x.bd.size : Int) < (x.mc.size : Int)
  · go_enter Tryz.func61, Tryz.ntmps61
    go_wp2_with fail
    go_ret
    exact ⟨⟨_, rfl, .inl rfl⟩, bel_new _ _⟩
  go_enter Tryz.func61, Tryz.ntmps61
  go_wp2_with fail
  go_ret
  refine ⟨⟨_, rfl, .inr ⟨l - (x.dg.size + x.bd.size + x.mc.size), by omega, by omega, ?_⟩⟩, bel_new _ _⟩
  unfold Tz
  omega
set_option maxRecDepth 100000 in
set_option maxHeartbeats 800000 in
theorem szS_any (v : Value) (xs : List Mg) (l : Nat) (w : World) (h : Row w v xs) (hm : ∀ x ∈ xs, Tz maxLen x) (hz : xs.length ≤ maxLen) (hl : l ≤ 1048576) :
    Calls Tryz.prog 25 #[v, .int .i64 l] w fun e w' => (∃ r : Int, e = .returned (.int .i64 r) ∧ (r = -1 ∨ ∃ q : Nat, r = q ∧ q ≤ 1048576 ∧ xs.length ≤ 1048576 ∧ ∀ x ∈ xs, Tz 1048576 x)) ∧ Below w.heap.size w w' := by
  have hz2 : xs.length ≤ 9223372036854775807 := by unfold maxLen at hz; omega
  have HM : Hid (∀ x ∈ xs, Tz maxLen x) := hm
  have HR : Hid (Row w v xs) := h
  obtain ⟨a, cap, rfl⟩ := RowG.slice h
  clear hz hm h
  by_cases hb : (l : Int) < (xs.length : Int)
  · have hb' : (l : Int) - (xs.length : Int) < 0 := by omega
    go_enter Tryz.func25, Tryz.ntmps25
    go_wp2_with fail
    go_ret
    exact ⟨⟨_, rfl, .inl rfl⟩, Below.refl _ _⟩
  have hb' : ¬ (l : Int) - (xs.length : Int) < 0 := by omega
  go_enter Tryz.func25, Tryz.ntmps25
  go_wp2_with fail
  go_loopw [1, 5] (fun l0 i wr => ∃ (k q : Nat), k ≤ xs.length ∧ i = .int .i64 k ∧ l0 = .int .i64 q ∧ q ≤ 1048576 ∧ Hid (∀ j x, j < k → xs[j]? = some x → Tz 1048576 x) ∧ Hid (Below w.heap.size w wr)) (fun _ i _ => xs.length - (intOf i).toNat)
  case atStart => exact ⟨0, l - xs.length, by omega, rfl, by congr 1; omega, by omega, fun j x hj => by omega, Below.refl _ _⟩
  case round =>
    obtain ⟨k, q, hk, rfl, rfl, hq, HJ, HB⟩ := hrel
    by_cases hlt : k < xs.length
    · obtain ⟨x, hx⟩ := Rg.get_at hlt
      obtain ⟨b, off, rfl, hbl, c0, c1, c2, c3, c4, c5, c6⟩ := RowG.at (HR.out.below HB.out) rfl hx
      have HK : Hid (xs[k]? = some x) := hx
      have HMk : Hid (Tz maxLen x) := HM.out _ (mem_at hx)
      clear hx
      go_wp2_with fail
      refine (sz1_any x q wr hq HMk.out).mono ?_
      rintro e w2 ⟨⟨r, rfl, hr⟩, b2⟩
      have HB2 : Hid (Below w.heap.size w w2) := HB.out.trans (b2.mono HB.out.size)
      clear b2
      rcases hr with rfl | ⟨p, rfl, hp, hs⟩
      · go_wp2_with fail
        go_ret
        exact ⟨⟨_, rfl, .inl rfl⟩, HB2.out⟩
      · have HJ2 : Hid (∀ j y, j < k + 1 → xs[j]? = some y → Tz 1048576 y) := fun j y hj hy => by
          by_cases e : j = k
          · subst e
            rw [HK.out] at hy
            cases hy
            unfold Tz at hs ⊢
            omega
          · exact HJ.out j y (by omega) hy
        have hp0 : ¬ (p : Int) < 0 := by omega
        clear hs
        go_wp2_with fail
        exact ⟨⟨k + 1, p, by omega, by go_num, rfl, by omega, HJ2, HB2⟩, by simp [intOf]; omega⟩
    · obtain rfl : k = xs.length := by omega
      go_wp2_with fail
      go_ret
      refine ⟨⟨_, rfl, .inr ⟨q, rfl, hq, by omega, fun x hx => ?_⟩⟩, HB.out⟩
      obtain ⟨j, hj, e⟩ := List.mem_iff_getElem.1 hx
      exact HJ.out j x hj (by rw [List.getElem?_eq_getElem hj, e])
set_option maxRecDepth 100000 in
set_option maxHeartbeats 800000 in
theorem to1_any (x : Mg) (w : World) :
    Calls Tryz.prog 71 #[oneV x] w fun e w' => e = .returned (oneV x) ∧ Below w.heap.size w w' := by
  unfold oneV
  go_enter Tryz.func71, Tryz.ntmps71
  go_wp2_with fail
  refine bodyPost_ret (v := oneV x) (by simp [oneV, results, Tryz.results71, go_sem]) rfl ⟨rfl, ?_⟩
  exact (((Below.refl _ _).alloc (Nat.le_refl _) _).alloc (by simp) _).alloc (by simp; omega) _
theorem info1 : (Tryz.prog.info? 59).map (fun i => (i.zero, i.size, i.bytes)) = some (some (.agg #[.int .i64 0, .int .i64 0, .int .i64 0, .int .i64 0, .string ⟨#[]⟩, .string ⟨#[]⟩, .string ⟨#[]⟩]), 7, 80) := by kernel_rfl
def Cop (xs : List Mg) (k : Nat) (A : Array Value) : Prop := A.size = xs.length * 7 ∧ ∀ j x, j < k → xs[j]? = some x → A[j * 7]? = some (.int .i64 x.kd) ∧ A[j * 7 + 1]? = some (.int .i64 x.vw) ∧ A[j * 7 + 2]? = some (.int .i64 x.sq) ∧ A[j * 7 + 3]? = some (.int .i64 x.fr) ∧ A[j * 7 + 4]? = some (.string x.dg) ∧ A[j * 7 + 5]? = some (.string x.bd) ∧ A[j * 7 + 6]? = some (.string x.mc)
theorem cop1 {xs : List Mg} {k : Nat} {A : Array Value} {x : Mg} (h : Cop xs k A) (hx : xs[k]? = some x) :
    Cop xs (k + 1) ((((((((A).setIfInBounds (k * 7) (.int .i64 x.kd)).setIfInBounds (k * 7 + 1) (.int .i64 x.vw)).setIfInBounds (k * 7 + 2) (.int .i64 x.sq)).setIfInBounds (k * 7 + 3) (.int .i64 x.fr)).setIfInBounds (k * 7 + 4) (.string x.dg)).setIfInBounds (k * 7 + 5) (.string x.bd)).setIfInBounds (k * 7 + 6) (.string x.mc)) := by
  have hk := lt_at hx
  have hs := h.1
  refine ⟨by simpa using h.1, fun j y hj hy => ?_⟩
  simp only [Array.getElem?_setIfInBounds, Array.size_setIfInBounds]
  by_cases e : j = k
  · subst e
    rw [hx] at hy
    cases hy
    refine ⟨?_, ?_, ?_, ?_, ?_, ?_, ?_⟩
    all_goals (repeat' (first | rw [if_pos rfl, if_pos (by omega)] | rw [if_neg (by omega)]))
  · obtain ⟨h0, h1, h2, h3, h4, h5, h6⟩ := h.2 j y (by omega) hy
    refine ⟨?_, ?_, ?_, ?_, ?_, ?_, ?_⟩
    all_goals (repeat' rw [if_neg (by omega)])
    all_goals assumption
set_option maxRecDepth 100000 in
set_option maxHeartbeats 800000 in
theorem toS_any (v : Value) (xs : List Mg) (w : World) (h : Row w v xs) (hl : xs.length ≤ 1048576) :
    Calls Tryz.prog 34 #[v] w fun e w' => ∃ g, e = .returned (.slice (some ⟨g, 0, none⟩) xs.length xs.length) ∧ w.heap.size ≤ g ∧ g < w'.heap.size ∧ (∀ i x, xs[i]? = some x → E1 w' g (i * 7) x) ∧ Below w.heap.size w w' ∧ Wr w' g (xs.length * 7) := by
  have HR : Hid (Row w v xs) := h
  obtain ⟨a, cap, rfl⟩ := RowG.slice h
  clear h
  obtain ⟨i0, hi, hz0, hz1, hz2⟩ := info_parts info1
  have hmk := run_make (P := Tryz.prog) w 32 59 i0 (.agg #[.int .i64 0, .int .i64 0, .int .i64 0, .int .i64 0, .string ⟨#[]⟩, .string ⟨#[]⟩, .string ⟨#[]⟩]) Tryz.underlying32 hi hz0 .i64 .i64 (xs.length : Int) (xs.length : Int) (by omega) (by omega) (by rw [hz2]; omega) (by omega)
  have hA0 : Cop xs 0 (madeCells (Value.agg #[.int .i64 0, .int .i64 0, .int .i64 0, .int .i64 0, .string ⟨#[]⟩, .string ⟨#[]⟩, .string ⟨#[]⟩]).cells ((xs.length : Int).toNat * i0.size)) := ⟨by rw [hz1]; simp [madeCells, Value.cells], fun j x hj => absurd hj (by omega)⟩
  generalize madeCells (Value.agg #[.int .i64 0, .int .i64 0, .int .i64 0, .int .i64 0, .string ⟨#[]⟩, .string ⟨#[]⟩, .string ⟨#[]⟩]).cells ((xs.length : Int).toNat * i0.size) = A0 at hmk hA0
  rw [Int.toNat_natCast] at hmk
  go_enter Tryz.func34, Tryz.ntmps34
  go_wp2_with fail
  clear hmk
  go_loopw [4] (fun i wr => ∃ k : Nat, ∃ A : Array Value, k ≤ xs.length ∧ i = .int .i64 k ∧ Hid (wr.heap[w.heap.size]? = some (.cells A 59 (0, 0)) ∧ Cop xs k A ∧ Below w.heap.size w wr)) (fun i _ => xs.length - (intOf i).toNat)
  case atStart => exact ⟨0, A0, by omega, rfl, ⟨heap_alloc_new w _, hA0, bel_new _ _⟩⟩
  case round =>
    clear hA0
    obtain ⟨k, A, hk, rfl, HA⟩ := hrel
    by_cases hlt : k < xs.length
    · obtain ⟨x, hx⟩ := Rg.get_at hlt
      obtain ⟨b, off, rfl, hbl, c0, c1, c2, c3, c4, c5, c6⟩ := RowG.at (HR.out.below HA.out.2.2) rfl hx
      have HX : Hid (xs[k]? = some x) := hx
      clear hx
      go_wp2_with fail
      refine (to1_any x wr).mono ?_
      rintro e w2 ⟨rfl, b2⟩
      have hg := (Array.getElem?_eq_some_iff.1 HA.out.1).1
      have HA2 : Hid (w2.heap[w.heap.size]? = some (.cells A 59 (0, 0)) ∧ Cop xs k A ∧ Below w.heap.size w w2) := ⟨(b2.block _ hg).trans HA.out.1, HA.out.2.1, HA.out.2.2.trans (b2.mono HA.out.2.2.size)⟩
      clear b2 c0 c1 c2 c3 c4 c5 c6 HA
      have hsz : k * 7 + 6 < A.size := by rw [HA2.out.2.1.1]; omega
      obtain ⟨d0, f0⟩ := blk_cell HA2.out.1 (k * 7) (x := A[k * 7]) (Array.getElem?_eq_getElem (by omega))
      obtain ⟨d1, f1⟩ := blk_cell HA2.out.1 (k * 7 + 1) (x := A[k * 7 + 1]) (Array.getElem?_eq_getElem (by omega))
      obtain ⟨d2, f2⟩ := blk_cell HA2.out.1 (k * 7 + 2) (x := A[k * 7 + 2]) (Array.getElem?_eq_getElem (by omega))
      obtain ⟨d3, f3⟩ := blk_cell HA2.out.1 (k * 7 + 3) (x := A[k * 7 + 3]) (Array.getElem?_eq_getElem (by omega))
      obtain ⟨d4, f4⟩ := blk_cell HA2.out.1 (k * 7 + 4) (x := A[k * 7 + 4]) (Array.getElem?_eq_getElem (by omega))
      obtain ⟨d5, f5⟩ := blk_cell HA2.out.1 (k * 7 + 5) (x := A[k * 7 + 5]) (Array.getElem?_eq_getElem (by omega))
      obtain ⟨d6, f6⟩ := blk_cell HA2.out.1 (k * 7 + 6) (x := A[k * 7 + 6]) (Array.getElem?_eq_getElem (by omega))
      unfold oneV
      go_wp2_with fail
      refine ⟨⟨k + 1, (((((((A).setIfInBounds (k * 7) (.int .i64 x.kd)).setIfInBounds (k * 7 + 1) (.int .i64 x.vw)).setIfInBounds (k * 7 + 2) (.int .i64 x.sq)).setIfInBounds (k * 7 + 3) (.int .i64 x.fr)).setIfInBounds (k * 7 + 4) (.string x.dg)).setIfInBounds (k * 7 + 5) (.string x.bd)).setIfInBounds (k * 7 + 6) (.string x.mc), by omega, by go_num, ⟨(blk_set (blk_set (blk_set (blk_set (blk_set (blk_set (blk_set HA2.out.1 _ _) _ _) _ _) _ _) _ _) _ _) _ _), cop1 HA2.out.2.1 HX.out, ?_⟩⟩, by simp [intOf]; omega⟩
      exact (Below.setCell (Below.setCell (Below.setCell (Below.setCell (Below.setCell (Below.setCell (Below.setCell HA2.out.2.2 (p := ⟨w.heap.size, k * 7, none⟩) (Nat.le_refl _) (.int .i64 x.kd)) (p := ⟨w.heap.size, k * 7 + 1, none⟩) (Nat.le_refl _) (.int .i64 x.vw)) (p := ⟨w.heap.size, k * 7 + 2, none⟩) (Nat.le_refl _) (.int .i64 x.sq)) (p := ⟨w.heap.size, k * 7 + 3, none⟩) (Nat.le_refl _) (.int .i64 x.fr)) (p := ⟨w.heap.size, k * 7 + 4, none⟩) (Nat.le_refl _) (.string x.dg)) (p := ⟨w.heap.size, k * 7 + 5, none⟩) (Nat.le_refl _) (.string x.bd)) (p := ⟨w.heap.size, k * 7 + 6, none⟩) (Nat.le_refl _) (.string x.mc))
    · obtain rfl : k = xs.length := by omega
      go_wp2_with fail
      go_ret
      refine ⟨w.heap.size, rfl, Nat.le_refl _, (Array.getElem?_eq_some_iff.1 HA.out.1).1, fun i x hi => ?_, HA.out.2.2, ⟨A, _, HA.out.1, Nat.le_of_eq HA.out.2.1.1.symm⟩⟩
      obtain ⟨e0, e1, e2, e3, e4, e5, e6⟩ := HA.out.2.1.2 i x (lt_at hi) hi
      exact ⟨(Joins.cell_of_block HA.out.1 _).trans e0, (Joins.cell_of_block HA.out.1 _).trans e1, (Joins.cell_of_block HA.out.1 _).trans e2, (Joins.cell_of_block HA.out.1 _).trans e3, (Joins.cell_of_block HA.out.1 _).trans e4, (Joins.cell_of_block HA.out.1 _).trans e5, (Joins.cell_of_block HA.out.1 _).trans e6⟩
set_option maxRecDepth 100000 in
set_option maxHeartbeats 800000 in
theorem eq1_same (x : Mg) (w : World) :
    Calls Tryz.prog 81 #[oneV x, oneV x] w fun e w' => e = .returned (.bool true) ∧ Below w.heap.size w w' := by
  unfold oneV
  have q0 : (x.kd != x.kd) = false := by simp
  have q1 : (x.vw != x.vw) = false := by simp
  have q2 : (x.sq != x.sq) = false := by simp
  have q3 : (x.fr != x.fr) = false := by simp
  have q4 : (x.dg.toList != x.dg.toList) = false := by simp
  have q5 : (x.bd.toList != x.bd.toList) = false := by simp
  have q6 : (x.mc.toList != x.mc.toList) = false := by simp
  have r4 : (x.dg.toList == x.dg.toList) = true := by simp
  have r5 : (x.bd.toList == x.bd.toList) = true := by simp
  have r6 : (x.mc.toList == x.mc.toList) = true := by simp
  go_enter Tryz.func81, Tryz.ntmps81
  go_wp2_with fail
  go_ret
  exact ⟨rfl, ((Below.refl _ _).alloc (Nat.le_refl _) _).alloc (by simp) _⟩
set_option maxRecDepth 100000 in
set_option maxHeartbeats 800000 in
theorem eqS_same (v u0 : Value) (xs : List Mg) (w : World) (h : Row w v xs) (g : Row w u0 xs) (hl : xs.length ≤ 1048576) :
    Calls Tryz.prog 46 #[v, u0] w fun e w' => e = .returned (.bool true) ∧ Below w.heap.size w w' := by
  have HR : Hid (Row w v xs) := h
  have HG : Hid (Row w u0 xs) := g
  obtain ⟨a, cap, rfl⟩ := RowG.slice h
  obtain ⟨a', cap', rfl⟩ := RowG.slice g
  clear h g
  have hne : ((xs.length : Int) != (xs.length : Int)) = false := by simp
  go_enter Tryz.func46, Tryz.ntmps46
  go_wp2_with fail
  go_loopw [5] (fun i wr => ∃ k : Nat, k ≤ xs.length ∧ i = .int .i64 k ∧ Hid (Below w.heap.size w wr)) (fun i _ => xs.length - (intOf i).toNat)
  case atStart => exact ⟨0, by omega, rfl, Below.refl _ _⟩
  case round =>
    obtain ⟨k, hk, rfl, HB⟩ := hrel
    by_cases hlt : k < xs.length
    · obtain ⟨x, hx⟩ := Rg.get_at hlt
      obtain ⟨b, off, rfl, hb, c0, c1, c2, c3, c4, c5, c6⟩ := RowG.at (HR.out.below HB.out) rfl hx
      obtain ⟨b', off', rfl, hb', d0, d1, d2, d3, d4, d5, d6⟩ := RowG.at (HG.out.below HB.out) rfl hx
      have HK : Hid (xs[k]? = some x) := hx
      clear hx
      have hp0 : (0 : Int) ≤ (k : Int) := by omega
      have hp1 : (k : Int) < (xs.length : Int) := by omega
      go_upto_region 6 with fail
      obtain ⟨X, hX, W, QI0, QO0⟩ := Qc.klass wr
      have QI : Hid (∀ w', Below wr.heap.size wr w' → ∃ x, w' = W x) := QI0
      have QO : Hid (∀ x, Below wr.heap.size wr (W x)) := QO0
      clear QI0 QO0
      have y0 := Qc.cell_all QO.out c0
      have z0 := Qc.cell_all QO.out d0
      have y1 := Qc.cell_all QO.out c1
      have z1 := Qc.cell_all QO.out d1
      have y2 := Qc.cell_all QO.out c2
      have z2 := Qc.cell_all QO.out d2
      have y3 := Qc.cell_all QO.out c3
      have z3 := Qc.cell_all QO.out d3
      have y4 := Qc.cell_all QO.out c4
      have z4 := Qc.cell_all QO.out d4
      have y5 := Qc.cell_all QO.out c5
      have z5 := Qc.cell_all QO.out d5
      have y6 := Qc.cell_all QO.out c6
      have z6 := Qc.cell_all QO.out d6
      refine Qc.region_class (W := W) (by kernel_rfl) (by kernel_rfl) (QI.out _ Qc.from_drew) ?_
      repeat (go_big_quiet_step (first | (go_at_call 81; refine (eq1_same x _).mono ?_; rintro e w2 ⟨rfl, b2⟩; exact ⟨rfl, Qc.back QI.out QO.out b2⟩)))
      refine wpQuiet_nil ?_
      rintro _ ⟨xq, rfl⟩
      have G2 : Hid (Below w.heap.size w (W xq)) := HB.out.trans ((QO.out xq).mono HB.out.size)
      generalize W xq = wq at G2 ⊢
      go_wp2_with fail
      exact ⟨⟨k + 1, by omega, by go_num, G2⟩, by simp [intOf]; omega⟩
    · go_wp2_with fail
      go_ret
      exact ⟨rfl, HB.out⟩
end Go.Proofs.YtondmbeccpekiaaGreatDoor.Gm
namespace Go.Proofs.YtondmbeccpekiaaGreatDoor.Op
open Go.ChangeShapes Go.WideShapes Go.ChangeAt Go.RowKit Go.Deep Go.Proofs.YtondmbeccpekiaaGreatDoor.Rg Go.Proofs.YtondmbeccpekiaaGreatDoor.Gm
set_option maxRecDepth 100000 in
theorem openGm {H : Type} {enc : TypeId × Value → H} {w : World} {base : Nat} {spare : Nat → Bool} {held : Bool} {fuel : Nat} {cs : List Value} {y : DataW H × List MemPlace} (hf : DataW.trod enc Tryz.prog w base spare held fuel 25 cs = some y) :
    ∃ v xs, cs = [v] ∧ Gm.Row w v xs ∧ xs.length ≤ maxLen ∧ ∀ x ∈ xs, Gm.Tz maxLen x := by
  have k1 : Tryz.prog.cellsOf 3 = 1 := by kernel_rfl
  have k2 : Tryz.prog.cellsOf 9 = 1 := by kernel_rfl
  refine open_rows Tryz.underlying25 (c := 7) (by kernel_rfl) (by decide) (fun n cs b o y hl hc ht => ?_) hf
  obtain ⟨xs, k, hk, _, _, hxl, hff⟩ := DataW.trod_struct Tryz.underlying95 ht
  match cs, hl with
  | [v0, v1, v2, v3, v4, v5, v6], _ =>
    match xs, hxl with
    | [y0, y1, y2, y3, y4, y5, y6], _ =>
      have g0 := hff 0 _ rfl
      have g1 := hff 1 _ rfl
      have g2 := hff 2 _ rfl
      have g3 := hff 3 _ rfl
      have g4 := hff 4 _ rfl
      have g5 := hff 5 _ rfl
      have g6 := hff 6 _ rfl
      simp [k1, k2] at g0 g1 g2 g3 g4 g5 g6
      obtain ⟨z0, q0, _, _⟩ := DataW.trod_int Tryz.underlying3 g0
      obtain ⟨z1, q1, _, _⟩ := DataW.trod_int Tryz.underlying3 g1
      obtain ⟨z2, q2, _, _⟩ := DataW.trod_int Tryz.underlying3 g2
      obtain ⟨z3, q3, _, _⟩ := DataW.trod_int Tryz.underlying3 g3
      obtain ⟨z4, q4, _, m4⟩ := DataW.trod_string Tryz.underlying9 g4
      obtain ⟨z5, q5, _, m5⟩ := DataW.trod_string Tryz.underlying9 g5
      obtain ⟨z6, q6, _, m6⟩ := DataW.trod_string Tryz.underlying9 g6
      simp at q0 q1 q2 q3 q4 q5 q6
      subst q0 q1 q2 q3 q4 q5 q6
      exact ⟨⟨z0, z1, z2, z3, z4, z5, z6⟩, ⟨cell_eq hc 0 (by decide) rfl, cell_eq hc 1 (by decide) rfl, cell_eq hc 2 (by decide) rfl, cell_eq hc 3 (by decide) rfl, cell_eq hc 4 (by decide) rfl, cell_eq hc 5 (by decide) rfl, cell_eq hc 6 (by decide) rfl⟩, m4, m5, m6⟩
end Go.Proofs.YtondmbeccpekiaaGreatDoor.Op
