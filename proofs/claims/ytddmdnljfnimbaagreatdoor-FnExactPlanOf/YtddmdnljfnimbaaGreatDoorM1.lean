/- Texts put together: Rg, Gm, Put, NameParts. -/
import Derived.Test.YtddmdnljfnimbaaGreatDoorM0
import Derived.Lib.SmallJoins
import Derived.Laws.MakeOwn
import Derived.Laws.NewBlocks
import Derived.Deep.QuietTactic
import Derived.BigQuiet
import Derived.Deep.Slices
import Derived.Deep.Fields23
import Derived.OpenShut
import Derived.Deep.RegionLaw
import Derived.BigRegion
import Derived.Laws.ResultCell
import Derived.Deep.CutRange
import Derived.Deep.DeepCutAuto
import Derived.Deep.RegionWith
import Derived.Test.YtddmdnljfnimbaaGreatDoorRows
import Derived.WalkKit
import Derived.ProofKit
import Derived.Laws.RangeString
/- Rows of things of several cells; memory that may be written; the laws' marks of texts. -/
namespace Go.Proofs.YtddmdnljfnimbaaGreatDoor.Rg
open Go.RowKit Go.Proofs.YtddmdnljfnimbaaGreatDoor.Sl Go.Proofs.YtddmdnljfnimbaaGreatDoor.By Go.Proofs.YtddmdnljfnimbaaGreatDoor.Ap

theorem size_new (w : World) (o : Obj) : (w.alloc o).heap.size = w.heap.size + 1 := by simp
theorem blk_cell {w : World} {b : Nat} {cs : Array Value} {t : TypeId} (h : w.heap[b]? = some (.cells cs t (0, 0))) (i : Nat) {x : Value} (hx : cs[i]? = some x) : w.cell? ⟨b, i, none⟩ = some x ∧ w.frozen? ⟨b, i, none⟩ = false := by
  refine ⟨(Joins.cell_of_block h i).trans hx, ?_⟩
  simp [World.frozen?, h]
theorem blk_set {w : World} {b : Nat} {cs : Array Value} {t : TypeId} (h : w.heap[b]? = some (.cells cs t (0, 0))) (i : Nat) (x : Value) : (w.setCell ⟨b, i, none⟩ x).heap[b]? = some (.cells (cs.setIfInBounds i x) t (0, 0)) := Joins.block_setCell (i := i) h x
theorem blk_far {w : World} {b k : Nat} (hk : k ≠ b) (i : Nat) (x : Value) : (w.setCell ⟨b, i, none⟩ x).heap[k]? = w.heap[k]? := Below.heap_setCell w ⟨b, i, none⟩ x k hk
theorem blk_new (w : World) (cs : Array Value) (t : TypeId) : (w.alloc (.cells cs t)).heap[w.heap.size]? = some (.cells cs t (0, 0)) := heap_alloc_new w _
theorem bel_new (w : World) (o : Obj) : Below w.heap.size w (w.alloc o) := (Below.refl _ _).alloc (Nat.le_refl _) _
/-- Things, each of c cells, in a slice. -/
def RowG {α : Type} (c : Nat) (E : World → Nat → Nat → α → Prop) (w : World) (v : Value) (xs : List α) : Prop :=
  ∃ a cap, v = .slice a xs.length cap ∧ (xs = [] ∨ ∃ b off, a = some ⟨b, off, none⟩ ∧ xs.length ≤ cap ∧ b < w.heap.size ∧ ∀ i x, xs[i]? = some x → E w b (off + i * c) x)
/-- What is said of a thing's cells stays where memory is added alone. -/
def Stays {α : Type} (E : World → Nat → Nat → α → Prop) : Prop := ∀ w w' b o x, Below w.heap.size w w' → b < w.heap.size → E w b o x → E w' b o x
theorem RowG.below {α : Type} {c : Nat} {E : World → Nat → Nat → α → Prop} (hE : Stays E) {w w' : World} {v : Value} {xs : List α} (h : RowG c E w v xs) (hb : Below w.heap.size w w') : RowG c E w' v xs := by
  obtain ⟨a, cap, rfl, h⟩ := h
  refine ⟨a, cap, rfl, ?_⟩
  rcases h with h | ⟨b, off, rfl, hc, hlt, h⟩
  · exact .inl h
  · exact .inr ⟨b, off, rfl, hc, Nat.lt_of_lt_of_le hlt hb.size, fun i x hi => hE _ _ _ _ _ hb hlt (h i x hi)⟩
theorem RowG.at {α : Type} {c : Nat} {E : World → Nat → Nat → α → Prop} {w : World} {v : Value} {a : Option Addr} {n cap : Nat} {xs : List α} (h : RowG c E w v xs) (hv : v = .slice a n cap) {i : Nat} {x : α} (hi : xs[i]? = some x) :
    ∃ b off, a = some ⟨b, off, none⟩ ∧ b < w.heap.size ∧ E w b (off + i * c) x := by
  obtain ⟨a', cap', rfl, h⟩ := h
  cases hv
  rcases h with h | ⟨b, off, rfl, hc, hlt, h⟩
  · rw [h] at hi; simp at hi
  · exact ⟨b, off, rfl, hlt, h i x hi⟩
theorem RowG.slice {α : Type} {c : Nat} {E : World → Nat → Nat → α → Prop} {w : World} {v : Value} {xs : List α} (h : RowG c E w v xs) : ∃ a cap, v = .slice a xs.length cap := by
  obtain ⟨a, cap, rfl, _⟩ := h
  exact ⟨a, cap, rfl⟩

theorem ret_i {a b : Int} (h : a = b) : Ending.returned (.int .i64 a) = .returned (.int .i64 b) := by rw [h]
def lft (left s : Int) : Int := if left < s then -1 else left - s
theorem lft_no {left s : Int} (h : left < s) : lft left s = -1 := if_pos h
theorem lft_yes {left s : Int} (h : ¬ left < s) : lft left s = left - s := if_neg h
theorem get_at {α : Type} {xs : List α} {k : Nat} (h : k < xs.length) : ∃ x, xs[k]? = some x := ⟨_, List.getElem?_eq_getElem h⟩
theorem lt_at {α : Type} {xs : List α} {k : Nat} {x : α} (h : xs[k]? = some x) : k < xs.length := (List.getElem?_eq_some_iff.1 h).1
theorem mem_at {α : Type} {xs : List α} {k : Nat} {x : α} (h : xs[k]? = some x) : x ∈ xs := List.mem_of_getElem? h
/-- Three new blocks, one behind the other, in every later world. -/
theorem three {w w1 : World} {o0 o1 o2 : Obj} (b : Below (((w.alloc o0).alloc o1).alloc o2).heap.size (((w.alloc o0).alloc o1).alloc o2) w1) :
    w1.heap[w.heap.size]? = some o0 ∧ w1.heap[w.heap.size + 1]? = some o1 ∧ w1.heap[w.heap.size + 1 + 1]? = some o2 ∧ w.heap.size + 1 + 1 + 1 ≤ w1.heap.size ∧ Below w.heap.size w w1 := by
  have e1 : (w.alloc o0).heap.size = w.heap.size + 1 := size_new _ _
  have e2 : ((w.alloc o0).alloc o1).heap.size = w.heap.size + 1 + 1 := by rw [size_new, e1]
  have e3 : (((w.alloc o0).alloc o1).alloc o2).heap.size = w.heap.size + 1 + 1 + 1 := by rw [size_new, e2]
  have b1 : Below w.heap.size w (((w.alloc o0).alloc o1).alloc o2) := (((Below.refl _ _).alloc (Nat.le_refl _) _).alloc (by rw [e1]; omega) _).alloc (by rw [e2]; omega) _
  have s := b.size
  rw [e3] at b s
  refine ⟨?_, ?_, ?_, s, b1.trans (b.mono (by omega))⟩
  · rw [b.block _ (by omega), Below.heap_alloc _ _ _ (by omega), Below.heap_alloc _ _ _ (by omega)]; exact heap_alloc_new w _
  · rw [b.block _ (by omega), Below.heap_alloc _ _ _ (by omega), ← e1]; exact heap_alloc_new _ _
  · rw [b.block _ (by omega), ← e2]; exact heap_alloc_new _ _
theorem ret_str {a b : ByteArray} (h : a = b) : Ending.returned (.string a) = .returned (.string b) := by rw [h]
/-- The digits of a number, ahead of a text. -/
def mtGo : Nat → Nat → ByteArray → ByteArray
  | 0, _, s => s
  | f + 1, k, s => if k = 0 then s else mtGo f (k / 10) (strOfNums [48 + ((k % 10 : Nat) : Int)] ++ s)
def mtext (k : Nat) : ByteArray := (⟨#[109]⟩ : ByteArray) ++ mtGo (k + 1) k ⟨#[]⟩

set_option maxRecDepth 100000 in
set_option maxHeartbeats 400000 in
theorem markText_any (k : Nat) (w : World) (h0 : 0 < k) (h1 : k ≤ 1125899906842624) :
    Calls Tryz.prog 37 #[.int .i64 k] w fun e w' => e = .returned (.string (mtext k)) ∧ Below w.heap.size w w' := by
  have h0' : ¬ (k : Int) ≤ 0 := by omega
  have h1' : (k : Int) ≤ 1125899906842624 := by omega
  have HT : Hid (mtext k = (⟨#[109]⟩ : ByteArray) ++ mtGo (k + 1) k ⟨#[]⟩) := rfl
  go_enter Tryz.func37, Tryz.ntmps37
  go_wp2_with fail
  go_loopw [0, 3] (fun n s wr => ∃ (q f : Nat) (t : ByteArray), n = .int .i64 q ∧ s = .string t ∧ q ≤ 1125899906842624 ∧ t.size + q ≤ 1125899906842624 ∧ Hid (q < f ∧ mtGo f q t = mtGo (k + 1) k ⟨#[]⟩) ∧ Below w.heap.size w wr) (fun n _ _ => (intOf n).toNat)
  case atStart => exact ⟨k, k + 1, ⟨#[]⟩, rfl, rfl, by omega, by simp [ByteArray.size]; omega, ⟨by omega, rfl⟩, Below.refl _ _⟩
  case round =>
    obtain ⟨q, f, t, rfl, rfl, hq, hts, HF, hbel⟩ := hrel
    by_cases hz : 0 < q
    · have hz' : (0 : Int) < (q : Int) := by omega
      have hcv := By.run_convert_own (P := Tryz.prog) (wr.alloc (.cells #[.int .u8 (48 + (q : Int) % 10)] 5)) wr.heap.size 91 5 9 Tryz.underlying91 Tryz.underlying5 Tryz.underlying9 (.slice (some ⟨wr.heap.size, 0, none⟩) 1 1) [48 + (q : Int) % 10] (own_one 5 wr wr.heap.size (48 + (q : Int) % 10) (Nat.le_refl _))
      have hs1 : (strOfNums [48 + (q : Int) % 10]).size = 1 := by rw [strOfNums_size]; rfl
      have hsz : ¬ 9223372036854775807 < (strOfNums [48 + (q : Int) % 10]).size + t.size := by rw [hs1]; omega
      have HS1 : Hid ((strOfNums [48 + (q : Int) % 10]).size = 1) := hs1
      have HE : Hid (∃ f', q / 10 < f' ∧ mtGo f' (q / 10) (strOfNums [48 + (q : Int) % 10] ++ t) = mtGo (k + 1) k ⟨#[]⟩) := by
        obtain ⟨e1, e2⟩ := HF.out
        cases f with
        | zero => omega
        | succ f =>
          refine ⟨f, by omega, ?_⟩
          rw [← e2]
          show _ = if q = 0 then t else mtGo f (q / 10) (strOfNums [48 + ((q % 10 : Nat) : Int)] ++ t)
          rw [if_neg (by omega)]
          rfl
      clear hs1 HF
      go_wp2_with fail
      obtain ⟨f', e1, e2⟩ := HE.out
      exact ⟨⟨q / 10, f', strOfNums [48 + (q : Int) % 10] ++ t, by simp, rfl, by omega, by rw [ByteArray.size_append, HS1.out]; omega, ⟨e1, e2⟩, hbel.alloc hbel.size _⟩, by simp [intOf]; omega⟩
    · have hz0 : q = 0 := by omega
      have HE : Hid (mtGo (k + 1) k ⟨#[]⟩ = t) := by
        show _ = _
        obtain ⟨e1, e2⟩ := HF.out
        rw [← e2, hz0]
        cases f with
        | zero => rfl
        | succ f => rfl
      have hz' : ¬ (0 : Int) < (q : Int) := by omega
      have hz2 : ¬ 0 < q := hz
      have hsz2 : ¬ 9223372036854775807 < 1 + t.size := by omega
      have hsz3 : ¬ 9223372036854775807 < (⟨#[109]⟩ : ByteArray).size + t.size := hsz2
      clear hz0
      go_wp2
      go_ret
      exact ⟨ret_str (by rw [HT.out, HE.out]), hbel⟩

/-- From w to w' only blocks from B on and below C were written, and new ones. -/
structure Mid (B C : Nat) (w w' : World) : Prop where
  os : w'.os = w.os
  tape : w'.tape = w.tape
  output : w'.output = w.output
  size : w.heap.size ≤ w'.heap.size
  block : ∀ k, k < w.heap.size → (k < B ∨ C ≤ k) → w'.heap[k]? = w.heap[k]?
theorem Mid.refl (B C : Nat) (w : World) : Mid B C w w := ⟨rfl, rfl, rfl, Nat.le_refl _, fun _ _ _ => rfl⟩
theorem Mid.trans {B C : Nat} {w w1 w2 : World} (h : Mid B C w w1) (g : Mid B C w1 w2) : Mid B C w w2 :=
  ⟨g.os.trans h.os, g.tape.trans h.tape, g.output.trans h.output, Nat.le_trans h.size g.size, fun k hk hn => (g.block k (Nat.lt_of_lt_of_le hk h.size) hn).trans (h.block k hk hn)⟩
theorem Mid.of_below {B C : Nat} {w w1 : World} (h : Below w.heap.size w w1) : Mid B C w w1 := ⟨h.os, h.tape, h.output, h.size, fun k hk _ => h.block k hk⟩
theorem Mid.set {B C : Nat} {w : World} {g : Nat} (h1 : B ≤ g) (h2 : g < C) (j : Nat) (x : Value) : Mid B C w (w.setCell ⟨g, j, none⟩ x) :=
  ⟨rfl, rfl, rfl, by simp, fun k _ hk => Below.heap_setCell w ⟨g, j, none⟩ x k (fun e => by have e' : k = g := e; omega)⟩
theorem Mid.below {B C : Nat} {w w1 : World} (h : Mid B C w w1) (hB : B ≤ w.heap.size) : Below B w w1 := ⟨h.os, h.tape, h.output, h.size, fun k hk => h.block k (Nat.lt_of_lt_of_le hk hB) (.inl hk)⟩
theorem own_mid {e : TypeId} {B C : Nat} {w w' : World} {v : Value} {zs : List Int} (h : OwnB e w C v zs) (hm : Mid B C w w') : OwnB e w' C v zs := by
  obtain ⟨hl, h⟩ := h
  refine ⟨hl, ?_⟩
  rcases h with h | ⟨g, cap, cur, rfl, h1, hg, h2⟩
  · exact .inl h
  · exact .inr ⟨g, cap, cur, rfl, h1, (hm.block g (Array.getElem?_eq_some_iff.1 hg).1 (.inr h1)).trans hg, h2⟩
/-- A block of n cells that may be written. -/
def Wr (w : World) (g n : Nat) : Prop := ∃ A t, w.heap[g]? = some (.cells A t (0, 0)) ∧ n ≤ A.size
theorem Wr.lt {w : World} {g n : Nat} (h : Wr w g n) : g < w.heap.size := by obtain ⟨A, t, h, _⟩ := h; exact (Array.getElem?_eq_some_iff.1 h).1
theorem Wr.below {w w' : World} {g n : Nat} (h : Wr w g n) (hb : Below w.heap.size w w') : Wr w' g n := by
  obtain ⟨A, t, h, hn⟩ := h
  exact ⟨A, t, (hb.block g (Array.getElem?_eq_some_iff.1 h).1).trans h, hn⟩
theorem Wr.set {w : World} {g n : Nat} (h : Wr w g n) (p j : Nat) (x : Value) : Wr (w.setCell ⟨p, j, none⟩ x) g n := by
  obtain ⟨A, t, h, hn⟩ := h
  by_cases e : p = g
  · subst e
    exact ⟨_, t, blk_set h j x, by rw [Array.size_setIfInBounds]; exact hn⟩
  · exact ⟨A, t, (blk_far (fun h => e h.symm) j x).trans h, hn⟩
theorem Wr.cell {w : World} {g n : Nat} (h : Wr w g n) {j : Nat} (hj : j < n) : (∃ x, w.cell? ⟨g, j, none⟩ = some x) ∧ w.frozen? ⟨g, j, none⟩ = false := by
  obtain ⟨A, t, h, hn⟩ := h
  obtain ⟨c, f⟩ := blk_cell h j (x := A[j]'(by omega)) (Array.getElem?_eq_getElem (by omega))
  exact ⟨⟨_, c⟩, f⟩
/-- What a mark keeps of the blocks that may be written. -/
def Kw (w w' : World) : Prop := ∀ g n, Wr w g n → Wr w' g n
theorem Kw.trans {w w1 w2 : World} (h : Kw w w1) (g : Kw w1 w2) : Kw w w2 := fun a n x => g a n (h a n x)
end Go.Proofs.YtddmdnljfnimbaaGreatDoor.Rg
namespace Go.Proofs.YtddmdnljfnimbaaGreatDoor.Rg
open Go.ChangeShapes Go.WideShapes Go.ChangeAt Go.RowKit Go.Deep
theorem open_rows {α : Type} [Inhabited α] {H : Type} {enc : TypeId × Value → H} {P : Program} {w : World} {base : Nat} {spare : Nat → Bool} {held : Bool} {t e : TypeId} {c : Nat} {E : World → Nat → Nat → α → Prop} {G : α → Prop}
    (hu : P.underlying t = some (.slice e)) (hce : P.cellsOf e = c) (h0 : 0 < c)
    (step : ∀ (n : Nat) (cs : List Value) (b o : Nat) (y : DataW H × List MemPlace), cs.length = c → (∀ j, j < c → w.cell? ⟨b, o + j, none⟩ = cs[j]?) → DataW.trod enc P w base spare held n e cs = some y → ∃ q, E w b o q ∧ G q)
    {fuel : Nat} {cs : List Value} {y : DataW H × List MemPlace} (hf : DataW.trod enc P w base spare held fuel t cs = some y) :
    ∃ v xs, cs = [v] ∧ RowG c E w v xs ∧ xs.length ≤ maxLen ∧ ∀ x ∈ xs, G x := by
  rcases open_slice hu hf with ⟨hcs, _⟩ | ⟨x, len, cap, m, n, D, Pl, hcs, _, hl, hm, hmm, _, hcell⟩
  · exact ⟨_, [], hcs, ⟨none, 0, rfl, .inl rfl⟩, by simp, fun _ hx => by cases hx⟩
  · have hlm : len ≤ m := by rw [hmm]; split <;> omega
    rw [hce] at hcell
    by_cases hz : len = 0
    · subst hz
      exact ⟨_, [], hcs, ⟨some x, cap, rfl, .inl rfl⟩, by simp, fun _ hx => by cases hx⟩
    obtain ⟨b, off, spot⟩ := x
    have hadd : ∀ (s : Nat) (j : Nat), (⟨b, s, none⟩ : Addr).add j = ⟨b, s + j, none⟩ := fun s j => by unfold Addr.add; split <;> simp_all
    have hspot : spot = none := by
      obtain ⟨cs', h1, _⟩ := hcell 0 (by omega)
      obtain ⟨_, hlen, hc⟩ := World.cells?_some h1
      have e0 := hc 0 h0
      rw [List.getElem?_eq_getElem (by omega)] at e0
      simpa [Addr.add] using World.cell?_spot e0
    subst hspot
    have hlt : b < w.heap.size := by
      obtain ⟨cs', h1, _⟩ := hcell 0 (by omega)
      obtain ⟨_, hlen, hc⟩ := World.cells?_some h1
      have e0 := hc 0 h0
      rw [List.getElem?_eq_getElem (by omega), hadd, hadd] at e0
      exact World.block_lt_of_cell? w _ e0
    have each : ∀ i, i < len → ∃ q : α, E w b (off + i * c) q ∧ G q := by
      intro i hi
      obtain ⟨cs', h1, h2⟩ := hcell i (by omega)
      obtain ⟨_, hlen, hc⟩ := World.cells?_some h1
      refine step n cs' b (off + i * c) _ hlen (fun j hj => ?_) h2
      have e0 := hc j hj
      rw [hadd, hadd] at e0
      exact e0
    obtain ⟨q, hq⟩ := choose_lt each
    have hrl : ((List.range len).map q).length = len := by simp
    refine ⟨_, (List.range len).map q, hcs, ⟨some ⟨b, off, none⟩, cap, by rw [hrl], .inr ⟨b, off, rfl, by rw [hrl]; exact hl, hlt, fun i x hi => ?_⟩⟩, by rw [hrl]; omega, fun x hx => ?_⟩
    · have hil : i < len := by have := (List.getElem?_eq_some_iff.1 hi).1; rw [hrl] at this; exact this
      simp [hil] at hi
      subst hi
      exact (hq i hil).1
    · obtain ⟨i, hi, rfl⟩ := List.mem_map.1 hx
      exact (hq i (List.mem_range.1 hi)).2
theorem cell_eq {w : World} {b o : Nat} {cs : List Value} {c : Nat} (h : ∀ j, j < c → w.cell? ⟨b, o + j, none⟩ = cs[j]?) (j : Nat) (hj : j < c) {v : Value} (hv : cs[j]? = some v) : w.cell? ⟨b, o + j, none⟩ = some v := (h j hj).trans hv
end Go.Proofs.YtddmdnljfnimbaaGreatDoor.Rg

/- Messages in a slice: read, measured, copied, compared. -/
namespace Go.Proofs.YtddmdnljfnimbaaGreatDoor.Gm
open Go.RowKit Go.Proofs.YtddmdnljfnimbaaGreatDoor.Sl Go.Proofs.YtddmdnljfnimbaaGreatDoor.Ap Go.Proofs.YtddmdnljfnimbaaGreatDoor.Rg

structure Mg where
  kd : Int
  vw : Int
  sq : Int
  fr : Int
  dg : ByteArray
  bd : ByteArray
  mc : ByteArray
instance : Inhabited Mg := ⟨⟨0, 0, 0, 0, ⟨#[]⟩, ⟨#[]⟩, ⟨#[]⟩⟩⟩
def E1 (w : World) (b o : Nat) (x : Mg) : Prop := w.cell? ⟨b, o, none⟩ = some (.int .i64 x.kd) ∧ w.cell? ⟨b, o + 1, none⟩ = some (.int .i64 x.vw) ∧ w.cell? ⟨b, o + 2, none⟩ = some (.int .i64 x.sq) ∧ w.cell? ⟨b, o + 3, none⟩ = some (.int .i64 x.fr) ∧ w.cell? ⟨b, o + 4, none⟩ = some (.string x.dg) ∧ w.cell? ⟨b, o + 5, none⟩ = some (.string x.bd) ∧ w.cell? ⟨b, o + 6, none⟩ = some (.string x.mc)
/-- The slice v holds the things xs. -/
def Row (w : World) (v : Value) (xs : List Mg) : Prop := RowG 7 E1 w v xs
def oneV (x : Mg) : Value := .agg #[.int .i64 x.kd, .int .i64 x.vw, .int .i64 x.sq, .int .i64 x.fr, .string x.dg, .string x.bd, .string x.mc]
theorem stays1 : Stays E1 := fun _ _ b _ _ hb hlt ⟨h0, h1, h2, h3, h4, h5, h6⟩ => ⟨(hb.cell (p := ⟨b, _, none⟩) hlt).trans h0, (hb.cell (p := ⟨b, _, none⟩) hlt).trans h1, (hb.cell (p := ⟨b, _, none⟩) hlt).trans h2, (hb.cell (p := ⟨b, _, none⟩) hlt).trans h3, (hb.cell (p := ⟨b, _, none⟩) hlt).trans h4, (hb.cell (p := ⟨b, _, none⟩) hlt).trans h5, (hb.cell (p := ⟨b, _, none⟩) hlt).trans h6⟩
theorem Row.below {w w' : World} {v : Value} {xs : List Mg} (h : Row w v xs) (hb : Below w.heap.size w w') : Row w' v xs := RowG.below stays1 h hb
/-- Its texts are no longer than n. -/
def Tz (n : Nat) (x : Mg) : Prop := x.dg.size ≤ n ∧ x.bd.size ≤ n ∧ x.mc.size ≤ n
set_option maxRecDepth 100000 in
set_option maxHeartbeats 800000 in
theorem sz1_any (x : Mg) (l : Nat) (w : World) (hl : l ≤ 1048576) (hz : Tz maxLen x) :
    Calls Tryz.prog 11 #[oneV x, .int .i64 l] w fun e w' => (∃ r : Int, e = .returned (.int .i64 r) ∧ (r = -1 ∨ ∃ q : Nat, r = q ∧ q ≤ l ∧ Tz l x)) ∧ Below w.heap.size w w' := by
  unfold Tz maxLen at hz
  obtain ⟨z0, z1, z2⟩ := hz
  unfold oneV
  by_cases g0 : (l : Int) < (x.dg.size : Int)
  · go_enter Tryz.func11, Tryz.ntmps11
    go_wp2_with fail
    go_ret
    exact ⟨⟨_, rfl, .inl rfl⟩, bel_new _ _⟩
  by_cases g1 : (l : Int) - (x.dg.size : Int) < (x.bd.size : Int)
  · go_enter Tryz.func11, Tryz.ntmps11
    go_wp2_with fail
    go_ret
    exact ⟨⟨_, rfl, .inl rfl⟩, bel_new _ _⟩
  by_cases g2 : (l : Int) - (x.dg.size : Int) - (x.bd.size : Int) < (x.mc.size : Int)
  · go_enter Tryz.func11, Tryz.ntmps11
    go_wp2_with fail
    go_ret
    exact ⟨⟨_, rfl, .inl rfl⟩, bel_new _ _⟩
  go_enter Tryz.func11, Tryz.ntmps11
  go_wp2_with fail
  go_ret
  refine ⟨⟨_, rfl, .inr ⟨l - (x.dg.size + x.bd.size + x.mc.size), by omega, by omega, ?_⟩⟩, bel_new _ _⟩
  unfold Tz
  omega
set_option maxRecDepth 100000 in
set_option maxHeartbeats 800000 in
theorem szS_any (v : Value) (xs : List Mg) (l : Nat) (w : World) (h : Row w v xs) (hm : ∀ x ∈ xs, Tz maxLen x) (hz : xs.length ≤ maxLen) (hl : l ≤ 1048576) :
    Calls Tryz.prog 18 #[v, .int .i64 l] w fun e w' => (∃ r : Int, e = .returned (.int .i64 r) ∧ (r = -1 ∨ ∃ q : Nat, r = q ∧ q ≤ 1048576 ∧ xs.length ≤ 1048576 ∧ ∀ x ∈ xs, Tz 1048576 x)) ∧ Below w.heap.size w w' := by
  have hz2 : xs.length ≤ 9223372036854775807 := by unfold maxLen at hz; omega
  have HM : Hid (∀ x ∈ xs, Tz maxLen x) := hm
  have HR : Hid (Row w v xs) := h
  obtain ⟨a, cap, rfl⟩ := RowG.slice h
  clear hz hm h
  by_cases hb : (l : Int) < (xs.length : Int)
  · have hb' : (l : Int) - (xs.length : Int) < 0 := by omega
    go_enter Tryz.func18, Tryz.ntmps18
    go_wp2_with fail
    go_ret
    exact ⟨⟨_, rfl, .inl rfl⟩, Below.refl _ _⟩
  have hb' : ¬ (l : Int) - (xs.length : Int) < 0 := by omega
  go_enter Tryz.func18, Tryz.ntmps18
  go_wp2_with fail
  go_loopw [1, 5] (fun l0 i wr => ∃ (k q : Nat), k ≤ xs.length ∧ i = .int .i64 k ∧ l0 = .int .i64 q ∧ q ≤ 1048576 ∧ Hid (∀ j x, j < k → xs[j]? = some x → Tz 1048576 x) ∧ Hid (Below w.heap.size w wr)) (fun _ i _ => xs.length - (intOf i).toNat)
  case atStart => exact ⟨0, l - xs.length, by omega, rfl, by congr 1; omega, by omega, fun j x hj => by omega, Below.refl _ _⟩
  case round =>
    obtain ⟨k, q, hk, rfl, rfl, hq, HJ, HB⟩ := hrel
    by_cases hlt : k < xs.length
    · obtain ⟨x, hx⟩ := Rg.get_at hlt
      obtain ⟨b, off, rfl, hbl, c0, c1, c2, c3, c4, c5, c6⟩ := RowG.at (HR.out.below HB.out) rfl hx
      have HK : Hid (xs[k]? = some x) := hx
      have HMk : Hid (Tz maxLen x) := HM.out _ (mem_at hx)
      clear hx
      go_wp2_with fail
      refine (sz1_any x q wr hq HMk.out).mono ?_
      rintro e w2 ⟨⟨r, rfl, hr⟩, b2⟩
      have HB2 : Hid (Below w.heap.size w w2) := HB.out.trans (b2.mono HB.out.size)
      clear b2
      rcases hr with rfl | ⟨p, rfl, hp, hs⟩
      · go_wp2_with fail
        go_ret
        exact ⟨⟨_, rfl, .inl rfl⟩, HB2.out⟩
      · have HJ2 : Hid (∀ j y, j < k + 1 → xs[j]? = some y → Tz 1048576 y) := fun j y hj hy => by
          by_cases e : j = k
          · subst e
            rw [HK.out] at hy
            cases hy
            unfold Tz at hs ⊢
            omega
          · exact HJ.out j y (by omega) hy
        have hp0 : ¬ (p : Int) < 0 := by omega
        clear hs
        go_wp2_with fail
        exact ⟨⟨k + 1, p, by omega, by go_num, rfl, by omega, HJ2, HB2⟩, by simp [intOf]; omega⟩
    · obtain rfl : k = xs.length := by omega
      go_wp2_with fail
      go_ret
      refine ⟨⟨_, rfl, .inr ⟨q, rfl, hq, by omega, fun x hx => ?_⟩⟩, HB.out⟩
      obtain ⟨j, hj, e⟩ := List.mem_iff_getElem.1 hx
      exact HJ.out j x hj (by rw [List.getElem?_eq_getElem hj, e])
set_option maxRecDepth 100000 in
set_option maxHeartbeats 800000 in
theorem to1_any (x : Mg) (w : World) :
    Calls Tryz.prog 13 #[oneV x] w fun e w' => e = .returned (oneV x) ∧ Below w.heap.size w w' := by
  unfold oneV
  go_enter Tryz.func13, Tryz.ntmps13
  go_wp2_with fail
  refine bodyPost_ret (v := oneV x) (by simp [oneV, results, Tryz.results13, go_sem]) rfl ⟨rfl, ?_⟩
  exact (((Below.refl _ _).alloc (Nat.le_refl _) _).alloc (by simp) _).alloc (by simp; omega) _
theorem info1 : (Tryz.prog.info? 39).map (fun i => (i.zero, i.size, i.bytes)) = some (some (.agg #[.int .i64 0, .int .i64 0, .int .i64 0, .int .i64 0, .string ⟨#[]⟩, .string ⟨#[]⟩, .string ⟨#[]⟩]), 7, 80) := by kernel_rfl
/-- The copy: its first k are written. -/
def Cop (xs : List Mg) (k : Nat) (A : Array Value) : Prop := A.size = xs.length * 7 ∧ ∀ j x, j < k → xs[j]? = some x → A[j * 7]? = some (.int .i64 x.kd) ∧ A[j * 7 + 1]? = some (.int .i64 x.vw) ∧ A[j * 7 + 2]? = some (.int .i64 x.sq) ∧ A[j * 7 + 3]? = some (.int .i64 x.fr) ∧ A[j * 7 + 4]? = some (.string x.dg) ∧ A[j * 7 + 5]? = some (.string x.bd) ∧ A[j * 7 + 6]? = some (.string x.mc)
theorem cop1 {xs : List Mg} {k : Nat} {A : Array Value} {x : Mg} (h : Cop xs k A) (hx : xs[k]? = some x) :
    Cop xs (k + 1) ((((((((A).setIfInBounds (k * 7) (.int .i64 x.kd)).setIfInBounds (k * 7 + 1) (.int .i64 x.vw)).setIfInBounds (k * 7 + 2) (.int .i64 x.sq)).setIfInBounds (k * 7 + 3) (.int .i64 x.fr)).setIfInBounds (k * 7 + 4) (.string x.dg)).setIfInBounds (k * 7 + 5) (.string x.bd)).setIfInBounds (k * 7 + 6) (.string x.mc)) := by
  have hk := lt_at hx
  have hs := h.1
  refine ⟨by simpa using h.1, fun j y hj hy => ?_⟩
  simp only [Array.getElem?_setIfInBounds, Array.size_setIfInBounds]
  by_cases e : j = k
  · subst e
    rw [hx] at hy
    cases hy
    refine ⟨?_, ?_, ?_, ?_, ?_, ?_, ?_⟩
    all_goals (repeat' (first | rw [if_pos rfl, if_pos (by omega)] | rw [if_neg (by omega)]))
  · obtain ⟨h0, h1, h2, h3, h4, h5, h6⟩ := h.2 j y (by omega) hy
    refine ⟨?_, ?_, ?_, ?_, ?_, ?_, ?_⟩
    all_goals (repeat' rw [if_neg (by omega)])
    all_goals assumption
set_option maxRecDepth 100000 in
set_option maxHeartbeats 800000 in
theorem toS_any (v : Value) (xs : List Mg) (w : World) (h : Row w v xs) (hl : xs.length ≤ 1048576) :
    Calls Tryz.prog 20 #[v] w fun e w' => ∃ g, e = .returned (.slice (some ⟨g, 0, none⟩) xs.length xs.length) ∧ w.heap.size ≤ g ∧ g < w'.heap.size ∧ (∀ i x, xs[i]? = some x → E1 w' g (i * 7) x) ∧ Below w.heap.size w w' ∧ Wr w' g (xs.length * 7) := by
  have HR : Hid (Row w v xs) := h
  obtain ⟨a, cap, rfl⟩ := RowG.slice h
  clear h
  obtain ⟨i0, hi, hz0, hz1, hz2⟩ := info_parts info1
  have hmk := run_make (P := Tryz.prog) w 27 39 i0 (.agg #[.int .i64 0, .int .i64 0, .int .i64 0, .int .i64 0, .string ⟨#[]⟩, .string ⟨#[]⟩, .string ⟨#[]⟩]) Tryz.underlying27 hi hz0 .i64 .i64 (xs.length : Int) (xs.length : Int) (by omega) (by omega) (by rw [hz2]; omega) (by omega)
  have hA0 : Cop xs 0 (madeCells (Value.agg #[.int .i64 0, .int .i64 0, .int .i64 0, .int .i64 0, .string ⟨#[]⟩, .string ⟨#[]⟩, .string ⟨#[]⟩]).cells ((xs.length : Int).toNat * i0.size)) := ⟨by rw [hz1]; simp [madeCells, Value.cells], fun j x hj => absurd hj (by omega)⟩
  generalize madeCells (Value.agg #[.int .i64 0, .int .i64 0, .int .i64 0, .int .i64 0, .string ⟨#[]⟩, .string ⟨#[]⟩, .string ⟨#[]⟩]).cells ((xs.length : Int).toNat * i0.size) = A0 at hmk hA0
  rw [Int.toNat_natCast] at hmk
  go_enter Tryz.func20, Tryz.ntmps20
  go_wp2_with fail
  clear hmk
  go_loopw [4] (fun i wr => ∃ k : Nat, ∃ A : Array Value, k ≤ xs.length ∧ i = .int .i64 k ∧ Hid (wr.heap[w.heap.size]? = some (.cells A 39 (0, 0)) ∧ Cop xs k A ∧ Below w.heap.size w wr)) (fun i _ => xs.length - (intOf i).toNat)
  case atStart => exact ⟨0, A0, by omega, rfl, ⟨heap_alloc_new w _, hA0, bel_new _ _⟩⟩
  case round =>
    clear hA0
    obtain ⟨k, A, hk, rfl, HA⟩ := hrel
    by_cases hlt : k < xs.length
    · obtain ⟨x, hx⟩ := Rg.get_at hlt
      obtain ⟨b, off, rfl, hbl, c0, c1, c2, c3, c4, c5, c6⟩ := RowG.at (HR.out.below HA.out.2.2) rfl hx
      have HX : Hid (xs[k]? = some x) := hx
      clear hx
      go_wp2_with fail
      refine (to1_any x wr).mono ?_
      rintro e w2 ⟨rfl, b2⟩
      have hg := (Array.getElem?_eq_some_iff.1 HA.out.1).1
      have HA2 : Hid (w2.heap[w.heap.size]? = some (.cells A 39 (0, 0)) ∧ Cop xs k A ∧ Below w.heap.size w w2) := ⟨(b2.block _ hg).trans HA.out.1, HA.out.2.1, HA.out.2.2.trans (b2.mono HA.out.2.2.size)⟩
      clear b2 c0 c1 c2 c3 c4 c5 c6 HA
      have hsz : k * 7 + 6 < A.size := by rw [HA2.out.2.1.1]; omega
      obtain ⟨d0, f0⟩ := blk_cell HA2.out.1 (k * 7) (x := A[k * 7]) (Array.getElem?_eq_getElem (by omega))
      obtain ⟨d1, f1⟩ := blk_cell HA2.out.1 (k * 7 + 1) (x := A[k * 7 + 1]) (Array.getElem?_eq_getElem (by omega))
      obtain ⟨d2, f2⟩ := blk_cell HA2.out.1 (k * 7 + 2) (x := A[k * 7 + 2]) (Array.getElem?_eq_getElem (by omega))
      obtain ⟨d3, f3⟩ := blk_cell HA2.out.1 (k * 7 + 3) (x := A[k * 7 + 3]) (Array.getElem?_eq_getElem (by omega))
      obtain ⟨d4, f4⟩ := blk_cell HA2.out.1 (k * 7 + 4) (x := A[k * 7 + 4]) (Array.getElem?_eq_getElem (by omega))
      obtain ⟨d5, f5⟩ := blk_cell HA2.out.1 (k * 7 + 5) (x := A[k * 7 + 5]) (Array.getElem?_eq_getElem (by omega))
      obtain ⟨d6, f6⟩ := blk_cell HA2.out.1 (k * 7 + 6) (x := A[k * 7 + 6]) (Array.getElem?_eq_getElem (by omega))
      unfold oneV
      go_wp2_with fail
      refine ⟨⟨k + 1, (((((((A).setIfInBounds (k * 7) (.int .i64 x.kd)).setIfInBounds (k * 7 + 1) (.int .i64 x.vw)).setIfInBounds (k * 7 + 2) (.int .i64 x.sq)).setIfInBounds (k * 7 + 3) (.int .i64 x.fr)).setIfInBounds (k * 7 + 4) (.string x.dg)).setIfInBounds (k * 7 + 5) (.string x.bd)).setIfInBounds (k * 7 + 6) (.string x.mc), by omega, by go_num, ⟨(blk_set (blk_set (blk_set (blk_set (blk_set (blk_set (blk_set HA2.out.1 _ _) _ _) _ _) _ _) _ _) _ _) _ _), cop1 HA2.out.2.1 HX.out, ?_⟩⟩, by simp [intOf]; omega⟩
      exact (Below.setCell (Below.setCell (Below.setCell (Below.setCell (Below.setCell (Below.setCell (Below.setCell HA2.out.2.2 (p := ⟨w.heap.size, k * 7, none⟩) (Nat.le_refl _) (.int .i64 x.kd)) (p := ⟨w.heap.size, k * 7 + 1, none⟩) (Nat.le_refl _) (.int .i64 x.vw)) (p := ⟨w.heap.size, k * 7 + 2, none⟩) (Nat.le_refl _) (.int .i64 x.sq)) (p := ⟨w.heap.size, k * 7 + 3, none⟩) (Nat.le_refl _) (.int .i64 x.fr)) (p := ⟨w.heap.size, k * 7 + 4, none⟩) (Nat.le_refl _) (.string x.dg)) (p := ⟨w.heap.size, k * 7 + 5, none⟩) (Nat.le_refl _) (.string x.bd)) (p := ⟨w.heap.size, k * 7 + 6, none⟩) (Nat.le_refl _) (.string x.mc))
    · obtain rfl : k = xs.length := by omega
      go_wp2_with fail
      go_ret
      refine ⟨w.heap.size, rfl, Nat.le_refl _, (Array.getElem?_eq_some_iff.1 HA.out.1).1, fun i x hi => ?_, HA.out.2.2, ⟨A, _, HA.out.1, Nat.le_of_eq HA.out.2.1.1.symm⟩⟩
      obtain ⟨e0, e1, e2, e3, e4, e5, e6⟩ := HA.out.2.1.2 i x (lt_at hi) hi
      exact ⟨(Joins.cell_of_block HA.out.1 _).trans e0, (Joins.cell_of_block HA.out.1 _).trans e1, (Joins.cell_of_block HA.out.1 _).trans e2, (Joins.cell_of_block HA.out.1 _).trans e3, (Joins.cell_of_block HA.out.1 _).trans e4, (Joins.cell_of_block HA.out.1 _).trans e5, (Joins.cell_of_block HA.out.1 _).trans e6⟩
theorem toS_row {w' : World} {g : Nat} {xs : List Mg} (hg : g < w'.heap.size) (h : ∀ i x, xs[i]? = some x → E1 w' g (i * 7) x) : Row w' (.slice (some ⟨g, 0, none⟩) xs.length xs.length) xs :=
  ⟨_, _, rfl, .inr ⟨g, 0, rfl, Nat.le_refl _, hg, fun i x hi => by rw [Nat.zero_add]; exact h i x hi⟩⟩
set_option maxRecDepth 100000 in
set_option maxHeartbeats 800000 in
theorem eq1_same (x : Mg) (w : World) :
    Calls Tryz.prog 46 #[oneV x, oneV x] w fun e w' => e = .returned (.bool true) ∧ Below w.heap.size w w' := by
  unfold oneV
  have q0 : (x.kd != x.kd) = false := by simp
  have q1 : (x.vw != x.vw) = false := by simp
  have q2 : (x.sq != x.sq) = false := by simp
  have q3 : (x.fr != x.fr) = false := by simp
  have q4 : (x.dg.toList != x.dg.toList) = false := by simp
  have q5 : (x.bd.toList != x.bd.toList) = false := by simp
  have q6 : (x.mc.toList != x.mc.toList) = false := by simp
  have r4 : (x.dg.toList == x.dg.toList) = true := by simp
  have r5 : (x.bd.toList == x.bd.toList) = true := by simp
  have r6 : (x.mc.toList == x.mc.toList) = true := by simp
  go_enter Tryz.func46, Tryz.ntmps46
  go_wp2_with fail
  go_ret
  exact ⟨rfl, ((Below.refl _ _).alloc (Nat.le_refl _) _).alloc (by simp) _⟩
set_option maxRecDepth 100000 in
set_option maxHeartbeats 800000 in
theorem eqS_same (v u0 : Value) (xs : List Mg) (w : World) (h : Row w v xs) (g : Row w u0 xs) (hl : xs.length ≤ 1048576) :
    Calls Tryz.prog 23 #[v, u0] w fun e w' => e = .returned (.bool true) ∧ Below w.heap.size w w' := by
  have HR : Hid (Row w v xs) := h
  have HG : Hid (Row w u0 xs) := g
  obtain ⟨a, cap, rfl⟩ := RowG.slice h
  obtain ⟨a', cap', rfl⟩ := RowG.slice g
  clear h g
  have hne : ((xs.length : Int) != (xs.length : Int)) = false := by simp
  go_enter Tryz.func23, Tryz.ntmps23
  go_wp2_with fail
  go_loopw [5] (fun i wr => ∃ k : Nat, k ≤ xs.length ∧ i = .int .i64 k ∧ Hid (Below w.heap.size w wr)) (fun i _ => xs.length - (intOf i).toNat)
  case atStart => exact ⟨0, by omega, rfl, Below.refl _ _⟩
  case round =>
    obtain ⟨k, hk, rfl, HB⟩ := hrel
    by_cases hlt : k < xs.length
    · obtain ⟨x, hx⟩ := Rg.get_at hlt
      obtain ⟨b, off, rfl, hb, c0, c1, c2, c3, c4, c5, c6⟩ := RowG.at (HR.out.below HB.out) rfl hx
      obtain ⟨b', off', rfl, hb', d0, d1, d2, d3, d4, d5, d6⟩ := RowG.at (HG.out.below HB.out) rfl hx
      have HK : Hid (xs[k]? = some x) := hx
      clear hx
      have hp0 : (0 : Int) ≤ (k : Int) := by omega
      have hp1 : (k : Int) < (xs.length : Int) := by omega
      go_upto_region 6 with fail
      obtain ⟨X, hX, W, QI0, QO0⟩ := Qc.klass wr
      have QI : Hid (∀ w', Below wr.heap.size wr w' → ∃ x, w' = W x) := QI0
      have QO : Hid (∀ x, Below wr.heap.size wr (W x)) := QO0
      clear QI0 QO0
      have y0 := Qc.cell_all QO.out c0
      have z0 := Qc.cell_all QO.out d0
      have y1 := Qc.cell_all QO.out c1
      have z1 := Qc.cell_all QO.out d1
      have y2 := Qc.cell_all QO.out c2
      have z2 := Qc.cell_all QO.out d2
      have y3 := Qc.cell_all QO.out c3
      have z3 := Qc.cell_all QO.out d3
      have y4 := Qc.cell_all QO.out c4
      have z4 := Qc.cell_all QO.out d4
      have y5 := Qc.cell_all QO.out c5
      have z5 := Qc.cell_all QO.out d5
      have y6 := Qc.cell_all QO.out c6
      have z6 := Qc.cell_all QO.out d6
      refine Qc.region_class (W := W) (by kernel_rfl) (by kernel_rfl) (QI.out _ Qc.from_drew) ?_
      repeat (go_big_quiet_step (first | (go_at_call 46; refine (eq1_same x _).mono ?_; rintro e w2 ⟨rfl, b2⟩; exact ⟨rfl, Qc.back QI.out QO.out b2⟩)))
      refine wpQuiet_nil ?_
      rintro _ ⟨xq, rfl⟩
      have G2 : Hid (Below w.heap.size w (W xq)) := HB.out.trans ((QO.out xq).mono HB.out.size)
      generalize W xq = wq at G2 ⊢
      go_wp2_with fail
      exact ⟨⟨k + 1, by omega, by go_num, G2⟩, by simp [intOf]; omega⟩
    · go_wp2_with fail
      go_ret
      exact ⟨rfl, HB.out⟩
set_option maxRecDepth 100000 in
set_option maxHeartbeats 1600000 in
theorem markS_any (g n cap : Nat) (a : Nat) (B C : Nat) (w : World) (h : Wr w g (n * 7)) (hB : B ≤ g) (hC : g < C) (hn : n ≤ 1048576) (ha : a ≤ 1000000000000) (ha0 : 0 < a) :
    Calls Tryz.prog 24 #[.slice (some ⟨g, 0, none⟩) n cap, .int .i64 a] w fun e w' => ∃ r : Nat, e = .returned (.int .i64 (r : Int)) ∧ r ≤ a + n * 7 ∧ 0 < r ∧ Mid B C w w' := by
  have H : Hid (Wr w g (n * 7)) := h
  clear h
  go_enter Tryz.func24, Tryz.ntmps24
  go_wp2_with fail
  go_loopw [1, 5] (fun k i wr => ∃ q r : Nat, q ≤ n ∧ k = .int .i64 (r : Int) ∧ 0 < r ∧ r ≤ a + q * 7 ∧ i = .int .i64 q ∧ Hid (Wr wr g (n * 7) ∧ Mid B C w wr)) (fun _ i _ => n - (intOf i).toNat)
  case atStart => exact ⟨0, a, by omega, rfl, ha0, by omega, rfl, H.out, Mid.refl _ _ _⟩
  case round =>
    obtain ⟨q, r, hq, rfl, hr0, hr, rfl, HA⟩ := hrel
    by_cases hlt : q < n
    · have hsz : q * 7 + 6 < n * 7 := by omega
      obtain ⟨⟨x0, c0⟩, f0⟩ := HA.out.1.cell (j := q * 7) (by omega)
      obtain ⟨⟨x1, c1⟩, f1⟩ := HA.out.1.cell (j := q * 7 + 1) (by omega)
      obtain ⟨⟨x2, c2⟩, f2⟩ := HA.out.1.cell (j := q * 7 + 2) (by omega)
      obtain ⟨⟨x3, c3⟩, f3⟩ := HA.out.1.cell (j := q * 7 + 3) (by omega)
      have HC : Hid (Wr ((((wr.setCell ⟨g, q * 7, none⟩ (.int .i64 ((r : Int)))).setCell ⟨g, q * 7 + 1, none⟩ (.int .i64 ((r : Int) + 1))).setCell ⟨g, q * 7 + 2, none⟩ (.int .i64 ((r : Int) + 1 + 1))).setCell ⟨g, q * 7 + 3, none⟩ (.int .i64 ((r : Int) + 1 + 1 + 1))) g (n * 7) ∧ Mid B C w ((((wr.setCell ⟨g, q * 7, none⟩ (.int .i64 ((r : Int)))).setCell ⟨g, q * 7 + 1, none⟩ (.int .i64 ((r : Int) + 1))).setCell ⟨g, q * 7 + 2, none⟩ (.int .i64 ((r : Int) + 1 + 1))).setCell ⟨g, q * 7 + 3, none⟩ (.int .i64 ((r : Int) + 1 + 1 + 1)))) := ⟨((((HA.out.1.set _ _ _).set _ _ _).set _ _ _).set _ _ _), ((((HA.out.2.trans (Mid.set hB hC _ _)).trans (Mid.set hB hC _ _)).trans (Mid.set hB hC _ _)).trans (Mid.set hB hC _ _))⟩
      go_wp2_with fail
      generalize ((((wr.setCell ⟨g, q * 7, none⟩ (.int .i64 ((r : Int)))).setCell ⟨g, q * 7 + 1, none⟩ (.int .i64 ((r : Int) + 1))).setCell ⟨g, q * 7 + 2, none⟩ (.int .i64 ((r : Int) + 1 + 1))).setCell ⟨g, q * 7 + 3, none⟩ (.int .i64 ((r : Int) + 1 + 1 + 1))) = v0 at HC ⊢
      clear HA c0 f0 c1 f1 c2 f2 c3 f3
      obtain ⟨r0, HR0⟩ : ∃ r0 : Nat, Hid (r + 4 = r0) := ⟨_, rfl⟩
      have ER : Hid ((r : Int) + 1 + 1 + 1 + 1 = (r0 : Int)) := by show _ = _; have := HR0.out; omega
      rw [ER.out]
      have l0 : 0 < r0 ∧ r0 ≤ a + q * 7 + 4 := by have := HR0.out; omega
      refine (markText_any r0 v0 l0.1 (by omega)).mono ?_
      rintro e u0 ⟨rfl, b0⟩
      have HD0 : Hid (Wr u0 g (n * 7) ∧ Mid B C w u0) := ⟨HC.out.1.below b0, HC.out.2.trans (Mid.of_below b0)⟩
      generalize mtext r0 = mt0
      obtain ⟨⟨y0, d0⟩, g0⟩ := HD0.out.1.cell (j := q * 7 + 4) (by omega)
      have HE : Hid (Wr (u0.setCell ⟨g, q * 7 + 4, none⟩ (.string mt0)) g (n * 7) ∧ Mid B C w (u0.setCell ⟨g, q * 7 + 4, none⟩ (.string mt0))) := ⟨HD0.out.1.set _ _ _, HD0.out.2.trans (Mid.set hB hC _ _)⟩
      clear HC b0
      go_wp2_with fail
      generalize u0.setCell ⟨g, q * 7 + 4, none⟩ (.string mt0) = v1 at HE ⊢
      have HC := HE
      clear HE HD0 d0 g0 ER
      obtain ⟨r1, HR1⟩ : ∃ r1 : Nat, Hid (r0 + 1 = r1) := ⟨_, rfl⟩
      have ER : Hid ((r0 : Int) + 1 = (r1 : Int)) := by show _ = _; have := HR1.out; omega
      rw [ER.out]
      have l1 : 0 < r1 ∧ r1 ≤ a + q * 7 + 5 := by have := HR1.out; omega
      refine (markText_any r1 v1 l1.1 (by omega)).mono ?_
      rintro e u1 ⟨rfl, b1⟩
      have HD1 : Hid (Wr u1 g (n * 7) ∧ Mid B C w u1) := ⟨HC.out.1.below b1, HC.out.2.trans (Mid.of_below b1)⟩
      generalize mtext r1 = mt1
      obtain ⟨⟨y1, d1⟩, g1⟩ := HD1.out.1.cell (j := q * 7 + 5) (by omega)
      have HE : Hid (Wr (u1.setCell ⟨g, q * 7 + 5, none⟩ (.string mt1)) g (n * 7) ∧ Mid B C w (u1.setCell ⟨g, q * 7 + 5, none⟩ (.string mt1))) := ⟨HD1.out.1.set _ _ _, HD1.out.2.trans (Mid.set hB hC _ _)⟩
      clear HC b1
      go_wp2_with fail
      generalize u1.setCell ⟨g, q * 7 + 5, none⟩ (.string mt1) = v2 at HE ⊢
      have HC := HE
      clear HE HD1 d1 g1 ER
      obtain ⟨r2, HR2⟩ : ∃ r2 : Nat, Hid (r1 + 1 = r2) := ⟨_, rfl⟩
      have ER : Hid ((r1 : Int) + 1 = (r2 : Int)) := by show _ = _; have := HR2.out; omega
      rw [ER.out]
      have l2 : 0 < r2 ∧ r2 ≤ a + q * 7 + 6 := by have := HR2.out; omega
      refine (markText_any r2 v2 l2.1 (by omega)).mono ?_
      rintro e u2 ⟨rfl, b2⟩
      have HD2 : Hid (Wr u2 g (n * 7) ∧ Mid B C w u2) := ⟨HC.out.1.below b2, HC.out.2.trans (Mid.of_below b2)⟩
      generalize mtext r2 = mt2
      obtain ⟨⟨y2, d2⟩, g2⟩ := HD2.out.1.cell (j := q * 7 + 6) (by omega)
      have HE : Hid (Wr (u2.setCell ⟨g, q * 7 + 6, none⟩ (.string mt2)) g (n * 7) ∧ Mid B C w (u2.setCell ⟨g, q * 7 + 6, none⟩ (.string mt2))) := ⟨HD2.out.1.set _ _ _, HD2.out.2.trans (Mid.set hB hC _ _)⟩
      clear HC b2
      go_wp2_with fail
      exact ⟨⟨q + 1, r2 + 1, by omega, by go_num, by omega, by omega, by go_num, HE⟩, by simp [intOf]; omega⟩
    · obtain rfl : q = n := by omega
      go_wp2_with fail
      go_ret
      exact ⟨r, rfl, hr, hr0, HA.out.2⟩
end Go.Proofs.YtddmdnljfnimbaaGreatDoor.Gm
namespace Go.Proofs.YtddmdnljfnimbaaGreatDoor.Op
open Go.ChangeShapes Go.WideShapes Go.ChangeAt Go.RowKit Go.Deep Go.Proofs.YtddmdnljfnimbaaGreatDoor.Rg Go.Proofs.YtddmdnljfnimbaaGreatDoor.Gm
set_option maxRecDepth 100000 in
theorem openGm {H : Type} {enc : TypeId × Value → H} {w : World} {base : Nat} {spare : Nat → Bool} {held : Bool} {fuel : Nat} {cs : List Value} {y : DataW H × List MemPlace} (hf : DataW.trod enc Tryz.prog w base spare held fuel 22 cs = some y) :
    ∃ v xs, cs = [v] ∧ Gm.Row w v xs ∧ xs.length ≤ maxLen ∧ ∀ x ∈ xs, Gm.Tz maxLen x := by
  have k1 : Tryz.prog.cellsOf 3 = 1 := by kernel_rfl
  have k2 : Tryz.prog.cellsOf 9 = 1 := by kernel_rfl
  refine open_rows Tryz.underlying22 (c := 7) (by kernel_rfl) (by decide) (fun n cs b o y hl hc ht => ?_) hf
  obtain ⟨xs, k, hk, _, _, hxl, hff⟩ := DataW.trod_struct Tryz.underlying34 ht
  match cs, hl with
  | [v0, v1, v2, v3, v4, v5, v6], _ =>
    match xs, hxl with
    | [y0, y1, y2, y3, y4, y5, y6], _ =>
      have g0 := hff 0 _ rfl
      have g1 := hff 1 _ rfl
      have g2 := hff 2 _ rfl
      have g3 := hff 3 _ rfl
      have g4 := hff 4 _ rfl
      have g5 := hff 5 _ rfl
      have g6 := hff 6 _ rfl
      simp [k1, k2] at g0 g1 g2 g3 g4 g5 g6
      obtain ⟨z0, q0, _, _⟩ := DataW.trod_int Tryz.underlying3 g0
      obtain ⟨z1, q1, _, _⟩ := DataW.trod_int Tryz.underlying3 g1
      obtain ⟨z2, q2, _, _⟩ := DataW.trod_int Tryz.underlying3 g2
      obtain ⟨z3, q3, _, _⟩ := DataW.trod_int Tryz.underlying3 g3
      obtain ⟨z4, q4, _, m4⟩ := DataW.trod_string Tryz.underlying9 g4
      obtain ⟨z5, q5, _, m5⟩ := DataW.trod_string Tryz.underlying9 g5
      obtain ⟨z6, q6, _, m6⟩ := DataW.trod_string Tryz.underlying9 g6
      simp at q0 q1 q2 q3 q4 q5 q6
      subst q0 q1 q2 q3 q4 q5 q6
      exact ⟨⟨z0, z1, z2, z3, z4, z5, z6⟩, ⟨cell_eq hc 0 (by decide) rfl, cell_eq hc 1 (by decide) rfl, cell_eq hc 2 (by decide) rfl, cell_eq hc 3 (by decide) rfl, cell_eq hc 4 (by decide) rfl, cell_eq hc 5 (by decide) rfl, cell_eq hc 6 (by decide) rfl⟩, m4, m5, m6⟩
end Go.Proofs.YtddmdnljfnimbaaGreatDoor.Op

/- Bytes that are told: numbers, texts. -/
namespace Go.Proofs.YtddmdnljfnimbaaGreatDoor.Pu
open Go.RowKit Go.Proofs.YtddmdnljfnimbaaGreatDoor.Sl Go.Proofs.YtddmdnljfnimbaaGreatDoor.By Go.Proofs.YtddmdnljfnimbaaGreatDoor.Ap

/-- The byte of a number that stands 'at' places from its end. -/
def nb (v : Int) (at' : Nat) : Int := v / 2 ^ (8 * at') % 256
def nums (v : Int) (size k : Nat) : List Int := (List.range k).map fun j => nb v (size - 1 - j)
theorem nums_succ (v : Int) (size k : Nat) : nums v size (k + 1) = nums v size k ++ [nb v (size - 1 - k)] := by simp [nums, List.range_succ]
theorem nums_length (v : Int) (size k : Nat) : (nums v size k).length = k := by simp [nums]

theorem nb_range (v : Int) (k : Nat) : 0 ≤ nb v k ∧ nb v k ≤ 255 := by unfold nb; omega
theorem nums_range (v : Int) (size k : Nat) : ∀ z ∈ nums v size k, 0 ≤ z ∧ z ≤ 255 := by
  intro z hz
  unfold nums at hz
  obtain ⟨j, _, rfl⟩ := List.mem_map.1 hz
  exact nb_range _ _
set_option maxHeartbeats 400000 in
theorem putNumber_any (v : Value) (zs : List Int) (x : Int) (size : Nat) (B : Nat) (w : World) (hown : OwnB 5 w B v zs) (hB : B ≤ w.heap.size) (hs : size ≤ 4) (hlen : zs.length ≤ 1048576) :
    Calls Tryz.prog 112 #[v, .int .i64 x, .int .i64 size] w fun e w' => ∃ v', e = .returned v' ∧ OwnB 5 w' B v' (zs ++ nums x size size) ∧ Kp w w' v v' := by
  obtain ⟨i0, hi, hz0, hz1, hz2⟩ := info_parts Sl.info5
  have hs0 : (size : Int) ≤ 4 := by omega
  have HS : Hid (size ≤ 4) := hs
  have HL : Hid (zs.length ≤ 1048576) := hlen
  clear hs hlen
  go_enter Tryz.func112, Tryz.ntmps112
  go_wp2_with fail
  go_loopw [0, 7] (fun b i wr => ∃ (k : Nat) (q : Int), Hid ((k : Int) + q + 1 = size ∧ k ≤ size) ∧ -1 ≤ q ∧ q ≤ 3 ∧ i = .int .i64 q ∧ OwnB 5 wr B b (zs ++ nums x size k) ∧ Kp w wr v b) (fun _ i _ => (intOf i + 1).toNat)
  case atStart => exact ⟨0, (size : Int) - 1, ⟨by omega, by omega⟩, by omega, by omega, by go_num, by simpa [nums] using hown, Kp.refl _ _⟩
  case round =>
    clear hown hs0
    obtain ⟨k, q, HQ, hq0, hq1, rfl, hown, hkp⟩ := hrel
    have hB' : B ≤ wr.heap.size := Nat.le_trans hB hkp.size
    by_cases hlt : 0 ≤ q
    · have hl : (zs ++ nums x size k).length + 1 ≤ 140737488355328 := by rw [List.length_append, nums_length]; have := HQ.out; have := HL.out; have := HS.out; omega
      go_wp2_with (at_builtin; go_must (refine list_one (by rfl) _ _ 91 (by rfl) Tryz.underlying91 hi hz0 hz1 hz2 B _ _ _ _ (by rfl) (by rfl) hown hB' (by omega) hl ?_; intro v' w' hown' hkp'))
      have e : x / 2 ^ (8 * q).toNat % 256 = nb x (size - 1 - k) := by
        unfold nb
        rw [show (8 * q).toNat = 8 * (size - 1 - k) by have := HQ.out; omega]
      rw [e, List.append_assoc, ← nums_succ] at hown'
      exact ⟨⟨k + 1, q - 1, ⟨by have := HQ.out; omega, by have := HQ.out; omega⟩, by omega, by omega, rfl, hown', hkp.trans hkp'⟩, by simp [intOf]; omega⟩
    · have hk : k = size := by have := HQ.out; omega
      have HK : Hid (k = size) := hk
      clear hk
      go_wp2
      go_ret
      exact ⟨_, rfl, by rw [HK.out] at hown; exact hown, hkp⟩

set_option maxHeartbeats 400000 in
theorem putText_any (v : Value) (zs : List Int) (s : ByteArray) (size : Nat) (B : Nat) (w : World) (hown : OwnB 5 w B v zs) (hB : B ≤ w.heap.size) (hs : size ≤ 4) (hlen : zs.length ≤ 1048000) (hl2 : s.size ≤ 1048576) :
    Calls Tryz.prog 122 #[v, .string s, .int .i64 size] w fun e w' => ∃ v', e = .returned v' ∧ OwnB 5 w' B v' (zs ++ nums (s.size : Int) size size ++ bys s) ∧ Kp w w' v v' := by
  obtain ⟨i0, hi, hz0, hz1, hz2⟩ := info_parts Sl.info5
  have hl : ∀ q : List Int, q.length = zs.length + size → q.length + s.size ≤ 140737488355328 := by omega
  have HN : Hid ((zs ++ nums (s.size : Int) size size).length = zs.length + size) := by show _ = _; rw [List.length_append, nums_length]
  have HL : Hid (_) := hl
  have HO : Hid (OwnB 5 w B v zs) := hown
  clear hl hown
  go_enter Tryz.func122, Tryz.ntmps122
  go_wp2_with fail
  refine (putNumber_any v zs _ size B _ HO.out hB hs (by omega)).mono ?_
  rintro e w1 ⟨v1, rfl, o1, k1⟩
  have B1 : B ≤ w1.heap.size := Nat.le_trans hB k1.size
  go_wp2_with (at_builtin; go_must (refine list_str (by rfl) _ _ 91 9 (by rfl) Tryz.underlying91 Tryz.underlying9 hi hz0 hz1 hz2 B _ _ s _ (by rfl) (by rfl) o1 B1 (HL.out _ HN.out) ?_; intro v2 w2 o2 k2))
  go_ret
  exact ⟨_, rfl, o2, k1.trans k2⟩

set_option maxHeartbeats 400000 in
theorem l02Number_any (x : Int) (size : Nat) (w : World) (hs : size ≤ 4) :
    Calls Tryz.prog 89 #[.int .i64 x, .int .i64 size] w fun e w' => ∃ v', e = .returned v' ∧ OwnB 5 w' w.heap.size v' (nums x size size) ∧ Below w.heap.size w w' := by
  obtain ⟨i0, hi, hz0, hz1, hz2⟩ := info_parts Sl.info5
  have hs0 : (size : Int) ≤ 4 := by omega
  have HS : Hid (size ≤ 4) := hs
  clear hs
  go_enter Tryz.func89, Tryz.ntmps89
  go_wp2_with fail
  go_loopw [5, 6] (fun b i wr => ∃ (k : Nat) (q : Int), Hid ((k : Int) + q + 1 = size ∧ k ≤ size) ∧ -1 ≤ q ∧ q ≤ 3 ∧ i = .int .i64 q ∧ OwnB 5 wr w.heap.size b (nums x size k) ∧ Below w.heap.size w wr) (fun _ i _ => (intOf i + 1).toNat)
  case atStart => exact ⟨0, (size : Int) - 1, ⟨by omega, by omega⟩, by omega, by omega, by go_num, own_made 5 w w.heap.size #[] 0 (Nat.le_refl _) (by simp [maxLen]) rfl, (Below.refl _ _).alloc (Nat.le_refl _) _⟩
  case round =>
    clear hs0
    obtain ⟨k, q, HQ, hq0, hq1, rfl, hown, hbel⟩ := hrel
    by_cases hlt : 0 ≤ q
    · have hl : (nums x size k).length + 1 ≤ 140737488355328 := by rw [nums_length]; have := HQ.out; have := HS.out; omega
      have hB := hbel.size
      go_wp2_with (at_builtin; go_must (refine By.wpList_append_byte (by rfl) _ _ 91 (by rfl) 5 i0 Tryz.underlying91 hi hz0 hz1 hz2 w.heap.size w _ _ _ _ (by rfl) hown hbel hB (by rfl) hl ?_; intro v' w' hown' hbel' hB'))
      have e : x / 2 ^ (8 * q).toNat % 256 = nb x (size - 1 - k) := by
        unfold nb
        rw [show (8 * q).toNat = 8 * (size - 1 - k) by have := HQ.out; omega]
      rw [e, ← nums_succ] at hown'
      exact ⟨⟨k + 1, q - 1, ⟨by have := HQ.out; omega, by have := HQ.out; omega⟩, by omega, by omega, rfl, hown', hbel'⟩, by simp [intOf]; omega⟩
    · have hk : k = size := by have := HQ.out; omega
      have HK : Hid (k = size) := hk
      clear hk
      go_wp2
      go_ret
      exact ⟨_, rfl, by rw [HK.out] at hown; exact hown, hbel⟩
end Go.Proofs.YtddmdnljfnimbaaGreatDoor.Pu

/- What the helpers of both NameOK functions answer, and what each of the two answers: for every number, for every text. -/
namespace Go.Proofs.YtddmdnljfnimbaaGreatDoor.Nm
open Go.RowKit

def letB (n : Int) : Bool := decide (97 ≤ n ∧ n ≤ 122 ∨ 65 ≤ n ∧ n ≤ 90 ∨ n = 95)
def digB (n : Int) : Bool := decide (48 ≤ n ∧ n ≤ 57)
theorem ret_bool {a b : Bool} (h : a = b) : Ending.returned (.bool a) = .returned (.bool b) := by rw [h]
theorem regions (n : Int) : n ≤ 64 ∨ (65 ≤ n ∧ n ≤ 90) ∨ (91 ≤ n ∧ n ≤ 94) ∨ n = 95 ∨ n = 96 ∨ (97 ≤ n ∧ n ≤ 122) ∨ 123 ≤ n := by omega
theorem digions (n : Int) : n ≤ 47 ∨ (48 ≤ n ∧ n ≤ 57) ∨ 58 ≤ n := by omega

theorem isLetter_any (n : Int) (w : World) :
    Calls Tryz.prog 133 #[.int .i32 n] w fun e w' => e = .returned (.bool (letB n)) ∧ w' = w := by
  rcases regions n with h | ⟨h, h'⟩ | ⟨h, h'⟩ | rfl | rfl | ⟨h, h'⟩ | h
  all_goals
    go_enter Tryz.func133, Tryz.ntmps133
    go_wp2
    go_ret
    exact ⟨ret_bool (by unfold letB; rw [Bool.eq_iff_iff]; simp; try omega), rfl⟩
theorem isDigit_any (n : Int) (w : World) :
    Calls Tryz.prog 134 #[.int .i32 n] w fun e w' => e = .returned (.bool (digB n)) ∧ w' = w := by
  rcases digions n with h | ⟨h, h'⟩ | h
  all_goals
    go_enter Tryz.func134, Tryz.ntmps134
    go_wp2
    go_ret
    exact ⟨ret_bool (by unfold digB; rw [Bool.eq_iff_iff]; simp; try omega), rfl⟩
theorem l00Letter_any (n : Int) (w : World) :
    Calls Tryz.prog 139 #[.int .u8 n] w fun e w' => e = .returned (.bool (letB n)) ∧ w' = w := by
  rcases regions n with h | ⟨h, h'⟩ | ⟨h, h'⟩ | rfl | rfl | ⟨h, h'⟩ | h
  all_goals
    go_enter Tryz.func139, Tryz.ntmps139
    go_wp2
    go_ret
    exact ⟨ret_bool (by unfold letB; rw [Bool.eq_iff_iff]; simp; try omega), rfl⟩
theorem l00Digit_any (n : Int) (w : World) :
    Calls Tryz.prog 140 #[.int .u8 n] w fun e w' => e = .returned (.bool (digB n)) ∧ w' = w := by
  rcases digions n with h | ⟨h, h'⟩ | h
  all_goals
    go_enter Tryz.func140, Tryz.ntmps140
    go_wp2
    go_ret
    exact ⟨ret_bool (by unfold digB; rw [Bool.eq_iff_iff]; simp; try omega), rfl⟩

def okAt (s : ByteArray) (i : Nat) : Bool := letB ((s.data.toList.getD i 0).toNat : Int) || (decide (i ≠ 0) && digB ((s.data.toList.getD i 0).toNat : Int))
def nameB (s : ByteArray) : Bool := decide (1 ≤ s.size ∧ s.size ≤ 40 ∧ ∀ i, i < s.size → okAt s i = true)
theorem getD_at (s : ByteArray) (i : Nat) (h : i < s.size) : s.data.toList.getD i 0 = s[i] := by
  have : i < s.data.toList.length := by simpa using h
  simp [List.getD_eq_getElem?_getD, List.getElem?_eq_getElem this]; rfl
theorem okAt_eq (s : ByteArray) (i : Nat) (h : i < s.size) : okAt s i = (letB (s[i].toNat : Int) || (decide (i ≠ 0) && digB (s[i].toNat : Int))) := by
  unfold okAt; rw [getD_at s i h]
theorem name_no (s : ByteArray) (i : Nat) (h : i < s.size) (hn : okAt s i = false) : nameB s = false := by
  unfold nameB; simp only [decide_eq_false_iff_not]; rintro ⟨_, _, h'⟩; rw [h' i h] at hn; cases hn
theorem name_yes (s : ByteArray) (h1 : 1 ≤ s.size) (h2 : s.size ≤ 40) (h : ∀ i, i < s.size → okAt s i = true) : nameB s = true := by
  unfold nameB; simp only [decide_eq_true_eq]; exact ⟨h1, h2, h⟩
theorem name_small (s : ByteArray) (h : s.size = 0 ∨ 40 < s.size) : nameB s = false := by
  unfold nameB; simp only [decide_eq_false_iff_not]; omega

set_option maxHeartbeats 400000 in
theorem l00Word_any (s : ByteArray) (w : World) (hs : s.size ≤ maxLen) :
    Calls Tryz.prog 138 #[.string s] w fun e w' => e = .returned (.bool (nameB s)) ∧ w' = w := by
  unfold maxLen at hs
  by_cases h0 : s.size = 0
  · have hn := name_small s (.inl h0)
    have h1 : (s.size : Int) < 1 := by omega
    go_enter Tryz.func138, Tryz.ntmps138
    go_wp2
    go_ret
    exact ⟨ret_bool hn.symm, rfl⟩
  by_cases h4 : 40 < s.size
  · have hn := name_small s (.inr h4)
    have h1 : (1 : Int) ≤ (s.size : Int) := by omega
    have h2 : (40 : Int) < (s.size : Int) := by omega
    go_enter Tryz.func138, Tryz.ntmps138
    go_wp2
    go_ret
    exact ⟨ret_bool hn.symm, rfl⟩
  have hp : 0 < s.size := by omega
  have h1 : (1 : Int) ≤ (s.size : Int) := by omega
  have h2 : (s.size : Int) ≤ 40 := by omega
  cases hl : letB ((s[0]'hp).toNat : Int)
  · have hn := name_no s 0 hp (by rw [okAt_eq s 0 hp, hl]; rfl)
    go_enter Tryz.func138, Tryz.ntmps138
    go_wp2_with (go_at_call 139; refine (l00Letter_any _ _).mono ?_; rintro e w' ⟨rfl, rfl⟩)
    go_ret
    exact ⟨ret_bool hn.symm, rfl⟩
  have hok0 : okAt s 0 = true := by rw [okAt_eq s 0 hp, hl]; rfl
  go_enter Tryz.func138, Tryz.ntmps138
  go_wp2_with (go_at_call 139; refine (l00Letter_any _ _).mono ?_; rintro e w' ⟨rfl, rfl⟩)
  have H0 : Hid (okAt s 0 = true) := hok0
  clear hok0 hl
  go_loop [3] (fun i => ∃ k : Nat, 1 ≤ k ∧ k ≤ s.size ∧ i = .int .i64 k ∧ Hid (∀ j, j < k → okAt s j = true)) (fun i => s.size - (intOf i).toNat)
  case atStart => exact ⟨1, Nat.le_refl _, by omega, rfl, fun j hj => (show j = 0 by omega) ▸ H0.out⟩
  case round =>
    obtain ⟨k, hk1, hk2, rfl, hall⟩ := hrel
    by_cases hlt : k < s.size
    · cases hl : letB ((s[k]'hlt).toNat : Int)
      · cases hd : digB ((s[k]'hlt).toNat : Int)
        · have hn : Hid (nameB s = false) := name_no s k hlt (by rw [okAt_eq s k hlt, hl, hd]; simp)
          go_wp2_with (first | (go_at_call 139; refine (l00Letter_any _ _).mono ?_; rintro e w' ⟨rfl, rfl⟩) | (go_at_call 140; refine (l00Digit_any _ _).mono ?_; rintro e w' ⟨rfl, rfl⟩))
          go_ret
          exact ⟨ret_bool hn.out.symm, rfl⟩
        · have hk : Hid (okAt s k = true) := by show okAt s k = true; rw [okAt_eq s k hlt, hl, hd]; simp; omega
          go_wp2_with (first | (go_at_call 139; refine (l00Letter_any _ _).mono ?_; rintro e w' ⟨rfl, rfl⟩) | (go_at_call 140; refine (l00Digit_any _ _).mono ?_; rintro e w' ⟨rfl, rfl⟩))
          go_round
          case rel => exact ⟨k + 1, by omega, by omega, by go_num, fun j hj => by by_cases e : j = k; (subst e; exact hk.out); exact hall.out j (by omega)⟩
          case measure => simp [intOf]; omega
      · have hk : Hid (okAt s k = true) := by show okAt s k = true; rw [okAt_eq s k hlt, hl]; rfl
        go_wp2_with (first | (go_at_call 139; refine (l00Letter_any _ _).mono ?_; rintro e w' ⟨rfl, rfl⟩) | (go_at_call 140; refine (l00Digit_any _ _).mono ?_; rintro e w' ⟨rfl, rfl⟩))
        go_round
        case rel => exact ⟨k + 1, by omega, by omega, by go_num, fun j hj => by by_cases e : j = k; (subst e; exact hk.out); exact hall.out j (by omega)⟩
        case measure => simp [intOf]; omega
    · have hn : Hid (nameB s = true) := name_yes s (by omega) (by omega) (fun j hj => hall.out j (by omega))
      go_wp2
      go_ret
      exact ⟨ret_bool hn.out.symm, rfl⟩

theorem specNameOK_any (s : ByteArray) (w : World) (hs : s.size ≤ maxLen) :
    Calls Tryz.prog 132 #[.string s] w fun e w' => e = .returned (.bool (nameB s)) ∧ w' = w := by
  go_enter Tryz.func132, Tryz.ntmps132
  go_wp2_with (go_at_call 138; refine (l00Word_any _ _ hs).mono ?_; rintro e w' ⟨rfl, rfl⟩)
  go_ret
  exact ⟨rfl, rfl⟩

theorem runes (s : ByteArray) (k : Nat) (h : k < s.size) :
    (Utf8.decode s k = ((s[k]'h).toNat, 1) ∧ ((s[k]'h).toNat : Int) < 128) ∨ (128 ≤ ((Utf8.decode s k).1 : Int) ∧ 128 ≤ ((s[k]'h).toNat : Int)) := by
  by_cases ha : (s[k]'h).toNat < 128
  · exact .inl ⟨decode_ascii s k h ha, by omega⟩
  · exact .inr ⟨by have := (decode_high s k h (by omega)).1; omega, by omega⟩
theorem let_high (n : Int) (h : 128 ≤ n) : letB n = false := by unfold letB; simp; omega
theorem dig_high (n : Int) (h : 128 ≤ n) : digB n = false := by unfold digB; simp; omega

set_option maxHeartbeats 400000 in
theorem implNameOK_any (s : ByteArray) (w : World) (hs : s.size ≤ maxLen) :
    Calls Tryz.prog 124 #[.string s] w fun e w' => e = .returned (.bool (nameB s)) ∧ Below w.heap.size w w' := by
  unfold maxLen at hs
  by_cases h0 : s.size = 0
  · have hn := name_small s (.inl h0)
    have h1 : ((s.size : Int) == 0) = true := beq_iff_eq.2 (by omega)
    go_enter Tryz.func124, Tryz.ntmps124
    go_wp2
    go_ret
    exact ⟨ret_bool hn.symm, Below.refl _ _⟩
  have h1 : ((s.size : Int) == 0) = false := beq_eq_false_iff_ne.2 (by omega)
  by_cases h4 : 40 < s.size
  · have hn := name_small s (.inr h4)
    have h2 : (40 : Int) < (s.size : Int) := by omega
    go_enter Tryz.func124, Tryz.ntmps124
    go_wp2
    go_ret
    exact ⟨ret_bool hn.symm, Below.refl _ _⟩
  have hp : 0 < s.size := by omega
  have h2 : (s.size : Int) ≤ 40 := by omega
  go_enter Tryz.func124, Tryz.ntmps124
  go_wp2
  go_loopw [] (fun w' => ∃ k : Nat, k ≤ s.size ∧ w' = w.iter s k ∧ Hid (∀ j, j < k → okAt s j = true)) (fun w' => s.size - w'.iterPos w.heap.size)
  case atStart => exact ⟨0, Nat.zero_le _, rfl, fun j hj => absurd hj (by omega)⟩
  case round =>
    obtain ⟨k, hk2, rfl, hall⟩ := hrel
    by_cases hlt : k < s.size
    · rcases runes s k hlt with ⟨hdec, hlow⟩ | ⟨hdec, hhigh⟩
      · have hnx : ∀ ty, (Instr.next (.pointer (some ⟨w.heap.size, 0, none⟩)) true ty).run Tryz.prog (w.iter s k) = _ := fun ty => run_next_ascii w s k ty hlt (by omega)
        clear hdec
        cases hl : letB ((s[k]'hlt).toNat : Int)
        · by_cases hz : k = 0
          · subst hz
            have hn : Hid (nameB s = false) := name_no s 0 hlt (by rw [okAt_eq s 0 hlt, hl]; rfl)
            go_wp2_with (first | (go_at_call 133; refine (isLetter_any _ _).mono ?_; rintro e w' ⟨rfl, rfl⟩) | (go_at_call 134; refine (isDigit_any _ _).mono ?_; rintro e w' ⟨rfl, rfl⟩))
            go_ret
            exact ⟨ret_bool hn.out.symm, (Below.refl _ _).alloc (Nat.le_refl _) _⟩
          have hz' : ((k : Int) == 0) = false := beq_eq_false_iff_ne.2 (by omega)
          cases hd : digB ((s[k]'hlt).toNat : Int)
          · have hn : Hid (nameB s = false) := name_no s k hlt (by rw [okAt_eq s k hlt, hl, hd]; simp)
            go_wp2_with (first | (go_at_call 133; refine (isLetter_any _ _).mono ?_; rintro e w' ⟨rfl, rfl⟩) | (go_at_call 134; refine (isDigit_any _ _).mono ?_; rintro e w' ⟨rfl, rfl⟩))
            go_ret
            exact ⟨ret_bool hn.out.symm, (Below.refl _ _).alloc (Nat.le_refl _) _⟩
          · have hk : Hid (okAt s k = true) := by show okAt s k = true; rw [okAt_eq s k hlt, hl, hd]; simp; omega
            go_wp2_with (first | (go_at_call 133; refine (isLetter_any _ _).mono ?_; rintro e w' ⟨rfl, rfl⟩) | (go_at_call 134; refine (isDigit_any _ _).mono ?_; rintro e w' ⟨rfl, rfl⟩))
            go_roundw
            case rel => exact ⟨k + 1, by omega, rfl, fun j hj => by by_cases e : j = k; (subst e; exact hk.out); exact hall.out j (by omega)⟩
            case measure => simp; omega
        · have hk : Hid (okAt s k = true) := by show okAt s k = true; rw [okAt_eq s k hlt, hl]; rfl
          go_wp2_with (first | (go_at_call 133; refine (isLetter_any _ _).mono ?_; rintro e w' ⟨rfl, rfl⟩) | (go_at_call 134; refine (isDigit_any _ _).mono ?_; rintro e w' ⟨rfl, rfl⟩))
          go_roundw
          case rel => exact ⟨k + 1, by omega, rfl, fun j hj => by by_cases e : j = k; (subst e; exact hk.out); exact hall.out j (by omega)⟩
          case measure => simp; omega
      · have hnx : ∀ ty, (Instr.next (.pointer (some ⟨w.heap.size, 0, none⟩)) true ty).run Tryz.prog (w.iter s k) = _ := fun ty => run_next_any w s k ty hlt
        have hn : Hid (nameB s = false) := name_no s k hlt (by rw [okAt_eq s k hlt, let_high _ hhigh, dig_high _ hhigh]; simp)
        have hl := let_high _ hdec
        have hd := dig_high _ hdec
        by_cases hz : k = 0
        · subst hz
          go_wp2_with (first | (go_at_call 133; refine (isLetter_any _ _).mono ?_; rintro e w' ⟨rfl, rfl⟩) | (go_at_call 134; refine (isDigit_any _ _).mono ?_; rintro e w' ⟨rfl, rfl⟩))
          go_ret
          exact ⟨ret_bool hn.out.symm, (Below.refl _ _).alloc (Nat.le_refl _) _⟩
        have hz' : ((k : Int) == 0) = false := beq_eq_false_iff_ne.2 (by omega)
        go_wp2_with (first | (go_at_call 133; refine (isLetter_any _ _).mono ?_; rintro e w' ⟨rfl, rfl⟩) | (go_at_call 134; refine (isDigit_any _ _).mono ?_; rintro e w' ⟨rfl, rfl⟩))
        go_ret
        exact ⟨ret_bool hn.out.symm, (Below.refl _ _).alloc (Nat.le_refl _) _⟩
    · have hn : Hid (nameB s = true) := name_yes s (by omega) (by omega) (fun j hj => hall.out j (by omega))
      have hnx : ∀ ty, (Instr.next (.pointer (some ⟨w.heap.size, 0, none⟩)) true ty).run Tryz.prog (w.iter s k) = _ := fun ty => run_next_end w s k ty hlt
      go_wp2
      go_ret
      exact ⟨ret_bool hn.out.symm, (Below.refl _ _).alloc (Nat.le_refl _) _⟩
end Go.Proofs.YtddmdnljfnimbaaGreatDoor.Nm
