/- Tables: locks, those that wait, what was seen; slices of things of several cells. -/
import Derived.Test.YtlgfeohoebmbcaaGreatTz
import Derived.Test.YtlgfeohoebmbcaaGreatOpg
import Derived.Test.YtlgfeohoebmbcaaGreatQc
import Derived.Deep.Slices
import Derived.Deep.Fields23
import Derived.OpenShut
import Derived.Deep.RegionLaw
import Derived.BigRegion
namespace Go.Proofs.YtlgfeohoebmbcaaGreat.Tb
open Go.RowKit Go.Proofs.YtlgfeohoebmbcaaGreat.Sl Go.Proofs.YtlgfeohoebmbcaaGreat.Ap Go.Proofs.YtlgfeohoebmbcaaGreat.Tx

/-- Things, each of c cells, in a slice. -/
def RowG {α : Type} (c : Nat) (E : World → Nat → Nat → α → Prop) (w : World) (v : Value) (xs : List α) : Prop :=
  ∃ a cap, v = .slice a xs.length cap ∧ (xs = [] ∨ ∃ b off, a = some ⟨b, off, none⟩ ∧ xs.length ≤ cap ∧ b < w.heap.size ∧ ∀ i x, xs[i]? = some x → E w b (off + i * c) x)
/-- What is said of a thing's cells stays where memory is added alone. -/
def Stays {α : Type} (E : World → Nat → Nat → α → Prop) : Prop := ∀ w w' b o x, Below w.heap.size w w' → b < w.heap.size → E w b o x → E w' b o x
theorem RowG.below {α : Type} {c : Nat} {E : World → Nat → Nat → α → Prop} (hE : Stays E) {w w' : World} {v : Value} {xs : List α} (h : RowG c E w v xs) (hb : Below w.heap.size w w') : RowG c E w' v xs := by
  obtain ⟨a, cap, rfl, h⟩ := h
  refine ⟨a, cap, rfl, ?_⟩
  rcases h with h | ⟨b, off, rfl, hc, hlt, h⟩
  · exact .inl h
  · exact .inr ⟨b, off, rfl, hc, Nat.lt_of_lt_of_le hlt hb.size, fun i x hi => hE _ _ _ _ _ hb hlt (h i x hi)⟩
theorem RowG.at {α : Type} {c : Nat} {E : World → Nat → Nat → α → Prop} {w : World} {v : Value} {a : Option Addr} {n cap : Nat} {xs : List α} (h : RowG c E w v xs) (hv : v = .slice a n cap) {i : Nat} {x : α} (hi : xs[i]? = some x) :
    ∃ b off, a = some ⟨b, off, none⟩ ∧ b < w.heap.size ∧ E w b (off + i * c) x := by
  obtain ⟨a', cap', rfl, h⟩ := h
  cases hv
  rcases h with h | ⟨b, off, rfl, hc, hlt, h⟩
  · rw [h] at hi; simp at hi
  · exact ⟨b, off, rfl, hlt, h i x hi⟩
theorem RowG.slice {α : Type} {c : Nat} {E : World → Nat → Nat → α → Prop} {w : World} {v : Value} {xs : List α} (h : RowG c E w v xs) : ∃ a cap, v = .slice a xs.length cap := by
  obtain ⟨a, cap, rfl, _⟩ := h
  exact ⟨a, cap, rfl⟩

/-- One that waits; a lock; what was seen; a table. -/
structure Wt where
  c : Int
  l : Int
structure Lk where
  n : ByteArray
  t : Int
  h : Int
  e : Int
  ws : List Wt
structure Sn where
  c : Int
  s : Int
  k : Int
  t : Int
  h : Int
  e : Int
structure Tab where
  tm : Int
  nx : Int
  ls : List Lk
  ss : List Sn
instance : Inhabited Wt := ⟨⟨0, 0⟩⟩
instance : Inhabited Lk := ⟨⟨⟨#[]⟩, 0, 0, 0, []⟩⟩
instance : Inhabited Sn := ⟨⟨0, 0, 0, 0, 0, 0⟩⟩
def EW (w : World) (b o : Nat) (x : Wt) : Prop := w.cell? ⟨b, o, none⟩ = some (.int .i64 x.c) ∧ w.cell? ⟨b, o + 1, none⟩ = some (.int .i64 x.l)
def RowW (w : World) (v : Value) (xs : List Wt) : Prop := RowG 2 EW w v xs
def EL (w : World) (b o : Nat) (x : Lk) : Prop := ∃ u, w.cell? ⟨b, o, none⟩ = some (.string x.n) ∧ w.cell? ⟨b, o + 1, none⟩ = some (.int .i64 x.t) ∧ w.cell? ⟨b, o + 2, none⟩ = some (.int .i64 x.h) ∧ w.cell? ⟨b, o + 3, none⟩ = some (.int .i64 x.e) ∧ w.cell? ⟨b, o + 4, none⟩ = some u ∧ RowW w u x.ws
def RowL (w : World) (v : Value) (xs : List Lk) : Prop := RowG 5 EL w v xs
def ES (w : World) (b o : Nat) (x : Sn) : Prop := w.cell? ⟨b, o, none⟩ = some (.int .i64 x.c) ∧ w.cell? ⟨b, o + 1, none⟩ = some (.int .i64 x.s) ∧ w.cell? ⟨b, o + 2, none⟩ = some (.int .i64 x.k) ∧ w.cell? ⟨b, o + 3, none⟩ = some (.int .i64 x.t) ∧ w.cell? ⟨b, o + 4, none⟩ = some (.int .i64 x.h) ∧ w.cell? ⟨b, o + 5, none⟩ = some (.int .i64 x.e)
def RowS (w : World) (v : Value) (xs : List Sn) : Prop := RowG 6 ES w v xs
theorem stays_W : Stays EW := fun _ _ b _ _ hb hlt ⟨h0, h1⟩ => ⟨(hb.cell (p := ⟨b, _, none⟩) hlt).trans h0, (hb.cell (p := ⟨b, _, none⟩) hlt).trans h1⟩
theorem RowW.below {w w' : World} {v : Value} {xs : List Wt} (h : RowW w v xs) (hb : Below w.heap.size w w') : RowW w' v xs := RowG.below stays_W h hb
theorem stays_L : Stays EL := fun _ _ b _ _ hb hlt ⟨u, h0, h1, h2, h3, h4, h5⟩ => ⟨u, (hb.cell (p := ⟨b, _, none⟩) hlt).trans h0, (hb.cell (p := ⟨b, _, none⟩) hlt).trans h1, (hb.cell (p := ⟨b, _, none⟩) hlt).trans h2, (hb.cell (p := ⟨b, _, none⟩) hlt).trans h3, (hb.cell (p := ⟨b, _, none⟩) hlt).trans h4, h5.below hb⟩
theorem RowL.below {w w' : World} {v : Value} {xs : List Lk} (h : RowL w v xs) (hb : Below w.heap.size w w') : RowL w' v xs := RowG.below stays_L h hb
theorem stays_S : Stays ES := fun _ _ b _ _ hb hlt ⟨h0, h1, h2, h3, h4, h5⟩ => ⟨(hb.cell (p := ⟨b, _, none⟩) hlt).trans h0, (hb.cell (p := ⟨b, _, none⟩) hlt).trans h1, (hb.cell (p := ⟨b, _, none⟩) hlt).trans h2, (hb.cell (p := ⟨b, _, none⟩) hlt).trans h3, (hb.cell (p := ⟨b, _, none⟩) hlt).trans h4, (hb.cell (p := ⟨b, _, none⟩) hlt).trans h5⟩
theorem RowS.below {w w' : World} {v : Value} {xs : List Sn} (h : RowS w v xs) (hb : Below w.heap.size w w') : RowS w' v xs := RowG.below stays_S h hb

/-- Texts are no longer than memory holds. -/
def LkZ (x : Lk) : Prop := x.n.size ≤ maxLen ∧ x.ws.length ≤ maxLen
/-- A table, as it is handed over. -/
def tabV (tm nx : Int) (vl vs : Value) : Value := .agg #[.int .i64 tm, .int .i64 nx, vl, vs]
end Go.Proofs.YtlgfeohoebmbcaaGreat.Tb
namespace Go.Proofs.YtlgfeohoebmbcaaGreat.Op
open Go.ChangeShapes Go.WideShapes Go.ChangeAt Go.RowKit Go.Deep Go.Proofs.YtlgfeohoebmbcaaGreat.Tb
theorem open_rows {α : Type} [Inhabited α] {H : Type} {enc : TypeId × Value → H} {P : Program} {w : World} {base : Nat} {spare : Nat → Bool} {held : Bool} {t e : TypeId} {c : Nat} {E : World → Nat → Nat → α → Prop} {G : α → Prop}
    (hu : P.underlying t = some (.slice e)) (hce : P.cellsOf e = c) (h0 : 0 < c)
    (step : ∀ (n : Nat) (cs : List Value) (b o : Nat) (y : DataW H × List MemPlace), cs.length = c → (∀ j, j < c → w.cell? ⟨b, o + j, none⟩ = cs[j]?) → DataW.trod enc P w base spare held n e cs = some y → ∃ q, E w b o q ∧ G q)
    {fuel : Nat} {cs : List Value} {y : DataW H × List MemPlace} (hf : DataW.trod enc P w base spare held fuel t cs = some y) :
    ∃ v xs, cs = [v] ∧ RowG c E w v xs ∧ xs.length ≤ maxLen ∧ ∀ x ∈ xs, G x := by
  rcases open_slice hu hf with ⟨hcs, _⟩ | ⟨x, len, cap, m, n, D, Pl, hcs, _, hl, hm, hmm, _, hcell⟩
  · exact ⟨_, [], hcs, ⟨none, 0, rfl, .inl rfl⟩, by simp, fun _ hx => by cases hx⟩
  · have hlm : len ≤ m := by rw [hmm]; split <;> omega
    rw [hce] at hcell
    by_cases hz : len = 0
    · subst hz
      exact ⟨_, [], hcs, ⟨some x, cap, rfl, .inl rfl⟩, by simp, fun _ hx => by cases hx⟩
    obtain ⟨b, off, spot⟩ := x
    have hadd : ∀ (s : Nat) (j : Nat), (⟨b, s, none⟩ : Addr).add j = ⟨b, s + j, none⟩ := fun s j => by unfold Addr.add; split <;> simp_all
    have hspot : spot = none := by
      obtain ⟨cs', h1, _⟩ := hcell 0 (by omega)
      obtain ⟨_, hlen, hc⟩ := World.cells?_some h1
      have e0 := hc 0 h0
      rw [List.getElem?_eq_getElem (by omega)] at e0
      simpa [Addr.add] using World.cell?_spot e0
    subst hspot
    have hlt : b < w.heap.size := by
      obtain ⟨cs', h1, _⟩ := hcell 0 (by omega)
      obtain ⟨_, hlen, hc⟩ := World.cells?_some h1
      have e0 := hc 0 h0
      rw [List.getElem?_eq_getElem (by omega), hadd, hadd] at e0
      exact World.block_lt_of_cell? w _ e0
    have each : ∀ i, i < len → ∃ q : α, E w b (off + i * c) q ∧ G q := by
      intro i hi
      obtain ⟨cs', h1, h2⟩ := hcell i (by omega)
      obtain ⟨_, hlen, hc⟩ := World.cells?_some h1
      refine step n cs' b (off + i * c) _ hlen (fun j hj => ?_) h2
      have e0 := hc j hj
      rw [hadd, hadd] at e0
      exact e0
    obtain ⟨q, hq⟩ := choose_lt each
    have hrl : ((List.range len).map q).length = len := by simp
    refine ⟨_, (List.range len).map q, hcs, ⟨some ⟨b, off, none⟩, cap, by rw [hrl], .inr ⟨b, off, rfl, by rw [hrl]; exact hl, hlt, fun i x hi => ?_⟩⟩, by rw [hrl]; omega, fun x hx => ?_⟩
    · have hil : i < len := by have := (List.getElem?_eq_some_iff.1 hi).1; rw [hrl] at this; exact this
      simp [hil] at hi
      subst hi
      exact (hq i hil).1
    · obtain ⟨i, hi, rfl⟩ := List.mem_map.1 hx
      exact (hq i (List.mem_range.1 hi)).2
theorem cell_eq {w : World} {b o : Nat} {cs : List Value} {c : Nat} (h : ∀ j, j < c → w.cell? ⟨b, o + j, none⟩ = cs[j]?) (j : Nat) (hj : j < c) {v : Value} (hv : cs[j]? = some v) : w.cell? ⟨b, o + j, none⟩ = some v := (h j hj).trans hv
section
variable {H : Type} {enc : TypeId × Value → H} {w : World} {base : Nat} {spare : Nat → Bool} {held : Bool}
theorem k1 : Tryz.prog.cellsOf 3 = 1 := by kernel_rfl
theorem k2 : Tryz.prog.cellsOf 9 = 1 := by kernel_rfl
set_option maxRecDepth 100000 in
theorem open_waiters {fuel : Nat} {cs : List Value} {y : DataW H × List MemPlace} (hf : DataW.trod enc Tryz.prog w base spare held fuel 106 cs = some y) :
    ∃ v xs, cs = [v] ∧ RowW w v xs ∧ xs.length ≤ maxLen ∧ ∀ x ∈ xs, (fun _ : Wt => True) x := by
  refine open_rows Tryz.underlying106 (c := 2) (by kernel_rfl) (by decide) (fun n cs b o y hl hc ht => ?_) hf
  obtain ⟨xs, k, hk, _, _, hxl, hff⟩ := DataW.trod_struct Tryz.underlying169 ht
  match cs, hl with
  | [v0, v1], _ =>
    match xs, hxl with
    | [y0, y1], _ =>
      have g0 := hff 0 _ rfl
      have g1 := hff 1 _ rfl
      simp [k1] at g0 g1
      obtain ⟨z0, q0, _, _⟩ := DataW.trod_int Tryz.underlying3 g0
      obtain ⟨z1, q1, _, _⟩ := DataW.trod_int Tryz.underlying3 g1
      simp at q0 q1
      subst q0 q1
      exact ⟨⟨z0, z1⟩, ⟨cell_eq hc 0 (by decide) rfl, cell_eq hc 1 (by decide) rfl⟩, trivial⟩
theorem ks : Tryz.prog.cellsOf 106 = 1 := by kernel_rfl
set_option maxRecDepth 100000 in
theorem open_locks {fuel : Nat} {cs : List Value} {y : DataW H × List MemPlace} (hf : DataW.trod enc Tryz.prog w base spare held fuel 22 cs = some y) :
    ∃ v xs, cs = [v] ∧ RowL w v xs ∧ xs.length ≤ maxLen ∧ ∀ x ∈ xs, LkZ x := by
  refine open_rows Tryz.underlying22 (c := 5) (by kernel_rfl) (by decide) (fun n cs b o y hl hc ht => ?_) hf
  obtain ⟨xs, k, hk, _, _, hxl, hff⟩ := DataW.trod_struct Tryz.underlying108 ht
  match cs, hl with
  | [v0, v1, v2, v3, v4], _ =>
    match xs, hxl with
    | [y0, y1, y2, y3, y4], _ =>
      have g0 := hff 0 _ rfl
      have g1 := hff 1 _ rfl
      have g2 := hff 2 _ rfl
      have g3 := hff 3 _ rfl
      have g4 := hff 4 _ rfl
      simp [k1, k2, ks] at g0 g1 g2 g3 g4
      obtain ⟨z0, q0, _, m0⟩ := DataW.trod_string Tryz.underlying9 g0
      obtain ⟨z1, q1, _, _⟩ := DataW.trod_int Tryz.underlying3 g1
      obtain ⟨z2, q2, _, _⟩ := DataW.trod_int Tryz.underlying3 g2
      obtain ⟨z3, q3, _, _⟩ := DataW.trod_int Tryz.underlying3 g3
      obtain ⟨z4, ws, q4, r4, m4, _⟩ := open_waiters g4
      simp at q0 q1 q2 q3 q4
      subst q0 q1 q2 q3 q4
      exact ⟨⟨z0, z1, z2, z3, ws⟩, ⟨v4, cell_eq hc 0 (by decide) rfl, cell_eq hc 1 (by decide) rfl, cell_eq hc 2 (by decide) rfl, cell_eq hc 3 (by decide) rfl, cell_eq hc 4 (by decide) rfl, r4⟩, m0, m4⟩
set_option maxRecDepth 100000 in
theorem open_seens {fuel : Nat} {cs : List Value} {y : DataW H × List MemPlace} (hf : DataW.trod enc Tryz.prog w base spare held fuel 23 cs = some y) :
    ∃ v xs, cs = [v] ∧ RowS w v xs ∧ xs.length ≤ maxLen ∧ ∀ x ∈ xs, (fun _ : Sn => True) x := by
  refine open_rows Tryz.underlying23 (c := 6) (by kernel_rfl) (by decide) (fun n cs b o y hl hc ht => ?_) hf
  obtain ⟨xs, k, hk, _, _, hxl, hff⟩ := DataW.trod_struct Tryz.underlying121 ht
  have ka : Tryz.prog.cellsOf 119 = 4 := by kernel_rfl
  match cs, hl with
  | [v0, v1, v2, v3, v4, v5], _ =>
    match xs, hxl with
    | [y0, y1, y2], _ =>
      have g0 := hff 0 _ rfl
      have g1 := hff 1 _ rfl
      have g2 := hff 2 _ rfl
      simp [k1, ka] at g0 g1 g2
      obtain ⟨z0, q0, _, _⟩ := DataW.trod_int Tryz.underlying3 g0
      obtain ⟨z1, q1, _, _⟩ := DataW.trod_int Tryz.underlying3 g1
      obtain ⟨xs', k', _, _, _, hxl', hff'⟩ := DataW.trod_struct Tryz.underlying119 g2
      match xs', hxl' with
      | [y0', y1', y2', y3'], _ =>
        have g2 := hff' 0 _ rfl
        have g3 := hff' 1 _ rfl
        have g4 := hff' 2 _ rfl
        have g5 := hff' 3 _ rfl
        simp [k1] at g2 g3 g4 g5
        obtain ⟨z2, q2, _, _⟩ := DataW.trod_int Tryz.underlying3 g2
        obtain ⟨z3, q3, _, _⟩ := DataW.trod_int Tryz.underlying3 g3
        obtain ⟨z4, q4, _, _⟩ := DataW.trod_int Tryz.underlying3 g4
        obtain ⟨z5, q5, _, _⟩ := DataW.trod_int Tryz.underlying3 g5
        simp at q0 q1 q2 q3 q4 q5
        subst q0 q1 q2 q3 q4 q5
        exact ⟨⟨z0, z1, z2, z3, z4, z5⟩, ⟨cell_eq hc 0 (by decide) rfl, cell_eq hc 1 (by decide) rfl, cell_eq hc 2 (by decide) rfl, cell_eq hc 3 (by decide) rfl, cell_eq hc 4 (by decide) rfl, cell_eq hc 5 (by decide) rfl⟩, trivial⟩
set_option maxRecDepth 100000 in
theorem open_table {r : Reach} {b0 : Nat} {v : Value} {d : DataW H} {p : List MemPlace}
    (hv : Value.okWide Tryz.prog w r b0 25 v) (h : DataW.Trod enc Tryz.prog w base spare held 25 v d p) :
    ∃ (t : Tab) (vl vs : Value), v = tabV t.tm t.nx vl vs ∧ RowL w vl t.ls ∧ RowS w vs t.ss ∧ t.ls.length ≤ maxLen ∧ t.ss.length ≤ maxLen ∧ ∀ x ∈ t.ls, LkZ x := by
  obtain ⟨cs, rfl, hsz, hf⟩ := open_cells Tryz.underlying25 (by kernel_rfl) hv h
  have hsz4 : cs.size = 4 := hsz.trans (by kernel_rfl)
  obtain ⟨l⟩ := cs
  match l, hsz4 with
  | [c0, c1, c2, c3], _ =>
    obtain ⟨a0, rfl, _⟩ := cell_int Tryz.underlying3 (hf 0 _ _ rfl rfl)
    obtain ⟨a1, rfl, _⟩ := cell_int Tryz.underlying3 (hf 1 _ _ rfl rfl)
    obtain ⟨n2, y2, h2⟩ := hf 2 _ _ rfl rfl
    obtain ⟨n3, y3, h3⟩ := hf 3 _ _ rfl rfl
    obtain ⟨v2, ls, e2, r2, l2, z2⟩ := open_locks h2
    obtain ⟨v3, ss, e3, r3, l3, _⟩ := open_seens h3
    cases e2
    cases e3
    exact ⟨⟨a0, a1, ls, ss⟩, c2, c3, rfl, r2, r3, l2, l3, z2⟩
end
end Go.Proofs.YtlgfeohoebmbcaaGreat.Op
