/- Copies of locks and tables; copies that are alike. -/
import Derived.Test.YtkpaijmghojohaaTw2
namespace Go.Proofs.Ytkpaijmghojohaa.Tw
open Go.RowKit Go.Proofs.Ytkpaijmghojohaa.Sl Go.Proofs.Ytkpaijmghojohaa.Ap Go.Proofs.Ytkpaijmghojohaa.Tx Go.Proofs.Ytkpaijmghojohaa.Tb

theorem ew_set {w : World} {b o : Nat} {x : Wt} {p i : Nat} {v : Value} (hne : p ≠ b) (h : EW w b o x) : EW (w.setCell ⟨p, i, none⟩ v) b o x :=
  ⟨(World.cell?_setCell_other _ _ _ _ (fun e => hne (by have := congrArg Addr.block e; exact this))).trans h.1, (World.cell?_setCell_other _ _ _ _ (fun e => hne (by have := congrArg Addr.block e; exact this))).trans h.2⟩
theorem ew_below {w w' : World} {b o : Nat} {x : Wt} (hb : Below w.heap.size w w') (hlt : b < w.heap.size) (h : EW w b o x) : EW w' b o x := stays_W _ _ _ _ _ hb hlt h
/-- Rows that lie from block B on. -/
def EWA (B : Nat) (w : World) (b o : Nat) (x : Wt) : Prop := B ≤ b ∧ EW w b o x
def ESA (B : Nat) (w : World) (b o : Nat) (x : Sn) : Prop := B ≤ b ∧ ES w b o x
def ELA (B : Nat) (w : World) (b o : Nat) (x : Lk) : Prop := B ≤ b ∧ ∃ u, w.cell? ⟨b, o, none⟩ = some (.string x.n) ∧ w.cell? ⟨b, o + 1, none⟩ = some (.int .i64 x.t) ∧ w.cell? ⟨b, o + 2, none⟩ = some (.int .i64 x.h) ∧ w.cell? ⟨b, o + 3, none⟩ = some (.int .i64 x.e) ∧ w.cell? ⟨b, o + 4, none⟩ = some u ∧ RowG 2 (EWA B) w u x.ws
def RowLA (B : Nat) (w : World) (v : Value) (xs : List Lk) : Prop := RowG 5 (ELA B) w v xs
def RowSA (B : Nat) (w : World) (v : Value) (xs : List Sn) : Prop := RowG 6 (ESA B) w v xs
/-- From block B on both worlds are alike. -/
def Abv (B : Nat) (w w' : World) : Prop := w.heap.size ≤ w'.heap.size ∧ ∀ k, B ≤ k → k < w.heap.size → w'.heap[k]? = w.heap[k]?
theorem Abv.cell {B : Nat} {w w' : World} (h : Abv B w w') {b o : Nat} (hB : B ≤ b) {v : Value} (hc : w.cell? ⟨b, o, none⟩ = some v) : w'.cell? ⟨b, o, none⟩ = some v :=
  (World.cell?_of_block (w := w) (h.2 b hB (World.block_lt_of_cell? w _ hc))).trans hc
theorem Abv.set {B : Nat} {w w' : World} (h : Abv B w w') {p i : Nat} (hp : p < B) (v : Value) : Abv B w (w'.setCell ⟨p, i, none⟩ v) :=
  ⟨by simpa using h.1, fun k hk hk2 => (blk_far (by omega) i v).trans (h.2 k hk hk2)⟩
theorem Abv.refl (B : Nat) (w : World) : Abv B w w := ⟨Nat.le_refl _, fun _ _ _ => rfl⟩
theorem Abv.of {B : Nat} {w w' : World} (h : Below w.heap.size w w') : Abv B w w' := ⟨h.size, fun k _ hk => h.block k hk⟩
theorem RowG.keep {α : Type} {c B : Nat} {E E' : World → Nat → Nat → α → Prop} {w w' : World} {v : Value} {xs : List α} (h : RowG c E w v xs) (ha : Abv B w w') (hE : ∀ b o x, b < w.heap.size → E w b o x → E' w' b o x) : RowG c E' w' v xs := by
  obtain ⟨a, cap, rfl, h⟩ := h
  refine ⟨a, cap, rfl, ?_⟩
  rcases h with h | ⟨b, off, rfl, hc, hlt, h⟩
  · exact .inl h
  · exact .inr ⟨b, off, rfl, hc, Nat.lt_of_lt_of_le hlt ha.1, fun i x hi => hE _ _ _ hlt (h i x hi)⟩
theorem ewa_keep {B : Nat} {w w' : World} (ha : Abv B w w') {b o : Nat} {x : Wt} (h : EWA B w b o x) : EWA B w' b o x := ⟨h.1, ha.cell h.1 h.2.1, ha.cell h.1 h.2.2⟩
theorem RowLA.keep {B : Nat} {w w' : World} {v : Value} {xs : List Lk} (h : RowLA B w v xs) (ha : Abv B w w') : RowLA B w' v xs :=
  RowG.keep h ha fun _ _ _ _ ⟨hB, u, h0, h1, h2, h3, h4, h5⟩ => ⟨hB, u, ha.cell hB h0, ha.cell hB h1, ha.cell hB h2, ha.cell hB h3, ha.cell hB h4, RowG.keep h5 ha fun _ _ _ _ h => ewa_keep ha h⟩
theorem RowSA.keep {B : Nat} {w w' : World} {v : Value} {xs : List Sn} (h : RowSA B w v xs) (ha : Abv B w w') : RowSA B w' v xs :=
  RowG.keep h ha fun _ _ _ _ ⟨hB, h0, h1, h2, h3, h4, h5⟩ => ⟨hB, ha.cell hB h0, ha.cell hB h1, ha.cell hB h2, ha.cell hB h3, ha.cell hB h4, ha.cell hB h5⟩
theorem RowLA.row {B : Nat} {w : World} {v : Value} {xs : List Lk} (h : RowLA B w v xs) : RowL w v xs :=
  RowG.keep h (Abv.refl B w) fun _ _ _ _ ⟨_, u, h0, h1, h2, h3, h4, h5⟩ => ⟨u, h0, h1, h2, h3, h4, RowG.keep h5 (Abv.refl B w) fun _ _ _ _ h => h.2⟩
theorem RowSA.row {B : Nat} {w : World} {v : Value} {xs : List Sn} (h : RowSA B w v xs) : RowS w v xs :=
  RowG.keep h (Abv.refl B w) fun _ _ _ _ h => h.2
theorem RowLA.mono {B B' : Nat} {w : World} {v : Value} {xs : List Lk} (h : RowLA B w v xs) (hB : B' ≤ B) : RowLA B' w v xs :=
  RowG.keep h (Abv.refl B w) fun _ _ _ _ ⟨hb, u, h0, h1, h2, h3, h4, h5⟩ => ⟨Nat.le_trans hB hb, u, h0, h1, h2, h3, h4, RowG.keep h5 (Abv.refl B w) fun _ _ _ _ h => ⟨Nat.le_trans hB h.1, h.2⟩⟩
theorem info_toLockS : (Try.prog.info? 51).map (fun i => (i.zero, i.size, i.bytes)) = some (some (.agg #[.string ⟨#[]⟩, .int .i64 0, .int .i64 0, .int .i64 0, .slice none 0 0]), 5, 64) := by kernel_rfl
/-- The copy of locks: its first k are written, each with a new list of those that wait. -/
def CopL (w : World) (g : Nat) (xs : List Lk) (k : Nat) (A : Array Value) : Prop := A.size = xs.length * 5 ∧ ∀ j x, j < k → xs[j]? = some x → ∃ h, A[j * 5]? = some (.string x.n) ∧ A[j * 5 + 1]? = some (.int .i64 x.t) ∧ A[j * 5 + 2]? = some (.int .i64 x.h) ∧ A[j * 5 + 3]? = some (.int .i64 x.e) ∧ A[j * 5 + 4]? = some (.slice (some ⟨h, 0, none⟩) x.ws.length x.ws.length) ∧ g < h ∧ h < w.heap.size ∧ ∀ i y, x.ws[i]? = some y → EW w h (i * 2) y
theorem CopL.below {w w' : World} {g : Nat} {xs : List Lk} {k : Nat} {A : Array Value} (h : CopL w g xs k A) (hb : Below w.heap.size w w') : CopL w' g xs k A :=
  ⟨h.1, fun j x hj hx => by
    obtain ⟨q, h0, h1, h2, h3, h4, h5, h6, h7⟩ := h.2 j x hj hx
    exact ⟨q, h0, h1, h2, h3, h4, h5, Nat.lt_of_lt_of_le h6 hb.size, fun i y hy => ew_below hb h6 (h7 i y hy)⟩⟩
theorem CopL.set {w : World} {g i : Nat} {v : Value} {xs : List Lk} {k : Nat} {A : Array Value} (h : CopL w g xs k A) : CopL (w.setCell ⟨g, i, none⟩ v) g xs k A :=
  ⟨h.1, fun j x hj hx => by
    obtain ⟨q, h0, h1, h2, h3, h4, h5, h6, h7⟩ := h.2 j x hj hx
    exact ⟨q, h0, h1, h2, h3, h4, h5, by simpa using h6, fun i y hy => ew_set (by omega) (h7 i y hy)⟩⟩
theorem cop_toLockS {w : World} {g : Nat} {xs : List Lk} {k : Nat} {A : Array Value} {x : Lk} {q : Nat} (h : CopL w g xs k A) (hx : xs[k]? = some x) (hg : g < q) (hq : q < w.heap.size) (hr : ∀ i y, x.ws[i]? = some y → EW w q (i * 2) y) :
    CopL w g xs (k + 1) (((((A.setIfInBounds (k * 5) (.string x.n)).setIfInBounds (k * 5 + 1) (.int .i64 x.t)).setIfInBounds (k * 5 + 2) (.int .i64 x.h)).setIfInBounds (k * 5 + 3) (.int .i64 x.e)).setIfInBounds (k * 5 + 4) (.slice (some ⟨q, 0, none⟩) x.ws.length x.ws.length)) := by
  have hk := lt_at hx
  have hs := h.1
  refine ⟨by simpa using h.1, fun j y hj hy => ?_⟩
  simp only [Array.getElem?_setIfInBounds, Array.size_setIfInBounds]
  by_cases e : j = k
  · subst e
    rw [hx] at hy
    cases hy
    refine ⟨q, ?_, ?_, ?_, ?_, ?_, hg, hq, hr⟩
    all_goals (repeat' (first | rw [if_pos rfl, if_pos (by omega)] | rw [if_neg (by omega)]))
  · obtain ⟨p, h0, h1, h2, h3, h4, h5⟩ := h.2 j y (by omega) hy
    refine ⟨p, ?_, ?_, ?_, ?_, ?_, h5⟩
    all_goals (repeat' rw [if_neg (by omega)])
    all_goals assumption
end Go.Proofs.Ytkpaijmghojohaa.Tw
