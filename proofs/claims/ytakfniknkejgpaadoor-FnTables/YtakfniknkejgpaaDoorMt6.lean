/- Texts put together: Tw3, Tw4, Mw. -/
import Derived.Test.YtakfniknkejgpaaDoorMt5
import Derived.Deep.RegionWith
/- Copies of locks and tables; copies that are alike. -/
namespace Go.Proofs.YtakfniknkejgpaaDoor.Tw
open Go.RowKit Go.Proofs.YtakfniknkejgpaaDoor.Sl Go.Proofs.YtakfniknkejgpaaDoor.Ap Go.Proofs.YtakfniknkejgpaaDoor.Tx Go.Proofs.YtakfniknkejgpaaDoor.Tb

theorem ew_set {w : World} {b o : Nat} {x : Wt} {p i : Nat} {v : Value} (hne : p ≠ b) (h : EW w b o x) : EW (w.setCell ⟨p, i, none⟩ v) b o x :=
 ⟨(World.cell?_setCell_other _ _ _ _ (fun e => hne (by have := congrArg Addr.block e; exact this))).trans h.1, (World.cell?_setCell_other _ _ _ _ (fun e => hne (by have := congrArg Addr.block e; exact this))).trans h.2⟩
theorem ew_below {w w' : World} {b o : Nat} {x : Wt} (hb : Below w.heap.size w w') (hlt : b < w.heap.size) (h : EW w b o x) : EW w' b o x := stays_W _ _ _ _ _ hb hlt h
def EWA (B : Nat) (w : World) (b o : Nat) (x : Wt) : Prop := B ≤ b ∧ EW w b o x
def ESA (B : Nat) (w : World) (b o : Nat) (x : Sn) : Prop := B ≤ b ∧ ES w b o x
def ELA (B : Nat) (w : World) (b o : Nat) (x : Lk) : Prop := B ≤ b ∧ ∃ u, w.cell? ⟨b, o, none⟩ = some (.string x.n) ∧ w.cell? ⟨b, o + 1, none⟩ = some (.int .i64 x.t) ∧ w.cell? ⟨b, o + 2, none⟩ = some (.int .i64 x.h) ∧ w.cell? ⟨b, o + 3, none⟩ = some (.int .i64 x.e) ∧ w.cell? ⟨b, o + 4, none⟩ = some u ∧ RowG 2 (EWA B) w u x.ws
def RowLA (B : Nat) (w : World) (v : Value) (xs : List Lk) : Prop := RowG 5 (ELA B) w v xs
def RowSA (B : Nat) (w : World) (v : Value) (xs : List Sn) : Prop := RowG 6 (ESA B) w v xs
def Abv (B : Nat) (w w' : World) : Prop := w.heap.size ≤ w'.heap.size ∧ ∀ k, B ≤ k → k < w.heap.size → w'.heap[k]? = w.heap[k]?
theorem Abv.cell {B : Nat} {w w' : World} (h : Abv B w w') {b o : Nat} (hB : B ≤ b) {v : Value} (hc : w.cell? ⟨b, o, none⟩ = some v) : w'.cell? ⟨b, o, none⟩ = some v :=
 (World.cell?_of_block (w := w) (h.2 b hB (World.block_lt_of_cell? w _ hc))).trans hc
theorem Abv.set {B : Nat} {w w' : World} (h : Abv B w w') {p i : Nat} (hp : p < B) (v : Value) : Abv B w (w'.setCell ⟨p, i, none⟩ v) :=
 ⟨by simpa using h.1, fun k hk hk2 => (blk_far (by omega) i v).trans (h.2 k hk hk2)⟩
theorem Abv.refl (B : Nat) (w : World) : Abv B w w := ⟨Nat.le_refl _, fun _ _ _ => rfl⟩
theorem Abv.of {B : Nat} {w w' : World} (h : Below w.heap.size w w') : Abv B w w' := ⟨h.size, fun k _ hk => h.block k hk⟩
theorem RowG.keep {α : Type} {c B : Nat} {E E' : World → Nat → Nat → α → Prop} {w w' : World} {v : Value} {xs : List α} (h : RowG c E w v xs) (ha : Abv B w w') (hE : ∀ b o x, b < w.heap.size → E w b o x → E' w' b o x) : RowG c E' w' v xs := by
 obtain ⟨a, cap, rfl, h⟩ := h
 refine ⟨a, cap, rfl, ?_⟩
 rcases h with h | ⟨b, off, rfl, hc, hlt, h⟩
 ·exact .inl h
 ·exact .inr ⟨b, off, rfl, hc, Nat.lt_of_lt_of_le hlt ha.1, fun i x hi => hE _ _ _ hlt (h i x hi)⟩
theorem ewa_keep {B : Nat} {w w' : World} (ha : Abv B w w') {b o : Nat} {x : Wt} (h : EWA B w b o x) : EWA B w' b o x := ⟨h.1, ha.cell h.1 h.2.1, ha.cell h.1 h.2.2⟩
theorem RowLA.keep {B : Nat} {w w' : World} {v : Value} {xs : List Lk} (h : RowLA B w v xs) (ha : Abv B w w') : RowLA B w' v xs :=
 RowG.keep h ha fun _ _ _ _ ⟨hB, u, h0, h1, h2, h3, h4, h5⟩ => ⟨hB, u, ha.cell hB h0, ha.cell hB h1, ha.cell hB h2, ha.cell hB h3, ha.cell hB h4, RowG.keep h5 ha fun _ _ _ _ h => ewa_keep ha h⟩
theorem RowSA.keep {B : Nat} {w w' : World} {v : Value} {xs : List Sn} (h : RowSA B w v xs) (ha : Abv B w w') : RowSA B w' v xs :=
 RowG.keep h ha fun _ _ _ _ ⟨hB, h0, h1, h2, h3, h4, h5⟩ => ⟨hB, ha.cell hB h0, ha.cell hB h1, ha.cell hB h2, ha.cell hB h3, ha.cell hB h4, ha.cell hB h5⟩
theorem RowLA.row {B : Nat} {w : World} {v : Value} {xs : List Lk} (h : RowLA B w v xs) : RowL w v xs :=
 RowG.keep h (Abv.refl B w) fun _ _ _ _ ⟨_, u, h0, h1, h2, h3, h4, h5⟩ => ⟨u, h0, h1, h2, h3, h4, RowG.keep h5 (Abv.refl B w) fun _ _ _ _ h => h.2⟩
theorem RowSA.row {B : Nat} {w : World} {v : Value} {xs : List Sn} (h : RowSA B w v xs) : RowS w v xs :=
 RowG.keep h (Abv.refl B w) fun _ _ _ _ h => h.2
theorem RowLA.mono {B B' : Nat} {w : World} {v : Value} {xs : List Lk} (h : RowLA B w v xs) (hB : B' ≤ B) : RowLA B' w v xs :=
 RowG.keep h (Abv.refl B w) fun _ _ _ _ ⟨hb, u, h0, h1, h2, h3, h4, h5⟩ => ⟨Nat.le_trans hB hb, u, h0, h1, h2, h3, h4, RowG.keep h5 (Abv.refl B w) fun _ _ _ _ h => ⟨Nat.le_trans hB h.1, h.2⟩⟩
def CopL (w : World) (g : Nat) (xs : List Lk) (k : Nat) (A : Array Value) : Prop := A.size = xs.length * 5 ∧ ∀ j x, j < k → xs[j]? = some x → ∃ h, A[j * 5]? = some (.string x.n) ∧ A[j * 5 + 1]? = some (.int .i64 x.t) ∧ A[j * 5 + 2]? = some (.int .i64 x.h) ∧ A[j * 5 + 3]? = some (.int .i64 x.e) ∧ A[j * 5 + 4]? = some (.slice (some ⟨h, 0, none⟩) x.ws.length x.ws.length) ∧ g < h ∧ h < w.heap.size ∧ ∀ i y, x.ws[i]? = some y → EW w h (i * 2) y
theorem CopL.below {w w' : World} {g : Nat} {xs : List Lk} {k : Nat} {A : Array Value} (h : CopL w g xs k A) (hb : Below w.heap.size w w') : CopL w' g xs k A :=
 ⟨h.1, fun j x hj hx => by
   obtain ⟨q, h0, h1, h2, h3, h4, h5, h6, h7⟩ := h.2 j x hj hx
   exact ⟨q, h0, h1, h2, h3, h4, h5, Nat.lt_of_lt_of_le h6 hb.size, fun i y hy => ew_below hb h6 (h7 i y hy)⟩⟩
theorem CopL.set {w : World} {g i : Nat} {v : Value} {xs : List Lk} {k : Nat} {A : Array Value} (h : CopL w g xs k A) : CopL (w.setCell ⟨g, i, none⟩ v) g xs k A :=
 ⟨h.1, fun j x hj hx => by
   obtain ⟨q, h0, h1, h2, h3, h4, h5, h6, h7⟩ := h.2 j x hj hx
   exact ⟨q, h0, h1, h2, h3, h4, h5, by simpa using h6, fun i y hy => ew_set (by omega) (h7 i y hy)⟩⟩
end Go.Proofs.YtakfniknkejgpaaDoor.Tw

/- Copies of tables; copies that are alike. -/
namespace Go.Proofs.YtakfniknkejgpaaDoor.Tw
open Go.RowKit Go.Proofs.YtakfniknkejgpaaDoor.Sl Go.Proofs.YtakfniknkejgpaaDoor.Ap Go.Proofs.YtakfniknkejgpaaDoor.Tx Go.Proofs.YtakfniknkejgpaaDoor.Tb

theorem two_new (w : World) (o0 o1 : Obj) : Below w.heap.size w ((w.alloc o0).alloc o1) := ((Below.refl _ _).alloc (Nat.le_refl _) _).alloc (by simp) _
theorem two {w w1 : World} {o0 o1 : Obj} (b : Below ((w.alloc o0).alloc o1).heap.size ((w.alloc o0).alloc o1) w1) :
 w1.heap[w.heap.size]? = some o0 ∧ w1.heap[w.heap.size + 1]? = some o1 ∧ Below w.heap.size w w1 := by
 have e1 : (w.alloc o0).heap.size = w.heap.size + 1 := size_new _ _
 have e2 : ((w.alloc o0).alloc o1).heap.size = w.heap.size + 1 + 1 := by rw [size_new, e1]
 have b1 := two_new w o0 o1
 rw [e2] at b
 refine ⟨?_, ?_, b1.trans (b.mono (by omega))⟩
 ·rw [b.block _ (by omega), Below.heap_alloc _ _ _ (by omega)]; exact heap_alloc_new w _
 ·rw [b.block _ (by omega), ← e1]; exact heap_alloc_new _ _
end Go.Proofs.YtakfniknkejgpaaDoor.Tw

/- The laws' marks on tables. -/
namespace Go.Proofs.YtakfniknkejgpaaDoor.Mw
open Go.RowKit Go.Proofs.YtakfniknkejgpaaDoor.Sl Go.Proofs.YtakfniknkejgpaaDoor.By Go.Proofs.YtakfniknkejgpaaDoor.Ap Go.Proofs.YtakfniknkejgpaaDoor.Tx Go.Proofs.YtakfniknkejgpaaDoor.Tb Go.Proofs.YtakfniknkejgpaaDoor.Tw

theorem ret_str {a b : ByteArray} (h : a = b) : Ending.returned (.string a) = .returned (.string b) := by rw [h]
def mtGo : Nat → Nat → ByteArray → ByteArray
 | 0, _, s => s
 | f + 1, k, s => if k = 0 then s else mtGo f (k / 10) (strOfNums [48 + ((k % 10 : Nat) : Int)] ++ s)
def mtext (k : Nat) : ByteArray := (⟨#[109]⟩ : ByteArray) ++ mtGo (k + 1) k ⟨#[]⟩

structure Mid (B C : Nat) (w w' : World) : Prop where
 os : w'.os = w.os
 tape : w'.tape = w.tape
 output : w'.output = w.output
 size : w.heap.size ≤ w'.heap.size
 block : ∀ k, k < w.heap.size → (k < B ∨ C ≤ k) → w'.heap[k]? = w.heap[k]?
theorem Mid.refl (B C : Nat) (w : World) : Mid B C w w := ⟨rfl, rfl, rfl, Nat.le_refl _, fun _ _ _ => rfl⟩
theorem Mid.trans {B C : Nat} {w w1 w2 : World} (h : Mid B C w w1) (g : Mid B C w1 w2) : Mid B C w w2 :=
 ⟨g.os.trans h.os, g.tape.trans h.tape, g.output.trans h.output, Nat.le_trans h.size g.size, fun k hk hn => (g.block k (Nat.lt_of_lt_of_le hk h.size) hn).trans (h.block k hk hn)⟩
theorem Mid.of_below {B C : Nat} {w w1 : World} (h : Below w.heap.size w w1) : Mid B C w w1 := ⟨h.os, h.tape, h.output, h.size, fun k hk _ => h.block k hk⟩
theorem Mid.set {B C : Nat} {w : World} {g : Nat} (h1 : B ≤ g) (h2 : g < C) (j : Nat) (x : Value) : Mid B C w (w.setCell ⟨g, j, none⟩ x) :=
 ⟨rfl, rfl, rfl, by simp, fun k _ hk => Below.heap_setCell w ⟨g, j, none⟩ x k (fun e => by have e' : k = g := e; omega)⟩
theorem Mid.below {B C : Nat} {w w1 : World} (h : Mid B C w w1) (hB : B ≤ w.heap.size) : Below B w w1 := ⟨h.os, h.tape, h.output, h.size, fun k hk => h.block k (Nat.lt_of_lt_of_le hk hB) (.inl hk)⟩
def Wr (w : World) (g n : Nat) : Prop := ∃ A t, w.heap[g]? = some (.cells A t (0, 0)) ∧ n ≤ A.size
theorem Wr.lt {w : World} {g n : Nat} (h : Wr w g n) : g < w.heap.size := by obtain ⟨A, t, h, _⟩ := h; exact (Array.getElem?_eq_some_iff.1 h).1
theorem Wr.below {w w' : World} {g n : Nat} (h : Wr w g n) (hb : Below w.heap.size w w') : Wr w' g n := by
 obtain ⟨A, t, h, hn⟩ := h
 exact ⟨A, t, (hb.block g (Array.getElem?_eq_some_iff.1 h).1).trans h, hn⟩
theorem Wr.set {w : World} {g n : Nat} (h : Wr w g n) (p j : Nat) (x : Value) : Wr (w.setCell ⟨p, j, none⟩ x) g n := by
 obtain ⟨A, t, h, hn⟩ := h
 by_cases e : p = g
 ·subst e
  exact ⟨_, t, blk_set h j x, by rw [Array.size_setIfInBounds]; exact hn⟩
 ·exact ⟨A, t, (blk_far (fun h => e h.symm) j x).trans h, hn⟩
theorem Wr.cell {w : World} {g n : Nat} (h : Wr w g n) {j : Nat} (hj : j < n) : (∃ x, w.cell? ⟨g, j, none⟩ = some x) ∧ w.frozen? ⟨g, j, none⟩ = false := by
 obtain ⟨A, t, h, hn⟩ := h
 obtain ⟨c, f⟩ := blk_cell h j (x := A[j]'(by omega)) (Array.getElem?_eq_getElem (by omega))
 exact ⟨⟨_, c⟩, f⟩
def Kw (w w' : World) : Prop := ∀ g n, Wr w g n → Wr w' g n
theorem Kw.trans {w w1 w2 : World} (h : Kw w w1) (g : Kw w1 w2) : Kw w w2 := fun a n x => g a n (h a n x)
def WrL (B C : Nat) (w : World) (g : Nat) (ns : List Nat) : Prop := Wr w g (ns.length * 5) ∧ ∀ (j m : Nat), ns[j]? = some m → ∃ h, w.cell? ⟨g, j * 5 + 4, none⟩ = some (.slice (some ⟨h, 0, none⟩) m m) ∧ B ≤ h ∧ h < C ∧ h ≠ g ∧ Wr w h (m * 2)
theorem WrL.below {B C : Nat} {w w' : World} {g : Nat} {ns : List Nat} (h : WrL B C w g ns) (hb : Below w.heap.size w w') : WrL B C w' g ns :=
 ⟨h.1.below hb, fun j m hj => by
   obtain ⟨q, h1, h2, h3, h4, h5⟩ := h.2 j m hj
   exact ⟨q, (hb.cell (p := ⟨g, _, none⟩) h.1.lt).trans h1, h2, h3, h4, h5.below hb⟩⟩
theorem WrL.set {B C : Nat} {w : World} {g : Nat} {ns : List Nat} (h : WrL B C w g ns) (i : Nat) (x : Value) (hi : ∀ j, i ≠ j * 5 + 4) : WrL B C (w.setCell ⟨g, i, none⟩ x) g ns :=
 ⟨h.1.set _ _ _, fun j m hj => by
   obtain ⟨q, h1, h2, h3, h4, h5⟩ := h.2 j m hj
   exact ⟨q, (World.cell?_setCell_other _ _ _ _ (fun e => hi j (by have := congrArg Addr.off e; exact this))).trans h1, h2, h3, h4, h5.set _ _ _⟩⟩
theorem WrL.kept {B C : Nat} {w w' : World} {g p : Nat} {ns : List Nat} (h : WrL B C w g ns) (hp : p ≠ g) (hk : Kw w w') (ho : ∀ k, k < w.heap.size → k ≠ p → w'.heap[k]? = w.heap[k]?) : WrL B C w' g ns :=
 ⟨hk _ _ h.1, fun j m hj => by
   obtain ⟨q, h1, h2, h3, h4, h5⟩ := h.2 j m hj
   exact ⟨q, (World.cell?_of_block (w := w) (ho g h.1.lt (Ne.symm hp))).trans h1, h2, h3, h4, hk _ _ h5⟩⟩
def TabW (B C : Nat) (w : World) (gl gs : Nat) (ls : List Lk) (ss : List Sn) : Prop := (B ≤ gl ∧ gl < C ∧ B ≤ gs ∧ gs < C) ∧ WrL B C w gl (ls.map fun x => x.ws.length) ∧ Wr w gs (ss.length * 6)
theorem TabW.below {B C : Nat} {w w' : World} {gl gs : Nat} {ls : List Lk} {ss : List Sn} (h : TabW B C w gl gs ls ss) (hb : Below w.heap.size w w') : TabW B C w' gl gs ls ss := ⟨h.1, h.2.1.below hb, h.2.2.below hb⟩
end Go.Proofs.YtakfniknkejgpaaDoor.Mw
