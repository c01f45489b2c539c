/- Copies of locks and tables; copies that are alike. -/
import Derived.Test.YtlgfeohoebmbcaaGreatTw2
namespace Go.Proofs.YtlgfeohoebmbcaaGreat.Tw
open Go.RowKit Go.Proofs.YtlgfeohoebmbcaaGreat.Sl Go.Proofs.YtlgfeohoebmbcaaGreat.Ap Go.Proofs.YtlgfeohoebmbcaaGreat.Tx Go.Proofs.YtlgfeohoebmbcaaGreat.Tb

theorem ew_set {w : World} {b o : Nat} {x : Wt} {p i : Nat} {v : Value} (hne : p ≠ b) (h : EW w b o x) : EW (w.setCell ⟨p, i, none⟩ v) b o x :=
  ⟨(World.cell?_setCell_other _ _ _ _ (fun e => hne (by have := congrArg Addr.block e; exact this))).trans h.1, (World.cell?_setCell_other _ _ _ _ (fun e => hne (by have := congrArg Addr.block e; exact this))).trans h.2⟩
theorem ew_below {w w' : World} {b o : Nat} {x : Wt} (hb : Below w.heap.size w w') (hlt : b < w.heap.size) (h : EW w b o x) : EW w' b o x := stays_W _ _ _ _ _ hb hlt h
/-- Rows that lie from block B on. -/
def EWA (B : Nat) (w : World) (b o : Nat) (x : Wt) : Prop := B ≤ b ∧ EW w b o x
def ESA (B : Nat) (w : World) (b o : Nat) (x : Sn) : Prop := B ≤ b ∧ ES w b o x
def ELA (B : Nat) (w : World) (b o : Nat) (x : Lk) : Prop := B ≤ b ∧ ∃ u, w.cell? ⟨b, o, none⟩ = some (.string x.n) ∧ w.cell? ⟨b, o + 1, none⟩ = some (.int .i64 x.t) ∧ w.cell? ⟨b, o + 2, none⟩ = some (.int .i64 x.h) ∧ w.cell? ⟨b, o + 3, none⟩ = some (.int .i64 x.e) ∧ w.cell? ⟨b, o + 4, none⟩ = some u ∧ RowG 2 (EWA B) w u x.ws
def RowLA (B : Nat) (w : World) (v : Value) (xs : List Lk) : Prop := RowG 5 (ELA B) w v xs
def RowSA (B : Nat) (w : World) (v : Value) (xs : List Sn) : Prop := RowG 6 (ESA B) w v xs
/-- From block B on both worlds are alike. -/
def Abv (B : Nat) (w w' : World) : Prop := w.heap.size ≤ w'.heap.size ∧ ∀ k, B ≤ k → k < w.heap.size → w'.heap[k]? = w.heap[k]?
theorem Abv.cell {B : Nat} {w w' : World} (h : Abv B w w') {b o : Nat} (hB : B ≤ b) {v : Value} (hc : w.cell? ⟨b, o, none⟩ = some v) : w'.cell? ⟨b, o, none⟩ = some v :=
  (World.cell?_of_block (w := w) (h.2 b hB (World.block_lt_of_cell? w _ hc))).trans hc
theorem Abv.set {B : Nat} {w w' : World} (h : Abv B w w') {p i : Nat} (hp : p < B) (v : Value) : Abv B w (w'.setCell ⟨p, i, none⟩ v) :=
  ⟨by simpa using h.1, fun k hk hk2 => (blk_far (by omega) i v).trans (h.2 k hk hk2)⟩
theorem Abv.refl (B : Nat) (w : World) : Abv B w w := ⟨Nat.le_refl _, fun _ _ _ => rfl⟩
theorem Abv.of {B : Nat} {w w' : World} (h : Below w.heap.size w w') : Abv B w w' := ⟨h.size, fun k _ hk => h.block k hk⟩
theorem RowG.keep {α : Type} {c B : Nat} {E E' : World → Nat → Nat → α → Prop} {w w' : World} {v : Value} {xs : List α} (h : RowG c E w v xs) (ha : Abv B w w') (hE : ∀ b o x, b < w.heap.size → E w b o x → E' w' b o x) : RowG c E' w' v xs := by
  obtain ⟨a, cap, rfl, h⟩ := h
  refine ⟨a, cap, rfl, ?_⟩
  rcases h with h | ⟨b, off, rfl, hc, hlt, h⟩
  · exact .inl h
  · exact .inr ⟨b, off, rfl, hc, Nat.lt_of_lt_of_le hlt ha.1, fun i x hi => hE _ _ _ hlt (h i x hi)⟩
theorem ewa_keep {B : Nat} {w w' : World} (ha : Abv B w w') {b o : Nat} {x : Wt} (h : EWA B w b o x) : EWA B w' b o x := ⟨h.1, ha.cell h.1 h.2.1, ha.cell h.1 h.2.2⟩
theorem RowLA.keep {B : Nat} {w w' : World} {v : Value} {xs : List Lk} (h : RowLA B w v xs) (ha : Abv B w w') : RowLA B w' v xs :=
  RowG.keep h ha fun _ _ _ _ ⟨hB, u, h0, h1, h2, h3, h4, h5⟩ => ⟨hB, u, ha.cell hB h0, ha.cell hB h1, ha.cell hB h2, ha.cell hB h3, ha.cell hB h4, RowG.keep h5 ha fun _ _ _ _ h => ewa_keep ha h⟩
theorem RowSA.keep {B : Nat} {w w' : World} {v : Value} {xs : List Sn} (h : RowSA B w v xs) (ha : Abv B w w') : RowSA B w' v xs :=
  RowG.keep h ha fun _ _ _ _ ⟨hB, h0, h1, h2, h3, h4, h5⟩ => ⟨hB, ha.cell hB h0, ha.cell hB h1, ha.cell hB h2, ha.cell hB h3, ha.cell hB h4, ha.cell hB h5⟩
theorem RowLA.row {B : Nat} {w : World} {v : Value} {xs : List Lk} (h : RowLA B w v xs) : RowL w v xs :=
  RowG.keep h (Abv.refl B w) fun _ _ _ _ ⟨_, u, h0, h1, h2, h3, h4, h5⟩ => ⟨u, h0, h1, h2, h3, h4, RowG.keep h5 (Abv.refl B w) fun _ _ _ _ h => h.2⟩
theorem RowSA.row {B : Nat} {w : World} {v : Value} {xs : List Sn} (h : RowSA B w v xs) : RowS w v xs :=
  RowG.keep h (Abv.refl B w) fun _ _ _ _ h => h.2
theorem RowLA.mono {B B' : Nat} {w : World} {v : Value} {xs : List Lk} (h : RowLA B w v xs) (hB : B' ≤ B) : RowLA B' w v xs :=
  RowG.keep h (Abv.refl B w) fun _ _ _ _ ⟨hb, u, h0, h1, h2, h3, h4, h5⟩ => ⟨Nat.le_trans hB hb, u, h0, h1, h2, h3, h4, RowG.keep h5 (Abv.refl B w) fun _ _ _ _ h => ⟨Nat.le_trans hB h.1, h.2⟩⟩
set_option maxRecDepth 100000 in
set_option maxHeartbeats 800000 in
theorem toLock_any (x : Lk) (u : Value) (w : World) (h : RowW w u x.ws) (hl : x.ws.length ≤ 1048576) :
    Calls Tryz.prog 70 #[lkV x u] w fun e w' => ∃ g, e = .returned (lkV x (.slice (some ⟨g, 0, none⟩) x.ws.length x.ws.length)) ∧ w.heap.size ≤ g ∧ g < w'.heap.size ∧ (∀ i y, x.ws[i]? = some y → EW w' g (i * 2) y) ∧ Below w.heap.size w w' := by
  have HU : Hid (RowW w u x.ws) := h
  clear h
  unfold lkV
  have HB : Hid (∀ o0 o1 o2, Below w.heap.size w (((w.alloc o0).alloc o1).alloc o2)) := fun o0 o1 o2 => (three (Below.refl _ _)).2.2.2.2
  have HS : Hid (∀ o0 o1 o2, (((w.alloc o0).alloc o1).alloc o2).heap.size = w.heap.size + 1 + 1 + 1) := fun o0 o1 o2 => by rw [size_new, size_new, size_new]
  go_enter Tryz.func70, Tryz.ntmps70
  go_wp2_with fail
  refine (toWaiterS_any u x.ws _ (HU.out.below (HB.out _ _ _)) hl).mono ?_
  rintro e w1 ⟨g, rfl, hg0, hg1, hr, b1⟩
  obtain ⟨k0, k1, k2, kS, kB⟩ := three b1
  rw [HS.out] at hg0
  have K0 : Hid (w1.heap[w.heap.size]? = some (.cells #[.string x.n, .int .i64 x.t, .int .i64 x.h, .int .i64 x.e, u] 108)) := k0
  have K1 : Hid (w1.heap[w.heap.size + 1]? = some (.cells #[.string ⟨#[]⟩, .int .i64 0, .int .i64 0, .int .i64 0, .slice none 0 0] 95 (0, 0))) := k1
  have K2 : Hid (w1.heap[w.heap.size + 1 + 1]? = some (.cells #[.string x.n, .int .i64 x.t, .int .i64 x.h, .int .i64 x.e, .slice none 0 0] 95 (0, 0))) := k2
  have KB : Hid (Below w.heap.size w w1) := kB
  have KR : Hid (g < w1.heap.size ∧ ∀ i y, x.ws[i]? = some y → EW w1 g (i * 2) y) := ⟨hg1, hr⟩
  clear b1 k0 k1 k2 kB kS hr hg1 HB HS
  obtain ⟨s0, t0⟩ := blk_cell K2.out 4 (x := .slice none 0 0) rfl
  have B2 : Hid ((w1.setCell ⟨w.heap.size + 1 + 1, 4, none⟩ (.slice (some ⟨g, 0, none⟩) x.ws.length x.ws.length)).heap[w.heap.size + 1 + 1]? = some (.cells #[.string x.n, .int .i64 x.t, .int .i64 x.h, .int .i64 x.e, .slice (some ⟨g, 0, none⟩) x.ws.length x.ws.length] 95 (0, 0))) := (blk_set K2.out 4 (.slice (some ⟨g, 0, none⟩) x.ws.length x.ws.length))
  have A2 : Hid ((w1.setCell ⟨w.heap.size + 1 + 1, 4, none⟩ (.slice (some ⟨g, 0, none⟩) x.ws.length x.ws.length)).heap[w.heap.size + 1]? = some (.cells #[.string ⟨#[]⟩, .int .i64 0, .int .i64 0, .int .i64 0, .slice none 0 0] 95 (0, 0))) := ((blk_far (by omega) 4 (.slice (some ⟨g, 0, none⟩) x.ws.length x.ws.length)).trans K1.out)
  have G2 : Hid (Below w.heap.size w (w1.setCell ⟨w.heap.size + 1 + 1, 4, none⟩ (.slice (some ⟨g, 0, none⟩) x.ws.length x.ws.length))) := (Below.setCell KB.out (p := ⟨w.heap.size + 1 + 1, 4, none⟩) (by show _ ≤ w.heap.size + 1 + 1; omega) (.slice (some ⟨g, 0, none⟩) x.ws.length x.ws.length))
  have R2 : Hid (g < (w1.setCell ⟨w.heap.size + 1 + 1, 4, none⟩ (.slice (some ⟨g, 0, none⟩) x.ws.length x.ws.length)).heap.size ∧ ∀ i y, x.ws[i]? = some y → EW (w1.setCell ⟨w.heap.size + 1 + 1, 4, none⟩ (.slice (some ⟨g, 0, none⟩) x.ws.length x.ws.length)) g (i * 2) y) := ⟨by simpa using KR.out.1, fun i y hy => ew_set (by omega) (KR.out.2 i y hy)⟩
  clear K0 K1 K2 KR
  go_upto_region 7 with fail
  generalize (w1.setCell ⟨w.heap.size + 1 + 1, 4, none⟩ (.slice (some ⟨g, 0, none⟩) x.ws.length x.ws.length)) = w9 at B2 A2 G2 R2 ⊢
  have p0 := (blk_cell B2.out 0 (x := .string x.n) rfl).1
  have p1 := (blk_cell B2.out 1 (x := .int .i64 x.t) rfl).1
  have p2 := (blk_cell B2.out 2 (x := .int .i64 x.h) rfl).1
  have p3 := (blk_cell B2.out 3 (x := .int .i64 x.e) rfl).1
  have p4 := (blk_cell B2.out 4 (x := .slice (some ⟨g, 0, none⟩) x.ws.length x.ws.length) rfl).1
  obtain ⟨m0, n0⟩ := blk_cell A2.out 0 (x := .string ⟨#[]⟩) rfl
  obtain ⟨m1, n1⟩ := blk_cell A2.out 1 (x := .int .i64 0) rfl
  obtain ⟨m2, n2⟩ := blk_cell A2.out 2 (x := .int .i64 0) rfl
  obtain ⟨m3, n3⟩ := blk_cell A2.out 3 (x := .int .i64 0) rfl
  obtain ⟨m4, n4⟩ := blk_cell A2.out 4 (x := .slice none 0 0) rfl
  have AF : (((((w9.setCell ⟨w.heap.size + 1, 0, none⟩ (.string x.n)).setCell ⟨w.heap.size + 1, 1, none⟩ (.int .i64 x.t)).setCell ⟨w.heap.size + 1, 2, none⟩ (.int .i64 x.h)).setCell ⟨w.heap.size + 1, 3, none⟩ (.int .i64 x.e)).setCell ⟨w.heap.size + 1, 4, none⟩ (.slice (some ⟨g, 0, none⟩) x.ws.length x.ws.length)).heap[w.heap.size + 1]? = some (.cells #[.string x.n, .int .i64 x.t, .int .i64 x.h, .int .i64 x.e, .slice (some ⟨g, 0, none⟩) x.ws.length x.ws.length] 95 (0, 0)) := (blk_set (blk_set (blk_set (blk_set (blk_set A2.out 0 (.string x.n)) 1 (.int .i64 x.t)) 2 (.int .i64 x.h)) 3 (.int .i64 x.e)) 4 (.slice (some ⟨g, 0, none⟩) x.ws.length x.ws.length))
  have RF : g < (((((w9.setCell ⟨w.heap.size + 1, 0, none⟩ (.string x.n)).setCell ⟨w.heap.size + 1, 1, none⟩ (.int .i64 x.t)).setCell ⟨w.heap.size + 1, 2, none⟩ (.int .i64 x.h)).setCell ⟨w.heap.size + 1, 3, none⟩ (.int .i64 x.e)).setCell ⟨w.heap.size + 1, 4, none⟩ (.slice (some ⟨g, 0, none⟩) x.ws.length x.ws.length)).heap.size ∧ ∀ i y, x.ws[i]? = some y → EW (((((w9.setCell ⟨w.heap.size + 1, 0, none⟩ (.string x.n)).setCell ⟨w.heap.size + 1, 1, none⟩ (.int .i64 x.t)).setCell ⟨w.heap.size + 1, 2, none⟩ (.int .i64 x.h)).setCell ⟨w.heap.size + 1, 3, none⟩ (.int .i64 x.e)).setCell ⟨w.heap.size + 1, 4, none⟩ (.slice (some ⟨g, 0, none⟩) x.ws.length x.ws.length)) g (i * 2) y := ⟨by simpa using R2.out.1, fun i y hy => by have h := R2.out.2 i y hy; exact ew_set (by omega) (ew_set (by omega) (ew_set (by omega) (ew_set (by omega) (ew_set (by omega) (h)))))⟩
  have GF : Below w.heap.size w (((((w9.setCell ⟨w.heap.size + 1, 0, none⟩ (.string x.n)).setCell ⟨w.heap.size + 1, 1, none⟩ (.int .i64 x.t)).setCell ⟨w.heap.size + 1, 2, none⟩ (.int .i64 x.h)).setCell ⟨w.heap.size + 1, 3, none⟩ (.int .i64 x.e)).setCell ⟨w.heap.size + 1, 4, none⟩ (.slice (some ⟨g, 0, none⟩) x.ws.length x.ws.length)) := (Below.setCell (Below.setCell (Below.setCell (Below.setCell (Below.setCell G2.out (p := ⟨w.heap.size + 1, 0, none⟩) (by show _ ≤ w.heap.size + 1; omega) (.string x.n)) (p := ⟨w.heap.size + 1, 1, none⟩) (by show _ ≤ w.heap.size + 1; omega) (.int .i64 x.t)) (p := ⟨w.heap.size + 1, 2, none⟩) (by show _ ≤ w.heap.size + 1; omega) (.int .i64 x.h)) (p := ⟨w.heap.size + 1, 3, none⟩) (by show _ ≤ w.heap.size + 1; omega) (.int .i64 x.e)) (p := ⟨w.heap.size + 1, 4, none⟩) (by show _ ≤ w.heap.size + 1; omega) (.slice (some ⟨g, 0, none⟩) x.ws.length x.ws.length))
  have RFH : Hid (g < (((((w9.setCell ⟨w.heap.size + 1, 0, none⟩ (.string x.n)).setCell ⟨w.heap.size + 1, 1, none⟩ (.int .i64 x.t)).setCell ⟨w.heap.size + 1, 2, none⟩ (.int .i64 x.h)).setCell ⟨w.heap.size + 1, 3, none⟩ (.int .i64 x.e)).setCell ⟨w.heap.size + 1, 4, none⟩ (.slice (some ⟨g, 0, none⟩) x.ws.length x.ws.length)).heap.size ∧ ∀ i y, x.ws[i]? = some y → EW (((((w9.setCell ⟨w.heap.size + 1, 0, none⟩ (.string x.n)).setCell ⟨w.heap.size + 1, 1, none⟩ (.int .i64 x.t)).setCell ⟨w.heap.size + 1, 2, none⟩ (.int .i64 x.h)).setCell ⟨w.heap.size + 1, 3, none⟩ (.int .i64 x.e)).setCell ⟨w.heap.size + 1, 4, none⟩ (.slice (some ⟨g, 0, none⟩) x.ws.length x.ws.length)) g (i * 2) y) := RF
  clear RF
  go_wp2_with fail
  generalize (((((w9.setCell ⟨w.heap.size + 1, 0, none⟩ (.string x.n)).setCell ⟨w.heap.size + 1, 1, none⟩ (.int .i64 x.t)).setCell ⟨w.heap.size + 1, 2, none⟩ (.int .i64 x.h)).setCell ⟨w.heap.size + 1, 3, none⟩ (.int .i64 x.e)).setCell ⟨w.heap.size + 1, 4, none⟩ (.slice (some ⟨g, 0, none⟩) x.ws.length x.ws.length)) = wf at AF GF RFH ⊢
  have d0 := (blk_cell AF 0 (x := .string x.n) rfl).1
  have d1 := (blk_cell AF 1 (x := .int .i64 x.t) rfl).1
  have d2 := (blk_cell AF 2 (x := .int .i64 x.h) rfl).1
  have d3 := (blk_cell AF 3 (x := .int .i64 x.e) rfl).1
  have d4 := (blk_cell AF 4 (x := .slice (some ⟨g, 0, none⟩) x.ws.length x.ws.length) rfl).1
  exact bodyPost_ret (v := lkV x (.slice (some ⟨g, 0, none⟩) x.ws.length x.ws.length)) (by simp [lkV, results, Tryz.results70, go_sem, d0, d1, d2, d3, d4]) rfl ⟨g, rfl, by omega, RFH.out.1, RFH.out.2, GF⟩
theorem info_toLockS : (Tryz.prog.info? 95).map (fun i => (i.zero, i.size, i.bytes)) = some (some (.agg #[.string ⟨#[]⟩, .int .i64 0, .int .i64 0, .int .i64 0, .slice none 0 0]), 5, 64) := by kernel_rfl
/-- The copy of locks: its first k are written, each with a new list of those that wait. -/
def CopL (w : World) (g : Nat) (xs : List Lk) (k : Nat) (A : Array Value) : Prop := A.size = xs.length * 5 ∧ ∀ j x, j < k → xs[j]? = some x → ∃ h, A[j * 5]? = some (.string x.n) ∧ A[j * 5 + 1]? = some (.int .i64 x.t) ∧ A[j * 5 + 2]? = some (.int .i64 x.h) ∧ A[j * 5 + 3]? = some (.int .i64 x.e) ∧ A[j * 5 + 4]? = some (.slice (some ⟨h, 0, none⟩) x.ws.length x.ws.length) ∧ g < h ∧ h < w.heap.size ∧ ∀ i y, x.ws[i]? = some y → EW w h (i * 2) y
theorem CopL.below {w w' : World} {g : Nat} {xs : List Lk} {k : Nat} {A : Array Value} (h : CopL w g xs k A) (hb : Below w.heap.size w w') : CopL w' g xs k A :=
  ⟨h.1, fun j x hj hx => by
    obtain ⟨q, h0, h1, h2, h3, h4, h5, h6, h7⟩ := h.2 j x hj hx
    exact ⟨q, h0, h1, h2, h3, h4, h5, Nat.lt_of_lt_of_le h6 hb.size, fun i y hy => ew_below hb h6 (h7 i y hy)⟩⟩
theorem CopL.set {w : World} {g i : Nat} {v : Value} {xs : List Lk} {k : Nat} {A : Array Value} (h : CopL w g xs k A) : CopL (w.setCell ⟨g, i, none⟩ v) g xs k A :=
  ⟨h.1, fun j x hj hx => by
    obtain ⟨q, h0, h1, h2, h3, h4, h5, h6, h7⟩ := h.2 j x hj hx
    exact ⟨q, h0, h1, h2, h3, h4, h5, by simpa using h6, fun i y hy => ew_set (by omega) (h7 i y hy)⟩⟩
theorem cop_toLockS {w : World} {g : Nat} {xs : List Lk} {k : Nat} {A : Array Value} {x : Lk} {q : Nat} (h : CopL w g xs k A) (hx : xs[k]? = some x) (hg : g < q) (hq : q < w.heap.size) (hr : ∀ i y, x.ws[i]? = some y → EW w q (i * 2) y) :
    CopL w g xs (k + 1) (((((A.setIfInBounds (k * 5) (.string x.n)).setIfInBounds (k * 5 + 1) (.int .i64 x.t)).setIfInBounds (k * 5 + 2) (.int .i64 x.h)).setIfInBounds (k * 5 + 3) (.int .i64 x.e)).setIfInBounds (k * 5 + 4) (.slice (some ⟨q, 0, none⟩) x.ws.length x.ws.length)) := by
  have hk := lt_at hx
  have hs := h.1
  refine ⟨by simpa using h.1, fun j y hj hy => ?_⟩
  simp only [Array.getElem?_setIfInBounds, Array.size_setIfInBounds]
  by_cases e : j = k
  · subst e
    rw [hx] at hy
    cases hy
    refine ⟨q, ?_, ?_, ?_, ?_, ?_, hg, hq, hr⟩
    all_goals (repeat' (first | rw [if_pos rfl, if_pos (by omega)] | rw [if_neg (by omega)]))
  · obtain ⟨p, h0, h1, h2, h3, h4, h5⟩ := h.2 j y (by omega) hy
    refine ⟨p, ?_, ?_, ?_, ?_, ?_, h5⟩
    all_goals (repeat' rw [if_neg (by omega)])
    all_goals assumption
set_option maxRecDepth 100000 in
set_option maxHeartbeats 800000 in
theorem toLockS_any (v : Value) (xs : List Lk) (w : World) (h : RowL w v xs) (hl : xs.length ≤ 1048576) (hw : ∀ x ∈ xs, x.ws.length ≤ 1048576) :
    Calls Tryz.prog 42 #[v] w fun e w' => ∃ v', e = .returned v' ∧ RowLA w.heap.size w' v' xs ∧ Below w.heap.size w w' := by
  have HR : Hid (RowL w v xs ∧ ∀ x ∈ xs, x.ws.length ≤ 1048576) := ⟨h, hw⟩
  obtain ⟨a, cap, rfl⟩ := RowG.slice h
  clear h hw
  obtain ⟨i0, hi, hz0, hz1, hz2⟩ := info_parts info_toLockS
  have hmk := run_make (P := Tryz.prog) w 27 95 i0 (.agg #[.string ⟨#[]⟩, .int .i64 0, .int .i64 0, .int .i64 0, .slice none 0 0]) Tryz.underlying27 hi hz0 .i64 .i64 (xs.length : Int) (xs.length : Int) (by omega) (by omega) (by rw [hz2]; omega) (by omega)
  have hA0 : CopL (w.alloc (.cells (madeCells (Value.agg #[.string ⟨#[]⟩, .int .i64 0, .int .i64 0, .int .i64 0, .slice none 0 0]).cells ((xs.length : Int).toNat * i0.size)) 95)) w.heap.size xs 0 (madeCells (Value.agg #[.string ⟨#[]⟩, .int .i64 0, .int .i64 0, .int .i64 0, .slice none 0 0]).cells ((xs.length : Int).toNat * i0.size)) := ⟨by rw [hz1]; simp [madeCells, Value.cells], fun j x hj => absurd hj (by omega)⟩
  generalize madeCells (Value.agg #[.string ⟨#[]⟩, .int .i64 0, .int .i64 0, .int .i64 0, .slice none 0 0]).cells ((xs.length : Int).toNat * i0.size) = A0 at hmk hA0
  rw [Int.toNat_natCast] at hmk
  have HA0 : Hid (CopL (w.alloc (.cells A0 95)) w.heap.size xs 0 A0) := hA0
  clear hA0
  go_enter Tryz.func42, Tryz.ntmps42
  go_wp2_with fail
  clear hmk
  go_loopw [4] (fun i wr => ∃ k : Nat, ∃ A : Array Value, k ≤ xs.length ∧ i = .int .i64 k ∧ Hid (wr.heap[w.heap.size]? = some (.cells A 95 (0, 0)) ∧ CopL wr w.heap.size xs k A ∧ Below w.heap.size w wr)) (fun i _ => xs.length - (intOf i).toNat)
  case atStart => exact ⟨0, A0, by omega, rfl, ⟨heap_alloc_new w _, HA0.out, bel_new _ _⟩⟩
  case round =>
    clear HA0
    obtain ⟨k, A, hk, rfl, HA⟩ := hrel
    by_cases hlt : k < xs.length
    · obtain ⟨x, hx⟩ := get_at hlt
      obtain ⟨b, off, rfl, hbl, u, c0, c1, c2, c3, c4, c5⟩ := RowG.at (HR.out.1.below HA.out.2.2) rfl hx
      have HX : Hid (xs[k]? = some x ∧ RowW wr u x.ws) := ⟨hx, c5⟩
      clear hx c5
      go_wp2_with fail
      refine (toLock_any x u wr HX.out.2 (HR.out.2 _ (mem_at HX.out.1))).mono ?_
      rintro e w2 ⟨q, rfl, hq0, hq1, hqr, b2⟩
      have hg := (Array.getElem?_eq_some_iff.1 HA.out.1).1
      have HA2 : Hid (w2.heap[w.heap.size]? = some (.cells A 95 (0, 0)) ∧ CopL w2 w.heap.size xs k A ∧ Below w.heap.size w w2) := ⟨(b2.block _ hg).trans HA.out.1, HA.out.2.1.below b2, HA.out.2.2.trans (b2.mono HA.out.2.2.size)⟩
      have HQ : Hid (w.heap.size < q ∧ q < w2.heap.size ∧ ∀ i y, x.ws[i]? = some y → EW w2 q (i * 2) y) := ⟨by omega, hq1, hqr⟩
      clear b2 c0 c1 c2 c3 c4 HA hq0 hq1 hqr
      have hsz : k * 5 + 4 < A.size := by rw [HA2.out.2.1.1]; omega
      obtain ⟨d0, f0⟩ := blk_cell HA2.out.1 (k * 5) (x := A[k * 5]) (Array.getElem?_eq_getElem (by omega))
      obtain ⟨d1, f1⟩ := blk_cell HA2.out.1 (k * 5 + 1) (x := A[k * 5 + 1]) (Array.getElem?_eq_getElem (by omega))
      obtain ⟨d2, f2⟩ := blk_cell HA2.out.1 (k * 5 + 2) (x := A[k * 5 + 2]) (Array.getElem?_eq_getElem (by omega))
      obtain ⟨d3, f3⟩ := blk_cell HA2.out.1 (k * 5 + 3) (x := A[k * 5 + 3]) (Array.getElem?_eq_getElem (by omega))
      obtain ⟨d4, f4⟩ := blk_cell HA2.out.1 (k * 5 + 4) (x := A[k * 5 + 4]) (Array.getElem?_eq_getElem (by omega))
      unfold lkV
      go_wp2_with fail
      refine ⟨⟨k + 1, (((((A).setIfInBounds (k * 5) (.string x.n)).setIfInBounds (k * 5 + 1) (.int .i64 x.t)).setIfInBounds (k * 5 + 2) (.int .i64 x.h)).setIfInBounds (k * 5 + 3) (.int .i64 x.e)).setIfInBounds (k * 5 + 4) (.slice (some ⟨q, 0, none⟩) x.ws.length x.ws.length), by omega, by go_num, ⟨(blk_set (blk_set (blk_set (blk_set (blk_set HA2.out.1 _ _) _ _) _ _) _ _) _ _), ?_, (Below.setCell (Below.setCell (Below.setCell (Below.setCell (Below.setCell HA2.out.2.2 (p := ⟨w.heap.size, k * 5, none⟩) (Nat.le_refl _) (.string x.n)) (p := ⟨w.heap.size, k * 5 + 1, none⟩) (Nat.le_refl _) (.int .i64 x.t)) (p := ⟨w.heap.size, k * 5 + 2, none⟩) (Nat.le_refl _) (.int .i64 x.h)) (p := ⟨w.heap.size, k * 5 + 3, none⟩) (Nat.le_refl _) (.int .i64 x.e)) (p := ⟨w.heap.size, k * 5 + 4, none⟩) (Nat.le_refl _) (.slice (some ⟨q, 0, none⟩) x.ws.length x.ws.length))⟩⟩, by simp [intOf]; omega⟩
      exact (cop_toLockS HA2.out.2.1 HX.out.1 HQ.out.1 HQ.out.2.1 HQ.out.2.2).set.set.set.set.set
    · obtain rfl : k = xs.length := by omega
      go_wp2_with fail
      go_ret
      refine ⟨_, rfl, ⟨some ⟨w.heap.size, 0, none⟩, xs.length, rfl, .inr ⟨w.heap.size, 0, rfl, Nat.le_refl _, (Array.getElem?_eq_some_iff.1 HA.out.1).1, fun i x hi => ?_⟩⟩, HA.out.2.2⟩
      obtain ⟨q, e0, e1, e2, e3, e4, e5, e6, e7⟩ := HA.out.2.1.2 i x (lt_at hi) hi
      rw [Nat.zero_add]
      exact ⟨Nat.le_refl _, _, (Joins.cell_of_block HA.out.1 _).trans e0, (Joins.cell_of_block HA.out.1 _).trans e1, (Joins.cell_of_block HA.out.1 _).trans e2, (Joins.cell_of_block HA.out.1 _).trans e3, (Joins.cell_of_block HA.out.1 _).trans e4, some ⟨q, 0, none⟩, _, rfl, .inr ⟨q, 0, rfl, Nat.le_refl _, e6, fun i y hy => by rw [Nat.zero_add]; exact ⟨by omega, e7 i y hy⟩⟩⟩
end Go.Proofs.YtlgfeohoebmbcaaGreat.Tw
