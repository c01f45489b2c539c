/- Texts put together: Yc. -/
import Derived.Test.YtondmbeccpekiaaGreatDoorH5
import Derived.Deep.CutRange
import Derived.Deep.DeepCutAuto
/- Copies of slots, of certificates, of replicas: all in new memory. -/
namespace Go.Proofs.YtondmbeccpekiaaGreatDoor.Yr
open Go.RowKit Go.Proofs.YtondmbeccpekiaaGreatDoor.Rg Go.Proofs.YtondmbeccpekiaaGreatDoor.Gm Go.Proofs.YtondmbeccpekiaaGreatDoor.Ty

def Abv (B : Nat) (w w' : World) : Prop := w.heap.size ≤ w'.heap.size ∧ ∀ k, B ≤ k → k < w.heap.size → w'.heap[k]? = w.heap[k]?
theorem Abv.cell {B : Nat} {w w' : World} (h : Abv B w w') {b o : Nat} (hB : B ≤ b) {v : Value} (hc : w.cell? ⟨b, o, none⟩ = some v) : w'.cell? ⟨b, o, none⟩ = some v :=
  (World.cell?_of_block (w := w) (h.2 b hB (World.block_lt_of_cell? w _ hc))).trans hc
theorem Abv.set {B : Nat} {w w' : World} (h : Abv B w w') {p i : Nat} (hp : p < B) (v : Value) : Abv B w (w'.setCell ⟨p, i, none⟩ v) :=
  ⟨by simpa using h.1, fun k hk hk2 => (blk_far (by omega) i v).trans (h.2 k hk hk2)⟩
theorem Abv.refl (B : Nat) (w : World) : Abv B w w := ⟨Nat.le_refl _, fun _ _ _ => rfl⟩
theorem Abv.of {B : Nat} {w w' : World} (h : Below w.heap.size w w') : Abv B w w' := ⟨h.size, fun k _ hk => h.block k hk⟩
theorem Abv.trans {B : Nat} {w w' w2 : World} (h : Abv B w w') (g : Abv B w' w2) : Abv B w w2 := ⟨Nat.le_trans h.1 g.1, fun k hk hl => (g.2 k hk (Nat.lt_of_lt_of_le hl h.1)).trans (h.2 k hk hl)⟩
theorem row_keep {α : Type} {c B : Nat} {E E' : World → Nat → Nat → α → Prop} {w w' : World} {v : Value} {xs : List α} (h : RowG c E w v xs) (ha : Abv B w w') (hE : ∀ b o x, b < w.heap.size → E w b o x → E' w' b o x) : RowG c E' w' v xs := by
  obtain ⟨a, cap, rfl, h⟩ := h
  refine ⟨a, cap, rfl, ?_⟩
  rcases h with h | ⟨b, off, rfl, hc, hlt, h⟩
  · exact .inl h
  · exact .inr ⟨b, off, rfl, hc, Nat.lt_of_lt_of_le hlt ha.1, fun i x hi => hE _ _ _ hlt (h i x hi)⟩
def EMA (B : Nat) (w : World) (b o : Nat) (x : Mg) : Prop := B ≤ b ∧ E1 w b o x
def RowA (B : Nat) (w : World) (v : Value) (xs : List Mg) : Prop := RowG 7 (EMA B) w v xs
def ESA (B : Nat) (w : World) (b o : Nat) (x : St) : Prop := B ≤ b ∧ ∃ u1 u2, w.cell? ⟨b, o, none⟩ = some (.string x.bd) ∧ w.cell? ⟨b, o + 1, none⟩ = some u1 ∧ w.cell? ⟨b, o + 2, none⟩ = some u2 ∧ w.cell? ⟨b, o + 3, none⟩ = some (.bool x.st) ∧ w.cell? ⟨b, o + 4, none⟩ = some (.bool x.dn) ∧ RowA B w u1 x.ps ∧ RowA B w u2 x.cs
def RowSA (B : Nat) (w : World) (v : Value) (xs : List St) : Prop := RowG 5 (ESA B) w v xs
def ECA (B : Nat) (w : World) (b o : Nat) (x : Cx) : Prop := B ≤ b ∧ ∃ u, w.cell? ⟨b, o, none⟩ = some (.string x.bd) ∧ w.cell? ⟨b, o + 1, none⟩ = some u ∧ RowA B w u x.ms
def RowCA (B : Nat) (w : World) (v : Value) (xs : List Cx) : Prop := RowG 2 (ECA B) w v xs
theorem ema_keep {B B' : Nat} {w w' : World} (ha : Abv B w w') (hB : B' ≤ B) {b o : Nat} {x : Mg} (h : EMA B w b o x) : EMA B' w' b o x := by
  obtain ⟨hb, h0, h1, h2, h3, h4, h5, h6⟩ := h
  exact ⟨Nat.le_trans hB hb, ha.cell hb h0, ha.cell hb h1, ha.cell hb h2, ha.cell hb h3, ha.cell hb h4, ha.cell hb h5, ha.cell hb h6⟩
theorem RowA.to {B B' : Nat} {w w' : World} {v : Value} {xs : List Mg} (h : RowA B w v xs) (ha : Abv B w w') (hB : B' ≤ B) : RowA B' w' v xs := row_keep h ha fun _ _ _ _ hx => ema_keep ha hB hx
theorem RowA.keep {B : Nat} {w w' : World} {v : Value} {xs : List Mg} (h : RowA B w v xs) (ha : Abv B w w') : RowA B w' v xs := h.to ha (Nat.le_refl _)
theorem RowA.row {B : Nat} {w : World} {v : Value} {xs : List Mg} (h : RowA B w v xs) : Row w v xs := row_keep h (Abv.refl B w) fun _ _ _ _ hx => hx.2
theorem RowSA.to {B B' : Nat} {w w' : World} {v : Value} {xs : List St} (h : RowSA B w v xs) (ha : Abv B w w') (hB : B' ≤ B) : RowSA B' w' v xs :=
  row_keep h ha fun _ _ _ _ ⟨hb, u1, u2, h0, h1, h2, h3, h4, h5, h6⟩ => ⟨Nat.le_trans hB hb, u1, u2, ha.cell hb h0, ha.cell hb h1, ha.cell hb h2, ha.cell hb h3, ha.cell hb h4, h5.to ha hB, h6.to ha hB⟩
theorem RowSA.keep {B : Nat} {w w' : World} {v : Value} {xs : List St} (h : RowSA B w v xs) (ha : Abv B w w') : RowSA B w' v xs := h.to ha (Nat.le_refl _)
theorem RowSA.row {B : Nat} {w : World} {v : Value} {xs : List St} (h : RowSA B w v xs) : RowS w v xs :=
  row_keep h (Abv.refl B w) fun _ _ _ _ ⟨_, u1, u2, h0, h1, h2, h3, h4, h5, h6⟩ => ⟨u1, u2, h0, h1, h2, h3, h4, h5.row, h6.row⟩
theorem RowCA.to {B B' : Nat} {w w' : World} {v : Value} {xs : List Cx} (h : RowCA B w v xs) (ha : Abv B w w') (hB : B' ≤ B) : RowCA B' w' v xs :=
  row_keep h ha fun _ _ _ _ ⟨hb, u, h0, h1, h2⟩ => ⟨Nat.le_trans hB hb, u, ha.cell hb h0, ha.cell hb h1, h2.to ha hB⟩
theorem RowCA.keep {B : Nat} {w w' : World} {v : Value} {xs : List Cx} (h : RowCA B w v xs) (ha : Abv B w w') : RowCA B w' v xs := h.to ha (Nat.le_refl _)
theorem RowCA.row {B : Nat} {w : World} {v : Value} {xs : List Cx} (h : RowCA B w v xs) : RowC w v xs :=
  row_keep h (Abv.refl B w) fun _ _ _ _ ⟨_, u, h0, h1, h2⟩ => ⟨u, h0, h1, h2.row⟩
theorem ownT_to {B B' : Nat} {w w' : World} {v : Value} {ts : List ByteArray} (h : OwnT w B v ts) (ha : Abv B w w') (hB : B' ≤ B) : OwnT w' B' v ts := by
  obtain ⟨g, A, rfl, h1, h2, h3, h4⟩ := h
  exact ⟨g, A, rfl, Nat.le_trans hB h1, (ha.2 g h1 (Array.getElem?_eq_some_iff.1 h2).1).trans h2, h3, h4⟩
theorem ownT_keep {B : Nat} {w w' : World} {v : Value} {ts : List ByteArray} (h : OwnT w B v ts) (ha : Abv B w w') : OwnT w' B v ts := ownT_to h ha (Nat.le_refl _)
theorem ownT_slice {B : Nat} {w : World} {v : Value} {ts : List ByteArray} (h : OwnT w B v ts) : ∃ a cap, v = .slice a ts.length cap := by obtain ⟨g, A, rfl, _⟩ := h; exact ⟨_, _, rfl⟩
theorem toM_any (v : Value) (xs : List Mg) (w : World) (h : Row w v xs) (hl : xs.length ≤ 1048576) :
    Calls Tryz.prog 34 #[v] w fun e w' => ∃ v', e = .returned v' ∧ RowA w.heap.size w' v' xs ∧ Below w.heap.size w w' :=
  (toS_any v xs w h hl).mono fun e w' ⟨g, he, hg0, hg1, hr, hb, _⟩ => ⟨_, he, ⟨_, _, rfl, .inr ⟨g, 0, rfl, Nat.le_refl _, hg1, fun i x hi => by rw [Nat.zero_add]; exact ⟨hg0, hr i x hi⟩⟩⟩, hb⟩
structure RepA (B : Nat) (w : World) (r : Rp) (vs vc vl vh : Value) : Prop where
  s : RowSA B w vs r.ss
  c : RowCA B w vc r.cs
  l : OwnT w B vl r.lg
  h : RowA B w vh r.ch
theorem RepA.rep {B : Nat} {w : World} {r : Rp} {vs vc vl vh : Value} (h : RepA B w r vs vc vl vh) : RepR w r vs vc vl vh := ⟨h.s.row, h.c.row, h.l.row, h.h.row⟩
theorem RepA.to {B B' : Nat} {w w' : World} {r : Rp} {vs vc vl vh : Value} (h : RepA B w r vs vc vl vh) (ha : Abv B w w') (hB : B' ≤ B) : RepA B' w' r vs vc vl vh := ⟨h.s.to ha hB, h.c.to ha hB, ownT_to h.l ha hB, h.h.to ha hB⟩
set_option maxRecDepth 100000 in
set_option maxHeartbeats 1600000 in
theorem toSlot_any (x : St) (u1 u2 : Value) (w : World) (h1 : Row w u1 x.ps) (h2 : Row w u2 x.cs) (l1 : x.ps.length ≤ 1048576) (l2 : x.cs.length ≤ 1048576) :
    Calls Tryz.prog 124 #[stV x u1 u2] w fun e w' => ∃ v1 v2, e = .returned (stV x v1 v2) ∧ RowA w.heap.size w' v1 x.ps ∧ RowA w.heap.size w' v2 x.cs ∧ Below w.heap.size w w' := by
  have H1 : Hid (Row w u1 x.ps) := h1
  have H2 : Hid (Row w u2 x.cs) := h2
  clear h1 h2
  unfold stV
  have HB : Hid (∀ o0 o1 o2, Below w.heap.size w (((w.alloc o0).alloc o1).alloc o2)) := fun o0 o1 o2 => (three (Below.refl _ _)).2.2.2.2
  have HS : Hid (∀ o0 o1 o2, (((w.alloc o0).alloc o1).alloc o2).heap.size = w.heap.size + 1 + 1 + 1) := fun o0 o1 o2 => by rw [Rg.size_new, Rg.size_new, Rg.size_new]
  go_enter Tryz.func124, Tryz.ntmps124
  go_wp2_with fail
  refine (toM_any u1 x.ps _ (H1.out.below (HB.out _ _ _)) l1).mono ?_
  rintro e w1 ⟨v1, rfl, hr, b1⟩
  obtain ⟨a1, c1, rfl⟩ := RowG.slice hr
  obtain ⟨k0, k1, k2, kS, kB⟩ := three b1
  rw [HS.out] at hr
  have K0 : Hid (w1.heap[w.heap.size]? = some (.cells #[.string x.bd, u1, u2, .bool x.st, .bool x.dn] 152 (0, 0))) := k0
  have K1 : Hid (w1.heap[w.heap.size + 1]? = some (.cells #[.string ⟨#[]⟩, .slice none 0 0, .slice none 0 0, .bool false, .bool false] 100 (0, 0))) := k1
  have K2 : Hid (w1.heap[w.heap.size + 1 + 1]? = some (.cells #[.string x.bd, .slice none 0 0, .slice none 0 0, .bool false, .bool false] 100 (0, 0))) := k2
  have KB : Hid (Below w.heap.size w w1) := kB
  have KZ : Hid (w.heap.size + 1 + 1 + 1 ≤ w1.heap.size) := kS
  have R1 : Hid (RowA (w.heap.size + 1 + 1 + 1) w1 (.slice a1 x.ps.length c1) x.ps) := hr
  clear hr b1 k0 k1 k2 kS kB HB HS
  obtain ⟨s0, t0⟩ := blk_cell K2.out 1 (x := .slice none 0 0) rfl
  have L0 : Hid ((w1.setCell ⟨w.heap.size + 1 + 1, 1, none⟩ (.slice a1 x.ps.length c1)).heap[w.heap.size]? = some (.cells #[.string x.bd, u1, u2, .bool x.st, .bool x.dn] 152 (0, 0))) := (blk_far (by omega) 1 (.slice a1 x.ps.length c1)).trans K0.out
  have L1 : Hid ((w1.setCell ⟨w.heap.size + 1 + 1, 1, none⟩ (.slice a1 x.ps.length c1)).heap[w.heap.size + 1]? = some (.cells #[.string ⟨#[]⟩, .slice none 0 0, .slice none 0 0, .bool false, .bool false] 100 (0, 0))) := (blk_far (by omega) 1 (.slice a1 x.ps.length c1)).trans K1.out
  have L2 : Hid ((w1.setCell ⟨w.heap.size + 1 + 1, 1, none⟩ (.slice a1 x.ps.length c1)).heap[w.heap.size + 1 + 1]? = some (.cells #[.string x.bd, .slice a1 x.ps.length c1, .slice none 0 0, .bool false, .bool false] 100 (0, 0))) := blk_set K2.out 1 (.slice a1 x.ps.length c1)
  have LB : Hid (Below w.heap.size w (w1.setCell ⟨w.heap.size + 1 + 1, 1, none⟩ (.slice a1 x.ps.length c1))) := Below.setCell KB.out (p := ⟨w.heap.size + 1 + 1, 1, none⟩) (by show _ ≤ w.heap.size + 1 + 1; omega) (.slice a1 x.ps.length c1)
  have LZ : Hid (w.heap.size + 1 + 1 + 1 ≤ (w1.setCell ⟨w.heap.size + 1 + 1, 1, none⟩ (.slice a1 x.ps.length c1)).heap.size) := by show _ ≤ _; have := KZ.out; simpa using this
  have T1 : Hid (RowA (w.heap.size + 1 + 1 + 1) (w1.setCell ⟨w.heap.size + 1 + 1, 1, none⟩ (.slice a1 x.ps.length c1)) (.slice a1 x.ps.length c1) x.ps) := RowA.keep R1.out ((Abv.refl _ _).set (by omega) _)
  clear K0 K1 K2 KB KZ R1
  go_upto_region 4 with fail
  generalize (w1.setCell ⟨w.heap.size + 1 + 1, 1, none⟩ (.slice a1 x.ps.length c1)) = w2 at L0 L1 L2 LB LZ T1 ⊢
  clear s0 t0
  have K0 := L0
  have K1 := L1
  have K2 := L2
  have KB := LB
  have KZ := LZ
  clear L0 L1 L2 LB LZ
  have R1 := T1
  clear T1
  have x2 := (blk_cell K0.out 2 (x := u2) rfl).1
  go_wp2_with fail
  refine (toM_any u2 x.cs w2 (H2.out.below KB.out) l2).mono ?_
  rintro e w3 ⟨v2, rfl, hr, bn⟩
  obtain ⟨a2, c2, rfl⟩ := RowG.slice hr
  have R2 : Hid (RowA (w.heap.size + 1 + 1 + 1) w3 (.slice a2 x.cs.length c2) x.cs) := RowA.to hr (Abv.refl _ _) KZ.out
  have T1 : Hid (RowA (w.heap.size + 1 + 1 + 1) w3 (.slice a1 x.ps.length c1) x.ps) := RowA.keep R1.out (Abv.of bn)
  clear R1
  have R1 := T1
  clear T1
  have L0 : Hid (w3.heap[w.heap.size]? = some (.cells #[.string x.bd, u1, u2, .bool x.st, .bool x.dn] 152 (0, 0))) := (bn.block _ (by have := KZ.out; omega)).trans K0.out
  have L1 : Hid (w3.heap[w.heap.size + 1]? = some (.cells #[.string ⟨#[]⟩, .slice none 0 0, .slice none 0 0, .bool false, .bool false] 100 (0, 0))) := (bn.block _ (by have := KZ.out; omega)).trans K1.out
  have L2 : Hid (w3.heap[w.heap.size + 1 + 1]? = some (.cells #[.string x.bd, .slice a1 x.ps.length c1, .slice none 0 0, .bool false, .bool false] 100 (0, 0))) := (bn.block _ (by have := KZ.out; omega)).trans K2.out
  have LB : Hid (Below w.heap.size w w3) := KB.out.trans (bn.mono KB.out.size)
  have LZ : Hid (w.heap.size + 1 + 1 + 1 ≤ w3.heap.size) := Nat.le_trans KZ.out bn.size
  clear hr bn K0 K1 K2 KB KZ x2
  have K0 := L0
  have K1 := L1
  have K2 := L2
  have KB := LB
  have KZ := LZ
  clear L0 L1 L2 LB LZ
  obtain ⟨s0, t0⟩ := blk_cell K2.out 2 (x := .slice none 0 0) rfl
  have L0 : Hid ((w3.setCell ⟨w.heap.size + 1 + 1, 2, none⟩ (.slice a2 x.cs.length c2)).heap[w.heap.size]? = some (.cells #[.string x.bd, u1, u2, .bool x.st, .bool x.dn] 152 (0, 0))) := (blk_far (by omega) 2 (.slice a2 x.cs.length c2)).trans K0.out
  have L1 : Hid ((w3.setCell ⟨w.heap.size + 1 + 1, 2, none⟩ (.slice a2 x.cs.length c2)).heap[w.heap.size + 1]? = some (.cells #[.string ⟨#[]⟩, .slice none 0 0, .slice none 0 0, .bool false, .bool false] 100 (0, 0))) := (blk_far (by omega) 2 (.slice a2 x.cs.length c2)).trans K1.out
  have L2 : Hid ((w3.setCell ⟨w.heap.size + 1 + 1, 2, none⟩ (.slice a2 x.cs.length c2)).heap[w.heap.size + 1 + 1]? = some (.cells #[.string x.bd, .slice a1 x.ps.length c1, .slice a2 x.cs.length c2, .bool false, .bool false] 100 (0, 0))) := blk_set K2.out 2 (.slice a2 x.cs.length c2)
  have LB : Hid (Below w.heap.size w (w3.setCell ⟨w.heap.size + 1 + 1, 2, none⟩ (.slice a2 x.cs.length c2))) := Below.setCell KB.out (p := ⟨w.heap.size + 1 + 1, 2, none⟩) (by show _ ≤ w.heap.size + 1 + 1; omega) (.slice a2 x.cs.length c2)
  have LZ : Hid (w.heap.size + 1 + 1 + 1 ≤ (w3.setCell ⟨w.heap.size + 1 + 1, 2, none⟩ (.slice a2 x.cs.length c2)).heap.size) := by show _ ≤ _; have := KZ.out; simpa using this
  have T1 : Hid (RowA (w.heap.size + 1 + 1 + 1) (w3.setCell ⟨w.heap.size + 1 + 1, 2, none⟩ (.slice a2 x.cs.length c2)) (.slice a1 x.ps.length c1) x.ps) := RowA.keep R1.out ((Abv.refl _ _).set (by omega) _)
  have T2 : Hid (RowA (w.heap.size + 1 + 1 + 1) (w3.setCell ⟨w.heap.size + 1 + 1, 2, none⟩ (.slice a2 x.cs.length c2)) (.slice a2 x.cs.length c2) x.cs) := RowA.keep R2.out ((Abv.refl _ _).set (by omega) _)
  clear K0 K1 K2 KB KZ R1 R2
  go_upto_region 5 with fail
  generalize (w3.setCell ⟨w.heap.size + 1 + 1, 2, none⟩ (.slice a2 x.cs.length c2)) = w4 at L0 L1 L2 LB LZ T1 T2 ⊢
  clear s0 t0
  have K0 := L0
  have K1 := L1
  have K2 := L2
  have KB := LB
  have KZ := LZ
  clear L0 L1 L2 LB LZ
  have R1 := T1
  clear T1
  have R2 := T2
  clear T2
  have x3 := (blk_cell K0.out 3 (x := .bool x.st) rfl).1
  obtain ⟨s0, t0⟩ := blk_cell K2.out 3 (x := .bool false) rfl
  have L0 : Hid ((w4.setCell ⟨w.heap.size + 1 + 1, 3, none⟩ (.bool x.st)).heap[w.heap.size]? = some (.cells #[.string x.bd, u1, u2, .bool x.st, .bool x.dn] 152 (0, 0))) := (blk_far (by omega) 3 (.bool x.st)).trans K0.out
  have L1 : Hid ((w4.setCell ⟨w.heap.size + 1 + 1, 3, none⟩ (.bool x.st)).heap[w.heap.size + 1]? = some (.cells #[.string ⟨#[]⟩, .slice none 0 0, .slice none 0 0, .bool false, .bool false] 100 (0, 0))) := (blk_far (by omega) 3 (.bool x.st)).trans K1.out
  have L2 : Hid ((w4.setCell ⟨w.heap.size + 1 + 1, 3, none⟩ (.bool x.st)).heap[w.heap.size + 1 + 1]? = some (.cells #[.string x.bd, .slice a1 x.ps.length c1, .slice a2 x.cs.length c2, .bool x.st, .bool false] 100 (0, 0))) := blk_set K2.out 3 (.bool x.st)
  have LB : Hid (Below w.heap.size w (w4.setCell ⟨w.heap.size + 1 + 1, 3, none⟩ (.bool x.st))) := Below.setCell KB.out (p := ⟨w.heap.size + 1 + 1, 3, none⟩) (by show _ ≤ w.heap.size + 1 + 1; omega) (.bool x.st)
  have LZ : Hid (w.heap.size + 1 + 1 + 1 ≤ (w4.setCell ⟨w.heap.size + 1 + 1, 3, none⟩ (.bool x.st)).heap.size) := by show _ ≤ _; have := KZ.out; simpa using this
  have T1 : Hid (RowA (w.heap.size + 1 + 1 + 1) (w4.setCell ⟨w.heap.size + 1 + 1, 3, none⟩ (.bool x.st)) (.slice a1 x.ps.length c1) x.ps) := RowA.keep R1.out ((Abv.refl _ _).set (by omega) _)
  have T2 : Hid (RowA (w.heap.size + 1 + 1 + 1) (w4.setCell ⟨w.heap.size + 1 + 1, 3, none⟩ (.bool x.st)) (.slice a2 x.cs.length c2) x.cs) := RowA.keep R2.out ((Abv.refl _ _).set (by omega) _)
  clear K0 K1 K2 KB KZ R1 R2
  go_upto_region 6 with fail
  generalize (w4.setCell ⟨w.heap.size + 1 + 1, 3, none⟩ (.bool x.st)) = w5 at L0 L1 L2 LB LZ T1 T2 ⊢
  clear s0 t0 x3
  have K0 := L0
  have K1 := L1
  have K2 := L2
  have KB := LB
  have KZ := LZ
  clear L0 L1 L2 LB LZ
  have R1 := T1
  clear T1
  have R2 := T2
  clear T2
  have x4 := (blk_cell K0.out 4 (x := .bool x.dn) rfl).1
  obtain ⟨s0, t0⟩ := blk_cell K2.out 4 (x := .bool false) rfl
  have L0 : Hid ((w5.setCell ⟨w.heap.size + 1 + 1, 4, none⟩ (.bool x.dn)).heap[w.heap.size]? = some (.cells #[.string x.bd, u1, u2, .bool x.st, .bool x.dn] 152 (0, 0))) := (blk_far (by omega) 4 (.bool x.dn)).trans K0.out
  have L1 : Hid ((w5.setCell ⟨w.heap.size + 1 + 1, 4, none⟩ (.bool x.dn)).heap[w.heap.size + 1]? = some (.cells #[.string ⟨#[]⟩, .slice none 0 0, .slice none 0 0, .bool false, .bool false] 100 (0, 0))) := (blk_far (by omega) 4 (.bool x.dn)).trans K1.out
  have L2 : Hid ((w5.setCell ⟨w.heap.size + 1 + 1, 4, none⟩ (.bool x.dn)).heap[w.heap.size + 1 + 1]? = some (.cells #[.string x.bd, .slice a1 x.ps.length c1, .slice a2 x.cs.length c2, .bool x.st, .bool x.dn] 100 (0, 0))) := blk_set K2.out 4 (.bool x.dn)
  have LB : Hid (Below w.heap.size w (w5.setCell ⟨w.heap.size + 1 + 1, 4, none⟩ (.bool x.dn))) := Below.setCell KB.out (p := ⟨w.heap.size + 1 + 1, 4, none⟩) (by show _ ≤ w.heap.size + 1 + 1; omega) (.bool x.dn)
  have LZ : Hid (w.heap.size + 1 + 1 + 1 ≤ (w5.setCell ⟨w.heap.size + 1 + 1, 4, none⟩ (.bool x.dn)).heap.size) := by show _ ≤ _; have := KZ.out; simpa using this
  have T1 : Hid (RowA (w.heap.size + 1 + 1 + 1) (w5.setCell ⟨w.heap.size + 1 + 1, 4, none⟩ (.bool x.dn)) (.slice a1 x.ps.length c1) x.ps) := RowA.keep R1.out ((Abv.refl _ _).set (by omega) _)
  have T2 : Hid (RowA (w.heap.size + 1 + 1 + 1) (w5.setCell ⟨w.heap.size + 1 + 1, 4, none⟩ (.bool x.dn)) (.slice a2 x.cs.length c2) x.cs) := RowA.keep R2.out ((Abv.refl _ _).set (by omega) _)
  clear K0 K1 K2 KB KZ R1 R2
  go_upto_region 7 with fail
  generalize (w5.setCell ⟨w.heap.size + 1 + 1, 4, none⟩ (.bool x.dn)) = w6 at L0 L1 L2 LB LZ T1 T2 ⊢
  clear s0 t0 x4
  have K0 := L0
  have K1 := L1
  have K2 := L2
  have KB := LB
  have KZ := LZ
  clear L0 L1 L2 LB LZ
  have R1 := T1
  clear T1
  have R2 := T2
  clear T2
  have p0 := (blk_cell K2.out 0 (x := .string x.bd) rfl).1
  have p1 := (blk_cell K2.out 1 (x := .slice a1 x.ps.length c1) rfl).1
  have p2 := (blk_cell K2.out 2 (x := .slice a2 x.cs.length c2) rfl).1
  have p3 := (blk_cell K2.out 3 (x := .bool x.st) rfl).1
  have p4 := (blk_cell K2.out 4 (x := .bool x.dn) rfl).1
  obtain ⟨m0, n0⟩ := blk_cell K1.out 0 (x := .string ⟨#[]⟩) rfl
  obtain ⟨m1, n1⟩ := blk_cell K1.out 1 (x := .slice none 0 0) rfl
  obtain ⟨m2, n2⟩ := blk_cell K1.out 2 (x := .slice none 0 0) rfl
  obtain ⟨m3, n3⟩ := blk_cell K1.out 3 (x := .bool false) rfl
  obtain ⟨m4, n4⟩ := blk_cell K1.out 4 (x := .bool false) rfl
  have AF : (((((w6.setCell ⟨w.heap.size + 1, 0, none⟩ (.string x.bd)).setCell ⟨w.heap.size + 1, 1, none⟩ (.slice a1 x.ps.length c1)).setCell ⟨w.heap.size + 1, 2, none⟩ (.slice a2 x.cs.length c2)).setCell ⟨w.heap.size + 1, 3, none⟩ (.bool x.st)).setCell ⟨w.heap.size + 1, 4, none⟩ (.bool x.dn)).heap[w.heap.size + 1]? = some (.cells #[.string x.bd, .slice a1 x.ps.length c1, .slice a2 x.cs.length c2, .bool x.st, .bool x.dn] 100 (0, 0)) := (blk_set (blk_set (blk_set (blk_set (blk_set K1.out 0 (.string x.bd)) 1 (.slice a1 x.ps.length c1)) 2 (.slice a2 x.cs.length c2)) 3 (.bool x.st)) 4 (.bool x.dn))
  have T1 : Hid (RowA (w.heap.size + 1 + 1 + 1) (((((w6.setCell ⟨w.heap.size + 1, 0, none⟩ (.string x.bd)).setCell ⟨w.heap.size + 1, 1, none⟩ (.slice a1 x.ps.length c1)).setCell ⟨w.heap.size + 1, 2, none⟩ (.slice a2 x.cs.length c2)).setCell ⟨w.heap.size + 1, 3, none⟩ (.bool x.st)).setCell ⟨w.heap.size + 1, 4, none⟩ (.bool x.dn)) (.slice a1 x.ps.length c1) x.ps) := RowA.keep R1.out ((((((Abv.refl _ _).set (by omega) _).set (by omega) _).set (by omega) _).set (by omega) _).set (by omega) _)
  have T2 : Hid (RowA (w.heap.size + 1 + 1 + 1) (((((w6.setCell ⟨w.heap.size + 1, 0, none⟩ (.string x.bd)).setCell ⟨w.heap.size + 1, 1, none⟩ (.slice a1 x.ps.length c1)).setCell ⟨w.heap.size + 1, 2, none⟩ (.slice a2 x.cs.length c2)).setCell ⟨w.heap.size + 1, 3, none⟩ (.bool x.st)).setCell ⟨w.heap.size + 1, 4, none⟩ (.bool x.dn)) (.slice a2 x.cs.length c2) x.cs) := RowA.keep R2.out ((((((Abv.refl _ _).set (by omega) _).set (by omega) _).set (by omega) _).set (by omega) _).set (by omega) _)
  have GF : Hid (Below w.heap.size w (((((w6.setCell ⟨w.heap.size + 1, 0, none⟩ (.string x.bd)).setCell ⟨w.heap.size + 1, 1, none⟩ (.slice a1 x.ps.length c1)).setCell ⟨w.heap.size + 1, 2, none⟩ (.slice a2 x.cs.length c2)).setCell ⟨w.heap.size + 1, 3, none⟩ (.bool x.st)).setCell ⟨w.heap.size + 1, 4, none⟩ (.bool x.dn))) := (Below.setCell (Below.setCell (Below.setCell (Below.setCell (Below.setCell KB.out (p := ⟨w.heap.size + 1, 0, none⟩) (by show _ ≤ w.heap.size + 1; omega) (.string x.bd)) (p := ⟨w.heap.size + 1, 1, none⟩) (by show _ ≤ w.heap.size + 1; omega) (.slice a1 x.ps.length c1)) (p := ⟨w.heap.size + 1, 2, none⟩) (by show _ ≤ w.heap.size + 1; omega) (.slice a2 x.cs.length c2)) (p := ⟨w.heap.size + 1, 3, none⟩) (by show _ ≤ w.heap.size + 1; omega) (.bool x.st)) (p := ⟨w.heap.size + 1, 4, none⟩) (by show _ ≤ w.heap.size + 1; omega) (.bool x.dn))
  clear K0 K1 K2 KB KZ R1 R2
  go_wp2_with fail
  generalize (((((w6.setCell ⟨w.heap.size + 1, 0, none⟩ (.string x.bd)).setCell ⟨w.heap.size + 1, 1, none⟩ (.slice a1 x.ps.length c1)).setCell ⟨w.heap.size + 1, 2, none⟩ (.slice a2 x.cs.length c2)).setCell ⟨w.heap.size + 1, 3, none⟩ (.bool x.st)).setCell ⟨w.heap.size + 1, 4, none⟩ (.bool x.dn)) = wf at AF GF T1 T2 ⊢
  have d0 := (blk_cell AF 0 (x := .string x.bd) rfl).1
  have d1 := (blk_cell AF 1 (x := .slice a1 x.ps.length c1) rfl).1
  have d2 := (blk_cell AF 2 (x := .slice a2 x.cs.length c2) rfl).1
  have d3 := (blk_cell AF 3 (x := .bool x.st) rfl).1
  have d4 := (blk_cell AF 4 (x := .bool x.dn) rfl).1
  exact bodyPost_ret (v := stV x (.slice a1 x.ps.length c1) (.slice a2 x.cs.length c2)) (by simp [stV, results, Tryz.results124, go_sem, d0, d1, d2, d3, d4]) rfl ⟨_, _, rfl, RowA.to T1.out (Abv.refl _ _) (by omega), RowA.to T2.out (Abv.refl _ _) (by omega), GF.out⟩
set_option maxRecDepth 100000 in
set_option maxHeartbeats 1600000 in
theorem toCert_any (x : Cx) (u : Value) (w : World) (h1 : Row w u x.ms) (l1 : x.ms.length ≤ 1048576) :
    Calls Tryz.prog 125 #[cxV x u] w fun e w' => ∃ v, e = .returned (cxV x v) ∧ RowA w.heap.size w' v x.ms ∧ Below w.heap.size w w' := by
  have H1 : Hid (Row w u x.ms) := h1
  clear h1
  unfold cxV
  have HB : Hid (∀ o0 o1 o2, Below w.heap.size w (((w.alloc o0).alloc o1).alloc o2)) := fun o0 o1 o2 => (three (Below.refl _ _)).2.2.2.2
  have HS : Hid (∀ o0 o1 o2, (((w.alloc o0).alloc o1).alloc o2).heap.size = w.heap.size + 1 + 1 + 1) := fun o0 o1 o2 => by rw [Rg.size_new, Rg.size_new, Rg.size_new]
  go_enter Tryz.func125, Tryz.ntmps125
  go_wp2_with fail
  refine (toM_any u x.ms _ (H1.out.below (HB.out _ _ _)) l1).mono ?_
  rintro e w1 ⟨v1, rfl, hr, b1⟩
  obtain ⟨a1, c1, rfl⟩ := RowG.slice hr
  obtain ⟨k0, k1, k2, kS, kB⟩ := three b1
  rw [HS.out] at hr
  have K0 : Hid (w1.heap[w.heap.size]? = some (.cells #[.string x.bd, u] 155 (0, 0))) := k0
  have K1 : Hid (w1.heap[w.heap.size + 1]? = some (.cells #[.string ⟨#[]⟩, .slice none 0 0] 87 (0, 0))) := k1
  have K2 : Hid (w1.heap[w.heap.size + 1 + 1]? = some (.cells #[.string x.bd, .slice none 0 0] 87 (0, 0))) := k2
  have KB : Hid (Below w.heap.size w w1) := kB
  have KZ : Hid (w.heap.size + 1 + 1 + 1 ≤ w1.heap.size) := kS
  have R1 : Hid (RowA (w.heap.size + 1 + 1 + 1) w1 (.slice a1 x.ms.length c1) x.ms) := hr
  clear hr b1 k0 k1 k2 kS kB HB HS
  obtain ⟨s0, t0⟩ := blk_cell K2.out 1 (x := .slice none 0 0) rfl
  have L0 : Hid ((w1.setCell ⟨w.heap.size + 1 + 1, 1, none⟩ (.slice a1 x.ms.length c1)).heap[w.heap.size]? = some (.cells #[.string x.bd, u] 155 (0, 0))) := (blk_far (by omega) 1 (.slice a1 x.ms.length c1)).trans K0.out
  have L1 : Hid ((w1.setCell ⟨w.heap.size + 1 + 1, 1, none⟩ (.slice a1 x.ms.length c1)).heap[w.heap.size + 1]? = some (.cells #[.string ⟨#[]⟩, .slice none 0 0] 87 (0, 0))) := (blk_far (by omega) 1 (.slice a1 x.ms.length c1)).trans K1.out
  have L2 : Hid ((w1.setCell ⟨w.heap.size + 1 + 1, 1, none⟩ (.slice a1 x.ms.length c1)).heap[w.heap.size + 1 + 1]? = some (.cells #[.string x.bd, .slice a1 x.ms.length c1] 87 (0, 0))) := blk_set K2.out 1 (.slice a1 x.ms.length c1)
  have LB : Hid (Below w.heap.size w (w1.setCell ⟨w.heap.size + 1 + 1, 1, none⟩ (.slice a1 x.ms.length c1))) := Below.setCell KB.out (p := ⟨w.heap.size + 1 + 1, 1, none⟩) (by show _ ≤ w.heap.size + 1 + 1; omega) (.slice a1 x.ms.length c1)
  have LZ : Hid (w.heap.size + 1 + 1 + 1 ≤ (w1.setCell ⟨w.heap.size + 1 + 1, 1, none⟩ (.slice a1 x.ms.length c1)).heap.size) := by show _ ≤ _; have := KZ.out; simpa using this
  have T1 : Hid (RowA (w.heap.size + 1 + 1 + 1) (w1.setCell ⟨w.heap.size + 1 + 1, 1, none⟩ (.slice a1 x.ms.length c1)) (.slice a1 x.ms.length c1) x.ms) := RowA.keep R1.out ((Abv.refl _ _).set (by omega) _)
  clear K0 K1 K2 KB KZ R1
  go_upto_region 4 with fail
  generalize (w1.setCell ⟨w.heap.size + 1 + 1, 1, none⟩ (.slice a1 x.ms.length c1)) = w2 at L0 L1 L2 LB LZ T1 ⊢
  clear s0 t0
  have K0 := L0
  have K1 := L1
  have K2 := L2
  have KB := LB
  have KZ := LZ
  clear L0 L1 L2 LB LZ
  have R1 := T1
  clear T1
  have p0 := (blk_cell K2.out 0 (x := .string x.bd) rfl).1
  have p1 := (blk_cell K2.out 1 (x := .slice a1 x.ms.length c1) rfl).1
  obtain ⟨m0, n0⟩ := blk_cell K1.out 0 (x := .string ⟨#[]⟩) rfl
  obtain ⟨m1, n1⟩ := blk_cell K1.out 1 (x := .slice none 0 0) rfl
  have AF : ((w2.setCell ⟨w.heap.size + 1, 0, none⟩ (.string x.bd)).setCell ⟨w.heap.size + 1, 1, none⟩ (.slice a1 x.ms.length c1)).heap[w.heap.size + 1]? = some (.cells #[.string x.bd, .slice a1 x.ms.length c1] 87 (0, 0)) := (blk_set (blk_set K1.out 0 (.string x.bd)) 1 (.slice a1 x.ms.length c1))
  have T1 : Hid (RowA (w.heap.size + 1 + 1 + 1) ((w2.setCell ⟨w.heap.size + 1, 0, none⟩ (.string x.bd)).setCell ⟨w.heap.size + 1, 1, none⟩ (.slice a1 x.ms.length c1)) (.slice a1 x.ms.length c1) x.ms) := RowA.keep R1.out (((Abv.refl _ _).set (by omega) _).set (by omega) _)
  have GF : Hid (Below w.heap.size w ((w2.setCell ⟨w.heap.size + 1, 0, none⟩ (.string x.bd)).setCell ⟨w.heap.size + 1, 1, none⟩ (.slice a1 x.ms.length c1))) := (Below.setCell (Below.setCell KB.out (p := ⟨w.heap.size + 1, 0, none⟩) (by show _ ≤ w.heap.size + 1; omega) (.string x.bd)) (p := ⟨w.heap.size + 1, 1, none⟩) (by show _ ≤ w.heap.size + 1; omega) (.slice a1 x.ms.length c1))
  clear K0 K1 K2 KB KZ R1
  go_wp2_with fail
  generalize ((w2.setCell ⟨w.heap.size + 1, 0, none⟩ (.string x.bd)).setCell ⟨w.heap.size + 1, 1, none⟩ (.slice a1 x.ms.length c1)) = wf at AF GF T1 ⊢
  have d0 := (blk_cell AF 0 (x := .string x.bd) rfl).1
  have d1 := (blk_cell AF 1 (x := .slice a1 x.ms.length c1) rfl).1
  exact bodyPost_ret (v := cxV x (.slice a1 x.ms.length c1)) (by simp [cxV, results, Tryz.results125, go_sem, d0, d1]) rfl ⟨_, rfl, RowA.to T1.out (Abv.refl _ _) (by omega), GF.out⟩
theorem info_toSlotS : (Tryz.prog.info? 100).map (fun i => (i.zero, i.size, i.bytes)) = some (some (.agg #[.string ⟨#[]⟩, .slice none 0 0, .slice none 0 0, .bool false, .bool false]), 5, 72) := by kernel_rfl
def CoptoSlotS (B : Nat) (w : World) (xs : List St) (k : Nat) (A : Array Value) : Prop := A.size = xs.length * 5 ∧ ∀ j x, j < k → xs[j]? = some x → ∃ u1 u2, A[j * 5]? = some (.string x.bd) ∧ A[j * 5 + 1]? = some (u1) ∧ A[j * 5 + 2]? = some (u2) ∧ A[j * 5 + 3]? = some (.bool x.st) ∧ A[j * 5 + 4]? = some (.bool x.dn) ∧ RowA B w u1 x.ps ∧ RowA B w u2 x.cs
theorem CoptoSlotS.keep {B : Nat} {w w' : World} {xs : List St} {k : Nat} {A : Array Value} (h : CoptoSlotS B w xs k A) (ha : Abv B w w') : CoptoSlotS B w' xs k A :=
  ⟨h.1, fun j x hj hx => by
    obtain ⟨u1, u2, h0, h1, h2, h3, h4, h5, h6⟩ := h.2 j x hj hx
    exact ⟨u1, u2, h0, h1, h2, h3, h4, h5.keep ha, h6.keep ha⟩⟩
theorem coptoSlotS {B : Nat} {w : World} {xs : List St} {k : Nat} {A : Array Value} {x : St} {u1 u2 : Value} (h : CoptoSlotS B w xs k A) (hx : xs[k]? = some x) (r0 : RowA B w u1 x.ps) (r1 : RowA B w u2 x.cs) :
    CoptoSlotS B w xs (k + 1) ((((((A).setIfInBounds (k * 5) (.string x.bd)).setIfInBounds (k * 5 + 1) (u1)).setIfInBounds (k * 5 + 2) (u2)).setIfInBounds (k * 5 + 3) (.bool x.st)).setIfInBounds (k * 5 + 4) (.bool x.dn)) := by
  have hk := lt_at hx
  have hs := h.1
  refine ⟨by simpa using h.1, fun j y hj hy => ?_⟩
  simp only [Array.getElem?_setIfInBounds, Array.size_setIfInBounds]
  by_cases e : j = k
  · subst e
    rw [hx] at hy
    cases hy
    refine ⟨u1, u2, ?_, ?_, ?_, ?_, ?_, r0, r1⟩
    all_goals (repeat' (first | rw [if_pos rfl, if_pos (by omega)] | rw [if_neg (by omega)]))
  · obtain ⟨z0, z1, h0, h1, h2, h3, h4, h5, h6⟩ := h.2 j y (by omega) hy
    refine ⟨z0, z1, ?_, ?_, ?_, ?_, ?_, h5, h6⟩
    all_goals (repeat' rw [if_neg (by omega)])
    all_goals assumption
set_option maxRecDepth 100000 in
set_option maxHeartbeats 1600000 in
theorem toSlotS_any (v : Value) (xs : List St) (w : World) (h : RowS w v xs) (hl : xs.length ≤ 1048576) (hw : ∀ x ∈ xs, SZ 1048576 x) :
    Calls Tryz.prog 99 #[v] w fun e w' => ∃ v', e = .returned v' ∧ RowSA w.heap.size w' v' xs ∧ Below w.heap.size w w' := by
  have HR : Hid (RowS w v xs ∧ ∀ x ∈ xs, SZ 1048576 x) := ⟨h, hw⟩
  obtain ⟨a, cap, rfl⟩ := RowG.slice h
  clear h hw
  obtain ⟨i0, hi, hz0, hz1, hz2⟩ := info_parts info_toSlotS
  have hmk := run_make (P := Tryz.prog) w 52 100 i0 (.agg #[.string ⟨#[]⟩, .slice none 0 0, .slice none 0 0, .bool false, .bool false]) Tryz.underlying52 hi hz0 .i64 .i64 (xs.length : Int) (xs.length : Int) (by omega) (by omega) (by rw [hz2]; omega) (by omega)
  have hA0 : CoptoSlotS (w.heap.size + 1) (w.alloc (.cells (madeCells (Value.agg #[.string ⟨#[]⟩, .slice none 0 0, .slice none 0 0, .bool false, .bool false]).cells ((xs.length : Int).toNat * i0.size)) 100)) xs 0 (madeCells (Value.agg #[.string ⟨#[]⟩, .slice none 0 0, .slice none 0 0, .bool false, .bool false]).cells ((xs.length : Int).toNat * i0.size)) := ⟨by rw [hz1]; simp [madeCells, Value.cells], fun j x hj => absurd hj (by omega)⟩
  generalize madeCells (Value.agg #[.string ⟨#[]⟩, .slice none 0 0, .slice none 0 0, .bool false, .bool false]).cells ((xs.length : Int).toNat * i0.size) = A0 at hmk hA0
  rw [Int.toNat_natCast] at hmk
  have HA0 : Hid (CoptoSlotS (w.heap.size + 1) (w.alloc (.cells A0 100)) xs 0 A0) := hA0
  clear hA0
  go_enter Tryz.func99, Tryz.ntmps99
  go_wp2_with fail
  clear hmk
  go_loopw [4] (fun i wr => ∃ k : Nat, ∃ A : Array Value, k ≤ xs.length ∧ i = .int .i64 k ∧ Hid (wr.heap[w.heap.size]? = some (.cells A 100 (0, 0)) ∧ CoptoSlotS (w.heap.size + 1) wr xs k A ∧ Below w.heap.size w wr)) (fun i _ => xs.length - (intOf i).toNat)
  case atStart => exact ⟨0, A0, by omega, rfl, ⟨heap_alloc_new w _, HA0.out, bel_new _ _⟩⟩
  case round =>
    clear HA0
    obtain ⟨k, A, hk, rfl, HA⟩ := hrel
    by_cases hlt : k < xs.length
    · obtain ⟨x, hx⟩ := Rg.get_at hlt
      obtain ⟨b, off, rfl, hbl, u1, u2, c0, c1, c2, c3, c4, r0, r1⟩ := RowG.at (HR.out.1.below HA.out.2.2) rfl hx
      have HX : Hid (xs[k]? = some x) := hx
      have HY : Hid (Row wr u1 x.ps ∧ Row wr u2 x.cs) := ⟨r0, r1⟩
      have hzx := HR.out.2 _ (mem_at hx)
      have HZ : Hid (SZ 1048576 x) := hzx
      clear hx hzx r0 r1
      go_wp2_with fail
      refine (toSlot_any x u1 u2 wr HY.out.1 HY.out.2 HZ.out.2.1.1 HZ.out.2.2.1).mono ?_
      rintro e w2 ⟨y0, y1, rfl, r0, r1, b2⟩
      obtain ⟨q0a, q0c, rfl⟩ := RowG.slice r0
      obtain ⟨q1a, q1c, rfl⟩ := RowG.slice r1
      have hg := (Array.getElem?_eq_some_iff.1 HA.out.1).1
      have HA2 : Hid (w2.heap[w.heap.size]? = some (.cells A 100 (0, 0)) ∧ CoptoSlotS (w.heap.size + 1) w2 xs k A ∧ Below w.heap.size w w2) := ⟨(b2.block _ hg).trans HA.out.1, HA.out.2.1.keep (Abv.of b2), HA.out.2.2.trans (b2.mono HA.out.2.2.size)⟩
      have HQ0 : Hid (RowA (w.heap.size + 1) w2 (.slice q0a x.ps.length q0c) x.ps) := r0.to (Abv.refl _ _) (by omega)
      have HQ1 : Hid (RowA (w.heap.size + 1) w2 (.slice q1a x.cs.length q1c) x.cs) := r1.to (Abv.refl _ _) (by omega)
      clear b2 c0 c1 c2 c3 c4 HA r0 r1
      have hsz : k * 5 + 4 < A.size := by rw [HA2.out.2.1.1]; omega
      obtain ⟨d0, f0⟩ := blk_cell HA2.out.1 (k * 5) (x := A[k * 5]) (Array.getElem?_eq_getElem (by omega))
      obtain ⟨d1, f1⟩ := blk_cell HA2.out.1 (k * 5 + 1) (x := A[k * 5 + 1]) (Array.getElem?_eq_getElem (by omega))
      obtain ⟨d2, f2⟩ := blk_cell HA2.out.1 (k * 5 + 2) (x := A[k * 5 + 2]) (Array.getElem?_eq_getElem (by omega))
      obtain ⟨d3, f3⟩ := blk_cell HA2.out.1 (k * 5 + 3) (x := A[k * 5 + 3]) (Array.getElem?_eq_getElem (by omega))
      obtain ⟨d4, f4⟩ := blk_cell HA2.out.1 (k * 5 + 4) (x := A[k * 5 + 4]) (Array.getElem?_eq_getElem (by omega))
      unfold stV
      go_wp2_with fail
      refine ⟨⟨k + 1, (((((A).setIfInBounds (k * 5) (.string x.bd)).setIfInBounds (k * 5 + 1) (.slice q0a x.ps.length q0c)).setIfInBounds (k * 5 + 2) (.slice q1a x.cs.length q1c)).setIfInBounds (k * 5 + 3) (.bool x.st)).setIfInBounds (k * 5 + 4) (.bool x.dn), by omega, by go_num, ⟨(blk_set (blk_set (blk_set (blk_set (blk_set HA2.out.1 _ _) _ _) _ _) _ _) _ _), ?_, (Below.setCell (Below.setCell (Below.setCell (Below.setCell (Below.setCell HA2.out.2.2 (p := ⟨w.heap.size, k * 5, none⟩) (Nat.le_refl _) (.string x.bd)) (p := ⟨w.heap.size, k * 5 + 1, none⟩) (Nat.le_refl _) (.slice q0a x.ps.length q0c)) (p := ⟨w.heap.size, k * 5 + 2, none⟩) (Nat.le_refl _) (.slice q1a x.cs.length q1c)) (p := ⟨w.heap.size, k * 5 + 3, none⟩) (Nat.le_refl _) (.bool x.st)) (p := ⟨w.heap.size, k * 5 + 4, none⟩) (Nat.le_refl _) (.bool x.dn))⟩⟩, by simp [intOf]; omega⟩
      exact (coptoSlotS HA2.out.2.1 HX.out HQ0.out HQ1.out).keep ((((((Abv.refl _ _).set (Nat.lt_succ_self _) _).set (Nat.lt_succ_self _) _).set (Nat.lt_succ_self _) _).set (Nat.lt_succ_self _) _).set (Nat.lt_succ_self _) _)
    · obtain rfl : k = xs.length := by omega
      go_wp2_with fail
      go_ret
      refine ⟨_, rfl, ⟨some ⟨w.heap.size, 0, none⟩, xs.length, rfl, .inr ⟨w.heap.size, 0, rfl, Nat.le_refl _, (Array.getElem?_eq_some_iff.1 HA.out.1).1, fun i x hi => ?_⟩⟩, HA.out.2.2⟩
      obtain ⟨u1, u2, e0, e1, e2, e3, e4, e5, e6⟩ := HA.out.2.1.2 i x (lt_at hi) hi
      rw [Nat.zero_add]
      exact ⟨Nat.le_refl _, u1, u2, (Joins.cell_of_block HA.out.1 _).trans e0, (Joins.cell_of_block HA.out.1 _).trans e1, (Joins.cell_of_block HA.out.1 _).trans e2, (Joins.cell_of_block HA.out.1 _).trans e3, (Joins.cell_of_block HA.out.1 _).trans e4, e5.to (Abv.refl _ _) (by omega), e6.to (Abv.refl _ _) (by omega)⟩
theorem info_toCertS : (Tryz.prog.info? 87).map (fun i => (i.zero, i.size, i.bytes)) = some (some (.agg #[.string ⟨#[]⟩, .slice none 0 0]), 2, 40) := by kernel_rfl
def CoptoCertS (B : Nat) (w : World) (xs : List Cx) (k : Nat) (A : Array Value) : Prop := A.size = xs.length * 2 ∧ ∀ j x, j < k → xs[j]? = some x → ∃ u1, A[j * 2]? = some (.string x.bd) ∧ A[j * 2 + 1]? = some (u1) ∧ RowA B w u1 x.ms
theorem CoptoCertS.keep {B : Nat} {w w' : World} {xs : List Cx} {k : Nat} {A : Array Value} (h : CoptoCertS B w xs k A) (ha : Abv B w w') : CoptoCertS B w' xs k A :=
  ⟨h.1, fun j x hj hx => by
    obtain ⟨u1, h0, h1, h2⟩ := h.2 j x hj hx
    exact ⟨u1, h0, h1, h2.keep ha⟩⟩
theorem coptoCertS {B : Nat} {w : World} {xs : List Cx} {k : Nat} {A : Array Value} {x : Cx} {u1 : Value} (h : CoptoCertS B w xs k A) (hx : xs[k]? = some x) (r0 : RowA B w u1 x.ms) :
    CoptoCertS B w xs (k + 1) (((A).setIfInBounds (k * 2) (.string x.bd)).setIfInBounds (k * 2 + 1) (u1)) := by
  have hk := lt_at hx
  have hs := h.1
  refine ⟨by simpa using h.1, fun j y hj hy => ?_⟩
  simp only [Array.getElem?_setIfInBounds, Array.size_setIfInBounds]
  by_cases e : j = k
  · subst e
    rw [hx] at hy
    cases hy
    refine ⟨u1, ?_, ?_, r0⟩
    all_goals (repeat' (first | rw [if_pos rfl, if_pos (by omega)] | rw [if_neg (by omega)]))
  · obtain ⟨z0, h0, h1, h2⟩ := h.2 j y (by omega) hy
    refine ⟨z0, ?_, ?_, h2⟩
    all_goals (repeat' rw [if_neg (by omega)])
    all_goals assumption
set_option maxRecDepth 100000 in
set_option maxHeartbeats 1600000 in
theorem toCertS_any (v : Value) (xs : List Cx) (w : World) (h : RowC w v xs) (hl : xs.length ≤ 1048576) (hw : ∀ x ∈ xs, CZ 1048576 x) :
    Calls Tryz.prog 100 #[v] w fun e w' => ∃ v', e = .returned v' ∧ RowCA w.heap.size w' v' xs ∧ Below w.heap.size w w' := by
  have HR : Hid (RowC w v xs ∧ ∀ x ∈ xs, CZ 1048576 x) := ⟨h, hw⟩
  obtain ⟨a, cap, rfl⟩ := RowG.slice h
  clear h hw
  obtain ⟨i0, hi, hz0, hz1, hz2⟩ := info_parts info_toCertS
  have hmk := run_make (P := Tryz.prog) w 53 87 i0 (.agg #[.string ⟨#[]⟩, .slice none 0 0]) Tryz.underlying53 hi hz0 .i64 .i64 (xs.length : Int) (xs.length : Int) (by omega) (by omega) (by rw [hz2]; omega) (by omega)
  have hA0 : CoptoCertS (w.heap.size + 1) (w.alloc (.cells (madeCells (Value.agg #[.string ⟨#[]⟩, .slice none 0 0]).cells ((xs.length : Int).toNat * i0.size)) 87)) xs 0 (madeCells (Value.agg #[.string ⟨#[]⟩, .slice none 0 0]).cells ((xs.length : Int).toNat * i0.size)) := ⟨by rw [hz1]; simp [madeCells, Value.cells], fun j x hj => absurd hj (by omega)⟩
  generalize madeCells (Value.agg #[.string ⟨#[]⟩, .slice none 0 0]).cells ((xs.length : Int).toNat * i0.size) = A0 at hmk hA0
  rw [Int.toNat_natCast] at hmk
  have HA0 : Hid (CoptoCertS (w.heap.size + 1) (w.alloc (.cells A0 87)) xs 0 A0) := hA0
  clear hA0
  go_enter Tryz.func100, Tryz.ntmps100
  go_wp2_with fail
  clear hmk
  go_loopw [4] (fun i wr => ∃ k : Nat, ∃ A : Array Value, k ≤ xs.length ∧ i = .int .i64 k ∧ Hid (wr.heap[w.heap.size]? = some (.cells A 87 (0, 0)) ∧ CoptoCertS (w.heap.size + 1) wr xs k A ∧ Below w.heap.size w wr)) (fun i _ => xs.length - (intOf i).toNat)
  case atStart => exact ⟨0, A0, by omega, rfl, ⟨heap_alloc_new w _, HA0.out, bel_new _ _⟩⟩
  case round =>
    clear HA0
    obtain ⟨k, A, hk, rfl, HA⟩ := hrel
    by_cases hlt : k < xs.length
    · obtain ⟨x, hx⟩ := Rg.get_at hlt
      obtain ⟨b, off, rfl, hbl, u1, c0, c1, r0⟩ := RowG.at (HR.out.1.below HA.out.2.2) rfl hx
      have HX : Hid (xs[k]? = some x) := hx
      have HY : Hid (Row wr u1 x.ms) := r0
      have hzx := HR.out.2 _ (mem_at hx)
      have HZ : Hid (CZ 1048576 x) := hzx
      clear hx hzx r0
      go_wp2_with fail
      refine (toCert_any x u1 wr HY.out HZ.out.2.1).mono ?_
      rintro e w2 ⟨y0, rfl, r0, b2⟩
      obtain ⟨q0a, q0c, rfl⟩ := RowG.slice r0
      have hg := (Array.getElem?_eq_some_iff.1 HA.out.1).1
      have HA2 : Hid (w2.heap[w.heap.size]? = some (.cells A 87 (0, 0)) ∧ CoptoCertS (w.heap.size + 1) w2 xs k A ∧ Below w.heap.size w w2) := ⟨(b2.block _ hg).trans HA.out.1, HA.out.2.1.keep (Abv.of b2), HA.out.2.2.trans (b2.mono HA.out.2.2.size)⟩
      have HQ0 : Hid (RowA (w.heap.size + 1) w2 (.slice q0a x.ms.length q0c) x.ms) := r0.to (Abv.refl _ _) (by omega)
      clear b2 c0 c1 HA r0
      have hsz : k * 2 + 1 < A.size := by rw [HA2.out.2.1.1]; omega
      obtain ⟨d0, f0⟩ := blk_cell HA2.out.1 (k * 2) (x := A[k * 2]) (Array.getElem?_eq_getElem (by omega))
      obtain ⟨d1, f1⟩ := blk_cell HA2.out.1 (k * 2 + 1) (x := A[k * 2 + 1]) (Array.getElem?_eq_getElem (by omega))
      unfold cxV
      go_wp2_with fail
      refine ⟨⟨k + 1, ((A).setIfInBounds (k * 2) (.string x.bd)).setIfInBounds (k * 2 + 1) (.slice q0a x.ms.length q0c), by omega, by go_num, ⟨(blk_set (blk_set HA2.out.1 _ _) _ _), ?_, (Below.setCell (Below.setCell HA2.out.2.2 (p := ⟨w.heap.size, k * 2, none⟩) (Nat.le_refl _) (.string x.bd)) (p := ⟨w.heap.size, k * 2 + 1, none⟩) (Nat.le_refl _) (.slice q0a x.ms.length q0c))⟩⟩, by simp [intOf]; omega⟩
      exact (coptoCertS HA2.out.2.1 HX.out HQ0.out).keep (((Abv.refl _ _).set (Nat.lt_succ_self _) _).set (Nat.lt_succ_self _) _)
    · obtain rfl : k = xs.length := by omega
      go_wp2_with fail
      go_ret
      refine ⟨_, rfl, ⟨some ⟨w.heap.size, 0, none⟩, xs.length, rfl, .inr ⟨w.heap.size, 0, rfl, Nat.le_refl _, (Array.getElem?_eq_some_iff.1 HA.out.1).1, fun i x hi => ?_⟩⟩, HA.out.2.2⟩
      obtain ⟨u1, e0, e1, e2⟩ := HA.out.2.1.2 i x (lt_at hi) hi
      rw [Nat.zero_add]
      exact ⟨Nat.le_refl _, u1, (Joins.cell_of_block HA.out.1 _).trans e0, (Joins.cell_of_block HA.out.1 _).trans e1, e2.to (Abv.refl _ _) (by omega)⟩
set_option maxRecDepth 100000 in
set_option maxHeartbeats 1600000 in
theorem toReplica_any (r : Rp) (vs vc vl vh : Value) (w : World) (h : RepR w r vs vc vl vh) (hz : Zr 1048576 r) :
    Calls Tryz.prog 69 #[repV r vs vc vl vh] w fun e w' => ∃ us uc ul uh, e = .returned (repV r us uc ul uh) ∧ RepA w.heap.size w' r us uc ul uh ∧ Below w.heap.size w w' := by
  have HR : Hid (RepR w r vs vc vl vh) := h
  have HZ : Hid (Zr 1048576 r) := hz
  clear h hz
  unfold repV
  have HB : Hid (∀ o0 o1 o2, Below w.heap.size w (((w.alloc o0).alloc o1).alloc o2)) := fun o0 o1 o2 => (three (Below.refl _ _)).2.2.2.2
  have HS : Hid (∀ o0 o1 o2, (((w.alloc o0).alloc o1).alloc o2).heap.size = w.heap.size + 1 + 1 + 1) := fun o0 o1 o2 => by rw [Rg.size_new, Rg.size_new, Rg.size_new]
  go_enter Tryz.func69, Tryz.ntmps69
  go_wp2_with fail
  refine (toSlotS_any vs r.ss _ (HR.out.s.below (HB.out _ _ _)) HZ.out.s HZ.out.sz).mono ?_
  rintro e w1 ⟨v4, rfl, hr, b1⟩
  obtain ⟨a4, c4, rfl⟩ := RowG.slice hr
  obtain ⟨k0, k1, k2, kS, kB⟩ := three b1
  rw [HS.out] at hr
  have K0 : Hid (w1.heap[w.heap.size]? = some (.cells #[.int .i64 r.id, .int .i64 r.n, .int .i64 r.vw, .bool r.ac, vs, vc, vl, vh] 93 (0, 0))) := k0
  have K1 : Hid (w1.heap[w.heap.size + 1]? = some (.cells #[.int .i64 0, .int .i64 0, .int .i64 0, .bool false, .slice none 0 0, .slice none 0 0, .slice none 0 0, .slice none 0 0] 55 (0, 0))) := k1
  have K2 : Hid (w1.heap[w.heap.size + 1 + 1]? = some (.cells #[.int .i64 r.id, .int .i64 r.n, .int .i64 r.vw, .bool r.ac, .slice none 0 0, .slice none 0 0, .slice none 0 0, .slice none 0 0] 55 (0, 0))) := k2
  have KB : Hid (Below w.heap.size w w1) := kB
  have KZ : Hid (w.heap.size + 1 + 1 + 1 ≤ w1.heap.size) := kS
  have R4 : Hid (RowSA (w.heap.size + 1 + 1 + 1) w1 (.slice a4 r.ss.length c4) r.ss) := hr
  clear hr b1 k0 k1 k2 kS kB HB HS
  obtain ⟨s0, t0⟩ := blk_cell K2.out 4 (x := .slice none 0 0) rfl
  have L0 : Hid ((w1.setCell ⟨w.heap.size + 1 + 1, 4, none⟩ (.slice a4 r.ss.length c4)).heap[w.heap.size]? = some (.cells #[.int .i64 r.id, .int .i64 r.n, .int .i64 r.vw, .bool r.ac, vs, vc, vl, vh] 93 (0, 0))) := (blk_far (by omega) 4 (.slice a4 r.ss.length c4)).trans K0.out
  have L1 : Hid ((w1.setCell ⟨w.heap.size + 1 + 1, 4, none⟩ (.slice a4 r.ss.length c4)).heap[w.heap.size + 1]? = some (.cells #[.int .i64 0, .int .i64 0, .int .i64 0, .bool false, .slice none 0 0, .slice none 0 0, .slice none 0 0, .slice none 0 0] 55 (0, 0))) := (blk_far (by omega) 4 (.slice a4 r.ss.length c4)).trans K1.out
  have L2 : Hid ((w1.setCell ⟨w.heap.size + 1 + 1, 4, none⟩ (.slice a4 r.ss.length c4)).heap[w.heap.size + 1 + 1]? = some (.cells #[.int .i64 r.id, .int .i64 r.n, .int .i64 r.vw, .bool r.ac, .slice a4 r.ss.length c4, .slice none 0 0, .slice none 0 0, .slice none 0 0] 55 (0, 0))) := blk_set K2.out 4 (.slice a4 r.ss.length c4)
  have LB : Hid (Below w.heap.size w (w1.setCell ⟨w.heap.size + 1 + 1, 4, none⟩ (.slice a4 r.ss.length c4))) := Below.setCell KB.out (p := ⟨w.heap.size + 1 + 1, 4, none⟩) (by show _ ≤ w.heap.size + 1 + 1; omega) (.slice a4 r.ss.length c4)
  have LZ : Hid (w.heap.size + 1 + 1 + 1 ≤ (w1.setCell ⟨w.heap.size + 1 + 1, 4, none⟩ (.slice a4 r.ss.length c4)).heap.size) := by show _ ≤ _; have := KZ.out; simpa using this
  have T4 : Hid (RowSA (w.heap.size + 1 + 1 + 1) (w1.setCell ⟨w.heap.size + 1 + 1, 4, none⟩ (.slice a4 r.ss.length c4)) (.slice a4 r.ss.length c4) r.ss) := RowSA.keep R4.out ((Abv.refl _ _).set (by omega) _)
  clear K0 K1 K2 KB KZ R4
  go_upto_region 7 with fail
  generalize (w1.setCell ⟨w.heap.size + 1 + 1, 4, none⟩ (.slice a4 r.ss.length c4)) = w2 at L0 L1 L2 LB LZ T4 ⊢
  clear s0 t0
  have K0 := L0
  have K1 := L1
  have K2 := L2
  have KB := LB
  have KZ := LZ
  clear L0 L1 L2 LB LZ
  have R4 := T4
  clear T4
  have x5 := (blk_cell K0.out 5 (x := vc) rfl).1
  go_wp2_with fail
  refine (toCertS_any vc r.cs w2 (HR.out.c.below KB.out) HZ.out.c HZ.out.cz).mono ?_
  rintro e w3 ⟨v5, rfl, hr, bn⟩
  obtain ⟨a5, c5, rfl⟩ := RowG.slice hr
  have R5 : Hid (RowCA (w.heap.size + 1 + 1 + 1) w3 (.slice a5 r.cs.length c5) r.cs) := RowCA.to hr (Abv.refl _ _) KZ.out
  have T4 : Hid (RowSA (w.heap.size + 1 + 1 + 1) w3 (.slice a4 r.ss.length c4) r.ss) := RowSA.keep R4.out (Abv.of bn)
  clear R4
  have R4 := T4
  clear T4
  have L0 : Hid (w3.heap[w.heap.size]? = some (.cells #[.int .i64 r.id, .int .i64 r.n, .int .i64 r.vw, .bool r.ac, vs, vc, vl, vh] 93 (0, 0))) := (bn.block _ (by have := KZ.out; omega)).trans K0.out
  have L1 : Hid (w3.heap[w.heap.size + 1]? = some (.cells #[.int .i64 0, .int .i64 0, .int .i64 0, .bool false, .slice none 0 0, .slice none 0 0, .slice none 0 0, .slice none 0 0] 55 (0, 0))) := (bn.block _ (by have := KZ.out; omega)).trans K1.out
  have L2 : Hid (w3.heap[w.heap.size + 1 + 1]? = some (.cells #[.int .i64 r.id, .int .i64 r.n, .int .i64 r.vw, .bool r.ac, .slice a4 r.ss.length c4, .slice none 0 0, .slice none 0 0, .slice none 0 0] 55 (0, 0))) := (bn.block _ (by have := KZ.out; omega)).trans K2.out
  have LB : Hid (Below w.heap.size w w3) := KB.out.trans (bn.mono KB.out.size)
  have LZ : Hid (w.heap.size + 1 + 1 + 1 ≤ w3.heap.size) := Nat.le_trans KZ.out bn.size
  clear hr bn K0 K1 K2 KB KZ x5
  have K0 := L0
  have K1 := L1
  have K2 := L2
  have KB := LB
  have KZ := LZ
  clear L0 L1 L2 LB LZ
  obtain ⟨s0, t0⟩ := blk_cell K2.out 5 (x := .slice none 0 0) rfl
  have L0 : Hid ((w3.setCell ⟨w.heap.size + 1 + 1, 5, none⟩ (.slice a5 r.cs.length c5)).heap[w.heap.size]? = some (.cells #[.int .i64 r.id, .int .i64 r.n, .int .i64 r.vw, .bool r.ac, vs, vc, vl, vh] 93 (0, 0))) := (blk_far (by omega) 5 (.slice a5 r.cs.length c5)).trans K0.out
  have L1 : Hid ((w3.setCell ⟨w.heap.size + 1 + 1, 5, none⟩ (.slice a5 r.cs.length c5)).heap[w.heap.size + 1]? = some (.cells #[.int .i64 0, .int .i64 0, .int .i64 0, .bool false, .slice none 0 0, .slice none 0 0, .slice none 0 0, .slice none 0 0] 55 (0, 0))) := (blk_far (by omega) 5 (.slice a5 r.cs.length c5)).trans K1.out
  have L2 : Hid ((w3.setCell ⟨w.heap.size + 1 + 1, 5, none⟩ (.slice a5 r.cs.length c5)).heap[w.heap.size + 1 + 1]? = some (.cells #[.int .i64 r.id, .int .i64 r.n, .int .i64 r.vw, .bool r.ac, .slice a4 r.ss.length c4, .slice a5 r.cs.length c5, .slice none 0 0, .slice none 0 0] 55 (0, 0))) := blk_set K2.out 5 (.slice a5 r.cs.length c5)
  have LB : Hid (Below w.heap.size w (w3.setCell ⟨w.heap.size + 1 + 1, 5, none⟩ (.slice a5 r.cs.length c5))) := Below.setCell KB.out (p := ⟨w.heap.size + 1 + 1, 5, none⟩) (by show _ ≤ w.heap.size + 1 + 1; omega) (.slice a5 r.cs.length c5)
  have LZ : Hid (w.heap.size + 1 + 1 + 1 ≤ (w3.setCell ⟨w.heap.size + 1 + 1, 5, none⟩ (.slice a5 r.cs.length c5)).heap.size) := by show _ ≤ _; have := KZ.out; simpa using this
  have T4 : Hid (RowSA (w.heap.size + 1 + 1 + 1) (w3.setCell ⟨w.heap.size + 1 + 1, 5, none⟩ (.slice a5 r.cs.length c5)) (.slice a4 r.ss.length c4) r.ss) := RowSA.keep R4.out ((Abv.refl _ _).set (by omega) _)
  have T5 : Hid (RowCA (w.heap.size + 1 + 1 + 1) (w3.setCell ⟨w.heap.size + 1 + 1, 5, none⟩ (.slice a5 r.cs.length c5)) (.slice a5 r.cs.length c5) r.cs) := RowCA.keep R5.out ((Abv.refl _ _).set (by omega) _)
  clear K0 K1 K2 KB KZ R4 R5
  go_upto_region 8 with fail
  generalize (w3.setCell ⟨w.heap.size + 1 + 1, 5, none⟩ (.slice a5 r.cs.length c5)) = w4 at L0 L1 L2 LB LZ T4 T5 ⊢
  clear s0 t0
  have K0 := L0
  have K1 := L1
  have K2 := L2
  have KB := LB
  have KZ := LZ
  clear L0 L1 L2 LB LZ
  have R4 := T4
  clear T4
  have R5 := T5
  clear T5
  have x6 := (blk_cell K0.out 6 (x := vl) rfl).1
  go_wp2_with fail
  refine (toStringS_any vl r.lg w4 (HR.out.l.below KB.out) HZ.out.l).mono ?_
  rintro e w5 ⟨v6, rfl, hr, bn⟩
  obtain ⟨a6, c6, rfl⟩ := ownT_slice hr
  have R6 : Hid (OwnT (w5) (w.heap.size + 1 + 1 + 1) (.slice a6 r.lg.length c6) r.lg) := ownT_to hr (Abv.refl _ _) KZ.out
  have T4 : Hid (RowSA (w.heap.size + 1 + 1 + 1) w5 (.slice a4 r.ss.length c4) r.ss) := RowSA.keep R4.out (Abv.of bn)
  clear R4
  have R4 := T4
  clear T4
  have T5 : Hid (RowCA (w.heap.size + 1 + 1 + 1) w5 (.slice a5 r.cs.length c5) r.cs) := RowCA.keep R5.out (Abv.of bn)
  clear R5
  have R5 := T5
  clear T5
  have L0 : Hid (w5.heap[w.heap.size]? = some (.cells #[.int .i64 r.id, .int .i64 r.n, .int .i64 r.vw, .bool r.ac, vs, vc, vl, vh] 93 (0, 0))) := (bn.block _ (by have := KZ.out; omega)).trans K0.out
  have L1 : Hid (w5.heap[w.heap.size + 1]? = some (.cells #[.int .i64 0, .int .i64 0, .int .i64 0, .bool false, .slice none 0 0, .slice none 0 0, .slice none 0 0, .slice none 0 0] 55 (0, 0))) := (bn.block _ (by have := KZ.out; omega)).trans K1.out
  have L2 : Hid (w5.heap[w.heap.size + 1 + 1]? = some (.cells #[.int .i64 r.id, .int .i64 r.n, .int .i64 r.vw, .bool r.ac, .slice a4 r.ss.length c4, .slice a5 r.cs.length c5, .slice none 0 0, .slice none 0 0] 55 (0, 0))) := (bn.block _ (by have := KZ.out; omega)).trans K2.out
  have LB : Hid (Below w.heap.size w w5) := KB.out.trans (bn.mono KB.out.size)
  have LZ : Hid (w.heap.size + 1 + 1 + 1 ≤ w5.heap.size) := Nat.le_trans KZ.out bn.size
  clear hr bn K0 K1 K2 KB KZ x6
  have K0 := L0
  have K1 := L1
  have K2 := L2
  have KB := LB
  have KZ := LZ
  clear L0 L1 L2 LB LZ
  obtain ⟨s0, t0⟩ := blk_cell K2.out 6 (x := .slice none 0 0) rfl
  have L0 : Hid ((w5.setCell ⟨w.heap.size + 1 + 1, 6, none⟩ (.slice a6 r.lg.length c6)).heap[w.heap.size]? = some (.cells #[.int .i64 r.id, .int .i64 r.n, .int .i64 r.vw, .bool r.ac, vs, vc, vl, vh] 93 (0, 0))) := (blk_far (by omega) 6 (.slice a6 r.lg.length c6)).trans K0.out
  have L1 : Hid ((w5.setCell ⟨w.heap.size + 1 + 1, 6, none⟩ (.slice a6 r.lg.length c6)).heap[w.heap.size + 1]? = some (.cells #[.int .i64 0, .int .i64 0, .int .i64 0, .bool false, .slice none 0 0, .slice none 0 0, .slice none 0 0, .slice none 0 0] 55 (0, 0))) := (blk_far (by omega) 6 (.slice a6 r.lg.length c6)).trans K1.out
  have L2 : Hid ((w5.setCell ⟨w.heap.size + 1 + 1, 6, none⟩ (.slice a6 r.lg.length c6)).heap[w.heap.size + 1 + 1]? = some (.cells #[.int .i64 r.id, .int .i64 r.n, .int .i64 r.vw, .bool r.ac, .slice a4 r.ss.length c4, .slice a5 r.cs.length c5, .slice a6 r.lg.length c6, .slice none 0 0] 55 (0, 0))) := blk_set K2.out 6 (.slice a6 r.lg.length c6)
  have LB : Hid (Below w.heap.size w (w5.setCell ⟨w.heap.size + 1 + 1, 6, none⟩ (.slice a6 r.lg.length c6))) := Below.setCell KB.out (p := ⟨w.heap.size + 1 + 1, 6, none⟩) (by show _ ≤ w.heap.size + 1 + 1; omega) (.slice a6 r.lg.length c6)
  have LZ : Hid (w.heap.size + 1 + 1 + 1 ≤ (w5.setCell ⟨w.heap.size + 1 + 1, 6, none⟩ (.slice a6 r.lg.length c6)).heap.size) := by show _ ≤ _; have := KZ.out; simpa using this
  have T4 : Hid (RowSA (w.heap.size + 1 + 1 + 1) (w5.setCell ⟨w.heap.size + 1 + 1, 6, none⟩ (.slice a6 r.lg.length c6)) (.slice a4 r.ss.length c4) r.ss) := RowSA.keep R4.out ((Abv.refl _ _).set (by omega) _)
  have T5 : Hid (RowCA (w.heap.size + 1 + 1 + 1) (w5.setCell ⟨w.heap.size + 1 + 1, 6, none⟩ (.slice a6 r.lg.length c6)) (.slice a5 r.cs.length c5) r.cs) := RowCA.keep R5.out ((Abv.refl _ _).set (by omega) _)
  have T6 : Hid (OwnT ((w5.setCell ⟨w.heap.size + 1 + 1, 6, none⟩ (.slice a6 r.lg.length c6))) (w.heap.size + 1 + 1 + 1) (.slice a6 r.lg.length c6) r.lg) := ownT_keep R6.out ((Abv.refl _ _).set (by omega) _)
  clear K0 K1 K2 KB KZ R4 R5 R6
  go_upto_region 9 with fail
  generalize (w5.setCell ⟨w.heap.size + 1 + 1, 6, none⟩ (.slice a6 r.lg.length c6)) = w6 at L0 L1 L2 LB LZ T4 T5 T6 ⊢
  clear s0 t0
  have K0 := L0
  have K1 := L1
  have K2 := L2
  have KB := LB
  have KZ := LZ
  clear L0 L1 L2 LB LZ
  have R4 := T4
  clear T4
  have R5 := T5
  clear T5
  have R6 := T6
  clear T6
  have x7 := (blk_cell K0.out 7 (x := vh) rfl).1
  go_wp2_with fail
  refine (toM_any vh r.ch w6 (HR.out.h.below KB.out) HZ.out.h).mono ?_
  rintro e w7 ⟨v7, rfl, hr, bn⟩
  obtain ⟨a7, c7, rfl⟩ := RowG.slice hr
  have R7 : Hid (RowA (w.heap.size + 1 + 1 + 1) w7 (.slice a7 r.ch.length c7) r.ch) := RowA.to hr (Abv.refl _ _) KZ.out
  have T4 : Hid (RowSA (w.heap.size + 1 + 1 + 1) w7 (.slice a4 r.ss.length c4) r.ss) := RowSA.keep R4.out (Abv.of bn)
  clear R4
  have R4 := T4
  clear T4
  have T5 : Hid (RowCA (w.heap.size + 1 + 1 + 1) w7 (.slice a5 r.cs.length c5) r.cs) := RowCA.keep R5.out (Abv.of bn)
  clear R5
  have R5 := T5
  clear T5
  have T6 : Hid (OwnT (w7) (w.heap.size + 1 + 1 + 1) (.slice a6 r.lg.length c6) r.lg) := ownT_keep R6.out (Abv.of bn)
  clear R6
  have R6 := T6
  clear T6
  have L0 : Hid (w7.heap[w.heap.size]? = some (.cells #[.int .i64 r.id, .int .i64 r.n, .int .i64 r.vw, .bool r.ac, vs, vc, vl, vh] 93 (0, 0))) := (bn.block _ (by have := KZ.out; omega)).trans K0.out
  have L1 : Hid (w7.heap[w.heap.size + 1]? = some (.cells #[.int .i64 0, .int .i64 0, .int .i64 0, .bool false, .slice none 0 0, .slice none 0 0, .slice none 0 0, .slice none 0 0] 55 (0, 0))) := (bn.block _ (by have := KZ.out; omega)).trans K1.out
  have L2 : Hid (w7.heap[w.heap.size + 1 + 1]? = some (.cells #[.int .i64 r.id, .int .i64 r.n, .int .i64 r.vw, .bool r.ac, .slice a4 r.ss.length c4, .slice a5 r.cs.length c5, .slice a6 r.lg.length c6, .slice none 0 0] 55 (0, 0))) := (bn.block _ (by have := KZ.out; omega)).trans K2.out
  have LB : Hid (Below w.heap.size w w7) := KB.out.trans (bn.mono KB.out.size)
  have LZ : Hid (w.heap.size + 1 + 1 + 1 ≤ w7.heap.size) := Nat.le_trans KZ.out bn.size
  clear hr bn K0 K1 K2 KB KZ x7
  have K0 := L0
  have K1 := L1
  have K2 := L2
  have KB := LB
  have KZ := LZ
  clear L0 L1 L2 LB LZ
  obtain ⟨s0, t0⟩ := blk_cell K2.out 7 (x := .slice none 0 0) rfl
  have L0 : Hid ((w7.setCell ⟨w.heap.size + 1 + 1, 7, none⟩ (.slice a7 r.ch.length c7)).heap[w.heap.size]? = some (.cells #[.int .i64 r.id, .int .i64 r.n, .int .i64 r.vw, .bool r.ac, vs, vc, vl, vh] 93 (0, 0))) := (blk_far (by omega) 7 (.slice a7 r.ch.length c7)).trans K0.out
  have L1 : Hid ((w7.setCell ⟨w.heap.size + 1 + 1, 7, none⟩ (.slice a7 r.ch.length c7)).heap[w.heap.size + 1]? = some (.cells #[.int .i64 0, .int .i64 0, .int .i64 0, .bool false, .slice none 0 0, .slice none 0 0, .slice none 0 0, .slice none 0 0] 55 (0, 0))) := (blk_far (by omega) 7 (.slice a7 r.ch.length c7)).trans K1.out
  have L2 : Hid ((w7.setCell ⟨w.heap.size + 1 + 1, 7, none⟩ (.slice a7 r.ch.length c7)).heap[w.heap.size + 1 + 1]? = some (.cells #[.int .i64 r.id, .int .i64 r.n, .int .i64 r.vw, .bool r.ac, .slice a4 r.ss.length c4, .slice a5 r.cs.length c5, .slice a6 r.lg.length c6, .slice a7 r.ch.length c7] 55 (0, 0))) := blk_set K2.out 7 (.slice a7 r.ch.length c7)
  have LB : Hid (Below w.heap.size w (w7.setCell ⟨w.heap.size + 1 + 1, 7, none⟩ (.slice a7 r.ch.length c7))) := Below.setCell KB.out (p := ⟨w.heap.size + 1 + 1, 7, none⟩) (by show _ ≤ w.heap.size + 1 + 1; omega) (.slice a7 r.ch.length c7)
  have LZ : Hid (w.heap.size + 1 + 1 + 1 ≤ (w7.setCell ⟨w.heap.size + 1 + 1, 7, none⟩ (.slice a7 r.ch.length c7)).heap.size) := by show _ ≤ _; have := KZ.out; simpa using this
  have T4 : Hid (RowSA (w.heap.size + 1 + 1 + 1) (w7.setCell ⟨w.heap.size + 1 + 1, 7, none⟩ (.slice a7 r.ch.length c7)) (.slice a4 r.ss.length c4) r.ss) := RowSA.keep R4.out ((Abv.refl _ _).set (by omega) _)
  have T5 : Hid (RowCA (w.heap.size + 1 + 1 + 1) (w7.setCell ⟨w.heap.size + 1 + 1, 7, none⟩ (.slice a7 r.ch.length c7)) (.slice a5 r.cs.length c5) r.cs) := RowCA.keep R5.out ((Abv.refl _ _).set (by omega) _)
  have T6 : Hid (OwnT ((w7.setCell ⟨w.heap.size + 1 + 1, 7, none⟩ (.slice a7 r.ch.length c7))) (w.heap.size + 1 + 1 + 1) (.slice a6 r.lg.length c6) r.lg) := ownT_keep R6.out ((Abv.refl _ _).set (by omega) _)
  have T7 : Hid (RowA (w.heap.size + 1 + 1 + 1) (w7.setCell ⟨w.heap.size + 1 + 1, 7, none⟩ (.slice a7 r.ch.length c7)) (.slice a7 r.ch.length c7) r.ch) := RowA.keep R7.out ((Abv.refl _ _).set (by omega) _)
  clear K0 K1 K2 KB KZ R4 R5 R6 R7
  go_upto_region 10 with fail
  generalize (w7.setCell ⟨w.heap.size + 1 + 1, 7, none⟩ (.slice a7 r.ch.length c7)) = w8 at L0 L1 L2 LB LZ T4 T5 T6 T7 ⊢
  clear s0 t0
  have K0 := L0
  have K1 := L1
  have K2 := L2
  have KB := LB
  have KZ := LZ
  clear L0 L1 L2 LB LZ
  have R4 := T4
  clear T4
  have R5 := T5
  clear T5
  have R6 := T6
  clear T6
  have R7 := T7
  clear T7
  have p0 := (blk_cell K2.out 0 (x := .int .i64 r.id) rfl).1
  have p1 := (blk_cell K2.out 1 (x := .int .i64 r.n) rfl).1
  have p2 := (blk_cell K2.out 2 (x := .int .i64 r.vw) rfl).1
  have p3 := (blk_cell K2.out 3 (x := .bool r.ac) rfl).1
  have p4 := (blk_cell K2.out 4 (x := .slice a4 r.ss.length c4) rfl).1
  have p5 := (blk_cell K2.out 5 (x := .slice a5 r.cs.length c5) rfl).1
  have p6 := (blk_cell K2.out 6 (x := .slice a6 r.lg.length c6) rfl).1
  have p7 := (blk_cell K2.out 7 (x := .slice a7 r.ch.length c7) rfl).1
  obtain ⟨m0, n0⟩ := blk_cell K1.out 0 (x := .int .i64 0) rfl
  obtain ⟨m1, n1⟩ := blk_cell K1.out 1 (x := .int .i64 0) rfl
  obtain ⟨m2, n2⟩ := blk_cell K1.out 2 (x := .int .i64 0) rfl
  obtain ⟨m3, n3⟩ := blk_cell K1.out 3 (x := .bool false) rfl
  obtain ⟨m4, n4⟩ := blk_cell K1.out 4 (x := .slice none 0 0) rfl
  obtain ⟨m5, n5⟩ := blk_cell K1.out 5 (x := .slice none 0 0) rfl
  obtain ⟨m6, n6⟩ := blk_cell K1.out 6 (x := .slice none 0 0) rfl
  obtain ⟨m7, n7⟩ := blk_cell K1.out 7 (x := .slice none 0 0) rfl
  have AF : ((((((((w8.setCell ⟨w.heap.size + 1, 0, none⟩ (.int .i64 r.id)).setCell ⟨w.heap.size + 1, 1, none⟩ (.int .i64 r.n)).setCell ⟨w.heap.size + 1, 2, none⟩ (.int .i64 r.vw)).setCell ⟨w.heap.size + 1, 3, none⟩ (.bool r.ac)).setCell ⟨w.heap.size + 1, 4, none⟩ (.slice a4 r.ss.length c4)).setCell ⟨w.heap.size + 1, 5, none⟩ (.slice a5 r.cs.length c5)).setCell ⟨w.heap.size + 1, 6, none⟩ (.slice a6 r.lg.length c6)).setCell ⟨w.heap.size + 1, 7, none⟩ (.slice a7 r.ch.length c7)).heap[w.heap.size + 1]? = some (.cells #[.int .i64 r.id, .int .i64 r.n, .int .i64 r.vw, .bool r.ac, .slice a4 r.ss.length c4, .slice a5 r.cs.length c5, .slice a6 r.lg.length c6, .slice a7 r.ch.length c7] 55 (0, 0)) := (blk_set (blk_set (blk_set (blk_set (blk_set (blk_set (blk_set (blk_set K1.out 0 (.int .i64 r.id)) 1 (.int .i64 r.n)) 2 (.int .i64 r.vw)) 3 (.bool r.ac)) 4 (.slice a4 r.ss.length c4)) 5 (.slice a5 r.cs.length c5)) 6 (.slice a6 r.lg.length c6)) 7 (.slice a7 r.ch.length c7))
  have T4 : Hid (RowSA (w.heap.size + 1 + 1 + 1) ((((((((w8.setCell ⟨w.heap.size + 1, 0, none⟩ (.int .i64 r.id)).setCell ⟨w.heap.size + 1, 1, none⟩ (.int .i64 r.n)).setCell ⟨w.heap.size + 1, 2, none⟩ (.int .i64 r.vw)).setCell ⟨w.heap.size + 1, 3, none⟩ (.bool r.ac)).setCell ⟨w.heap.size + 1, 4, none⟩ (.slice a4 r.ss.length c4)).setCell ⟨w.heap.size + 1, 5, none⟩ (.slice a5 r.cs.length c5)).setCell ⟨w.heap.size + 1, 6, none⟩ (.slice a6 r.lg.length c6)).setCell ⟨w.heap.size + 1, 7, none⟩ (.slice a7 r.ch.length c7)) (.slice a4 r.ss.length c4) r.ss) := RowSA.keep R4.out (((((((((Abv.refl _ _).set (by omega) _).set (by omega) _).set (by omega) _).set (by omega) _).set (by omega) _).set (by omega) _).set (by omega) _).set (by omega) _)
  have T5 : Hid (RowCA (w.heap.size + 1 + 1 + 1) ((((((((w8.setCell ⟨w.heap.size + 1, 0, none⟩ (.int .i64 r.id)).setCell ⟨w.heap.size + 1, 1, none⟩ (.int .i64 r.n)).setCell ⟨w.heap.size + 1, 2, none⟩ (.int .i64 r.vw)).setCell ⟨w.heap.size + 1, 3, none⟩ (.bool r.ac)).setCell ⟨w.heap.size + 1, 4, none⟩ (.slice a4 r.ss.length c4)).setCell ⟨w.heap.size + 1, 5, none⟩ (.slice a5 r.cs.length c5)).setCell ⟨w.heap.size + 1, 6, none⟩ (.slice a6 r.lg.length c6)).setCell ⟨w.heap.size + 1, 7, none⟩ (.slice a7 r.ch.length c7)) (.slice a5 r.cs.length c5) r.cs) := RowCA.keep R5.out (((((((((Abv.refl _ _).set (by omega) _).set (by omega) _).set (by omega) _).set (by omega) _).set (by omega) _).set (by omega) _).set (by omega) _).set (by omega) _)
  have T6 : Hid (OwnT (((((((((w8.setCell ⟨w.heap.size + 1, 0, none⟩ (.int .i64 r.id)).setCell ⟨w.heap.size + 1, 1, none⟩ (.int .i64 r.n)).setCell ⟨w.heap.size + 1, 2, none⟩ (.int .i64 r.vw)).setCell ⟨w.heap.size + 1, 3, none⟩ (.bool r.ac)).setCell ⟨w.heap.size + 1, 4, none⟩ (.slice a4 r.ss.length c4)).setCell ⟨w.heap.size + 1, 5, none⟩ (.slice a5 r.cs.length c5)).setCell ⟨w.heap.size + 1, 6, none⟩ (.slice a6 r.lg.length c6)).setCell ⟨w.heap.size + 1, 7, none⟩ (.slice a7 r.ch.length c7))) (w.heap.size + 1 + 1 + 1) (.slice a6 r.lg.length c6) r.lg) := ownT_keep R6.out (((((((((Abv.refl _ _).set (by omega) _).set (by omega) _).set (by omega) _).set (by omega) _).set (by omega) _).set (by omega) _).set (by omega) _).set (by omega) _)
  have T7 : Hid (RowA (w.heap.size + 1 + 1 + 1) ((((((((w8.setCell ⟨w.heap.size + 1, 0, none⟩ (.int .i64 r.id)).setCell ⟨w.heap.size + 1, 1, none⟩ (.int .i64 r.n)).setCell ⟨w.heap.size + 1, 2, none⟩ (.int .i64 r.vw)).setCell ⟨w.heap.size + 1, 3, none⟩ (.bool r.ac)).setCell ⟨w.heap.size + 1, 4, none⟩ (.slice a4 r.ss.length c4)).setCell ⟨w.heap.size + 1, 5, none⟩ (.slice a5 r.cs.length c5)).setCell ⟨w.heap.size + 1, 6, none⟩ (.slice a6 r.lg.length c6)).setCell ⟨w.heap.size + 1, 7, none⟩ (.slice a7 r.ch.length c7)) (.slice a7 r.ch.length c7) r.ch) := RowA.keep R7.out (((((((((Abv.refl _ _).set (by omega) _).set (by omega) _).set (by omega) _).set (by omega) _).set (by omega) _).set (by omega) _).set (by omega) _).set (by omega) _)
  have GF : Hid (Below w.heap.size w ((((((((w8.setCell ⟨w.heap.size + 1, 0, none⟩ (.int .i64 r.id)).setCell ⟨w.heap.size + 1, 1, none⟩ (.int .i64 r.n)).setCell ⟨w.heap.size + 1, 2, none⟩ (.int .i64 r.vw)).setCell ⟨w.heap.size + 1, 3, none⟩ (.bool r.ac)).setCell ⟨w.heap.size + 1, 4, none⟩ (.slice a4 r.ss.length c4)).setCell ⟨w.heap.size + 1, 5, none⟩ (.slice a5 r.cs.length c5)).setCell ⟨w.heap.size + 1, 6, none⟩ (.slice a6 r.lg.length c6)).setCell ⟨w.heap.size + 1, 7, none⟩ (.slice a7 r.ch.length c7))) := (Below.setCell (Below.setCell (Below.setCell (Below.setCell (Below.setCell (Below.setCell (Below.setCell (Below.setCell KB.out (p := ⟨w.heap.size + 1, 0, none⟩) (by show _ ≤ w.heap.size + 1; omega) (.int .i64 r.id)) (p := ⟨w.heap.size + 1, 1, none⟩) (by show _ ≤ w.heap.size + 1; omega) (.int .i64 r.n)) (p := ⟨w.heap.size + 1, 2, none⟩) (by show _ ≤ w.heap.size + 1; omega) (.int .i64 r.vw)) (p := ⟨w.heap.size + 1, 3, none⟩) (by show _ ≤ w.heap.size + 1; omega) (.bool r.ac)) (p := ⟨w.heap.size + 1, 4, none⟩) (by show _ ≤ w.heap.size + 1; omega) (.slice a4 r.ss.length c4)) (p := ⟨w.heap.size + 1, 5, none⟩) (by show _ ≤ w.heap.size + 1; omega) (.slice a5 r.cs.length c5)) (p := ⟨w.heap.size + 1, 6, none⟩) (by show _ ≤ w.heap.size + 1; omega) (.slice a6 r.lg.length c6)) (p := ⟨w.heap.size + 1, 7, none⟩) (by show _ ≤ w.heap.size + 1; omega) (.slice a7 r.ch.length c7))
  clear K0 K1 K2 KB KZ R4 R5 R6 R7
  go_wp2_with fail
  generalize ((((((((w8.setCell ⟨w.heap.size + 1, 0, none⟩ (.int .i64 r.id)).setCell ⟨w.heap.size + 1, 1, none⟩ (.int .i64 r.n)).setCell ⟨w.heap.size + 1, 2, none⟩ (.int .i64 r.vw)).setCell ⟨w.heap.size + 1, 3, none⟩ (.bool r.ac)).setCell ⟨w.heap.size + 1, 4, none⟩ (.slice a4 r.ss.length c4)).setCell ⟨w.heap.size + 1, 5, none⟩ (.slice a5 r.cs.length c5)).setCell ⟨w.heap.size + 1, 6, none⟩ (.slice a6 r.lg.length c6)).setCell ⟨w.heap.size + 1, 7, none⟩ (.slice a7 r.ch.length c7)) = wf at AF GF T4 T5 T6 T7 ⊢
  have d0 := (blk_cell AF 0 (x := .int .i64 r.id) rfl).1
  have d1 := (blk_cell AF 1 (x := .int .i64 r.n) rfl).1
  have d2 := (blk_cell AF 2 (x := .int .i64 r.vw) rfl).1
  have d3 := (blk_cell AF 3 (x := .bool r.ac) rfl).1
  have d4 := (blk_cell AF 4 (x := .slice a4 r.ss.length c4) rfl).1
  have d5 := (blk_cell AF 5 (x := .slice a5 r.cs.length c5) rfl).1
  have d6 := (blk_cell AF 6 (x := .slice a6 r.lg.length c6) rfl).1
  have d7 := (blk_cell AF 7 (x := .slice a7 r.ch.length c7) rfl).1
  exact bodyPost_ret (v := repV r (.slice a4 r.ss.length c4) (.slice a5 r.cs.length c5) (.slice a6 r.lg.length c6) (.slice a7 r.ch.length c7)) (by simp [repV, results, Tryz.results69, go_sem, d0, d1, d2, d3, d4, d5, d6, d7]) rfl ⟨_, _, _, _, rfl, ⟨RowSA.to T4.out (Abv.refl _ _) (by omega), RowCA.to T5.out (Abv.refl _ _) (by omega), ownT_to T6.out (Abv.refl _ _) (by omega), RowA.to T7.out (Abv.refl _ _) (by omega)⟩, GF.out⟩
end Go.Proofs.YtondmbeccpekiaaGreatDoor.Yr
