/- Marks on slots and certificates in new memory. -/
import Derived.Test.YtdhmmbbdckahmaaNr
import Derived.Test.YtdhmmbbdckahmaaTakeReq
namespace Go.Proofs.Ytdhmmbbdckahmaa.Nr
open Go.RowKit Go.Proofs.Ytdhmmbbdckahmaa.Rg
open Go.Proofs.Ytdhmmbbdckahmaa.Rr (grown_set grown_trans grown_refl grown_alloc)

theorem get_set {A : Array Value} {i j : Nat} {x y : Value} (h : A[j]? = some y) : (A.setIfInBounds i x)[j]? = some (if i = j then x else y) := by
  have hj := (Array.getElem?_eq_some_iff.1 h).1
  rw [Array.getElem?_setIfInBounds]
  by_cases e : i = j
  · rw [if_pos e, if_pos e, if_pos (by rw [e]; exact hj)]
  · rw [if_neg e, if_neg e, h]
theorem grown_of {w w' : World} {r : Option Nat} (h : Below w.heap.size w w') : w.grownBy w' r := ⟨h.os, h.tape, h.output, h.size, fun k hk _ => h.block k hk⟩
def b3 (k : Int) : Bool := k % 3 == 0
/-- What a mark makes of the j-th slot. -/
def mf (a : Nat) (j : Nat) : ByteArray × Bool × Bool := (mtext (a + 3 * j), b3 (((a + 3 * j : Nat) : Int) + 1), b3 (((a + 3 * j : Nat) : Int) + 1 + 1))
def upd {α : Type} (f : Nat → α) (q : Nat) (y : α) : Nat → α := fun j => if j = q then y else f j
theorem upd_q {α : Type} (f : Nat → α) (q : Nat) (y : α) : upd f q y q = y := if_pos rfl
theorem upd_o {α : Type} (f : Nat → α) {q j : Nat} (y : α) (h : j ≠ q) : upd f q y j = f j := if_neg h
/-- Block g holds m slots with nothing but a body and two signs. -/
def MS (w : World) (g m : Nat) (f : Nat → ByteArray × Bool × Bool) : Prop := ∃ A, w.heap[g]? = some (.cells A 112 (0, 0)) ∧ ∀ i, i < m → A[i * 5]? = some (.string (f i).1) ∧ A[i * 5 + 1]? = some (.slice none 0 0) ∧ A[i * 5 + 2]? = some (.slice none 0 0) ∧ A[i * 5 + 3]? = some (.bool (f i).2.1) ∧ A[i * 5 + 4]? = some (.bool (f i).2.2)
def MC (w : World) (g m : Nat) (f : Nat → ByteArray) : Prop := ∃ A, w.heap[g]? = some (.cells A 106 (0, 0)) ∧ ∀ i, i < m → A[i * 2]? = some (.string (f i)) ∧ A[i * 2 + 1]? = some (.slice none 0 0)
theorem MS.kept {w w' : World} {g m : Nat} {f : Nat → ByteArray × Bool × Bool} (h : MS w g m f) (hb : w'.heap[g]? = w.heap[g]?) : MS w' g m f := by obtain ⟨A, h1, h2⟩ := h; exact ⟨A, hb.trans h1, h2⟩
theorem MS.lt {w : World} {g m : Nat} {f : Nat → ByteArray × Bool × Bool} (h : MS w g m f) : g < w.heap.size := by obtain ⟨A, h1, _⟩ := h; exact (Array.getElem?_eq_some_iff.1 h1).1
theorem MS.below {w w' : World} {g m : Nat} {f : Nat → ByteArray × Bool × Bool} (h : MS w g m f) (hb : Below w.heap.size w w') : MS w' g m f := h.kept (hb.block g h.lt)
theorem MC.kept {w w' : World} {g m : Nat} {f : Nat → ByteArray} (h : MC w g m f) (hb : w'.heap[g]? = w.heap[g]?) : MC w' g m f := by obtain ⟨A, h1, h2⟩ := h; exact ⟨A, hb.trans h1, h2⟩
theorem MC.lt {w : World} {g m : Nat} {f : Nat → ByteArray} (h : MC w g m f) : g < w.heap.size := by obtain ⟨A, h1, _⟩ := h; exact (Array.getElem?_eq_some_iff.1 h1).1
theorem MC.below {w w' : World} {g m : Nat} {f : Nat → ByteArray} (h : MC w g m f) (hb : Below w.heap.size w w') : MC w' g m f := h.kept (hb.block g h.lt)
theorem MS.cells {w : World} {g m : Nat} {f : Nat → ByteArray × Bool × Bool} (h : MS w g m f) {i : Nat} (hi : i < m) : (w.cell? ⟨g, i * 5, none⟩ = some (.string (f i).1) ∧ w.frozen? ⟨g, i * 5, none⟩ = false) ∧ w.cell? ⟨g, i * 5 + 1, none⟩ = some (.slice none 0 0) ∧ w.cell? ⟨g, i * 5 + 2, none⟩ = some (.slice none 0 0) ∧ (w.cell? ⟨g, i * 5 + 3, none⟩ = some (.bool (f i).2.1) ∧ w.frozen? ⟨g, i * 5 + 3, none⟩ = false) ∧ w.cell? ⟨g, i * 5 + 4, none⟩ = some (.bool (f i).2.2) ∧ w.frozen? ⟨g, i * 5 + 4, none⟩ = false := by
  obtain ⟨A, h1, h2⟩ := h
  obtain ⟨a0, a1, a2, a3, a4⟩ := h2 i hi
  exact ⟨blk_cell h1 _ a0, (blk_cell h1 _ a1).1, (blk_cell h1 _ a2).1, blk_cell h1 _ a3, blk_cell h1 _ a4⟩
theorem MC.cells {w : World} {g m : Nat} {f : Nat → ByteArray} (h : MC w g m f) {i : Nat} (hi : i < m) : (w.cell? ⟨g, i * 2, none⟩ = some (.string (f i)) ∧ w.frozen? ⟨g, i * 2, none⟩ = false) ∧ w.cell? ⟨g, i * 2 + 1, none⟩ = some (.slice none 0 0) := by
  obtain ⟨A, h1, h2⟩ := h
  obtain ⟨a0, a1⟩ := h2 i hi
  exact ⟨blk_cell h1 _ a0, (blk_cell h1 _ a1).1⟩
theorem MS.set {w : World} {g m q : Nat} {f : Nat → ByteArray × Bool × Bool} (h : MS w g m f) (hq : q < m) (x : ByteArray) (y z : Bool) :
    MS (w.setCell ⟨g, q * 5, none⟩ (.string x)) g m (upd f q (x, (f q).2.1, (f q).2.2)) ∧ MS (w.setCell ⟨g, q * 5 + 3, none⟩ (.bool y)) g m (upd f q ((f q).1, y, (f q).2.2)) ∧ MS (w.setCell ⟨g, q * 5 + 4, none⟩ (.bool z)) g m (upd f q ((f q).1, (f q).2.1, z)) := by
  obtain ⟨A, h1, h2⟩ := h
  refine ⟨⟨_, blk_set h1 _ _, fun i hi => ?_⟩, ⟨_, blk_set h1 _ _, fun i hi => ?_⟩, ⟨_, blk_set h1 _ _, fun i hi => ?_⟩⟩
  all_goals
    obtain ⟨a0, a1, a2, a3, a4⟩ := h2 i hi
    rw [get_set a0, get_set a1, get_set a2, get_set a3, get_set a4]
    by_cases e : i = q
    · subst e
      rw [upd_q]
      refine ⟨?_, ?_, ?_, ?_, ?_⟩
      all_goals first | rw [if_neg (by omega)] | rw [if_pos rfl]
    · rw [upd_o _ _ e]
      refine ⟨?_, ?_, ?_, ?_, ?_⟩
      all_goals rw [if_neg (by omega)]
theorem MC.set {w : World} {g m q : Nat} {f : Nat → ByteArray} (h : MC w g m f) (_hq : q < m) (x : ByteArray) : MC (w.setCell ⟨g, q * 2, none⟩ (.string x)) g m (upd f q x) := by
  obtain ⟨A, h1, h2⟩ := h
  refine ⟨_, blk_set h1 _ _, fun i hi => ?_⟩
  obtain ⟨a0, a1⟩ := h2 i hi
  rw [get_set a0, get_set a1]
  by_cases e : i = q
  · subst e
    rw [upd_q]
    exact ⟨by rw [if_pos rfl], by rw [if_neg (by omega)]⟩
  · rw [upd_o _ _ e]
    exact ⟨by rw [if_neg (by omega)], by rw [if_neg (by omega)]⟩
set_option maxRecDepth 100000 in
set_option maxHeartbeats 1600000 in
theorem markSlots (g m cap a : Nat) (f : Nat → ByteArray × Bool × Bool) (w : World) (h : MS w g m f) (hm : m ≤ 8) (ha : a ≤ 1000) (ha0 : 0 < a) :
    Calls Try.prog 60 #[.slice (some ⟨g, 0, none⟩) m cap, .int .i64 a] w fun e w' => e = .returned (.int .i64 ((a + 3 * m : Nat) : Int)) ∧ (∃ f', MS w' g m f' ∧ ∀ j, j < m → f' j = mf a j) ∧ w.grownBy w' (some g) := by
  have H : Hid (MS w g m f) := h
  clear h
  go_enter Try.func60, Try.ntmps60
  go_wp2_with fail
  go_loopw [1, 5] (fun k i wr => ∃ (q r : Nat) (f : Nat → ByteArray × Bool × Bool), q ≤ m ∧ k = .int .i64 (r : Int) ∧ 0 < r ∧ r ≤ 2000 ∧ i = .int .i64 q ∧ Hid (r = a + 3 * q) ∧ Hid (MS wr g m f) ∧ Hid (∀ j, j < q → f j = mf a j) ∧ Hid (w.grownBy wr (some g))) (fun _ i _ => m - (intOf i).toNat)
  case atStart => exact ⟨0, a, f, by omega, rfl, ha0, by omega, rfl, (by show _ = _; omega), H, (fun j hj => absurd hj (by omega)), grown_refl _ _⟩
  case round =>
    clear H
    obtain ⟨q, r, f, hq, rfl, hr0, hr, rfl, HRR, HM, HF, HG⟩ := hrel
    by_cases hlt : q < m
    · have hp0 : (0 : Int) ≤ (q : Int) := by omega
      have hp1 : (q : Int) < (m : Int) := by omega
      go_wp2_with fail
      refine (markText_any r wr hr0 (by omega)).mono ?_
      rintro e u0 ⟨rfl, b0⟩
      have M0 := HM.out.below b0
      have G0 := grown_trans HG.out (grown_of (r := some g) b0)
      obtain ⟨mt, HMT⟩ : ∃ mt, Hid (mtext r = mt) := ⟨_, rfl⟩
      rw [HMT.out]
      obtain ⟨⟨c0, f0⟩, _⟩ := M0.cells hlt
      have M1 : Hid (MS (u0.setCell ⟨g, q * 5, none⟩ (.string mt)) g m (upd f q (mt, (f q).2.1, (f q).2.2))) := (M0.set hlt mt false false).1
      have G1 : Hid (w.grownBy (u0.setCell ⟨g, q * 5, none⟩ (.string mt)) (some g)) := grown_trans G0 (grown_set _ _)
      have HF1 : Hid (∀ j, j < q → (upd f q (mt, (f q).2.1, (f q).2.2)) j = mf a j) := fun j hj => by rw [upd_o _ _ (by omega)]; exact HF.out j hj
      have HQ1 : Hid ((upd f q (mt, (f q).2.1, (f q).2.2) q).1 = mt) := by show _ = _; rw [upd_q]
      clear M0 G0 b0 HM HG HF
      go_upto_region 5 with fail
      generalize u0.setCell ⟨g, q * 5, none⟩ (.string mt) = u1 at M1 G1 ⊢
      generalize upd f q (mt, (f q).2.1, (f q).2.2) = f1 at M1 HF1 HQ1
      clear c0 f0
      obtain ⟨_, c1, c2, ⟨c3, z3⟩, _⟩ := M1.out.cells hlt
      have M2 : Hid (MS (u1.setCell ⟨g, q * 5 + 3, none⟩ (.bool (((r : Int) + 1) % 3 == 0))) g m (upd f1 q ((f1 q).1, (((r : Int) + 1) % 3 == 0), (f1 q).2.2))) := (M1.out.set hlt ⟨#[]⟩ _ false).2.1
      have G2 : Hid (w.grownBy (u1.setCell ⟨g, q * 5 + 3, none⟩ (.bool (((r : Int) + 1) % 3 == 0))) (some g)) := grown_trans G1.out (grown_set _ _)
      have HF2 : Hid (∀ j, j < q → (upd f1 q ((f1 q).1, (((r : Int) + 1) % 3 == 0), (f1 q).2.2)) j = mf a j) := fun j hj => by rw [upd_o _ _ (by omega)]; exact HF1.out j hj
      have HQ2 : Hid ((upd f1 q ((f1 q).1, (((r : Int) + 1) % 3 == 0), (f1 q).2.2) q).1 = mt ∧ (upd f1 q ((f1 q).1, (((r : Int) + 1) % 3 == 0), (f1 q).2.2) q).2.1 = b3 ((r : Int) + 1)) := by show _ ∧ _; rw [upd_q]; exact ⟨HQ1.out, rfl⟩
      go_upto_region 9 with (go_at_call 40; refine (markMsg_nil _ _ _ _).mono ?_; rintro e w' ⟨rfl, rfl⟩)
      generalize u1.setCell ⟨g, q * 5 + 3, none⟩ (.bool (((r : Int) + 1) % 3 == 0)) = u2 at M2 G2 ⊢
      generalize upd f1 q ((f1 q).1, (((r : Int) + 1) % 3 == 0), (f1 q).2.2) = f2 at M2 HF2 HQ2
      clear c1 c2 c3 z3 M1 G1 HF1 HQ1
      obtain ⟨_, _, _, _, c4, z4⟩ := M2.out.cells hlt
      have M3 : Hid (MS (u2.setCell ⟨g, q * 5 + 4, none⟩ (.bool (((r : Int) + 1 + 1) % 3 == 0))) g m (upd f2 q ((f2 q).1, (f2 q).2.1, (((r : Int) + 1 + 1) % 3 == 0)))) := (M2.out.set hlt ⟨#[]⟩ false _).2.2
      have G3 : Hid (w.grownBy (u2.setCell ⟨g, q * 5 + 4, none⟩ (.bool (((r : Int) + 1 + 1) % 3 == 0))) (some g)) := grown_trans G2.out (grown_set _ _)
      have HF3 : Hid (∀ j, j < q + 1 → (upd f2 q ((f2 q).1, (f2 q).2.1, (((r : Int) + 1 + 1) % 3 == 0))) j = mf a j) := fun j hj => by
        by_cases e : j = q
        · subst e
          rw [upd_q, HQ2.out.1, HQ2.out.2, ← HMT.out, HRR.out]
          rfl
        · rw [upd_o _ _ e]; exact HF2.out j (by omega)
      go_upto_region 11 with fail
      generalize u2.setCell ⟨g, q * 5 + 4, none⟩ (.bool (((r : Int) + 1 + 1) % 3 == 0)) = u3 at M3 G3 ⊢
      generalize upd f2 q ((f2 q).1, (f2 q).2.1, (((r : Int) + 1 + 1) % 3 == 0)) = f3 at M3 HF3
      clear c4 z4 M2 G2 HF2 HQ2
      go_wp2_with fail
      exact ⟨⟨q + 1, r + 3, f3, by omega, by go_num, by omega, by have := HRR.out; omega, by go_num, (by show _ = _; have := HRR.out; omega), M3, HF3, G3⟩, by simp [intOf]; omega⟩
    · obtain rfl : q = m := by omega
      have HE : Hid ((r : Int) = ((a + 3 * q : Nat) : Int)) := by show _ = _; rw [HRR.out]
      go_wp2_with fail
      go_ret
      exact ⟨ret_i HE.out, ⟨f, HM.out, HF.out⟩, HG.out⟩
set_option maxRecDepth 100000 in
set_option maxHeartbeats 1600000 in
theorem markCerts (g m cap a : Nat) (f : Nat → ByteArray) (w : World) (h : MC w g m f) (hm : m ≤ 8) (ha : a ≤ 1000) (ha0 : 0 < a) :
    Calls Try.prog 61 #[.slice (some ⟨g, 0, none⟩) m cap, .int .i64 a] w fun e w' => e = .returned (.int .i64 ((a + m : Nat) : Int)) ∧ (∃ f', MC w' g m f' ∧ ∀ j, j < m → f' j = mtext (a + j)) ∧ w.grownBy w' (some g) := by
  have H : Hid (MC w g m f) := h
  clear h
  go_enter Try.func61, Try.ntmps61
  go_wp2_with fail
  go_loopw [1, 5] (fun k i wr => ∃ (q r : Nat) (f : Nat → ByteArray), q ≤ m ∧ k = .int .i64 (r : Int) ∧ 0 < r ∧ r ≤ 2000 ∧ i = .int .i64 q ∧ Hid (r = a + q) ∧ Hid (MC wr g m f) ∧ Hid (∀ j, j < q → f j = mtext (a + j)) ∧ Hid (w.grownBy wr (some g))) (fun _ i _ => m - (intOf i).toNat)
  case atStart => exact ⟨0, a, f, by omega, rfl, ha0, by omega, rfl, (by show _ = _; omega), H, (fun j hj => absurd hj (by omega)), grown_refl _ _⟩
  case round =>
    clear H
    obtain ⟨q, r, f, hq, rfl, hr0, hr, rfl, HRR, HM, HF, HG⟩ := hrel
    by_cases hlt : q < m
    · have hp0 : (0 : Int) ≤ (q : Int) := by omega
      have hp1 : (q : Int) < (m : Int) := by omega
      go_wp2_with fail
      refine (markText_any r wr hr0 (by omega)).mono ?_
      rintro e u0 ⟨rfl, b0⟩
      have M0 := HM.out.below b0
      have G0 := grown_trans HG.out (grown_of (r := some g) b0)
      obtain ⟨mt, HMT⟩ : ∃ mt, Hid (mtext r = mt) := ⟨_, rfl⟩
      rw [HMT.out]
      obtain ⟨⟨c0, f0⟩, _⟩ := M0.cells hlt
      have M1 : Hid (MC (u0.setCell ⟨g, q * 2, none⟩ (.string mt)) g m (upd f q mt)) := M0.set hlt mt
      have G1 : Hid (w.grownBy (u0.setCell ⟨g, q * 2, none⟩ (.string mt)) (some g)) := grown_trans G0 (grown_set _ _)
      have HF1 : Hid (∀ j, j < q + 1 → (upd f q mt) j = mtext (a + j)) := fun j hj => by
        by_cases e : j = q
        · subst e
          rw [upd_q, ← HMT.out, HRR.out]
        · rw [upd_o _ _ e]; exact HF.out j (by omega)
      clear M0 G0 b0 HM HG HF
      go_upto_region 5 with fail
      generalize u0.setCell ⟨g, q * 2, none⟩ (.string mt) = u1 at M1 G1 ⊢
      generalize upd f q mt = f1 at M1 HF1
      clear c0 f0
      obtain ⟨_, c1⟩ := M1.out.cells hlt
      go_wp2_with (go_at_call 40; refine (markMsg_nil _ _ _ _).mono ?_; rintro e w' ⟨rfl, rfl⟩)
      exact ⟨⟨q + 1, r + 1, f1, by omega, by go_num, by omega, by have := HRR.out; omega, by go_num, (by show _ = _; have := HRR.out; omega), M1, HF1, G1⟩, by simp [intOf]; omega⟩
    · obtain rfl : q = m := by omega
      have HE : Hid ((r : Int) = ((a + q : Nat) : Int)) := by show _ = _; rw [HRR.out]
      go_wp2_with fail
      go_ret
      exact ⟨ret_i HE.out, ⟨f, HM.out, HF.out⟩, HG.out⟩
set_option maxRecDepth 100000 in
set_option maxHeartbeats 1600000 in
theorem heldSlots (g m cap a : Nat) (f : Nat → ByteArray × Bool × Bool) (w : World) (h : MS w g m f) (hf : ∀ j, j < m → f j = mf a j) (hm : m ≤ 8) (ha : a ≤ 1000) (ha0 : 0 < a) :
    Calls Try.prog 63 #[.slice (some ⟨g, 0, none⟩) m cap, .int .i64 a] w fun e w' => e = .returned (.int .i64 ((a + 3 * m : Nat) : Int)) ∧ Below w.heap.size w w' := by
  have H : Hid (MS w g m f) := h
  have HF : Hid (∀ j, j < m → f j = mf a j) := hf
  clear h hf
  go_enter Try.func63, Try.ntmps63
  go_wp2_with fail
  go_loopw [1, 5] (fun k i wr => ∃ q r : Nat, q ≤ m ∧ k = .int .i64 (r : Int) ∧ 0 < r ∧ r ≤ 2000 ∧ i = .int .i64 q ∧ Hid (r = a + 3 * q) ∧ Hid (Below w.heap.size w wr)) (fun _ i _ => m - (intOf i).toNat)
  case atStart => exact ⟨0, a, by omega, rfl, ha0, by omega, rfl, (by show _ = _; omega), Below.refl _ _⟩
  case round =>
    obtain ⟨q, r, hq, rfl, hr0, hr, rfl, HRR, HB⟩ := hrel
    by_cases hlt : q < m
    · have hp0 : (0 : Int) ≤ (q : Int) := by omega
      have hp1 : (q : Int) < (m : Int) := by omega
      have HC : Hid (∀ W, Below w.heap.size w W → W.cell? ⟨g, q * 5, none⟩ = some (.string (mtext r)) ∧ W.cell? ⟨g, q * 5 + 1, none⟩ = some (.slice none 0 0) ∧ W.cell? ⟨g, q * 5 + 2, none⟩ = some (.slice none 0 0) ∧ W.cell? ⟨g, q * 5 + 3, none⟩ = some (.bool (((r : Int) + 1) % 3 == 0)) ∧ W.cell? ⟨g, q * 5 + 4, none⟩ = some (.bool (((r : Int) + 1 + 1) % 3 == 0))) := fun W hW => by
        obtain ⟨⟨a0, _⟩, a1, a2, ⟨a3, _⟩, a4, _⟩ := (H.out.below hW).cells hlt
        rw [HF.out q hlt] at a0 a3 a4
        rw [HRR.out]
        exact ⟨a0, a1, a2, a3, a4⟩
      have HT : Hid (∀ W : World, Calls Try.prog 41 #[.int .i64 (r : Int)] W fun e w' => e = .returned (.string (mtext r)) ∧ Below W.heap.size W w') := fun W => markText_any r W hr0 (by omega)
      generalize mtext r = mt at HC HT
      have nn : (mt.toList != mt.toList) = false := by simp
      have c0 := (HC.out wr HB.out).1
      go_upto_region 4 with fail
      obtain ⟨X, hX, W, QI0, QO0⟩ := Qc.klass wr
      have QI : Hid (∀ w', Below wr.heap.size wr w' → ∃ x, w' = W x) := QI0
      have QO : Hid (∀ x, Below wr.heap.size wr (W x)) := QO0
      clear QI0 QO0
      have y0 := Qc.cell_all QO.out c0
      refine Qc.region_class (W := W) (by kernel_rfl) (by kernel_rfl) (QI.out _ Qc.from_drew) ?_
      repeat (go_big_quiet_step (first | (go_at_call 41; refine (HT.out _).mono ?_; rintro e w2 ⟨rfl, b2⟩; exact ⟨rfl, Qc.back QI.out QO.out b2⟩)))
      refine wpQuiet_nil ?_
      rintro _ ⟨xq, rfl⟩
      have G2 : Hid (Below w.heap.size w (W xq)) := HB.out.trans ((QO.out xq).mono HB.out.size)
      generalize W xq = w4 at G2 ⊢
      clear QI QO y0
      obtain ⟨_, c1, c2, c3, c4⟩ := HC.out _ G2.out
      have s1 : ((((r : Int) + 1) % 3 == 0) != (((r : Int) + 1) % 3 == 0)) = false := by simp
      have s2 : ((((r : Int) + 1 + 1) % 3 == 0) != (((r : Int) + 1 + 1) % 3 == 0)) = false := by simp
      have g1 : ¬ (r : Int) + 1 < 0 := by omega
      clear c0 nn
      go_wp2_with (go_at_call 47; refine (heldMsg_nil _ _ _ _).mono ?_; rintro e w' ⟨rfl, rfl⟩)
      exact ⟨⟨q + 1, r + 3, by omega, by go_num, by omega, by have := HRR.out; omega, by go_num, (by show _ = _; have := HRR.out; omega), G2⟩, by simp [intOf]; omega⟩
    · obtain rfl : q = m := by omega
      have HE : Hid ((r : Int) = ((a + 3 * q : Nat) : Int)) := by show _ = _; rw [HRR.out]
      go_wp2_with fail
      go_ret
      exact ⟨ret_i HE.out, HB.out⟩
set_option maxRecDepth 100000 in
set_option maxHeartbeats 1600000 in
theorem heldCerts (g m cap a : Nat) (f : Nat → ByteArray) (w : World) (h : MC w g m f) (hf : ∀ j, j < m → f j = mtext (a + j)) (hm : m ≤ 8) (ha : a ≤ 1000) (ha0 : 0 < a) :
    Calls Try.prog 64 #[.slice (some ⟨g, 0, none⟩) m cap, .int .i64 a] w fun e w' => e = .returned (.int .i64 ((a + m : Nat) : Int)) ∧ Below w.heap.size w w' := by
  have H : Hid (MC w g m f) := h
  have HF : Hid (∀ j, j < m → f j = mtext (a + j)) := hf
  clear h hf
  go_enter Try.func64, Try.ntmps64
  go_wp2_with fail
  go_loopw [1, 5] (fun k i wr => ∃ q r : Nat, q ≤ m ∧ k = .int .i64 (r : Int) ∧ 0 < r ∧ r ≤ 2000 ∧ i = .int .i64 q ∧ Hid (r = a + q) ∧ Hid (Below w.heap.size w wr)) (fun _ i _ => m - (intOf i).toNat)
  case atStart => exact ⟨0, a, by omega, rfl, ha0, by omega, rfl, (by show _ = _; omega), Below.refl _ _⟩
  case round =>
    obtain ⟨q, r, hq, rfl, hr0, hr, rfl, HRR, HB⟩ := hrel
    by_cases hlt : q < m
    · have hp0 : (0 : Int) ≤ (q : Int) := by omega
      have hp1 : (q : Int) < (m : Int) := by omega
      have HC : Hid (∀ W, Below w.heap.size w W → W.cell? ⟨g, q * 2, none⟩ = some (.string (mtext r)) ∧ W.cell? ⟨g, q * 2 + 1, none⟩ = some (.slice none 0 0)) := fun W hW => by
        obtain ⟨⟨a0, _⟩, a1⟩ := (H.out.below hW).cells hlt
        rw [HF.out q hlt] at a0
        rw [HRR.out]
        exact ⟨a0, a1⟩
      have HT : Hid (∀ W : World, Calls Try.prog 41 #[.int .i64 (r : Int)] W fun e w' => e = .returned (.string (mtext r)) ∧ Below W.heap.size W w') := fun W => markText_any r W hr0 (by omega)
      generalize mtext r = mt at HC HT
      have nn : (mt.toList != mt.toList) = false := by simp
      have c0 := (HC.out wr HB.out).1
      go_upto_region 4 with fail
      obtain ⟨X, hX, W, QI0, QO0⟩ := Qc.klass wr
      have QI : Hid (∀ w', Below wr.heap.size wr w' → ∃ x, w' = W x) := QI0
      have QO : Hid (∀ x, Below wr.heap.size wr (W x)) := QO0
      clear QI0 QO0
      have y0 := Qc.cell_all QO.out c0
      refine Qc.region_class (W := W) (by kernel_rfl) (by kernel_rfl) (QI.out _ Qc.from_drew) ?_
      repeat (go_big_quiet_step (first | (go_at_call 41; refine (HT.out _).mono ?_; rintro e w2 ⟨rfl, b2⟩; exact ⟨rfl, Qc.back QI.out QO.out b2⟩)))
      refine wpQuiet_nil ?_
      rintro _ ⟨xq, rfl⟩
      have G2 : Hid (Below w.heap.size w (W xq)) := HB.out.trans ((QO.out xq).mono HB.out.size)
      generalize W xq = w4 at G2 ⊢
      clear QI QO y0
      obtain ⟨_, c1⟩ := HC.out _ G2.out
      have g1 : ¬ (r : Int) + 1 < 0 := by omega
      clear c0 nn
      go_wp2_with (go_at_call 47; refine (heldMsg_nil _ _ _ _).mono ?_; rintro e w' ⟨rfl, rfl⟩)
      exact ⟨⟨q + 1, r + 1, by omega, by go_num, by omega, by have := HRR.out; omega, by go_num, (by show _ = _; have := HRR.out; omega), G2⟩, by simp [intOf]; omega⟩
    · obtain rfl : q = m := by omega
      have HE : Hid ((r : Int) = ((a + q : Nat) : Int)) := by show _ = _; rw [HRR.out]
      go_wp2_with fail
      go_ret
      exact ⟨ret_i HE.out, HB.out⟩
end Go.Proofs.Ytdhmmbbdckahmaa.Nr
