/- A new group: its replicas held; the group marked and held. -/
import Derived.Test.YtdhmmbbdckahmaaNgi
namespace Go.Proofs.Ytdhmmbbdckahmaa.Ng
open Go.RowKit Go.Proofs.Ytdhmmbbdckahmaa.Rg Go.Proofs.Ytdhmmbbdckahmaa.Tm Go.Proofs.Ytdhmmbbdckahmaa.Nr Go.Proofs.Ytdhmmbbdckahmaa.Is
open Go.Proofs.Ytdhmmbbdckahmaa.So hiding bel_new
open Go.Proofs.Ytdhmmbbdckahmaa.Sl (nth)
open Go.Proofs.Ytdhmmbbdckahmaa.Qm (inB)
open Go.Proofs.Ytdhmmbbdckahmaa.Rr (grown_set grown_trans grown_refl grown_alloc)
/-- Replicas that are marked from a on. -/
def HQs (w : World) (g a : Nat) (ps : List RV) : Prop := (∃ F, MQ w g F ps ∧ ∀ j, j < ps.length → F j = qf a j) ∧ ∀ (k : Nat) (p : RV), ps[k]? = some p → HM w (a + 36 * k) p
theorem HQs.below {w w' : World} {g a : Nat} {ps : List RV} (h : HQs w g a ps) (hb : Below w.heap.size w w') : HQs w' g a ps := by
  obtain ⟨⟨F, h1, h2⟩, h3⟩ := h
  exact ⟨⟨F, h1.below hb, h2⟩, fun k p hp => (h3 k p hp).below hb⟩
set_option maxRecDepth 100000 in
set_option maxHeartbeats 3200000 in
theorem heldReps (g cap a : Nat) (ps : List RV) (w : World) (h : HQs w g a ps) (hm : ps.length ≤ 7) (ha : a ≤ 100) (ha0 : 0 < a) :
    Calls Try.prog 45 #[.slice (some ⟨g, 0, none⟩) ps.length cap, .int .i64 a] w fun e w' => e = .returned (.int .i64 ((a + 36 * ps.length : Nat) : Int)) ∧ Below w.heap.size w w' := by
  have H0 : Hid (HQs w g a ps) := h
  clear h
  go_enter Try.func45, Try.ntmps45
  go_wp2_with fail
  go_loopw [1, 5] (fun k i wr => ∃ (q r : Nat), q ≤ ps.length ∧ k = .int .i64 (r : Int) ∧ 0 < r ∧ r ≤ 2000 ∧ i = .int .i64 q ∧ Hid (r = a + 36 * q) ∧ Hid (Below w.heap.size w wr)) (fun _ i _ => ps.length - (intOf i).toNat)
  case atStart => exact ⟨0, a, by omega, rfl, ha0, by omega, rfl, (by show _ = _; omega), Below.refl _ _⟩
  case round =>
    obtain ⟨q, r, hq, rfl, hr0, hr, rfl, HRR, HB⟩ := hrel
    by_cases hlt : q < ps.length
    · have hp0 : (0 : Int) ≤ (q : Int) := by omega
      have hp1 : (q : Int) < (ps.length : Int) := by omega
      obtain ⟨p, hx⟩ := Rg.get_at hlt
      have HX : Hid (ps[q]? = some p) := hx
      have hr7 : r ≤ 400 := by have := HRR.out; omega
      clear hx
      have HC : Hid (∀ W, Below w.heap.size w W → ∃ gs gc, (W.cell? ⟨g, q * 8, none⟩ = some (.int .i64 (r : Int)) ∧ W.cell? ⟨g, q * 8 + 1, none⟩ = some (.int .i64 ((r : Int) + 1)) ∧ W.cell? ⟨g, q * 8 + 2, none⟩ = some (.int .i64 ((r : Int) + 1 + 1)) ∧ W.cell? ⟨g, q * 8 + 3, none⟩ = some (.bool (((r : Int) + 1 + 1 + 1) % 3 == 0)) ∧ W.cell? ⟨g, q * 8 + 4, none⟩ = some (.slice (some ⟨gs, 0, none⟩) 8 8) ∧ W.cell? ⟨g, q * 8 + 5, none⟩ = some (.slice (some ⟨gc, 0, none⟩) 8 8) ∧ W.cell? ⟨g, q * 8 + 6, none⟩ = some (.slice none 0 0) ∧ W.cell? ⟨g, q * 8 + 7, none⟩ = some (.slice none 0 0)) ∧ (∃ f, MS W gs 8 f ∧ ∀ j, j < 8 → f j = mf (r + 4) j) ∧ (∃ h, MC W gc 8 h ∧ ∀ j, j < 8 → h j = mtext (r + 28 + j))) := fun W hW => by
        obtain ⟨⟨F, h1, h2⟩, h3⟩ := H0.out.below hW
        obtain ⟨⟨c0, _⟩, ⟨c1, _⟩, ⟨c2, _⟩, ⟨c3, _⟩, ⟨c4, _⟩, ⟨c5, _⟩, ⟨c6, _⟩, ⟨c7, _⟩⟩ := h1.cells HX.out
        obtain ⟨gs, gc, ⟨e, e'⟩, hs, hc⟩ := h3 q p HX.out
        rw [h2 q hlt] at c0 c1 c2 c3
        unfold qf b3 at c0 c1 c2 c3
        rw [← HRR.out] at c0 c1 c2 c3 hs hc
        rw [e.1, e.2.1] at c4
        rw [e.2.2.1, e.2.2.2] at c5
        rw [e'.1, e'.2.1] at c6
        rw [e'.2.2.1, e'.2.2.2] at c7
        exact ⟨gs, gc, ⟨c0, c1, c2, c3, c4, c5, c6, c7⟩, hs, hc⟩
      obtain ⟨gs, gc, ⟨c0, c1, c2, c3, c4, c5, c6, c7⟩, ⟨f, m, mm⟩, ⟨hh, c, ch⟩⟩ := HC.out wr HB.out
      have HHS : Hid (Calls Try.prog 63 #[.slice (some ⟨gs, 0, none⟩) 8 8, .int .i64 ((r : Int) + 1 + 1 + 1 + 1)] wr fun e w' => e = .returned (.int .i64 ((r : Int) + 28)) ∧ Below wr.heap.size wr w') := by
        have := heldSlots gs 8 8 (r + 4) f wr m mm (by omega) (by omega) (by omega)
        rw [show ((r + 4 : Nat) : Int) = (r : Int) + 1 + 1 + 1 + 1 by omega, show ((r + 4 + 3 * 8 : Nat) : Int) = (r : Int) + 28 by omega] at this
        exact this
      have HHC : Hid (∀ W, Below wr.heap.size wr W → Calls Try.prog 64 #[.slice (some ⟨gc, 0, none⟩) 8 8, .int .i64 ((r : Int) + 28)] W fun e w' => e = .returned (.int .i64 ((r : Int) + 36)) ∧ Below W.heap.size W w') := fun W hW => by
        have := heldCerts gc 8 8 (r + 28) hh W (c.below hW) ch (by omega) (by omega) (by omega)
        rw [show ((r + 28 : Nat) : Int) = (r : Int) + 28 by omega, show ((r + 28 + 8 : Nat) : Int) = (r : Int) + 36 by omega] at this
        exact this
      have HK5 : Hid (∀ W, Below wr.heap.size wr W → W.cell? ⟨g, q * 8 + 5, none⟩ = some (.slice (some ⟨gc, 0, none⟩) 8 8) ∧ W.cell? ⟨g, q * 8 + 6, none⟩ = some (.slice none 0 0) ∧ W.cell? ⟨g, q * 8 + 7, none⟩ = some (.slice none 0 0)) := by
        have hgl : g < wr.heap.size := World.block_lt_of_cell? wr _ c5
        exact fun W hW => ⟨(hW.cell (p := ⟨g, q * 8 + 5, none⟩) hgl).trans c5, (hW.cell (p := ⟨g, q * 8 + 6, none⟩) hgl).trans c6, (hW.cell (p := ⟨g, q * 8 + 7, none⟩) hgl).trans c7⟩
      clear m mm c ch HC
      have n0 : ((r : Int) != (r : Int)) = false := by simp
      have n1 : ((r : Int) + 1 != (r : Int) + 1) = false := by simp
      have n2 : ((r : Int) + 1 + 1 != (r : Int) + 1 + 1) = false := by simp
      have n3 : ((((r : Int) + 1 + 1 + 1) % 3 == 0) != (((r : Int) + 1 + 1 + 1) % 3 == 0)) = false := by simp
      have n4 : ¬ ((r : Int) + 28 < 0) := by omega
      have n5 : ¬ ((r : Int) + 36 < 0) := by omega
      go_upto_region 16 with fail
      clear c0 c1 c2 c3
      go_upto_region 17 with (go_at_call 63; refine HHS.out.mono ?_; rintro e w1 ⟨rfl, b1⟩)
      have B1 : Hid (Below wr.heap.size wr w1) := b1
      clear b1 c4 c5 c6 c7 HHS
      obtain ⟨c5, c6, c7⟩ := HK5.out w1 B1.out
      have H2 := HHC.out w1 B1.out
      go_upto_region 19 with fail
      go_upto_region 20 with (go_at_call 64; refine H2.mono ?_; rintro e w2 ⟨rfl, b2⟩)
      have B2 : Hid (Below wr.heap.size wr w2) := B1.out.trans (b2.mono B1.out.size)
      clear b2 c5 c6 c7 H2
      obtain ⟨c5, c6, c7⟩ := HK5.out w2 B2.out
      have BW : Hid (Below w.heap.size w w2) := HB.out.trans (B2.out.mono HB.out.size)
      clear HB B1 B2 c5 HK5 HHC
      go_wp2_with (first | (go_at_call 65; refine (heldStr_nil _ _ _ _).mono ?_; rintro e w' ⟨rfl, rfl⟩) | (go_at_call 47; refine (heldMsg_nil _ _ _ _).mono ?_; rintro e w' ⟨rfl, rfl⟩))
      exact ⟨⟨q + 1, r + 36, by omega, by go_num, by omega, by omega, by go_num, (by show _ = _; have := HRR.out; omega), BW⟩, by simp [intOf]; omega⟩
    · obtain rfl : q = ps.length := by omega
      go_wp2_with fail
      go_ret
      exact ⟨by rw [← HRR.out]; rfl, HB.out⟩
end Go.Proofs.Ytdhmmbbdckahmaa.Ng
