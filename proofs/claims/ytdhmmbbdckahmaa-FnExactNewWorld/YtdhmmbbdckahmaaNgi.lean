/- Replicas of a new group: marked, held; the group too. -/
import Derived.Test.YtdhmmbbdckahmaaNgh
namespace Go.Proofs.Ytdhmmbbdckahmaa.Ng
open Go.RowKit Go.Proofs.Ytdhmmbbdckahmaa.Rg Go.Proofs.Ytdhmmbbdckahmaa.Tm Go.Proofs.Ytdhmmbbdckahmaa.Nr Go.Proofs.Ytdhmmbbdckahmaa.Is
open Go.Proofs.Ytdhmmbbdckahmaa.So hiding bel_new
open Go.Proofs.Ytdhmmbbdckahmaa.Sl (nth)
open Go.Proofs.Ytdhmmbbdckahmaa.Qm (inB)
open Go.Proofs.Ytdhmmbbdckahmaa.Rr (grown_set grown_trans grown_refl grown_alloc)
set_option maxRecDepth 100000 in
set_option maxHeartbeats 3200000 in
theorem markReps (B g cap a : Nat) (ps : List RV) (F : Nat → Int × Int × Int × Bool) (w : World) (h : MQ w g F ps) (hu : ∀ (k : Nat) (p : RV), ps[k]? = some p → HU B w p) (ap : Apart ps) (hB : B ≤ g) (hm : ps.length ≤ 7) (ha : a ≤ 100) (ha0 : 0 < a) :
    Calls Try.prog 38 #[.slice (some ⟨g, 0, none⟩) ps.length cap, .int .i64 a] w fun e w' => e = .returned (.int .i64 ((a + 36 * ps.length : Nat) : Int)) ∧ (∃ F', Rst B g a ps.length ps w w' F') := by
  have H0 : Hid (Rst B g a 0 ps w w F) := ⟨h, fun j hj => by omega, hu, fun k p hk => by omega, Fm.refl _ _⟩
  have HAP : Hid (Apart ps) := ap
  clear h hu ap
  go_enter Try.func38, Try.ntmps38
  go_wp2_with fail
  go_loopw [1, 5] (fun k i wr => ∃ (q r : Nat) (F : Nat → Int × Int × Int × Bool), q ≤ ps.length ∧ k = .int .i64 (r : Int) ∧ 0 < r ∧ r ≤ 2000 ∧ i = .int .i64 q ∧ Hid (r = a + 36 * q) ∧ Hid (Rst B g a q ps w wr F)) (fun _ i _ => ps.length - (intOf i).toNat)
  case atStart => exact ⟨0, a, F, by omega, rfl, ha0, by omega, rfl, (by show _ = _; omega), H0⟩
  case round =>
    clear H0
    obtain ⟨q, r, F, hq, rfl, hr0, hr, rfl, HRR, HR⟩ := hrel
    by_cases hlt : q < ps.length
    · have hp0 : (0 : Int) ≤ (q : Int) := by omega
      have hp1 : (q : Int) < (ps.length : Int) := by omega
      obtain ⟨p, hx⟩ := Rg.get_at hlt
      have HX : Hid (ps[q]? = some p) := hx
      have hr7 : r ≤ 400 := by have := HRR.out; omega
      clear hx
      obtain ⟨⟨c0, z0⟩, _, _, _, _, _, _, _⟩ := HR.out.m.cells HX.out
      have R1 : Hid (Rst B g a q ps w (wr.setCell ⟨g, q * 8, none⟩ (.int .i64 (r : Int))) (upd F q ((r : Int), (F q).2))) := HR.out.put hB (HR.out.m.put0 HX.out _) (fun j hj => upd_o _ _ (by omega))
      have Q1 : Hid (upd F q ((r : Int), (F q).2) q = ((r : Int), (F q).2)) := upd_q _ _ _
      clear HR
      go_upto_region 6 with fail
      generalize wr.setCell ⟨g, q * 8, none⟩ (.int .i64 (r : Int)) = s1 at R1 ⊢
      generalize upd F q ((r : Int), (F q).2) = F1 at R1 Q1
      clear c0 z0
      obtain ⟨_, ⟨c1, z1⟩, _, _, _, _, _, _⟩ := R1.out.m.cells HX.out
      have R2 : Hid (Rst B g a q ps w (s1.setCell ⟨g, q * 8 + 1, none⟩ (.int .i64 ((r : Int) + 1))) (upd F1 q ((F1 q).1, ((r : Int) + 1), (F1 q).2.2))) := R1.out.put hB (R1.out.m.put1 HX.out _) (fun j hj => upd_o _ _ (by omega))
      have Q2 : Hid (upd F1 q ((F1 q).1, ((r : Int) + 1), (F1 q).2.2) q = ((F1 q).1, ((r : Int) + 1), (F1 q).2.2)) := upd_q _ _ _
      clear R1
      go_upto_region 8 with fail
      generalize s1.setCell ⟨g, q * 8 + 1, none⟩ (.int .i64 ((r : Int) + 1)) = s2 at R2 ⊢
      generalize upd F1 q ((F1 q).1, ((r : Int) + 1), (F1 q).2.2) = F2 at R2 Q2
      clear c1 z1
      obtain ⟨_, _, ⟨c2, z2⟩, _, _, _, _, _⟩ := R2.out.m.cells HX.out
      have R3 : Hid (Rst B g a q ps w (s2.setCell ⟨g, q * 8 + 2, none⟩ (.int .i64 ((r : Int) + 1 + 1))) (upd F2 q ((F2 q).1, (F2 q).2.1, ((r : Int) + 1 + 1), (F2 q).2.2.2))) := R2.out.put hB (R2.out.m.put2 HX.out _) (fun j hj => upd_o _ _ (by omega))
      have Q3 : Hid (upd F2 q ((F2 q).1, (F2 q).2.1, ((r : Int) + 1 + 1), (F2 q).2.2.2) q = ((F2 q).1, (F2 q).2.1, ((r : Int) + 1 + 1), (F2 q).2.2.2)) := upd_q _ _ _
      clear R2
      go_upto_region 10 with fail
      generalize s2.setCell ⟨g, q * 8 + 2, none⟩ (.int .i64 ((r : Int) + 1 + 1)) = s3 at R3 ⊢
      generalize upd F2 q ((F2 q).1, (F2 q).2.1, ((r : Int) + 1 + 1), (F2 q).2.2.2) = F3 at R3 Q3
      clear c2 z2
      obtain ⟨_, _, _, ⟨c3, z3⟩, _, _, _, _⟩ := R3.out.m.cells HX.out
      have R4 : Hid (Rst B g a q ps w (s3.setCell ⟨g, q * 8 + 3, none⟩ (.bool (((r : Int) + 1 + 1 + 1) % 3 == 0))) (upd F3 q ((F3 q).1, (F3 q).2.1, (F3 q).2.2.1, (((r : Int) + 1 + 1 + 1) % 3 == 0)))) := R3.out.put hB (R3.out.m.put3 HX.out _) (fun j hj => upd_o _ _ (by omega))
      have Q4 : Hid (upd F3 q ((F3 q).1, (F3 q).2.1, (F3 q).2.2.1, (((r : Int) + 1 + 1 + 1) % 3 == 0)) q = ((F3 q).1, (F3 q).2.1, (F3 q).2.2.1, (((r : Int) + 1 + 1 + 1) % 3 == 0))) := upd_q _ _ _
      clear R3
      go_upto_region 12 with fail
      generalize s3.setCell ⟨g, q * 8 + 3, none⟩ (.bool (((r : Int) + 1 + 1 + 1) % 3 == 0)) = s4 at R4 ⊢
      generalize upd F3 q ((F3 q).1, (F3 q).2.1, (F3 q).2.2.1, (((r : Int) + 1 + 1 + 1) % 3 == 0)) = F4 at R4 Q4
      clear c3 z3
      have HF4 : Hid (F4 q = qf a q) := by
        show F4 q = qf a q
        rw [Q4.out, Q3.out, Q2.out, Q1.out]
        unfold qf b3
        rw [← HRR.out]
      clear Q1 Q2 Q3 Q4
      obtain ⟨gs, gc, e, ⟨f, m⟩, ⟨hh, c⟩⟩ := R4.out.u q p HX.out
      have HE : Hid ((p.sa = some ⟨gs, 0, none⟩ ∧ p.sc = 8 ∧ p.ca = some ⟨gc, 0, none⟩ ∧ p.cc = 8) ∧ (p.la = none ∧ p.lc = 0 ∧ p.ma = none ∧ p.mc = 0) ∧ B ≤ gs ∧ B ≤ gc) := e
      have HM0 : Hid (MS s4 gs 8 f) := m
      have HC0 : Hid (MC s4 gc 8 hh) := c
      have hne : gs ≠ gc := fun e2 => by
        obtain ⟨A, a1, _⟩ := m
        obtain ⟨C, c1, _⟩ := c
        subst e2
        rw [a1] at c1
        simp at c1
      clear m c
      have HMS : Hid (Calls Try.prog 60 #[.slice (some ⟨gs, 0, none⟩) 8 8, .int .i64 ((r : Int) + 1 + 1 + 1 + 1)] s4 fun e w' => e = .returned (.int .i64 ((r : Int) + 28)) ∧ (∃ f', MS w' gs 8 f' ∧ ∀ j, j < 8 → f' j = mf (r + 4) j) ∧ s4.grownBy w' (some gs)) := by
        have := markSlots gs 8 8 (r + 4) f s4 HM0.out (by omega) (by omega) (by omega)
        rw [show ((r + 4 : Nat) : Int) = (r : Int) + 1 + 1 + 1 + 1 by omega, show ((r + 4 + 3 * 8 : Nat) : Int) = (r : Int) + 28 by omega] at this
        exact this
      have HMC : Hid (∀ W, MC W gc 8 hh → Calls Try.prog 61 #[.slice (some ⟨gc, 0, none⟩) 8 8, .int .i64 ((r : Int) + 28)] W fun e w' => e = .returned (.int .i64 ((r : Int) + 36)) ∧ (∃ f', MC w' gc 8 f' ∧ ∀ j, j < 8 → f' j = mtext (r + 28 + j)) ∧ W.grownBy w' (some gc)) := fun W hW => by
        have := markCerts gc 8 8 (r + 28) hh W hW (by omega) (by omega) (by omega)
        rw [show ((r + 28 : Nat) : Int) = (r : Int) + 28 by omega, show ((r + 28 + 8 : Nat) : Int) = (r : Int) + 36 by omega] at this
        exact this
      obtain ⟨_, _, _, _, ⟨c4, _⟩, _, _, _⟩ := R4.out.m.cells HX.out
      rw [HE.out.1.1, HE.out.1.2.1] at c4
      go_upto_region 13 with (go_at_call 60; refine HMS.out.mono ?_; rintro e w1 ⟨rfl, m1, g1⟩)
      have k1 : ∀ k, k < s4.heap.size → k ≠ gs → w1.heap[k]? = s4.heap[k]? := fun k hk hn => g1.block k hk (fun e2 => hn (by injection e2))
      have HC1 : Hid (MC w1 gc 8 hh) := HC0.out.kept (k1 gc HC0.out.lt (Ne.symm hne))
      have HQ1 : Hid (MQ w1 g F4 ps) := R4.out.m.kept (k1 g R4.out.m.lt (fun e2 => by
        obtain ⟨A, a1, _⟩ := HM0.out
        obtain ⟨D, d1, _⟩ := R4.out.m
        subst e2
        rw [a1] at d1
        simp at d1))
      have HM1 : Hid ((∃ f', MS w1 gs 8 f' ∧ ∀ j, j < 8 → f' j = mf (r + 4) j) ∧ s4.grownBy w1 (some gs)) := ⟨m1, g1⟩
      clear m1 g1 k1 c4 HMS
      obtain ⟨_, _, _, _, _, ⟨c5, _⟩, _, _⟩ := HQ1.out.cells HX.out
      rw [HE.out.1.2.2.1, HE.out.1.2.2.2] at c5
      go_upto_region 14 with (go_at_call 61; refine (HMC.out _ HC1.out).mono ?_; rintro e w2 ⟨rfl, m2, g2⟩)
      have HQ2 : Hid (MQ w2 g F4 ps) := HQ1.out.kept (g2.block g HQ1.out.lt (fun e2 => by
        obtain ⟨C, c1, _⟩ := HC1.out
        obtain ⟨D, d1, _⟩ := HQ1.out
        injection e2 with e2
        subst e2
        rw [c1] at d1
        simp at d1))
      have HN : Hid (Rst B g a (q + 1) ps w w2 F4) := by
        have m1 := HM1.out.1
        rw [HRR.out] at m1 m2
        exact R4.out.next HE.out.2.2 HAP.out HX.out HF4.out ⟨HE.out.1, HE.out.2.1⟩ ⟨_, HM0.out⟩ ⟨_, HC0.out⟩ m1 HM1.out.2 m2 g2
      clear m2 g2 c5 HMC HM1 R4 HM0 HC0 HC1 HQ1
      obtain ⟨_, _, _, _, _, _, ⟨c6, _⟩, ⟨c7, _⟩⟩ := HQ2.out.cells HX.out
      rw [HE.out.2.1.1, HE.out.2.1.2.1] at c6
      rw [HE.out.2.1.2.2.1, HE.out.2.1.2.2.2] at c7
      clear HQ2
      go_wp2_with (first | (go_at_call 62; refine (markStr_nil _ _ _ _).mono ?_; rintro e w' ⟨rfl, rfl⟩) | (go_at_call 40; refine (markMsg_nil _ _ _ _).mono ?_; rintro e w' ⟨rfl, rfl⟩))
      exact ⟨⟨q + 1, r + 36, F4, by omega, by go_num, by omega, by omega, by go_num, (by show _ = _; have := HRR.out; omega), HN⟩, by simp [intOf]; omega⟩
    · obtain rfl : q = ps.length := by omega
      go_wp2_with fail
      go_ret
      exact ⟨by rw [← HRR.out]; rfl, ⟨F, HR.out⟩⟩
end Go.Proofs.Ytdhmmbbdckahmaa.Ng
