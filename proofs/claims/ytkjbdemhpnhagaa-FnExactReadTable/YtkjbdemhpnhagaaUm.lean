/- The laws' marks on a table in memory of one's own: written, and held. -/
import Derived.Test.YtkjbdemhpnhagaaUv
import Derived.Deep.RegionWith
namespace Go.Proofs.Ytkjbdemhpnhagaa.Um
open Go.RowKit Go.Proofs.Ytkjbdemhpnhagaa.Sl Go.Proofs.Ytkjbdemhpnhagaa.By Go.Proofs.Ytkjbdemhpnhagaa.Ap Go.Proofs.Ytkjbdemhpnhagaa.Tb Go.Proofs.Ytkjbdemhpnhagaa.Tw
open Go.Proofs.Ytkjbdemhpnhagaa.Mw (mtext markText_any Wr Wr.lt Wr.below Wr.set Wr.cell MkW MkW.below set_same set_off markOwnW_any heldOwnW_any markNilW_any heldNilW_any Mid Mid.below)
open Go.Proofs.Ytkjbdemhpnhagaa.Ur (Mem Apart)
open Go.Proofs.Ytkjbdemhpnhagaa.Wa (OwnW OwnS)
open Go.Proofs.Ytkjbdemhpnhagaa.Lo (LkA uV OwnL own_block kind_ne)
open Go.Proofs.Ytkjbdemhpnhagaa.Tx (blk_cell blk_set blk_far bel_new size_new)

/-- Cells that bear numbers one after the other. -/
def Up (W : World) (g a N : Nat) : Prop := ∀ i, i < N → W.cell? ⟨g, i, none⟩ = some (.int .i64 ((a + i : Nat) : Int))
theorem Up.below {W W' : World} {g a N : Nat} (h : Up W g a N) (hg : g < W.heap.size) (hb : Below W.heap.size W W') : Up W' g a N := fun i hi => (hb.cell (p := ⟨g, i, none⟩) hg).trans (h i hi)
theorem Up.next {W : World} {g a N M : Nat} (h : Up W g a N) (hw : Wr W g M) (hN : N < M) : Up (W.setCell ⟨g, N, none⟩ (.int .i64 ((a + N : Nat) : Int))) g a (N + 1) := fun i hi => by
  by_cases e : i = N
  · subst e; exact set_same hw hN _
  · rw [set_off (fun h => e h.symm)]; exact h i (by omega)
set_option maxRecDepth 100000 in
set_option maxHeartbeats 1600000 in
theorem markSeens_any (g n cap a : Nat) (w : World) (h : Wr w g (n * 6)) (hcap : n ≤ cap) (hn : n ≤ 1000) (ha : a ≤ 1000000) :
    Calls Try.prog 47 #[.slice (some ⟨g, 0, none⟩) n cap, .int .i64 a] w fun e w' => e = .returned (.int .i64 ((a + n * 6 : Nat) : Int)) ∧ Up w' g a (n * 6) ∧ Mid g (g + 1) w w' := by
  have H : Hid (Wr w g (n * 6)) := h
  clear h
  go_enter Try.func47, Try.ntmps47
  go_wp2_with fail
  go_loopw [1, 5] (fun k i wr => ∃ q : Nat, q ≤ n ∧ k = .int .i64 ((a + q * 6 : Nat) : Int) ∧ i = .int .i64 q ∧ Hid (Wr wr g (n * 6) ∧ Mid g (g + 1) w wr ∧ Up wr g a (q * 6))) (fun _ i _ => n - (intOf i).toNat)
  case atStart => exact ⟨0, by omega, by simp, rfl, H.out, Mid.refl _ _ _, fun i hi => absurd hi (by omega)⟩
  case round =>
    obtain ⟨q, hq, rfl, rfl, HA⟩ := hrel
    by_cases hlt : q < n
    · obtain ⟨⟨x0, c0⟩, f0⟩ := HA.out.1.cell (j := q * 6) (by omega)
      obtain ⟨⟨x1, c1⟩, f1⟩ := HA.out.1.cell (j := q * 6 + 1) (by omega)
      obtain ⟨⟨x2, c2⟩, f2⟩ := HA.out.1.cell (j := q * 6 + 2) (by omega)
      obtain ⟨⟨x3, c3⟩, f3⟩ := HA.out.1.cell (j := q * 6 + 3) (by omega)
      obtain ⟨⟨x4, c4⟩, f4⟩ := HA.out.1.cell (j := q * 6 + 4) (by omega)
      obtain ⟨⟨x5, c5⟩, f5⟩ := HA.out.1.cell (j := q * 6 + 5) (by omega)
      have U0 := HA.out.2.2.next HA.out.1 (show q * 6 < n * 6 by omega)
      have W0 := HA.out.1.set g (q * 6) (.int .i64 ((a + q * 6 : Nat) : Int))
      have U1 := U0.next W0 (by omega)
      have W1 := W0.set g (q * 6 + 1) (.int .i64 ((a + (q * 6 + 1) : Nat) : Int))
      have U2 := U1.next W1 (by omega)
      have W2 := W1.set g (q * 6 + 1 + 1) (.int .i64 ((a + (q * 6 + 1 + 1) : Nat) : Int))
      have U3 := U2.next W2 (by omega)
      have W3 := W2.set g (q * 6 + 1 + 1 + 1) (.int .i64 ((a + (q * 6 + 1 + 1 + 1) : Nat) : Int))
      have U4 := U3.next W3 (by omega)
      have W4 := W3.set g (q * 6 + 1 + 1 + 1 + 1) (.int .i64 ((a + (q * 6 + 1 + 1 + 1 + 1) : Nat) : Int))
      have U5 := U4.next W4 (by omega)
      have W5 := W4.set g (q * 6 + 1 + 1 + 1 + 1 + 1) (.int .i64 ((a + (q * 6 + 1 + 1 + 1 + 1 + 1) : Nat) : Int))
      have M5 := HA.out.2.1.trans ((Mid.set (w := wr) (Nat.le_refl g) (Nat.lt_succ_self g) (q * 6) (.int .i64 ((a + q * 6 : Nat) : Int))).trans ((Mid.set (Nat.le_refl g) (Nat.lt_succ_self g) (q * 6 + 1) (.int .i64 ((a + (q * 6 + 1) : Nat) : Int))).trans ((Mid.set (Nat.le_refl g) (Nat.lt_succ_self g) (q * 6 + 1 + 1) (.int .i64 ((a + (q * 6 + 1 + 1) : Nat) : Int))).trans ((Mid.set (Nat.le_refl g) (Nat.lt_succ_self g) (q * 6 + 1 + 1 + 1) (.int .i64 ((a + (q * 6 + 1 + 1 + 1) : Nat) : Int))).trans ((Mid.set (Nat.le_refl g) (Nat.lt_succ_self g) (q * 6 + 1 + 1 + 1 + 1) (.int .i64 ((a + (q * 6 + 1 + 1 + 1 + 1) : Nat) : Int))).trans (Mid.set (Nat.le_refl g) (Nat.lt_succ_self g) (q * 6 + 1 + 1 + 1 + 1 + 1) (.int .i64 ((a + (q * 6 + 1 + 1 + 1 + 1 + 1) : Nat) : Int))))))))
      have HF : Hid (Wr _ g (n * 6) ∧ Mid g (g + 1) w _ ∧ Up _ g a (q * 6 + 1 + 1 + 1 + 1 + 1 + 1)) := ⟨W5, M5, U5⟩
      have e1 : ((a + (q * 6 + 1) : Nat) : Int) = ((a + q * 6 : Nat) : Int) + 1 := by omega
      have e2 : ((a + (q * 6 + 1 + 1) : Nat) : Int) = ((a + q * 6 : Nat) : Int) + 1 + 1 := by omega
      have e3 : ((a + (q * 6 + 1 + 1 + 1) : Nat) : Int) = ((a + q * 6 : Nat) : Int) + 1 + 1 + 1 := by omega
      have e4 : ((a + (q * 6 + 1 + 1 + 1 + 1) : Nat) : Int) = ((a + q * 6 : Nat) : Int) + 1 + 1 + 1 + 1 := by omega
      have e5 : ((a + (q * 6 + 1 + 1 + 1 + 1 + 1) : Nat) : Int) = ((a + q * 6 : Nat) : Int) + 1 + 1 + 1 + 1 + 1 := by omega
      rw [e1, e2, e3, e4, e5] at HF
      clear U0 U1 U2 U3 U4 U5 W0 W1 W2 W3 W4 W5 M5 HA e1 e2 e3 e4 e5
      have hb : ((a + q * 6 : Nat) : Int) ≤ 2000000 := by omega
      have hb0 : (0 : Int) ≤ ((a + q * 6 : Nat) : Int) := by omega
      have HEN : Hid (((a + (q + 1) * 6 : Nat) : Int) = ((a + q * 6 : Nat) : Int) + 1 + 1 + 1 + 1 + 1 + 1 ∧ (q + 1) * 6 = q * 6 + 1 + 1 + 1 + 1 + 1 + 1) := ⟨by omega, by omega⟩
      generalize ((a + q * 6 : Nat) : Int) = z at HF hb hb0 HEN ⊢
      go_wp2_with fail
      exact ⟨⟨q + 1, by omega, by rw [HEN.out.1], by go_num, by rw [HEN.out.2]; exact HF⟩, by simp [intOf]; omega⟩
    · obtain rfl : q = n := by omega
      go_wp2_with fail
      go_ret
      exact ⟨rfl, HA.out.2.2, HA.out.2.1⟩
set_option maxRecDepth 100000 in
set_option maxHeartbeats 1600000 in
theorem heldSeens_any (g n cap a : Nat) (w : World) (h : Up w g a (n * 6)) (hcap : n ≤ cap) (hn : n ≤ 1000) (ha : a ≤ 1000000) :
    Calls Try.prog 58 #[.slice (some ⟨g, 0, none⟩) n cap, .int .i64 a] w fun e w' => e = .returned (.int .i64 ((a + n * 6 : Nat) : Int)) ∧ w = w' := by
  have H : Hid (Up w g a (n * 6)) := h
  clear h
  go_enter Try.func58, Try.ntmps58
  go_wp2_with fail
  go_loop [1, 5] (fun k i => ∃ q : Nat, q ≤ n ∧ k = .int .i64 ((a + q * 6 : Nat) : Int) ∧ i = .int .i64 q) (fun _ i => n - (intOf i).toNat)
  case atStart => exact ⟨0, by omega, by simp, rfl⟩
  case round =>
    obtain ⟨q, hq, rfl, rfl⟩ := hrel
    by_cases hlt : q < n
    · have c0 := H.out (q * 6) (by omega)
      have c1 := H.out (q * 6 + 1) (by omega)
      have c2 := H.out (q * 6 + 2) (by omega)
      have c3 := H.out (q * 6 + 3) (by omega)
      have c4 := H.out (q * 6 + 4) (by omega)
      have c5 := H.out (q * 6 + 5) (by omega)
      rw [show ((a + (q * 6 + 1) : Nat) : Int) = ((a + q * 6 : Nat) : Int) + 1 by omega] at c1
      rw [show ((a + (q * 6 + 2) : Nat) : Int) = ((a + q * 6 : Nat) : Int) + 1 + 1 by omega] at c2
      rw [show ((a + (q * 6 + 3) : Nat) : Int) = ((a + q * 6 : Nat) : Int) + 1 + 1 + 1 by omega] at c3
      rw [show ((a + (q * 6 + 4) : Nat) : Int) = ((a + q * 6 : Nat) : Int) + 1 + 1 + 1 + 1 by omega] at c4
      rw [show ((a + (q * 6 + 5) : Nat) : Int) = ((a + q * 6 : Nat) : Int) + 1 + 1 + 1 + 1 + 1 by omega] at c5
      have hb : ((a + q * 6 : Nat) : Int) ≤ 2000000 := by omega
      have hb0 : (0 : Int) ≤ ((a + q * 6 : Nat) : Int) := by omega
      have HEN : Hid (((a + (q + 1) * 6 : Nat) : Int) = ((a + q * 6 : Nat) : Int) + 1 + 1 + 1 + 1 + 1 + 1) := by show _ = _; omega
      generalize ((a + q * 6 : Nat) : Int) = z at c0 c1 c2 c3 c4 c5 hb hb0 HEN ⊢
      have n0 : (z != z) = false := by simp
      have n1 : (z + 1 != z + 1) = false := by simp
      have n2 : (z + 1 + 1 != z + 1 + 1) = false := by simp
      have n3 : (z + 1 + 1 + 1 != z + 1 + 1 + 1) = false := by simp
      have n4 : (z + 1 + 1 + 1 + 1 != z + 1 + 1 + 1 + 1) = false := by simp
      have n5 : (z + 1 + 1 + 1 + 1 + 1 != z + 1 + 1 + 1 + 1 + 1) = false := by simp
      go_wp2_with fail
      exact ⟨⟨q + 1, by omega, by rw [HEN.out], by go_num⟩, by simp [intOf]; omega⟩
    · obtain rfl : q = n := by omega
      go_wp2_with fail
      go_ret
      exact ⟨rfl, rfl⟩
end Go.Proofs.Ytkjbdemhpnhagaa.Um
