/- The laws' marks on those that wait, from anywhere in a block; on Seens. -/
import Derived.Test.YtlgfeohoebmbcaaGreatJm
import Derived.Test.YtlgfeohoebmbcaaGreatMl
import Derived.Deep.RegionWith
namespace Go.Proofs.YtlgfeohoebmbcaaGreat.Jn
open Go.RowKit Go.Proofs.YtlgfeohoebmbcaaGreat.Sl Go.Proofs.YtlgfeohoebmbcaaGreat.By Go.Proofs.YtlgfeohoebmbcaaGreat.Ap Go.Proofs.YtlgfeohoebmbcaaGreat.Tb Go.Proofs.YtlgfeohoebmbcaaGreat.Tw
open Go.Proofs.YtlgfeohoebmbcaaGreat.Mw (mtext markText_any Wr Wr.lt Wr.below Wr.set Wr.cell set_same set_off markNilW_any heldNilW_any Mid Mid.refl Mid.trans Mid.set Mid.below)
open Go.Proofs.YtlgfeohoebmbcaaGreat.Wa (OwnS OwnS.kept OwnS.lt OwnS.slice OwnS.below)
open Go.Proofs.YtlgfeohoebmbcaaGreat.Lo (LkA uV OwnL OwnL.kept OwnL.lt OwnL.slice own_block kind_ne clL atL Apart)
open Go.Proofs.YtlgfeohoebmbcaaGreat.Tx (blk_cell blk_set blk_far bel_new size_new)
open Go.Proofs.YtlgfeohoebmbcaaGreat.Jb (OwnO OwnO.kept OwnO.lt)

/-- Those that wait, marked from a on: the first q. -/
def MkO (w : World) (g o : Nat) (a q : Nat) : Prop := ∀ j, j < q → w.cell? ⟨g, o + j * 2, none⟩ = some (.int .i64 ((a + j * 2 : Nat) : Int)) ∧ w.cell? ⟨g, o + j * 2 + 1, none⟩ = some (.int .i64 ((a + j * 2 + 1 : Nat) : Int))
theorem MkO.below {w w' : World} {g o a q : Nat} (h : MkO w g o a q) (hg : g < w.heap.size) (hb : Below w.heap.size w w') : MkO w' g o a q := fun j hj => ⟨(hb.cell (p := ⟨g, _, none⟩) hg).trans (h j hj).1, (hb.cell (p := ⟨g, _, none⟩) hg).trans (h j hj).2⟩
theorem MkO.next {w : World} {g o a q n : Nat} (h : MkO w g o a q) (hw : Wr w g (o + n * 2)) (hq : q < n) : MkO ((w.setCell ⟨g, o + q * 2, none⟩ (.int .i64 ((a + q * 2 : Nat) : Int))).setCell ⟨g, o + q * 2 + 1, none⟩ (.int .i64 ((a + q * 2 + 1 : Nat) : Int))) g o a (q + 1) := fun j hj => by
  by_cases e : j = q
  · subst e
    exact ⟨(set_off (by omega) _).trans (set_same hw (by omega) _), set_same (hw.set _ _ _) (by omega) _⟩
  · exact ⟨((set_off (by omega) _).trans (set_off (by omega) _)).trans (h j (by omega)).1, ((set_off (by omega) _).trans (set_off (by omega) _)).trans (h j (by omega)).2⟩
set_option maxRecDepth 100000 in
set_option maxHeartbeats 800000 in
theorem markOwnO_any (g o n cap : Nat) (a : Nat) (w : World) (h : Wr w g (o + n * 2)) (hcap : n ≤ cap) (hn : n ≤ 1048576) (ha : a ≤ 1000000000000000) :
    Calls Tryz.prog 79 #[.slice (some ⟨g, o, none⟩) n cap, .int .i64 a] w fun e w' => e = .returned (.int .i64 ((a + n * 2 : Nat) : Int)) ∧ MkO w' g o a n ∧ Mid g (g + 1) w w' := by
  have H : Hid (Wr w g (o + n * 2)) := h
  clear h
  go_enter Tryz.func79, Tryz.ntmps79
  go_wp2_with fail
  go_loopw [1, 5] (fun k i wr => ∃ q : Nat, q ≤ n ∧ k = .int .i64 ((a + q * 2 : Nat) : Int) ∧ i = .int .i64 q ∧ Hid (Wr wr g (o + n * 2) ∧ Mid g (g + 1) w wr ∧ MkO wr g o a q)) (fun _ i _ => n - (intOf i).toNat)
  case atStart => exact ⟨0, by omega, by simp, rfl, H.out, Mid.refl _ _ _, fun j hj => absurd hj (by omega)⟩
  case round =>
    obtain ⟨q, hq, rfl, rfl, HA⟩ := hrel
    by_cases hlt : q < n
    · obtain ⟨⟨x0, c0⟩, f0⟩ := HA.out.1.cell (j := o + q * 2) (by omega)
      obtain ⟨⟨x1, c1⟩, f1⟩ := HA.out.1.cell (j := o + q * 2 + 1) (by omega)
      have HK : Hid (MkO ((wr.setCell ⟨g, o + q * 2, none⟩ (.int .i64 ((a + q * 2 : Nat) : Int))).setCell ⟨g, o + q * 2 + 1, none⟩ (.int .i64 (((a + q * 2 : Nat) : Int) + 1))) g o a (q + 1)) := by
        have h := HA.out.2.2.next HA.out.1 hlt
        rw [show ((a + q * 2 + 1 : Nat) : Int) = ((a + q * 2 : Nat) : Int) + 1 by omega] at h
        exact h
      go_wp2_with fail
      exact ⟨⟨q + 1, by omega, by go_num, by go_num, (HA.out.1.set _ _ _).set _ _ _, HA.out.2.1.trans ((Mid.set (Nat.le_refl _) (Nat.lt_succ_self _) _ _).trans (Mid.set (Nat.le_refl _) (Nat.lt_succ_self _) _ _)), HK.out⟩, by simp [intOf]; omega⟩
    · obtain rfl : q = n := by omega
      go_wp2_with fail
      go_ret
      exact ⟨rfl, HA.out.2.2, HA.out.2.1⟩
set_option maxRecDepth 100000 in
set_option maxHeartbeats 800000 in
theorem heldOwnO_any (g o n cap : Nat) (a : Nat) (w : World) (h : MkO w g o a n) (hcap : n ≤ cap) (hn : n ≤ 1048576) (ha : a ≤ 1000000000000000) :
    Calls Tryz.prog 80 #[.slice (some ⟨g, o, none⟩) n cap, .int .i64 a] w fun e w' => e = .returned (.int .i64 ((a + n * 2 : Nat) : Int)) ∧ w' = w := by
  have H : Hid (MkO w g o a n) := h
  clear h
  go_enter Tryz.func80, Tryz.ntmps80
  go_wp2_with fail
  go_loop [1, 5] (fun k i => ∃ q : Nat, q ≤ n ∧ k = .int .i64 ((a + q * 2 : Nat) : Int) ∧ i = .int .i64 q) (fun _ i => n - (intOf i).toNat)
  case atStart => exact ⟨0, by omega, by simp, rfl⟩
  case round =>
    obtain ⟨q, hq, rfl, rfl⟩ := hrel
    by_cases hlt : q < n
    · obtain ⟨c0, c1⟩ := H.out q hlt
      have e0 : (((a + q * 2 : Nat) : Int) != ((a + q * 2 : Nat) : Int)) = false := by simp
      have e1 : (((a + q * 2 + 1 : Nat) : Int) != ((a + q * 2 : Nat) : Int) + 1) = false := by simp
      go_wp2
      go_round
      case rel => exact ⟨q + 1, by omega, by go_num, by go_num⟩
      case measure => simp [intOf]; omega
    · obtain rfl : q = n := by omega
      go_wp2
      go_ret
      exact ⟨rfl, rfl⟩
/-- Cells that bear numbers one after the other. -/
def Up (W : World) (g a N : Nat) : Prop := ∀ i, i < N → W.cell? ⟨g, i, none⟩ = some (.int .i64 ((a + i : Nat) : Int))
theorem Up.below {W W' : World} {g a N : Nat} (h : Up W g a N) (hg : g < W.heap.size) (hb : Below W.heap.size W W') : Up W' g a N := fun i hi => (hb.cell (p := ⟨g, i, none⟩) hg).trans (h i hi)
theorem Up.next {W : World} {g a N M : Nat} (h : Up W g a N) (hw : Wr W g M) (hN : N < M) : Up (W.setCell ⟨g, N, none⟩ (.int .i64 ((a + N : Nat) : Int))) g a (N + 1) := fun i hi => by
  by_cases e : i = N
  · subst e; exact set_same hw hN _
  · rw [set_off (fun h => e h.symm)]; exact h i (by omega)
set_option maxRecDepth 100000 in
set_option maxHeartbeats 1600000 in
theorem markSeens_any (g n cap a : Nat) (w : World) (h : Wr w g (n * 6)) (hcap : n ≤ cap) (hn : n ≤ 1000) (ha : a ≤ 1000000) :
    Calls Tryz.prog 51 #[.slice (some ⟨g, 0, none⟩) n cap, .int .i64 a] w fun e w' => e = .returned (.int .i64 ((a + n * 6 : Nat) : Int)) ∧ Up w' g a (n * 6) ∧ Mid g (g + 1) w w' := by
  have H : Hid (Wr w g (n * 6)) := h
  clear h
  go_enter Tryz.func51, Tryz.ntmps51
  go_wp2_with fail
  go_loopw [1, 5] (fun k i wr => ∃ q : Nat, q ≤ n ∧ k = .int .i64 ((a + q * 6 : Nat) : Int) ∧ i = .int .i64 q ∧ Hid (Wr wr g (n * 6) ∧ Mid g (g + 1) w wr ∧ Up wr g a (q * 6))) (fun _ i _ => n - (intOf i).toNat)
  case atStart => exact ⟨0, by omega, by simp, rfl, H.out, Mid.refl _ _ _, fun i hi => absurd hi (by omega)⟩
  case round =>
    obtain ⟨q, hq, rfl, rfl, HA⟩ := hrel
    by_cases hlt : q < n
    · obtain ⟨⟨x0, c0⟩, f0⟩ := HA.out.1.cell (j := q * 6) (by omega)
      obtain ⟨⟨x1, c1⟩, f1⟩ := HA.out.1.cell (j := q * 6 + 1) (by omega)
      obtain ⟨⟨x2, c2⟩, f2⟩ := HA.out.1.cell (j := q * 6 + 2) (by omega)
      obtain ⟨⟨x3, c3⟩, f3⟩ := HA.out.1.cell (j := q * 6 + 3) (by omega)
      obtain ⟨⟨x4, c4⟩, f4⟩ := HA.out.1.cell (j := q * 6 + 4) (by omega)
      obtain ⟨⟨x5, c5⟩, f5⟩ := HA.out.1.cell (j := q * 6 + 5) (by omega)
      have U0 := HA.out.2.2.next HA.out.1 (show q * 6 < n * 6 by omega)
      have W0 := HA.out.1.set g (q * 6) (.int .i64 ((a + q * 6 : Nat) : Int))
      have U1 := U0.next W0 (by omega)
      have W1 := W0.set g (q * 6 + 1) (.int .i64 ((a + (q * 6 + 1) : Nat) : Int))
      have U2 := U1.next W1 (by omega)
      have W2 := W1.set g (q * 6 + 1 + 1) (.int .i64 ((a + (q * 6 + 1 + 1) : Nat) : Int))
      have U3 := U2.next W2 (by omega)
      have W3 := W2.set g (q * 6 + 1 + 1 + 1) (.int .i64 ((a + (q * 6 + 1 + 1 + 1) : Nat) : Int))
      have U4 := U3.next W3 (by omega)
      have W4 := W3.set g (q * 6 + 1 + 1 + 1 + 1) (.int .i64 ((a + (q * 6 + 1 + 1 + 1 + 1) : Nat) : Int))
      have U5 := U4.next W4 (by omega)
      have W5 := W4.set g (q * 6 + 1 + 1 + 1 + 1 + 1) (.int .i64 ((a + (q * 6 + 1 + 1 + 1 + 1 + 1) : Nat) : Int))
      have M5 := HA.out.2.1.trans ((Mid.set (w := wr) (Nat.le_refl g) (Nat.lt_succ_self g) (q * 6) (.int .i64 ((a + q * 6 : Nat) : Int))).trans ((Mid.set (Nat.le_refl g) (Nat.lt_succ_self g) (q * 6 + 1) (.int .i64 ((a + (q * 6 + 1) : Nat) : Int))).trans ((Mid.set (Nat.le_refl g) (Nat.lt_succ_self g) (q * 6 + 1 + 1) (.int .i64 ((a + (q * 6 + 1 + 1) : Nat) : Int))).trans ((Mid.set (Nat.le_refl g) (Nat.lt_succ_self g) (q * 6 + 1 + 1 + 1) (.int .i64 ((a + (q * 6 + 1 + 1 + 1) : Nat) : Int))).trans ((Mid.set (Nat.le_refl g) (Nat.lt_succ_self g) (q * 6 + 1 + 1 + 1 + 1) (.int .i64 ((a + (q * 6 + 1 + 1 + 1 + 1) : Nat) : Int))).trans (Mid.set (Nat.le_refl g) (Nat.lt_succ_self g) (q * 6 + 1 + 1 + 1 + 1 + 1) (.int .i64 ((a + (q * 6 + 1 + 1 + 1 + 1 + 1) : Nat) : Int))))))))
      have HF : Hid (Wr _ g (n * 6) ∧ Mid g (g + 1) w _ ∧ Up _ g a (q * 6 + 1 + 1 + 1 + 1 + 1 + 1)) := ⟨W5, M5, U5⟩
      have e1 : ((a + (q * 6 + 1) : Nat) : Int) = ((a + q * 6 : Nat) : Int) + 1 := by omega
      have e2 : ((a + (q * 6 + 1 + 1) : Nat) : Int) = ((a + q * 6 : Nat) : Int) + 1 + 1 := by omega
      have e3 : ((a + (q * 6 + 1 + 1 + 1) : Nat) : Int) = ((a + q * 6 : Nat) : Int) + 1 + 1 + 1 := by omega
      have e4 : ((a + (q * 6 + 1 + 1 + 1 + 1) : Nat) : Int) = ((a + q * 6 : Nat) : Int) + 1 + 1 + 1 + 1 := by omega
      have e5 : ((a + (q * 6 + 1 + 1 + 1 + 1 + 1) : Nat) : Int) = ((a + q * 6 : Nat) : Int) + 1 + 1 + 1 + 1 + 1 := by omega
      rw [e1, e2, e3, e4, e5] at HF
      clear U0 U1 U2 U3 U4 U5 W0 W1 W2 W3 W4 W5 M5 HA e1 e2 e3 e4 e5
      have hb : ((a + q * 6 : Nat) : Int) ≤ 2000000 := by omega
      have hb0 : (0 : Int) ≤ ((a + q * 6 : Nat) : Int) := by omega
      have HEN : Hid (((a + (q + 1) * 6 : Nat) : Int) = ((a + q * 6 : Nat) : Int) + 1 + 1 + 1 + 1 + 1 + 1 ∧ (q + 1) * 6 = q * 6 + 1 + 1 + 1 + 1 + 1 + 1) := ⟨by omega, by omega⟩
      generalize ((a + q * 6 : Nat) : Int) = z at HF hb hb0 HEN ⊢
      go_wp2_with fail
      exact ⟨⟨q + 1, by omega, by rw [HEN.out.1], by go_num, by rw [HEN.out.2]; exact HF⟩, by simp [intOf]; omega⟩
    · obtain rfl : q = n := by omega
      go_wp2_with fail
      go_ret
      exact ⟨rfl, HA.out.2.2, HA.out.2.1⟩
set_option maxRecDepth 100000 in
set_option maxHeartbeats 1600000 in
theorem heldSeens_any (g n cap a : Nat) (w : World) (h : Up w g a (n * 6)) (hcap : n ≤ cap) (hn : n ≤ 1000) (ha : a ≤ 1000000) :
    Calls Tryz.prog 53 #[.slice (some ⟨g, 0, none⟩) n cap, .int .i64 a] w fun e w' => e = .returned (.int .i64 ((a + n * 6 : Nat) : Int)) ∧ w = w' := by
  have H : Hid (Up w g a (n * 6)) := h
  clear h
  go_enter Tryz.func53, Tryz.ntmps53
  go_wp2_with fail
  go_loop [1, 5] (fun k i => ∃ q : Nat, q ≤ n ∧ k = .int .i64 ((a + q * 6 : Nat) : Int) ∧ i = .int .i64 q) (fun _ i => n - (intOf i).toNat)
  case atStart => exact ⟨0, by omega, by simp, rfl⟩
  case round =>
    obtain ⟨q, hq, rfl, rfl⟩ := hrel
    by_cases hlt : q < n
    · have c0 := H.out (q * 6) (by omega)
      have c1 := H.out (q * 6 + 1) (by omega)
      have c2 := H.out (q * 6 + 2) (by omega)
      have c3 := H.out (q * 6 + 3) (by omega)
      have c4 := H.out (q * 6 + 4) (by omega)
      have c5 := H.out (q * 6 + 5) (by omega)
      rw [show ((a + (q * 6 + 1) : Nat) : Int) = ((a + q * 6 : Nat) : Int) + 1 by omega] at c1
      rw [show ((a + (q * 6 + 2) : Nat) : Int) = ((a + q * 6 : Nat) : Int) + 1 + 1 by omega] at c2
      rw [show ((a + (q * 6 + 3) : Nat) : Int) = ((a + q * 6 : Nat) : Int) + 1 + 1 + 1 by omega] at c3
      rw [show ((a + (q * 6 + 4) : Nat) : Int) = ((a + q * 6 : Nat) : Int) + 1 + 1 + 1 + 1 by omega] at c4
      rw [show ((a + (q * 6 + 5) : Nat) : Int) = ((a + q * 6 : Nat) : Int) + 1 + 1 + 1 + 1 + 1 by omega] at c5
      have hb : ((a + q * 6 : Nat) : Int) ≤ 2000000 := by omega
      have hb0 : (0 : Int) ≤ ((a + q * 6 : Nat) : Int) := by omega
      have HEN : Hid (((a + (q + 1) * 6 : Nat) : Int) = ((a + q * 6 : Nat) : Int) + 1 + 1 + 1 + 1 + 1 + 1) := by show _ = _; omega
      generalize ((a + q * 6 : Nat) : Int) = z at c0 c1 c2 c3 c4 c5 hb hb0 HEN ⊢
      have n0 : (z != z) = false := by simp
      have n1 : (z + 1 != z + 1) = false := by simp
      have n2 : (z + 1 + 1 != z + 1 + 1) = false := by simp
      have n3 : (z + 1 + 1 + 1 != z + 1 + 1 + 1) = false := by simp
      have n4 : (z + 1 + 1 + 1 + 1 != z + 1 + 1 + 1 + 1) = false := by simp
      have n5 : (z + 1 + 1 + 1 + 1 + 1 != z + 1 + 1 + 1 + 1 + 1) = false := by simp
      go_wp2_with fail
      exact ⟨⟨q + 1, by omega, by rw [HEN.out], by go_num⟩, by simp [intOf]; omega⟩
    · obtain rfl : q = n := by omega
      go_wp2_with fail
      go_ret
      exact ⟨rfl, rfl⟩
end Go.Proofs.YtlgfeohoebmbcaaGreat.Jn
