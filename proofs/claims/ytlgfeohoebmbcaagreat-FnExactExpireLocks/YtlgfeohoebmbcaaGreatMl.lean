/- The laws' marks on a lock of one's own: those that wait, marked and held. -/
import Derived.Test.YtlgfeohoebmbcaaGreatMw
namespace Go.Proofs.YtlgfeohoebmbcaaGreat.Mw
open Go.RowKit Go.Proofs.YtlgfeohoebmbcaaGreat.Sl Go.Proofs.YtlgfeohoebmbcaaGreat.By Go.Proofs.YtlgfeohoebmbcaaGreat.Ap Go.Proofs.YtlgfeohoebmbcaaGreat.Tx Go.Proofs.YtlgfeohoebmbcaaGreat.Tb Go.Proofs.YtlgfeohoebmbcaaGreat.Tw

/-- Those that wait, marked from a on: the first q. -/
def MkW (w : World) (g : Nat) (a q : Nat) : Prop := ∀ j, j < q → w.cell? ⟨g, j * 2, none⟩ = some (.int .i64 ((a + j * 2 : Nat) : Int)) ∧ w.cell? ⟨g, j * 2 + 1, none⟩ = some (.int .i64 ((a + j * 2 + 1 : Nat) : Int))
theorem MkW.below {w w' : World} {g a q : Nat} (h : MkW w g a q) (hg : g < w.heap.size) (hb : Below w.heap.size w w') : MkW w' g a q := fun j hj => ⟨(hb.cell (p := ⟨g, _, none⟩) hg).trans (h j hj).1, (hb.cell (p := ⟨g, _, none⟩) hg).trans (h j hj).2⟩
theorem set_same {w : World} {g n j : Nat} (h : Wr w g n) (hj : j < n) (x : Value) : (w.setCell ⟨g, j, none⟩ x).cell? ⟨g, j, none⟩ = some x := by
  obtain ⟨A, t, h, hn⟩ := h
  have h1 := blk_set h j x
  exact (blk_cell h1 j (x := x) (by rw [Array.getElem?_setIfInBounds, if_pos rfl, if_pos (by omega)])).1
theorem set_off {w : World} {g i j : Nat} (hne : i ≠ j) (x : Value) : (w.setCell ⟨g, i, none⟩ x).cell? ⟨g, j, none⟩ = w.cell? ⟨g, j, none⟩ :=
  World.cell?_setCell_other _ _ _ _ (fun e => hne (by have := congrArg Addr.off e; exact this))
theorem MkW.next {w : World} {g a q n : Nat} (h : MkW w g a q) (hw : Wr w g (n * 2)) (hq : q < n) : MkW ((w.setCell ⟨g, q * 2, none⟩ (.int .i64 ((a + q * 2 : Nat) : Int))).setCell ⟨g, q * 2 + 1, none⟩ (.int .i64 ((a + q * 2 + 1 : Nat) : Int))) g a (q + 1) := fun j hj => by
  by_cases e : j = q
  · subst e
    exact ⟨(set_off (by omega) _).trans (set_same hw (by omega) _), set_same (hw.set _ _ _) (by omega) _⟩
  · exact ⟨((set_off (by omega) _).trans (set_off (by omega) _)).trans (h j (by omega)).1, ((set_off (by omega) _).trans (set_off (by omega) _)).trans (h j (by omega)).2⟩
set_option maxRecDepth 100000 in
set_option maxHeartbeats 800000 in
theorem markOwnW_any (g n cap : Nat) (a : Nat) (w : World) (h : Wr w g (n * 2)) (hcap : n ≤ cap) (hn : n ≤ 1048576) (ha : a ≤ 1000000000000000) :
    Calls Tryz.prog 79 #[.slice (some ⟨g, 0, none⟩) n cap, .int .i64 a] w fun e w' => e = .returned (.int .i64 ((a + n * 2 : Nat) : Int)) ∧ MkW w' g a n ∧ Mid g (g + 1) w w' := by
  have H : Hid (Wr w g (n * 2)) := h
  clear h
  go_enter Tryz.func79, Tryz.ntmps79
  go_wp2_with fail
  go_loopw [1, 5] (fun k i wr => ∃ q : Nat, q ≤ n ∧ k = .int .i64 ((a + q * 2 : Nat) : Int) ∧ i = .int .i64 q ∧ Hid (Wr wr g (n * 2) ∧ Mid g (g + 1) w wr ∧ MkW wr g a q)) (fun _ i _ => n - (intOf i).toNat)
  case atStart => exact ⟨0, by omega, by simp, rfl, H.out, Mid.refl _ _ _, fun j hj => absurd hj (by omega)⟩
  case round =>
    obtain ⟨q, hq, rfl, rfl, HA⟩ := hrel
    by_cases hlt : q < n
    · obtain ⟨⟨x0, c0⟩, f0⟩ := HA.out.1.cell (j := q * 2) (by omega)
      obtain ⟨⟨x1, c1⟩, f1⟩ := HA.out.1.cell (j := q * 2 + 1) (by omega)
      have HK : Hid (MkW ((wr.setCell ⟨g, q * 2, none⟩ (.int .i64 ((a + q * 2 : Nat) : Int))).setCell ⟨g, q * 2 + 1, none⟩ (.int .i64 (((a + q * 2 : Nat) : Int) + 1))) g a (q + 1)) := by
        have h := HA.out.2.2.next HA.out.1 hlt
        rw [show ((a + q * 2 + 1 : Nat) : Int) = ((a + q * 2 : Nat) : Int) + 1 by omega] at h
        exact h
      go_wp2_with fail
      exact ⟨⟨q + 1, by omega, by go_num, by go_num, (HA.out.1.set _ _ _).set _ _ _, HA.out.2.1.trans ((Mid.set (Nat.le_refl _) (Nat.lt_succ_self _) _ _).trans (Mid.set (Nat.le_refl _) (Nat.lt_succ_self _) _ _)), HK.out⟩, by simp [intOf]; omega⟩
    · obtain rfl : q = n := by omega
      go_wp2_with fail
      go_ret
      exact ⟨rfl, HA.out.2.2, HA.out.2.1⟩
set_option maxRecDepth 100000 in
set_option maxHeartbeats 800000 in
theorem heldOwnW_any (g n cap : Nat) (a : Nat) (w : World) (h : MkW w g a n) (hcap : n ≤ cap) (hn : n ≤ 1048576) (ha : a ≤ 1000000000000000) :
    Calls Tryz.prog 80 #[.slice (some ⟨g, 0, none⟩) n cap, .int .i64 a] w fun e w' => e = .returned (.int .i64 ((a + n * 2 : Nat) : Int)) ∧ w' = w := by
  have H : Hid (MkW w g a n) := h
  clear h
  go_enter Tryz.func80, Tryz.ntmps80
  go_wp2_with fail
  go_loop [1, 5] (fun k i => ∃ q : Nat, q ≤ n ∧ k = .int .i64 ((a + q * 2 : Nat) : Int) ∧ i = .int .i64 q) (fun _ i => n - (intOf i).toNat)
  case atStart => exact ⟨0, by omega, by simp, rfl⟩
  case round =>
    obtain ⟨q, hq, rfl, rfl⟩ := hrel
    by_cases hlt : q < n
    · obtain ⟨c0, c1⟩ := H.out q hlt
      have e0 : (((a + q * 2 : Nat) : Int) != ((a + q * 2 : Nat) : Int)) = false := by simp
      have e1 : (((a + q * 2 + 1 : Nat) : Int) != ((a + q * 2 : Nat) : Int) + 1) = false := by simp
      go_wp2
      go_round
      case rel => exact ⟨q + 1, by omega, by go_num, by go_num⟩
      case measure => simp [intOf]; omega
    · obtain rfl : q = n := by omega
      go_wp2
      go_ret
      exact ⟨rfl, rfl⟩
set_option maxHeartbeats 400000 in
theorem markNilW_any (a : Nat) (ad : Option Addr) (cap : Nat) (w : World) : Calls Tryz.prog 79 #[.slice ad 0 cap, .int .i64 a] w fun e w' => e = .returned (.int .i64 (a : Int)) ∧ w' = w := by
  go_enter Tryz.func79, Tryz.ntmps79
  go_wp2_with fail
  go_loopw [1, 5] (fun k i wr => k = .int .i64 (a : Int) ∧ i = .int .i64 0 ∧ wr = w) (fun _ _ _ => 0)
  case atStart => exact ⟨rfl, rfl, rfl⟩
  case round =>
    obtain ⟨rfl, rfl, rfl⟩ := hrel
    go_wp2
    go_ret
    exact ⟨rfl, rfl⟩
set_option maxHeartbeats 400000 in
theorem heldNilW_any (a : Nat) (ad : Option Addr) (cap : Nat) (w : World) : Calls Tryz.prog 80 #[.slice ad 0 cap, .int .i64 a] w fun e w' => e = .returned (.int .i64 (a : Int)) ∧ w' = w := by
  go_enter Tryz.func80, Tryz.ntmps80
  go_wp2_with fail
  go_loopw [1, 5] (fun k i wr => k = .int .i64 (a : Int) ∧ i = .int .i64 0 ∧ wr = w) (fun _ _ _ => 0)
  case atStart => exact ⟨rfl, rfl, rfl⟩
  case round =>
    obtain ⟨rfl, rfl, rfl⟩ := hrel
    go_wp2
    go_ret
    exact ⟨rfl, rfl⟩
/-- Those that wait, in memory of one's own (or none). -/
def OwnW (w : World) (B : Nat) (v : Value) (n : Nat) : Prop := ∃ ad cap, v = .slice ad n cap ∧ (n = 0 ∨ ∃ g, ad = some ⟨g, 0, none⟩ ∧ B ≤ g ∧ n ≤ cap ∧ Wr w g (n * 2))
def HeldW (w : World) (B : Nat) (v : Value) (a n : Nat) : Prop := ∃ ad cap, v = .slice ad n cap ∧ (n = 0 ∨ ∃ g, ad = some ⟨g, 0, none⟩ ∧ B ≤ g ∧ g < w.heap.size ∧ n ≤ cap ∧ MkW w g a n)
theorem HeldW.below {w w' : World} {B : Nat} {v : Value} {a n : Nat} (h : HeldW w B v a n) (hb : Below w.heap.size w w') : HeldW w' B v a n := by
  obtain ⟨ad, cap, rfl, h⟩ := h
  refine ⟨ad, cap, rfl, ?_⟩
  rcases h with h | ⟨g, rfl, h1, h2, h3, h4⟩
  · exact .inl h
  · exact .inr ⟨g, rfl, h1, Nat.lt_of_lt_of_le h2 hb.size, h3, h4.below h2 hb⟩
end Go.Proofs.YtlgfeohoebmbcaaGreat.Mw
