/- The laws' marks on texts that lie in a slice with room behind. -/
import Derived.Test.YtmafigajapkmnaaRl2
namespace Go.Proofs.Ytmafigajapkmnaa.Rl
open Go.RowKit Go.Proofs.Ytmafigajapkmnaa.Sl Go.Proofs.Ytmafigajapkmnaa.By Go.Proofs.Ytmafigajapkmnaa.Ap Go.Proofs.Ytmafigajapkmnaa.Rq Go.Proofs.Ytmafigajapkmnaa.Rr Go.Proofs.Ytmafigajapkmnaa.Tx Go.Proofs.Ytmafigajapkmnaa.Tl Go.Proofs.Ytmafigajapkmnaa.Of Go.Proofs.Ytmafigajapkmnaa.Mk

/-- A slice in a block of its own with room behind: its texts. -/
def RowG (w : World) (g n cap : Nat) (ts : List ByteArray) : Prop :=
  ∃ A : Array Value, w.heap[g]? = some (.cells A 9 (0, 0)) ∧ n ≤ A.size ∧ n ≤ cap ∧ ts.length = n ∧ ∀ j, j < n → A[j]? = some (.string (tnth ts j))
theorem RowG.row {w : World} {g n cap : Nat} {ts : List ByteArray} (h : RowG w g n cap ts) : RowT w (.slice (some ⟨g, 0, none⟩) n cap) ts := by
  obtain ⟨A, hg, hs, hc, rfl, hA⟩ := h
  refine ⟨_, _, rfl, .inr ⟨g, 0, rfl, hc, (Array.getElem?_eq_some_iff.1 hg).1, fun i hi => ?_⟩⟩
  rw [Nat.zero_add, Joins.cell_of_block hg i]
  exact hA i hi
theorem OwnS.open {w : World} {B : Nat} {v : Value} {ts : List ByteArray} (h : OwnS w B v ts) : (v = .slice none 0 0 ∧ ts = []) ∨ ∃ g cap, v = .slice (some ⟨g, 0, none⟩) ts.length cap ∧ B ≤ g ∧ RowG w g ts.length cap ts := by
  have hrow := h.row
  obtain ⟨hl, h⟩ := h
  rcases h with ⟨rfl, h0⟩ | ⟨g, cap, cur, rfl, hB, hg, hc, _, hs, htk⟩
  · exact .inl ⟨rfl, List.length_eq_zero_iff.1 h0⟩
  · refine .inr ⟨g, cap, rfl, hB, cur, hg, by omega, hc, rfl, fun i hi => ?_⟩
    have h1 : (cur.toList.take (ts.length * 1))[i]? = some (.string (tnth ts i)) := by
      rw [htk, List.getElem?_map, List.getElem?_eq_getElem hi]
      simp [tnth, List.getD_eq_getElem?_getD, List.getElem?_eq_getElem hi]
    rw [List.getElem?_take] at h1
    split at h1
    · simpa using h1
    · cases h1
set_option maxHeartbeats 400000 in
theorem markNil_any (a : Nat) (w : World) : Calls Try.prog 51 #[.slice none 0 0, .int .i64 a] w fun e w' => e = .returned (.int .i64 (a : Int)) ∧ w' = w := by
  go_enter Try.func51, Try.ntmps51
  go_wp2_with fail
  go_loopw [1, 5] (fun k i wr => k = .int .i64 (a : Int) ∧ i = .int .i64 0 ∧ wr = w) (fun _ _ _ => 0)
  case atStart => exact ⟨rfl, rfl, rfl⟩
  case round =>
    obtain ⟨rfl, rfl, rfl⟩ := hrel
    go_wp2
    go_ret
    exact ⟨rfl, rfl⟩
set_option maxHeartbeats 800000 in
theorem markG_any (g n cap : Nat) (ts : List ByteArray) (a : Nat) (w : World) (h : RowG w g n cap ts) (ha : 0 < a) (ha2 : a ≤ 100) (hl : n ≤ 2000000) :
    Calls Try.prog 51 #[.slice (some ⟨g, 0, none⟩) n cap, .int .i64 a] w fun e w' => e = .returned (.int .i64 ((a : Int) + n)) ∧ RowG w' g n cap (tmarks a n) ∧ Kp w w' (.slice (some ⟨g, 0, none⟩) n n) (.slice (some ⟨g, 0, none⟩) n n) := by
  obtain ⟨A0, hg, hsz, hc, _, _⟩ := h
  have HG : Hid (w.heap[g]? = some (.cells A0 9 (0, 0)) ∧ n ≤ A0.size) := ⟨hg, hsz⟩
  have HC : Hid (n ≤ cap) := hc
  clear hg hsz hc
  go_enter Try.func51, Try.ntmps51
  go_wp2_with fail
  go_loopw [1, 5] (fun k i wr => ∃ (q : Nat) (A : Array Value), q ≤ n ∧ k = .int .i64 ((a : Int) + (q : Int)) ∧ i = .int .i64 q ∧ Hid (wr.heap[g]? = some (.cells A 9 (0, 0)) ∧ n ≤ A.size ∧ ∀ j, j < q → A[j]? = some (.string (mtext (a + j)))) ∧ Kp w wr (.slice (some ⟨g, 0, none⟩) n n) (.slice (some ⟨g, 0, none⟩) n n)) (fun _ i _ => n - (intOf i).toNat)
  case atStart => exact ⟨0, A0, by omega, by simp, rfl, ⟨HG.out.1, HG.out.2, fun j hj => absurd hj (by omega)⟩, Kp.refl _ _⟩
  case round =>
    obtain ⟨q, A, hq, rfl, rfl, HA, hk⟩ := hrel
    by_cases hlt : q < n
    · have EA : Hid ((a : Int) + (q : Int) = ((a + q : Nat) : Int)) := by show _ = _; omega
      go_wp2_with fail
      rw [EA.out]
      refine (markText_any (a + q) _ (by omega) (by omega)).mono ?_
      rintro e w2 ⟨rfl, b2⟩
      have hg2 : w2.heap[g]? = some (.cells A 9 (0, 0)) := (b2.block g (Array.getElem?_eq_some_iff.1 HA.out.1).1).trans HA.out.1
      have hqA : q < A.size := Nat.lt_of_lt_of_le hlt HA.out.2.1
      obtain ⟨x, hx⟩ : ∃ x, A[q]? = some x := ⟨_, Array.getElem?_eq_getElem hqA⟩
      obtain ⟨c1, f1⟩ := blk_cell hg2 q hx
      have hg3 := blk_set hg2 q (.string (mtext (a + q)))
      have HA' : Hid ((w2.setCell ⟨g, q, none⟩ (.string (mtext (a + q)))).heap[g]? = some (.cells (A.setIfInBounds q (.string (mtext (a + q)))) 9 (0, 0)) ∧ n ≤ (A.setIfInBounds q (.string (mtext (a + q)))).size ∧ ∀ j, j < q + 1 → (A.setIfInBounds q (.string (mtext (a + q))))[j]? = some (.string (mtext (a + j)))) := by
        refine ⟨hg3, by rw [Array.size_setIfInBounds]; exact HA.out.2.1, fun j hj => ?_⟩
        rw [Array.getElem?_setIfInBounds]
        by_cases e : q = j
        · subst e
          rw [if_pos rfl, if_pos hqA]
        · rw [if_neg e]
          exact HA.out.2.2 j (by omega)
      have hk2 := (hk.trans (Kp.of_below _ b2)).trans (kp_set (w := w2) (g := g) (n := n) q (.string (mtext (a + q))))
      clear hg2 hg3 hx b2 hqA
      go_wp2_with fail
      exact ⟨⟨q + 1, _, by omega, by go_num, by go_num, HA'.out, hk2⟩, by simp [intOf]; omega⟩
    · obtain rfl : q = n := by omega
      go_wp2
      go_ret
      refine ⟨rfl, ⟨A, HA.out.1, HA.out.2.1, HC.out, tmarks_length _ _, fun j hj => ?_⟩, hk⟩
      rw [tmarks_at a q j hj]
      exact HA.out.2.2 j hj

set_option maxHeartbeats 800000 in
theorem heldStringS_any (v : Value) (n a : Nat) (w : World) (h : RowT w v (tmarks a n)) (ha : 0 < a) (ha2 : a ≤ 100) (hl : n ≤ 2000000) :
    Calls Try.prog 54 #[v, .int .i64 a] w fun e w' => e = .returned (.int .i64 ((a : Int) + n)) ∧ Below w.heap.size w w' := by
  obtain ⟨ad, cap, rfl, h⟩ := h
  rw [tmarks_length] at h ⊢
  have h' : ∀ q, q < n → ∃ b off, ad = some ⟨b, off, none⟩ ∧ b < w.heap.size ∧ n ≤ cap ∧ w.cell? ⟨b, off + q, none⟩ = some (.string (mtext (a + q))) := by
    intro q hq
    rcases h with h | ⟨b, off, rfl, hc, hb, hcell⟩
    · have := congrArg List.length h; rw [tmarks_length] at this; simp at this; omega
    · exact ⟨b, off, rfl, hb, hc, by rw [hcell q hq, tmarks_at a n q hq]⟩
  have HH : Hid (_) := h'
  clear h h'
  go_enter Try.func54, Try.ntmps54
  go_wp2_with fail
  go_loopw [1, 5] (fun k i wr => ∃ q : Nat, q ≤ n ∧ k = .int .i64 ((a : Int) + (q : Int)) ∧ i = .int .i64 q ∧ Below w.heap.size w wr) (fun _ i _ => n - (intOf i).toNat)
  case atStart => exact ⟨0, by omega, by simp, rfl, Below.refl _ _⟩
  case round =>
    obtain ⟨q, hq, rfl, rfl, hbel⟩ := hrel
    by_cases hlt : q < n
    · have EA : Hid ((a : Int) + (q : Int) = ((a + q : Nat) : Int)) := by show _ = _; omega
      obtain ⟨b, off, rfl, hb, hc, hcell⟩ := HH.out q hlt
      have hc0 : wr.cell? ⟨b, off + q, none⟩ = some (.string (mtext (a + q))) := (hbel.cell (p := ⟨b, off + q, none⟩) hb).trans hcell
      have hbw : b < wr.heap.size := Nat.lt_of_lt_of_le hb hbel.size
      have hne : ((mtext (a + q)).toList == (mtext (a + q)).toList) = true := by simp
      have HT : Hid (∀ W : World, Calls Try.prog 87 #[.int .i64 ((a : Int) + (q : Int))] W fun e w' => e = .returned (.string (mtext (a + q))) ∧ Below W.heap.size W w') := fun W => by
        rw [EA.out]; exact markText_any (a + q) W (by omega) (by omega)
      clear hcell
      generalize mtext (a + q) = mt at hc0 hne HT
      have hp0 : (0 : Int) ≤ (q : Int) := by omega
      have hp1 : (q : Int) < (n : Int) := by omega
      go_wp2
      go_region_with (go_at_call 87; refine (HT.out _).mono ?_; rintro e w2 ⟨rfl, b2⟩; have b3 : Below wr.heap.size wr w2 := (ordB rfl b2).1; have c2 : w2.cell? ⟨b, off + q, none⟩ = some (.string mt) := (b3.cell (p := ⟨b, off + q, none⟩) hbw).trans hc0; have B2 : Below w.heap.size w w2 := hbel.trans (b3.mono hbel.size); clear b2 b3)
      all_goals go_wp2
      all_goals exact ⟨⟨q + 1, by omega, by go_num, by go_num, B2⟩, by simp [intOf]; omega⟩
    · obtain rfl : q = n := by omega
      go_wp2
      go_ret
      exact ⟨rfl, hbel⟩
end Go.Proofs.Ytmafigajapkmnaa.Rl
