/- Texts put together: Mks, Rc6, Wf, Wg. -/
import Derived.Test.YtddmdnljfnimbaaGreatDoorM22
import Derived.Test.YtddmdnljfnimbaaGreatDoorM23
import Derived.Test.YtddmdnljfnimbaaGreatDoorM20
/- The laws' marks on texts that lie in a slice with room behind. -/
namespace Go.Proofs.YtddmdnljfnimbaaGreatDoor.Rl
open Go.RowKit Go.Proofs.YtddmdnljfnimbaaGreatDoor.Sl Go.Proofs.YtddmdnljfnimbaaGreatDoor.By Go.Proofs.YtddmdnljfnimbaaGreatDoor.Ap Go.Proofs.YtddmdnljfnimbaaGreatDoor.Rq Go.Proofs.YtddmdnljfnimbaaGreatDoor.Rr Go.Proofs.YtddmdnljfnimbaaGreatDoor.Ty Go.Proofs.YtddmdnljfnimbaaGreatDoor.Tl Go.Proofs.YtddmdnljfnimbaaGreatDoor.Of Go.Proofs.YtddmdnljfnimbaaGreatDoor.Mk

/-- A slice in a block of its own with room behind: its texts. -/
def RowG (w : World) (g n cap : Nat) (ts : List ByteArray) : Prop :=
  ∃ A : Array Value, w.heap[g]? = some (.cells A 9 (0, 0)) ∧ n ≤ A.size ∧ n ≤ cap ∧ ts.length = n ∧ ∀ j, j < n → A[j]? = some (.string (tnth ts j))
theorem RowG.row {w : World} {g n cap : Nat} {ts : List ByteArray} (h : RowG w g n cap ts) : RowT w (.slice (some ⟨g, 0, none⟩) n cap) ts := by
  obtain ⟨A, hg, hs, hc, rfl, hA⟩ := h
  refine ⟨_, _, rfl, .inr ⟨g, 0, rfl, hc, (Array.getElem?_eq_some_iff.1 hg).1, fun i hi => ?_⟩⟩
  rw [Nat.zero_add, Joins.cell_of_block hg i]
  exact hA i hi
theorem OwnS.open {w : World} {B : Nat} {v : Value} {ts : List ByteArray} (h : OwnS w B v ts) : (v = .slice none 0 0 ∧ ts = []) ∨ ∃ g cap, v = .slice (some ⟨g, 0, none⟩) ts.length cap ∧ B ≤ g ∧ RowG w g ts.length cap ts := by
  have hrow := h.row
  obtain ⟨hl, h⟩ := h
  rcases h with ⟨rfl, h0⟩ | ⟨g, cap, cur, rfl, hB, hg, hc, _, hs, htk⟩
  · exact .inl ⟨rfl, List.length_eq_zero_iff.1 h0⟩
  · refine .inr ⟨g, cap, rfl, hB, cur, hg, by omega, hc, rfl, fun i hi => ?_⟩
    have h1 : (cur.toList.take (ts.length * 1))[i]? = some (.string (tnth ts i)) := by
      rw [htk, List.getElem?_map, List.getElem?_eq_getElem hi]
      simp [tnth, List.getD_eq_getElem?_getD, List.getElem?_eq_getElem hi]
    rw [List.getElem?_take] at h1
    split at h1
    · simpa using h1
    · cases h1
set_option maxHeartbeats 400000 in
theorem markNil_any (a : Nat) (w : World) : Calls Tryz.prog 25 #[.slice none 0 0, .int .i64 a] w fun e w' => e = .returned (.int .i64 (a : Int)) ∧ w' = w := by
  go_enter Tryz.func25, Tryz.ntmps25
  go_wp2_with fail
  go_loopw [1, 5] (fun k i wr => k = .int .i64 (a : Int) ∧ i = .int .i64 0 ∧ wr = w) (fun _ _ _ => 0)
  case atStart => exact ⟨rfl, rfl, rfl⟩
  case round =>
    obtain ⟨rfl, rfl, rfl⟩ := hrel
    go_wp2
    go_ret
    exact ⟨rfl, rfl⟩
set_option maxHeartbeats 800000 in
theorem markG_any (g n cap : Nat) (ts : List ByteArray) (a : Nat) (w : World) (h : RowG w g n cap ts) (ha : 0 < a) (ha2 : a ≤ 100) (hl : n ≤ 2000000) :
    Calls Tryz.prog 25 #[.slice (some ⟨g, 0, none⟩) n cap, .int .i64 a] w fun e w' => e = .returned (.int .i64 ((a : Int) + n)) ∧ RowG w' g n cap (tmarks a n) ∧ Kp w w' (.slice (some ⟨g, 0, none⟩) n n) (.slice (some ⟨g, 0, none⟩) n n) := by
  obtain ⟨A0, hg, hsz, hc, _, _⟩ := h
  have HG : Hid (w.heap[g]? = some (.cells A0 9 (0, 0)) ∧ n ≤ A0.size) := ⟨hg, hsz⟩
  have HC : Hid (n ≤ cap) := hc
  clear hg hsz hc
  go_enter Tryz.func25, Tryz.ntmps25
  go_wp2_with fail
  go_loopw [1, 5] (fun k i wr => ∃ (q : Nat) (A : Array Value), q ≤ n ∧ k = .int .i64 ((a : Int) + (q : Int)) ∧ i = .int .i64 q ∧ Hid (wr.heap[g]? = some (.cells A 9 (0, 0)) ∧ n ≤ A.size ∧ ∀ j, j < q → A[j]? = some (.string (mtext (a + j)))) ∧ Kp w wr (.slice (some ⟨g, 0, none⟩) n n) (.slice (some ⟨g, 0, none⟩) n n)) (fun _ i _ => n - (intOf i).toNat)
  case atStart => exact ⟨0, A0, by omega, by simp, rfl, ⟨HG.out.1, HG.out.2, fun j hj => absurd hj (by omega)⟩, Kp.refl _ _⟩
  case round =>
    obtain ⟨q, A, hq, rfl, rfl, HA, hk⟩ := hrel
    by_cases hlt : q < n
    · have EA : Hid ((a : Int) + (q : Int) = ((a + q : Nat) : Int)) := by show _ = _; omega
      go_wp2_with fail
      rw [EA.out]
      refine (markText_any (a + q) _ (by omega) (by omega)).mono ?_
      rintro e w2 ⟨rfl, b2⟩
      have hg2 : w2.heap[g]? = some (.cells A 9 (0, 0)) := (b2.block g (Array.getElem?_eq_some_iff.1 HA.out.1).1).trans HA.out.1
      have hqA : q < A.size := Nat.lt_of_lt_of_le hlt HA.out.2.1
      obtain ⟨x, hx⟩ : ∃ x, A[q]? = some x := ⟨_, Array.getElem?_eq_getElem hqA⟩
      obtain ⟨c1, f1⟩ := blk_cell hg2 q hx
      have hg3 := blk_set hg2 q (.string (mtext (a + q)))
      have HA' : Hid ((w2.setCell ⟨g, q, none⟩ (.string (mtext (a + q)))).heap[g]? = some (.cells (A.setIfInBounds q (.string (mtext (a + q)))) 9 (0, 0)) ∧ n ≤ (A.setIfInBounds q (.string (mtext (a + q)))).size ∧ ∀ j, j < q + 1 → (A.setIfInBounds q (.string (mtext (a + q))))[j]? = some (.string (mtext (a + j)))) := by
        refine ⟨hg3, by rw [Array.size_setIfInBounds]; exact HA.out.2.1, fun j hj => ?_⟩
        rw [Array.getElem?_setIfInBounds]
        by_cases e : q = j
        · subst e
          rw [if_pos rfl, if_pos hqA]
        · rw [if_neg e]
          exact HA.out.2.2 j (by omega)
      have hk2 := (hk.trans (Kp.of_below _ b2)).trans (kp_set (w := w2) (g := g) (n := n) q (.string (mtext (a + q))))
      clear hg2 hg3 hx b2 hqA
      go_wp2_with fail
      exact ⟨⟨q + 1, _, by omega, by go_num, by go_num, HA'.out, hk2⟩, by simp [intOf]; omega⟩
    · obtain rfl : q = n := by omega
      go_wp2
      go_ret
      refine ⟨rfl, ⟨A, HA.out.1, HA.out.2.1, HC.out, tmarks_length _ _, fun j hj => ?_⟩, hk⟩
      rw [tmarks_at a q j hj]
      exact HA.out.2.2 j hj

set_option maxHeartbeats 800000 in
theorem heldStringS_any (v : Value) (n a : Nat) (w : World) (h : RowT w v (tmarks a n)) (ha : 0 < a) (ha2 : a ≤ 100) (hl : n ≤ 2000000) :
    Calls Tryz.prog 26 #[v, .int .i64 a] w fun e w' => e = .returned (.int .i64 ((a : Int) + n)) ∧ Below w.heap.size w w' := by
  obtain ⟨ad, cap, rfl, h⟩ := h
  rw [tmarks_length] at h ⊢
  have h' : ∀ q, q < n → ∃ b off, ad = some ⟨b, off, none⟩ ∧ b < w.heap.size ∧ n ≤ cap ∧ w.cell? ⟨b, off + q, none⟩ = some (.string (mtext (a + q))) := by
    intro q hq
    rcases h with h | ⟨b, off, rfl, hc, hb, hcell⟩
    · have := congrArg List.length h; rw [tmarks_length] at this; simp at this; omega
    · exact ⟨b, off, rfl, hb, hc, by rw [hcell q hq, tmarks_at a n q hq]⟩
  have HH : Hid (_) := h'
  clear h h'
  go_enter Tryz.func26, Tryz.ntmps26
  go_wp2_with fail
  go_loopw [1, 5] (fun k i wr => ∃ q : Nat, q ≤ n ∧ k = .int .i64 ((a : Int) + (q : Int)) ∧ i = .int .i64 q ∧ Below w.heap.size w wr) (fun _ i _ => n - (intOf i).toNat)
  case atStart => exact ⟨0, by omega, by simp, rfl, Below.refl _ _⟩
  case round =>
    obtain ⟨q, hq, rfl, rfl, hbel⟩ := hrel
    by_cases hlt : q < n
    · have EA : Hid ((a : Int) + (q : Int) = ((a + q : Nat) : Int)) := by show _ = _; omega
      obtain ⟨b, off, rfl, hb, hc, hcell⟩ := HH.out q hlt
      have hc0 : wr.cell? ⟨b, off + q, none⟩ = some (.string (mtext (a + q))) := (hbel.cell (p := ⟨b, off + q, none⟩) hb).trans hcell
      have hbw : b < wr.heap.size := Nat.lt_of_lt_of_le hb hbel.size
      have hne : ((mtext (a + q)).toList == (mtext (a + q)).toList) = true := by simp
      have HT : Hid (∀ W : World, Calls Tryz.prog 37 #[.int .i64 ((a : Int) + (q : Int))] W fun e w' => e = .returned (.string (mtext (a + q))) ∧ Below W.heap.size W w') := fun W => by
        rw [EA.out]; exact markText_any (a + q) W (by omega) (by omega)
      clear hcell
      generalize mtext (a + q) = mt at hc0 hne HT
      have hp0 : (0 : Int) ≤ (q : Int) := by omega
      have hp1 : (q : Int) < (n : Int) := by omega
      go_wp2
      go_region_with (go_at_call 37; refine (HT.out _).mono ?_; rintro e w2 ⟨rfl, b2⟩; have b3 : Below wr.heap.size wr w2 := (ordB rfl b2).1; have c2 : w2.cell? ⟨b, off + q, none⟩ = some (.string mt) := (b3.cell (p := ⟨b, off + q, none⟩) hbw).trans hc0; have B2 : Below w.heap.size w w2 := hbel.trans (b3.mono hbel.size); clear b2 b3)
      all_goals go_wp2
      all_goals exact ⟨⟨q + 1, by omega, by go_num, by go_num, B2⟩, by simp [intOf]; omega⟩
    · obtain rfl : q = n := by omega
      go_wp2
      go_ret
      exact ⟨rfl, hbel⟩
end Go.Proofs.YtddmdnljfnimbaaGreatDoor.Rl

/- The laws' marks on a certificate that was handed out. -/
namespace Go.Proofs.YtddmdnljfnimbaaGreatDoor.Rc
open Go.RowKit Go.Proofs.YtddmdnljfnimbaaGreatDoor.Sl Go.Proofs.YtddmdnljfnimbaaGreatDoor.By Go.Proofs.YtddmdnljfnimbaaGreatDoor.Ap Go.Proofs.YtddmdnljfnimbaaGreatDoor.Gm Go.Proofs.YtddmdnljfnimbaaGreatDoor.Cb
open Go.Proofs.YtddmdnljfnimbaaGreatDoor.Rl (rdL)
open Go.Proofs.YtddmdnljfnimbaaGreatDoor.Rg (RowG RowG.slice RowG.at bel_new Wr Mid markText_any mtext)

/-- The mark in cell i of the row, counted from a. -/
def mv (a i : Nat) : Value := if i % 7 < 4 then .int .i64 ((a + i : Nat) : Int) else .string (mtext (a + i))
def Up (w : World) (g a n : Nat) : Prop := ∀ i, i < n → w.cell? ⟨g, i, none⟩ = some (mv a i)
theorem Up.below {w w' : World} {g a n : Nat} (h : Up w g a n) (hg : g < w.heap.size) (hb : Below w.heap.size w w') : Up w' g a n := fun i hi => (hb.cell (p := ⟨g, _, none⟩) hg).trans (h i hi)
theorem set_eq {w : World} {g n j : Nat} (h : Wr w g n) (hj : j < n) (x : Value) : (w.setCell ⟨g, j, none⟩ x).cell? ⟨g, j, none⟩ = some x := by
  obtain ⟨A, t, h, hn⟩ := h
  have h1 := Rg.blk_set h j x
  exact (Rg.blk_cell h1 j (x := x) (by rw [Array.getElem?_setIfInBounds, if_pos rfl, if_pos (by omega)])).1
theorem set_ne {w : World} {g i j : Nat} (hne : i ≠ j) (x : Value) : (w.setCell ⟨g, i, none⟩ x).cell? ⟨g, j, none⟩ = w.cell? ⟨g, j, none⟩ :=
  World.cell?_setCell_other _ _ _ _ (fun e => hne (by have := congrArg Addr.off e; exact this))
theorem Up.next {w : World} {g a n N : Nat} (h : Up w g a n) (hw : Wr w g N) (hn : n < N) {x : Value} (hx : x = mv a n) : Up (w.setCell ⟨g, n, none⟩ x) g a (n + 1) := fun i hi => by
  by_cases e : i = n
  · subst e
    rw [set_eq hw hn, hx]
  · exact (set_ne (fun h => e h.symm) _).trans (h i (by omega))
theorem mv_int {a q j : Nat} (hj : j < 4) {r : Int} (hr : r = ((a + (q * 7 + j) : Nat) : Int)) : Value.int .i64 r = mv a (q * 7 + j) := by unfold mv; rw [if_pos (by omega), hr]
theorem mv_str {a q j : Nat} (h1 : 4 ≤ j) (h2 : j < 7) {r : Nat} (hr : r = a + (q * 7 + j)) : Value.string (mtext r) = mv a (q * 7 + j) := by unfold mv; rw [if_neg (by omega), hr]
set_option maxRecDepth 100000 in
set_option maxHeartbeats 1600000 in
theorem markM_any (g n cap : Nat) (a : Nat) (w : World) (h : Wr w g (n * 7)) (hn : n ≤ 1048576) (ha : a ≤ 1000) (ha0 : 0 < a) :
    Calls Tryz.prog 24 #[.slice (some ⟨g, 0, none⟩) n cap, .int .i64 a] w fun e w' => e = .returned (.int .i64 ((a + n * 7 : Nat) : Int)) ∧ Up w' g a (n * 7) ∧ Wr w' g (n * 7) ∧ Mid g (g + 1) w w' := by
  have hB : g ≤ g := Nat.le_refl _
  have hC : g < g + 1 := Nat.lt_succ_self _
  have H : Hid (Wr w g (n * 7)) := h
  clear h
  go_enter Tryz.func24, Tryz.ntmps24
  go_wp2_with fail
  go_loopw [1, 5] (fun k i wr => ∃ q r : Nat, q ≤ n ∧ k = .int .i64 (r : Int) ∧ (r ≤ a + q * 7 ∧ 0 < r) ∧ i = .int .i64 q ∧ Hid (r = a + q * 7) ∧ Hid (Wr wr g (n * 7) ∧ Mid g (g + 1) w wr ∧ Up wr g a (q * 7))) (fun _ i _ => n - (intOf i).toNat)
  case atStart => exact ⟨0, a, by omega, rfl, by omega, rfl, (by show _ = _; omega), H.out, Mid.refl _ _ _, fun i hi => absurd hi (by omega)⟩
  case round =>
    obtain ⟨q, r, hq, rfl, hrb, rfl, HRR, HA⟩ := hrel
    by_cases hlt : q < n
    · have hsz : q * 7 + 6 < n * 7 := by omega
      obtain ⟨⟨x0, c0⟩, f0⟩ := HA.out.1.cell (j := q * 7) (by omega)
      obtain ⟨⟨x1, c1⟩, f1⟩ := HA.out.1.cell (j := q * 7 + 1) (by omega)
      obtain ⟨⟨x2, c2⟩, f2⟩ := HA.out.1.cell (j := q * 7 + 2) (by omega)
      obtain ⟨⟨x3, c3⟩, f3⟩ := HA.out.1.cell (j := q * 7 + 3) (by omega)
      have HC : Hid (Wr ((((wr.setCell ⟨g, q * 7, none⟩ (.int .i64 ((r : Int)))).setCell ⟨g, q * 7 + 1, none⟩ (.int .i64 ((r : Int) + 1))).setCell ⟨g, q * 7 + 2, none⟩ (.int .i64 ((r : Int) + 1 + 1))).setCell ⟨g, q * 7 + 3, none⟩ (.int .i64 ((r : Int) + 1 + 1 + 1))) g (n * 7) ∧ Mid g (g + 1) w ((((wr.setCell ⟨g, q * 7, none⟩ (.int .i64 ((r : Int)))).setCell ⟨g, q * 7 + 1, none⟩ (.int .i64 ((r : Int) + 1))).setCell ⟨g, q * 7 + 2, none⟩ (.int .i64 ((r : Int) + 1 + 1))).setCell ⟨g, q * 7 + 3, none⟩ (.int .i64 ((r : Int) + 1 + 1 + 1))) ∧ Up ((((wr.setCell ⟨g, q * 7, none⟩ (.int .i64 ((r : Int)))).setCell ⟨g, q * 7 + 1, none⟩ (.int .i64 ((r : Int) + 1))).setCell ⟨g, q * 7 + 2, none⟩ (.int .i64 ((r : Int) + 1 + 1))).setCell ⟨g, q * 7 + 3, none⟩ (.int .i64 ((r : Int) + 1 + 1 + 1))) g a (q * 7 + 4)) := ⟨((((HA.out.1.set _ _ _).set _ _ _).set _ _ _).set _ _ _), ((((HA.out.2.1.trans (Mid.set hB hC _ _)).trans (Mid.set hB hC _ _)).trans (Mid.set hB hC _ _)).trans (Mid.set hB hC _ _)),
        (((HA.out.2.2.next HA.out.1 (by omega) (mv_int (q := q) (j := 0) (by decide) (by have := HRR.out; omega))).next (HA.out.1.set _ _ _) (by omega) (mv_int (q := q) (j := 1) (by decide) (by have := HRR.out; omega))).next ((HA.out.1.set _ _ _).set _ _ _) (by omega) (mv_int (q := q) (j := 2) (by decide) (by have := HRR.out; omega))).next (((HA.out.1.set _ _ _).set _ _ _).set _ _ _) (by omega) (mv_int (q := q) (j := 3) (by decide) (by have := HRR.out; omega))⟩
      go_wp2_with fail
      generalize ((((wr.setCell ⟨g, q * 7, none⟩ (.int .i64 ((r : Int)))).setCell ⟨g, q * 7 + 1, none⟩ (.int .i64 ((r : Int) + 1))).setCell ⟨g, q * 7 + 2, none⟩ (.int .i64 ((r : Int) + 1 + 1))).setCell ⟨g, q * 7 + 3, none⟩ (.int .i64 ((r : Int) + 1 + 1 + 1))) = v0 at HC ⊢
      clear HA c0 f0 c1 f1 c2 f2 c3 f3
      obtain ⟨r0, HR0⟩ : ∃ r0 : Nat, Hid (r + 4 = r0) := ⟨_, rfl⟩
      have ER : Hid ((r : Int) + 1 + 1 + 1 + 1 = (r0 : Int)) := by show _ = _; have := HR0.out; omega
      rw [ER.out]
      have l0 : 0 < r0 ∧ r0 ≤ a + q * 7 + 4 := by have := HR0.out; omega
      have HL0 : Hid (r0 = a + (q * 7 + 4)) := by show _ = _; have := HR0.out; have := HRR.out; omega
      refine (markText_any r0 v0 (by omega) (by omega)).mono ?_
      rintro e u0 ⟨rfl, b0⟩
      have HD0 : Hid (Wr u0 g (n * 7) ∧ Mid g (g + 1) w u0 ∧ Up u0 g a (q * 7 + 4)) := ⟨HC.out.1.below b0, HC.out.2.1.trans (Mid.of_below b0), HC.out.2.2.below HC.out.1.lt b0⟩
      have HV0 : Hid (Value.string (mtext r0) = mv a (q * 7 + 4)) := mv_str (by decide) (by decide) HL0.out
      generalize mtext r0 = mt0 at HV0 ⊢
      obtain ⟨⟨y0, d0⟩, g0⟩ := HD0.out.1.cell (j := q * 7 + 4) (by omega)
      have HE : Hid (Wr (u0.setCell ⟨g, q * 7 + 4, none⟩ (.string mt0)) g (n * 7) ∧ Mid g (g + 1) w (u0.setCell ⟨g, q * 7 + 4, none⟩ (.string mt0)) ∧ Up (u0.setCell ⟨g, q * 7 + 4, none⟩ (.string mt0)) g a (q * 7 + 5)) := ⟨HD0.out.1.set _ _ _, HD0.out.2.1.trans (Mid.set hB hC _ _), HD0.out.2.2.next HD0.out.1 (by omega) HV0.out⟩
      clear HC b0 HV0
      go_wp2_with fail
      generalize u0.setCell ⟨g, q * 7 + 4, none⟩ (.string mt0) = v1 at HE ⊢
      have HC := HE
      clear HE HD0 d0 g0 ER
      obtain ⟨r1, HR1⟩ : ∃ r1 : Nat, Hid (r0 + 1 = r1) := ⟨_, rfl⟩
      have ER : Hid ((r0 : Int) + 1 = (r1 : Int)) := by show _ = _; have := HR1.out; omega
      rw [ER.out]
      have l1 : 0 < r1 ∧ r1 ≤ a + q * 7 + 5 := by have := HR1.out; omega
      have HL1 : Hid (r1 = a + (q * 7 + 5)) := by show _ = _; have := HR1.out; have := HRR.out; have := HL0.out; omega
      refine (markText_any r1 v1 (by omega) (by omega)).mono ?_
      rintro e u1 ⟨rfl, b1⟩
      have HD1 : Hid (Wr u1 g (n * 7) ∧ Mid g (g + 1) w u1 ∧ Up u1 g a (q * 7 + 5)) := ⟨HC.out.1.below b1, HC.out.2.1.trans (Mid.of_below b1), HC.out.2.2.below HC.out.1.lt b1⟩
      have HV1 : Hid (Value.string (mtext r1) = mv a (q * 7 + 5)) := mv_str (by decide) (by decide) HL1.out
      generalize mtext r1 = mt1 at HV1 ⊢
      obtain ⟨⟨y1, d1⟩, g1⟩ := HD1.out.1.cell (j := q * 7 + 5) (by omega)
      have HE : Hid (Wr (u1.setCell ⟨g, q * 7 + 5, none⟩ (.string mt1)) g (n * 7) ∧ Mid g (g + 1) w (u1.setCell ⟨g, q * 7 + 5, none⟩ (.string mt1)) ∧ Up (u1.setCell ⟨g, q * 7 + 5, none⟩ (.string mt1)) g a (q * 7 + 6)) := ⟨HD1.out.1.set _ _ _, HD1.out.2.1.trans (Mid.set hB hC _ _), HD1.out.2.2.next HD1.out.1 (by omega) HV1.out⟩
      clear HC b1 HV1
      go_wp2_with fail
      generalize u1.setCell ⟨g, q * 7 + 5, none⟩ (.string mt1) = v2 at HE ⊢
      have HC := HE
      clear HE HD1 d1 g1 ER
      obtain ⟨r2, HR2⟩ : ∃ r2 : Nat, Hid (r1 + 1 = r2) := ⟨_, rfl⟩
      have ER : Hid ((r1 : Int) + 1 = (r2 : Int)) := by show _ = _; have := HR2.out; omega
      rw [ER.out]
      have l2 : 0 < r2 ∧ r2 ≤ a + q * 7 + 6 := by have := HR2.out; omega
      have HL2 : Hid (r2 = a + (q * 7 + 6)) := by show _ = _; have := HR2.out; have := HRR.out; have := HL1.out; omega
      refine (markText_any r2 v2 (by omega) (by omega)).mono ?_
      rintro e u2 ⟨rfl, b2⟩
      have HD2 : Hid (Wr u2 g (n * 7) ∧ Mid g (g + 1) w u2 ∧ Up u2 g a (q * 7 + 6)) := ⟨HC.out.1.below b2, HC.out.2.1.trans (Mid.of_below b2), HC.out.2.2.below HC.out.1.lt b2⟩
      have HV2 : Hid (Value.string (mtext r2) = mv a (q * 7 + 6)) := mv_str (by decide) (by decide) HL2.out
      generalize mtext r2 = mt2 at HV2 ⊢
      obtain ⟨⟨y2, d2⟩, g2⟩ := HD2.out.1.cell (j := q * 7 + 6) (by omega)
      have HE : Hid (Wr (u2.setCell ⟨g, q * 7 + 6, none⟩ (.string mt2)) g (n * 7) ∧ Mid g (g + 1) w (u2.setCell ⟨g, q * 7 + 6, none⟩ (.string mt2)) ∧ Up (u2.setCell ⟨g, q * 7 + 6, none⟩ (.string mt2)) g a (q * 7 + 7)) := ⟨HD2.out.1.set _ _ _, HD2.out.2.1.trans (Mid.set hB hC _ _), HD2.out.2.2.next HD2.out.1 (by omega) HV2.out⟩
      clear HC b2 HV2
      go_wp2_with fail
      exact ⟨⟨q + 1, r2 + 1, by omega, by go_num, by omega, by go_num, (by show _ = _; have := HL2.out; omega), ⟨HE.out.1, HE.out.2.1, by rw [show (q + 1) * 7 = q * 7 + 7 by omega]; exact HE.out.2.2⟩⟩, by simp [intOf]; omega⟩
    · obtain rfl : q = n := by omega
      go_wp2_with fail
      go_ret
      exact ⟨Rg.ret_i (by have := HRR.out; omega), HA.out.2.2, HA.out.1, HA.out.2.1⟩
set_option maxRecDepth 100000 in
set_option maxHeartbeats 1600000 in
theorem heldM_any (g n cap : Nat) (a : Nat) (w : World) (h : Up w g a (n * 7)) (hg : g < w.heap.size) (hcap : n ≤ cap) (hn : n ≤ 1048576) (ha : a ≤ 1000) (ha0 : 0 < a) :
    Calls Tryz.prog 38 #[.slice (some ⟨g, 0, none⟩) n cap, .int .i64 a] w fun e w' => e = .returned (.int .i64 ((a + n * 7 : Nat) : Int)) ∧ Below w.heap.size w w' := by
  have H : Hid (Up w g a (n * 7)) := h
  clear h
  go_enter Tryz.func38, Tryz.ntmps38
  go_wp2_with fail
  go_loopw [1, 5] (fun k i wr => ∃ q r : Nat, q ≤ n ∧ k = .int .i64 (r : Int) ∧ (r ≤ a + q * 7 ∧ 0 < r) ∧ i = .int .i64 q ∧ Hid (r = a + q * 7) ∧ Hid (Below w.heap.size w wr)) (fun _ i _ => n - (intOf i).toNat)
  case atStart => exact ⟨0, a, by omega, rfl, by omega, rfl, (by show _ = _; omega), Below.refl _ _⟩
  case round =>
    obtain ⟨q, r, hq, rfl, hrb, rfl, HRR, HB⟩ := hrel
    by_cases hlt : q < n
    · have HU : Hid (∀ W, Below w.heap.size w W → Up W g a (n * 7)) := fun W hW => H.out.below hg hW
      have c0 : wr.cell? ⟨g, q * 7, none⟩ = some (.int .i64 ((r : Int))) := (HU.out wr HB.out (q * 7 + 0) (by omega)).trans (congrArg some (mv_int (q := q) (j := 0) (by decide) (by have := HRR.out; omega)).symm)
      have e0 : (((r : Int)) != ((r : Int))) = false := by simp
      have c1 : wr.cell? ⟨g, q * 7 + 1, none⟩ = some (.int .i64 ((r : Int) + 1)) := (HU.out wr HB.out (q * 7 + 1) (by omega)).trans (congrArg some (mv_int (q := q) (j := 1) (by decide) (by have := HRR.out; omega)).symm)
      have e1 : (((r : Int) + 1) != ((r : Int) + 1)) = false := by simp
      have c2 : wr.cell? ⟨g, q * 7 + 2, none⟩ = some (.int .i64 ((r : Int) + 1 + 1)) := (HU.out wr HB.out (q * 7 + 2) (by omega)).trans (congrArg some (mv_int (q := q) (j := 2) (by decide) (by have := HRR.out; omega)).symm)
      have e2 : (((r : Int) + 1 + 1) != ((r : Int) + 1 + 1)) = false := by simp
      have c3 : wr.cell? ⟨g, q * 7 + 3, none⟩ = some (.int .i64 ((r : Int) + 1 + 1 + 1)) := (HU.out wr HB.out (q * 7 + 3) (by omega)).trans (congrArg some (mv_int (q := q) (j := 3) (by decide) (by have := HRR.out; omega)).symm)
      have e3 : (((r : Int) + 1 + 1 + 1) != ((r : Int) + 1 + 1 + 1)) = false := by simp
      have HT4 : Hid (∀ W : World, Calls Tryz.prog 37 #[.int .i64 ((r : Int) + 1 + 1 + 1 + 1)] W fun e w' => e = .returned (.string (mtext (r + 4))) ∧ Below W.heap.size W w') := fun W => by
        rw [show (r : Int) + 1 + 1 + 1 + 1 = ((r + 4 : Nat) : Int) by omega]; exact markText_any (r + 4) W (by omega) (by omega)
      have HV4 : Hid (Value.string (mtext (r + 4)) = mv a (q * 7 + 4)) := mv_str (by decide) (by decide) (by have := HRR.out; omega)
      have n4 : ((mtext (r + 4)).toList == (mtext (r + 4)).toList) = true := by simp
      have nn4 : ((mtext (r + 4)).toList != (mtext (r + 4)).toList) = false := by simp
      generalize mtext (r + 4) = mt4 at HT4 HV4 n4 nn4
      have HT5 : Hid (∀ W : World, Calls Tryz.prog 37 #[.int .i64 ((r : Int) + 1 + 1 + 1 + 1 + 1)] W fun e w' => e = .returned (.string (mtext (r + 5))) ∧ Below W.heap.size W w') := fun W => by
        rw [show (r : Int) + 1 + 1 + 1 + 1 + 1 = ((r + 5 : Nat) : Int) by omega]; exact markText_any (r + 5) W (by omega) (by omega)
      have HV5 : Hid (Value.string (mtext (r + 5)) = mv a (q * 7 + 5)) := mv_str (by decide) (by decide) (by have := HRR.out; omega)
      have n5 : ((mtext (r + 5)).toList == (mtext (r + 5)).toList) = true := by simp
      have nn5 : ((mtext (r + 5)).toList != (mtext (r + 5)).toList) = false := by simp
      generalize mtext (r + 5) = mt5 at HT5 HV5 n5 nn5
      have HT6 : Hid (∀ W : World, Calls Tryz.prog 37 #[.int .i64 ((r : Int) + 1 + 1 + 1 + 1 + 1 + 1)] W fun e w' => e = .returned (.string (mtext (r + 6))) ∧ Below W.heap.size W w') := fun W => by
        rw [show (r : Int) + 1 + 1 + 1 + 1 + 1 + 1 = ((r + 6 : Nat) : Int) by omega]; exact markText_any (r + 6) W (by omega) (by omega)
      have HV6 : Hid (Value.string (mtext (r + 6)) = mv a (q * 7 + 6)) := mv_str (by decide) (by decide) (by have := HRR.out; omega)
      have n6 : ((mtext (r + 6)).toList == (mtext (r + 6)).toList) = true := by simp
      have nn6 : ((mtext (r + 6)).toList != (mtext (r + 6)).toList) = false := by simp
      generalize mtext (r + 6) = mt6 at HT6 HV6 n6 nn6
      have hp0 : (0 : Int) ≤ (q : Int) := by omega
      have hp1 : (q : Int) < (n : Int) := by omega
      have c4 : wr.cell? ⟨g, q * 7 + 4, none⟩ = some (.string mt4) := (HU.out wr HB.out (q * 7 + 4) (by omega)).trans (congrArg some HV4.out.symm)
      go_wp2
      obtain ⟨X4, hX4, W4, QI0, QO0⟩ := Qc.klass wr
      have QI4 : Hid (∀ w', Below wr.heap.size wr w' → ∃ x, w' = W4 x) := QI0
      have QO4 : Hid (∀ x, Below wr.heap.size wr (W4 x)) := QO0
      clear QI0 QO0
      have y4 := Qc.cell_all QO4.out c4
      refine Qc.region_class (W := W4) (by kernel_rfl) (by kernel_rfl) (QI4.out _ Qc.from_drew) ?_
      repeat (go_big_quiet_step (first | (go_at_call 37; refine (HT4.out _).mono ?_; rintro e w2 ⟨rfl, b2⟩; exact ⟨rfl, Qc.back QI4.out QO4.out b2⟩)))
      refine wpQuiet_nil ?_
      rintro _ ⟨xq, rfl⟩
      have G4 : Hid (Below w.heap.size w (W4 xq)) := HB.out.trans ((QO4.out xq).mono HB.out.size)
      generalize W4 xq = w4 at G4 ⊢
      clear QI4 QO4 y4 c4 c0 c1 c2 c3 e0 e1 e2 e3
      have c5 : w4.cell? ⟨g, q * 7 + 5, none⟩ = some (.string mt5) := (HU.out w4 G4.out (q * 7 + 5) (by omega)).trans (congrArg some HV5.out.symm)
      go_wp2
      obtain ⟨X5, hX5, W5, QI0, QO0⟩ := Qc.klass w4
      have QI5 : Hid (∀ w', Below w4.heap.size w4 w' → ∃ x, w' = W5 x) := QI0
      have QO5 : Hid (∀ x, Below w4.heap.size w4 (W5 x)) := QO0
      clear QI0 QO0
      have y5 := Qc.cell_all QO5.out c5
      refine Qc.region_class (W := W5) (by kernel_rfl) (by kernel_rfl) (QI5.out _ Qc.from_drew) ?_
      repeat (go_big_quiet_step (first | (go_at_call 37; refine (HT5.out _).mono ?_; rintro e w2 ⟨rfl, b2⟩; exact ⟨rfl, Qc.back QI5.out QO5.out b2⟩)))
      refine wpQuiet_nil ?_
      rintro _ ⟨xq, rfl⟩
      have G5 : Hid (Below w.heap.size w (W5 xq)) := G4.out.trans ((QO5.out xq).mono G4.out.size)
      generalize W5 xq = w5 at G5 ⊢
      clear QI5 QO5 y5 c5 
      have c6 : w5.cell? ⟨g, q * 7 + 6, none⟩ = some (.string mt6) := (HU.out w5 G5.out (q * 7 + 6) (by omega)).trans (congrArg some HV6.out.symm)
      go_wp2
      obtain ⟨X6, hX6, W6, QI0, QO0⟩ := Qc.klass w5
      have QI6 : Hid (∀ w', Below w5.heap.size w5 w' → ∃ x, w' = W6 x) := QI0
      have QO6 : Hid (∀ x, Below w5.heap.size w5 (W6 x)) := QO0
      clear QI0 QO0
      have y6 := Qc.cell_all QO6.out c6
      refine Qc.region_class (W := W6) (by kernel_rfl) (by kernel_rfl) (QI6.out _ Qc.from_drew) ?_
      repeat (go_big_quiet_step (first | (go_at_call 37; refine (HT6.out _).mono ?_; rintro e w2 ⟨rfl, b2⟩; exact ⟨rfl, Qc.back QI6.out QO6.out b2⟩)))
      refine wpQuiet_nil ?_
      rintro _ ⟨xq, rfl⟩
      have G6 : Hid (Below w.heap.size w (W6 xq)) := G5.out.trans ((QO6.out xq).mono G5.out.size)
      generalize W6 xq = w6 at G6 ⊢
      clear QI6 QO6 y6 c6 
      go_wp2
      exact ⟨⟨q + 1, r + 7, by omega, by go_num, by omega, by go_num, (by show _ = _; have := HRR.out; omega), G6⟩, by simp [intOf]; omega⟩
    · obtain rfl : q = n := by omega
      go_wp2
      go_ret
      exact ⟨Rg.ret_i (by have := HRR.out; omega), HB.out⟩
set_option maxHeartbeats 400000 in
theorem markNilM_any (a : Nat) (ad : Option Addr) (cap : Nat) (w : World) : Calls Tryz.prog 24 #[.slice ad 0 cap, .int .i64 a] w fun e w' => e = .returned (.int .i64 (a : Int)) ∧ w' = w := by
  go_enter Tryz.func24, Tryz.ntmps24
  go_wp2_with fail
  go_loopw [1, 5] (fun k i wr => k = .int .i64 (a : Int) ∧ i = .int .i64 0 ∧ wr = w) (fun _ _ _ => 0)
  case atStart => exact ⟨rfl, rfl, rfl⟩
  case round =>
    obtain ⟨rfl, rfl, rfl⟩ := hrel
    go_wp2
    go_ret
    exact ⟨rfl, rfl⟩
set_option maxHeartbeats 400000 in
theorem heldNilM_any (a : Nat) (ad : Option Addr) (cap : Nat) (w : World) : Calls Tryz.prog 38 #[.slice ad 0 cap, .int .i64 a] w fun e w' => e = .returned (.int .i64 (a : Int)) ∧ w' = w := by
  go_enter Tryz.func38, Tryz.ntmps38
  go_wp2_with fail
  go_loopw [1, 5] (fun k i wr => k = .int .i64 (a : Int) ∧ i = .int .i64 0 ∧ wr = w) (fun _ _ _ => 0)
  case atStart => exact ⟨rfl, rfl, rfl⟩
  case round =>
    obtain ⟨rfl, rfl, rfl⟩ := hrel
    go_wp2
    go_ret
    exact ⟨rfl, rfl⟩
theorem OwnM.dest {w : World} {B : Nat} {v : Value} {ms : List Mg} (h : OwnM w B v ms) : ∃ ad cap, v = .slice ad ms.length cap ∧ (ms.length = 0 ∨ ∃ g, ad = some ⟨g, 0, none⟩ ∧ B ≤ g ∧ ms.length ≤ cap ∧ Wr w g (ms.length * 7)) := by
  obtain ⟨_, h⟩ := h
  rcases h with ⟨rfl, h0⟩ | ⟨g, cap, cur, rfl, hB, hg, hc, _, hs, _⟩
  · exact ⟨none, 0, by rw [h0], .inl h0⟩
  · exact ⟨_, cap, rfl, .inr ⟨g, rfl, hB, hc, cur, _, hg, by rw [hs]; exact Nat.mul_le_mul_right 7 hc⟩⟩
/-- The messages in v bear the marks from a on. -/
def HeldM (w : World) (v : Value) (a n : Nat) : Prop := ∃ ad cap, v = .slice ad n cap ∧ (n = 0 ∨ ∃ g, ad = some ⟨g, 0, none⟩ ∧ g < w.heap.size ∧ n ≤ cap ∧ Up w g a (n * 7))
theorem HeldM.below {w w' : World} {v : Value} {a n : Nat} (h : HeldM w v a n) (hb : Below w.heap.size w w') : HeldM w' v a n := by
  obtain ⟨ad, cap, rfl, h⟩ := h
  refine ⟨ad, cap, rfl, ?_⟩
  rcases h with h | ⟨g, rfl, h2, h3, h4⟩
  · exact .inl h
  · exact .inr ⟨g, rfl, Nat.lt_of_lt_of_le h2 hb.size, h3, h4.below h2 hb⟩
theorem kp_mid {w w' : World} {g n cap : Nat} (h : Mid g (g + 1) w w') : Kp w w' (.slice (some ⟨g, 0, none⟩) n cap) (.slice (some ⟨g, 0, none⟩) n cap) :=
  ⟨h.os, h.tape, h.output, h.size, fun k hk hne => h.block k hk (by simp [Value.ownBlock] at hne; omega), fun _ _ hne => hne⟩
theorem rcMs_len (xs : List Int) : (rcMs xs).length ≤ 7 := by
  unfold rcMs
  split
  · rename_i h
    unfold rcOK at h
    rw [Bool.and_eq_true] at h
    obtain ⟨_, h⟩ := h
    revert h
    cases rdL xs with
    | nil => simp
    | cons t ts =>
      intro h
      dsimp only at h ⊢
      rw [Bool.and_eq_true] at h
      have h2 := h.2
      unfold cfB at h2
      rw [Bool.and_eq_true] at h2
      exact of_decide_eq_true h2.1
  · simp
theorem kp_block {w w' : World} {v : Value} {k : Nat} {o : Obj} (h : Kp w w' v v) (hk : w.heap[k]? = some o) (hne : some k ≠ v.ownBlock) : w'.heap[k]? = some o := (h.block k (Array.getElem?_eq_some_iff.1 hk).1 hne).trans hk
end Go.Proofs.YtddmdnljfnimbaaGreatDoor.Rc

/- Lists of certificates: ViewCerts of the specification; compared, marked, held. -/
namespace Go.Proofs.YtddmdnljfnimbaaGreatDoor.Wc
open Go.RowKit Go.Proofs.YtddmdnljfnimbaaGreatDoor.Sl Go.Proofs.YtddmdnljfnimbaaGreatDoor.By Go.Proofs.YtddmdnljfnimbaaGreatDoor.Ap Go.Proofs.YtddmdnljfnimbaaGreatDoor.Gm Go.Proofs.YtddmdnljfnimbaaGreatDoor.Si Go.Proofs.YtddmdnljfnimbaaGreatDoor.Tm Go.Proofs.YtddmdnljfnimbaaGreatDoor.Ms Go.Proofs.YtddmdnljfnimbaaGreatDoor.Sh Go.Proofs.YtddmdnljfnimbaaGreatDoor.Vt Go.Proofs.YtddmdnljfnimbaaGreatDoor.Mp Go.Proofs.YtddmdnljfnimbaaGreatDoor.Rq Go.Proofs.YtddmdnljfnimbaaGreatDoor.Mk
open Go.Proofs.YtddmdnljfnimbaaGreatDoor.Rc (OwnM OwnM.row OwnM.kept OwnM.lt OwnM.below OwnM.mono OwnM.dest HeldM HeldM.below markM_any markNilM_any heldM_any heldNilM_any kp_mid Up)
open Go.Proofs.YtddmdnljfnimbaaGreatDoor.Rg (RowG RowG.slice RowG.at lt_at mem_at blk_cell blk_set blk_far bel_new)

set_option maxRecDepth 100000 in
set_option maxHeartbeats 800000 in
theorem specViewCerts_any (n : Int) (x : Mg) (w : World) :
    Calls Tryz.prog 12 #[.int .i64 n, .agg #[.int .i64 x.kd, .int .i64 x.vw, .int .i64 x.sq, .int .i64 x.fr, .string x.dg, .string x.bd, .string x.mc]] w fun e w' => ∃ u, e = .returned (.tuple #[u, .int .i64 (vcC n x)]) ∧ (∃ ps, ps.map (·.1) = vcL n x ∧ OwnC w' w.heap.size u ps) ∧ Below w.heap.size w w' := by
  have HB : Hid (∀ o, Below w.heap.size w (w.alloc o)) := fun o => bel_new w o
  have HLN := Qm.l04Nodes_any n
  by_cases hf : fCode n = 0
  · rw [decide_eq_true hf] at HLN
    have HC : Hid (vcC n x = if cfB n x.vw x then 0 else 12) := by show _ = _; unfold vcC; rw [if_pos hf]
    have HLC : Hid (∀ W, Calls Tryz.prog 33 #[.int .i64 n, .agg #[.int .i64 x.kd, .int .i64 x.vw, .int .i64 x.sq, .int .i64 x.fr, .string x.dg, .string x.bd, .string x.mc]] W fun e w' => ∃ u, e = .returned (.tuple #[u, .bool (cfB n x.vw x)]) ∧ (∃ ps, ps.map (·.1) = cfL n x ∧ OwnC w' W.heap.size u ps) ∧ Below W.heap.size W w') := fun W => l06Certs_any n x W hf
    have HL : Hid (vcL n x = if vcC n x = 0 then crts x else []) := rfl
    have HCL : Hid (cfL n x = if cfB n x.vw x then crts x else []) := rfl
    obtain ⟨q, HQ⟩ : ∃ q, Hid (cfB n x.vw x = q) := ⟨_, rfl⟩
    rw [HQ.out] at HC HLC HCL
    clear HQ hf
    cases q with
    | false =>
      rw [if_neg (by decide)] at HC
      have HL2 : Hid (([] : List (Ct × Value)).map (·.1) = vcL n x) := by show _ = _; rw [HL.out, HC.out]; rfl
      go_enter Tryz.func12, Tryz.ntmps12
      go_wp2_with fail
      refine (HLN _).mono ?_
      rintro e w1 ⟨rfl, rfl⟩
      go_wp2_with fail
      refine (HLC.out _).mono ?_
      rintro e w2 ⟨u, rfl, -, b2⟩
      have B2 : Hid (Below w.heap.size w w2) := (HB.out _).trans (b2.mono (HB.out _).size)
      clear b2
      go_wp2_with fail
      go_ret2
      exact ⟨_, ret_vi HC.out.symm, ⟨[], HL2.out, OwnC.made w2 _ B2.out.size⟩, B2.out.alloc B2.out.size _⟩
    | true =>
      rw [if_pos rfl] at HC
      go_enter Tryz.func12, Tryz.ntmps12
      go_wp2_with fail
      refine (HLN _).mono ?_
      rintro e w1 ⟨rfl, rfl⟩
      go_wp2_with fail
      refine (HLC.out _).mono ?_
      rintro e w2 ⟨u, rfl, ⟨ps, h1, h2⟩, b2⟩
      have B2 : Hid (Below w.heap.size w w2) := (HB.out _).trans (b2.mono (HB.out _).size)
      have HL2 : Hid (ps.map (·.1) = vcL n x) := by show _ = _; rw [HL.out, HC.out, h1, HCL.out]; rfl
      have HO2 : Hid (OwnC w2 w.heap.size u ps) := ⟨row_mono h2.row (HB.out _).size, fun p hp => (h2.mem p hp).mono (HB.out _).size, h2.apart⟩
      clear b2 h1 h2
      go_wp2_with fail
      go_ret2
      exact ⟨_, ret_vi HC.out.symm, ⟨ps, HL2.out, HO2.out⟩, B2.out⟩
  · rw [decide_eq_false hf] at HLN
    have HC : Hid (4 = vcC n x) := by show _ = _; unfold vcC; rw [if_neg hf]
    have HL : Hid (([] : List (Ct × Value)).map (·.1) = vcL n x) := by show _ = _; unfold vcL; rw [← HC.out]; rfl
    have OM : Hid (OwnC ((w.alloc (.cells #[.int .i64 x.kd, .int .i64 x.vw, .int .i64 x.sq, .int .i64 x.fr, .string x.dg, .string x.bd, .string x.mc] 39)).alloc (.cells #[] 29)) w.heap.size (.slice (some ⟨w.heap.size + 1, 0, none⟩) 0 0) []) := by
      have := OwnC.made (w.alloc (.cells #[.int .i64 x.kd, .int .i64 x.vw, .int .i64 x.sq, .int .i64 x.fr, .string x.dg, .string x.bd, .string x.mc] 39)) w.heap.size (HB.out _).size
      rw [Rg.size_new] at this
      exact this
    clear hf
    go_enter Tryz.func12, Tryz.ntmps12
    go_wp2_with fail
    refine (HLN _).mono ?_
    rintro e w1 ⟨rfl, rfl⟩
    go_wp2_with fail
    go_ret2
    exact ⟨_, ret_vi HC.out, ⟨[], HL.out, OM.out⟩, (HB.out _).alloc (HB.out _).size _⟩
/-- How a mark's number goes on. -/
def kS (ps : List (Ct × Value)) : Nat → Nat
  | 0 => 1
  | i + 1 => kS ps i + 1 + ((ps.getD i default).1.ms.length) * 7
theorem kS_step {ps : List (Ct × Value)} {i : Nat} {p : Ct × Value} (h : ps[i]? = some p) : kS ps (i + 1) = kS ps i + 1 + p.1.ms.length * 7 := by
  show kS ps i + 1 + ((ps.getD i default).1.ms.length) * 7 = _
  rw [List.getD_eq_getElem?_getD, h]; rfl
theorem kS_le {ps : List (Ct × Value)} (h : ∀ p ∈ ps, p.1.ms.length ≤ 7) : ∀ {i : Nat}, i ≤ ps.length → 1 ≤ kS ps i ∧ kS ps i ≤ 1 + 50 * i
  | 0, _ => ⟨Nat.le_refl _, by show 1 ≤ _; omega⟩
  | i + 1, hi => by
    obtain ⟨p, hp⟩ := Rg.get_at (show i < ps.length by omega)
    obtain ⟨h1, h2⟩ := kS_le h (show i ≤ ps.length by omega)
    rw [kS_step hp]
    have := h p (mem_at hp)
    omega
set_option maxRecDepth 100000 in
set_option maxHeartbeats 1600000 in
theorem eqCertS_same (v u : Value) (ps qs : List (Ct × Value)) (B B' : Nat) (w : World) (h : OwnC w B v ps) (g : OwnC w B' u qs) (hm : ps.map (·.1) = qs.map (·.1)) (hl : ps.length ≤ 8) (hms : ∀ p ∈ ps, p.1.ms.length ≤ 7) :
    Calls Tryz.prog 15 #[v, u] w fun e w' => e = .returned (.bool true) ∧ Below w.heap.size w w' := by
  have HR : Hid (OwnC w B v ps) := h
  have HG : Hid (OwnC w B' u qs) := g
  obtain ⟨a, cap, rfl⟩ := h.slice
  obtain ⟨a', cap', rfl⟩ := g.slice
  have hlen : qs.length = ps.length := by have := congrArg List.length hm; rw [List.length_map, List.length_map] at this; exact this.symm
  rw [hlen] at HG ⊢
  have HM : Hid (∀ (i : Nat) (p : Ct × Value), ps[i]? = some p → ∃ q : Ct × Value, qs[i]? = some q ∧ q.1 = p.1) := fun i p hp => by
    obtain ⟨q, hq⟩ := Rg.get_at (xs := qs) (k := i) (by have := lt_at hp; omega)
    refine ⟨q, hq, ?_⟩
    have e := congrArg (fun l => l[i]?) hm
    simp only [List.getElem?_map] at e
    rw [hp, hq] at e
    simpa using e.symm
  have HMS : Hid (∀ p ∈ ps, p.1.ms.length ≤ 7) := hms
  have hnn : ((ps.length : Int) != (ps.length : Int)) = false := by simp
  clear h g hm hlen hms
  go_enter Tryz.func15, Tryz.ntmps15
  go_wp2_with fail
  go_loopw [5] (fun i wr => ∃ k : Nat, k ≤ ps.length ∧ i = .int .i64 k ∧ Hid (Below w.heap.size w wr)) (fun i _ => ps.length - (intOf i).toNat)
  case atStart => exact ⟨0, by omega, rfl, ⟨rfl, rfl, rfl, Nat.le_refl _, fun _ _ => rfl⟩⟩
  case round =>
    obtain ⟨k, hk, rfl, HB⟩ := hrel
    by_cases hlt : k < ps.length
    · obtain ⟨p, hp⟩ := Rg.get_at hlt
      obtain ⟨q, hq, hqp⟩ := HM.out k p hp
      obtain ⟨ga, rfl, _, _, _, _⟩ := HR.out.at hp
      obtain ⟨gb, rfl, _, _, _, _⟩ := HG.out.at hq
      have hp0 : (0 : Int) ≤ (k : Int) := by omega
      have hp1 : (k : Int) < (ps.length : Int) := by omega
      obtain ⟨⟨bd, ms⟩, vp⟩ := p
      obtain ⟨cq, vq⟩ := q
      have hqc : cq = ⟨bd, ms⟩ := hqp
      subst hqc
      have HL7 : Hid (ms.length ≤ 1048576) := by have h7 : ms.length ≤ 7 := HMS.out _ (mem_at hp); show _ ≤ _; omega
      obtain ⟨X, hX, W, QI0, QO0⟩ := Qc.klass wr
      have QI : Hid (∀ w', Below wr.heap.size wr w' → ∃ x, w' = W x) := QI0
      have QO : Hid (∀ x, Below wr.heap.size wr (W x)) := QO0
      have QB : Hid (∀ x, Below w.heap.size w (W x)) := fun x => HB.out.trans ((QO.out x).mono HB.out.size)
      have QE : Hid (∀ x, Calls Tryz.prog 10 #[.agg #[.string bd, vp], .agg #[.string bd, vq]] (W x) fun e w' => e = .returned (.bool true) ∧ Below (W x).heap.size (W x) w') := fun x => Hc.eq_same bd vp vq ms (W x) ((HR.out.below (QB.out x)).mem _ (mem_at hp)).row ((HG.out.below (QB.out x)).mem _ (mem_at hq)).row HL7.out
      have y0 : ∀ x, (W x).cell? ⟨ga, k * 2, none⟩ = some (.string bd) := fun x => by obtain ⟨g', e, _, _, E, _⟩ := (HR.out.below (QB.out x)).at hp; cases e; exact E
      have y1 : ∀ x, (W x).cell? ⟨ga, k * 2 + 1, none⟩ = some vp := fun x => by obtain ⟨g', e, _, _, _, E⟩ := (HR.out.below (QB.out x)).at hp; cases e; exact E
      have z0 : ∀ x, (W x).cell? ⟨gb, k * 2, none⟩ = some (.string bd) := fun x => by obtain ⟨g', e, _, _, E, _⟩ := (HG.out.below (QB.out x)).at hq; cases e; exact E
      have z1 : ∀ x, (W x).cell? ⟨gb, k * 2 + 1, none⟩ = some vq := fun x => by obtain ⟨g', e, _, _, _, E⟩ := (HG.out.below (QB.out x)).at hq; cases e; exact E
      clear QI0 QO0 hp hq
      go_upto_region 6 with fail
      refine Qc.region_class (W := W) (by kernel_rfl) (by kernel_rfl) (QI.out _ Qc.from_drew) ?_
      repeat (go_big_quiet_step (first | (go_at_call 10; refine (QE.out _).mono ?_; rintro e w2 ⟨rfl, b2⟩; exact ⟨rfl, Qc.back QI.out QO.out b2⟩)))
      refine wpQuiet_nil ?_
      rintro _ ⟨xq, rfl⟩
      have G2 : Hid (Below w.heap.size w (W xq)) := QB.out xq
      clear y0 y1 z0 z1
      generalize W xq = wq at G2 ⊢
      go_wp2_with fail
      exact ⟨⟨k + 1, by omega, by go_num, G2.out⟩, by simp [intOf]; omega⟩
    · obtain rfl : k = ps.length := by omega
      go_wp2_with fail
      go_ret
      exact ⟨rfl, HB.out⟩
theorem HeldM.kept {w w' : World} {v : Value} {a n : Nat} (h : HeldM w v a n) (hk : ∀ g, v.ownBlock = some g → w'.heap[g]? = w.heap[g]?) : HeldM w' v a n := by
  obtain ⟨ad, cap, rfl, h⟩ := h
  refine ⟨ad, cap, rfl, ?_⟩
  rcases h with h | ⟨g, rfl, h2, h3, h4⟩
  · exact .inl h
  · have e := hk g rfl
    refine .inr ⟨g, rfl, ?_, h3, fun i hi => (World.cell?_of_block (a := ⟨g, _, none⟩) e).trans (h4 i hi)⟩
    have h5 : w.heap[g]? = some w.heap[g] := Array.getElem?_eq_getElem h2
    rw [h5] at e
    exact (Array.getElem?_eq_some_iff.1 e).1
/-- Messages of one's own are marked. -/
theorem markMS_own (v : Value) (ms : List Mg) (B a : Nat) (w : World) (h : OwnM w B v ms) (hn : ms.length ≤ 1048576) (ha : a ≤ 1000) (ha0 : 0 < a) :
    Calls Tryz.prog 24 #[v, .int .i64 a] w fun e w' => e = .returned (.int .i64 ((a + ms.length * 7 : Nat) : Int)) ∧ HeldM w' v a ms.length ∧ Kp w w' v v := by
  obtain ⟨ad, cap, hv, hd⟩ := OwnM.dest h
  clear h
  subst hv
  rcases hd with h | ⟨g, rfl, h1, h2, h3⟩
  · rw [h]
    refine (markNilM_any a ad cap w).mono ?_
    rintro e w' ⟨rfl, rfl⟩
    exact ⟨by simp, ⟨ad, cap, rfl, .inl rfl⟩, Kp.refl _ _⟩
  · refine (markM_any g ms.length cap a w h3 hn ha ha0).mono ?_
    rintro e w' ⟨rfl, m, m2, mm⟩
    exact ⟨rfl, ⟨_, cap, rfl, .inr ⟨g, rfl, m2.lt, h2, m⟩⟩, kp_mid mm⟩
theorem heldMS_own (v : Value) (n a : Nat) (w : World) (h : HeldM w v a n) (hn : n ≤ 1048576) (ha : a ≤ 1000) (ha0 : 0 < a) :
    Calls Tryz.prog 38 #[v, .int .i64 a] w fun e w' => e = .returned (.int .i64 ((a + n * 7 : Nat) : Int)) ∧ Below w.heap.size w w' := by
  obtain ⟨ad, cap, rfl, h⟩ := h
  rcases h with h | ⟨g, rfl, h2, h3, h4⟩
  · rw [h]
    refine (heldNilM_any a ad cap w).mono ?_
    rintro e w' ⟨rfl, rfl⟩
    exact ⟨by simp, Below.refl _ _⟩
  · exact heldM_any g n cap a w h4 h2 h3 hn ha ha0
/-- The certificates in v bear the marks from 1 on. -/
def HeldC (w : World) (v : Value) (ps : List (Ct × Value)) : Prop := ∃ a cap, v = .slice a ps.length cap ∧ (ps = [] ∨ ∃ g, a = some ⟨g, 0, none⟩ ∧ g < w.heap.size ∧ ∀ i p, ps[i]? = some p → w.cell? ⟨g, i * 2, none⟩ = some (.string (mtext (kS ps i))) ∧ w.cell? ⟨g, i * 2 + 1, none⟩ = some p.2 ∧ HeldM w p.2 (kS ps i + 1) p.1.ms.length)
theorem HeldC.below {w w' : World} {v : Value} {ps : List (Ct × Value)} (h : HeldC w v ps) (hb : Below w.heap.size w w') : HeldC w' v ps := by
  obtain ⟨a, cap, rfl, h⟩ := h
  refine ⟨a, cap, rfl, ?_⟩
  rcases h with h | ⟨g, rfl, h2, h3⟩
  · exact .inl h
  · refine .inr ⟨g, rfl, Nat.lt_of_lt_of_le h2 hb.size, fun i p hp => ?_⟩
    obtain ⟨e1, e2, e3⟩ := h3 i p hp
    exact ⟨(hb.cell (p := ⟨g, _, none⟩) h2).trans e1, (hb.cell (p := ⟨g, _, none⟩) h2).trans e2, e3.below hb⟩
set_option maxRecDepth 100000 in
set_option maxHeartbeats 1600000 in
theorem heldCertS_own (v : Value) (ps : List (Ct × Value)) (w : World) (h : HeldC w v ps) (hl : ps.length ≤ 8) (hms : ∀ p ∈ ps, p.1.ms.length ≤ 7) :
    Calls Tryz.prog 17 #[v, .int .i64 1] w fun e w' => e = .returned (.int .i64 (kS ps ps.length : Int)) ∧ Below w.heap.size w w' := by
  have HR : Hid (HeldC w v ps) := h
  obtain ⟨a, cap, rfl, _⟩ := h
  have HKL : Hid (∀ i, i ≤ ps.length → 1 ≤ kS ps i ∧ kS ps i ≤ 1 + 50 * i) := fun i hi => kS_le hms hi
  have HMS : Hid (∀ p ∈ ps, p.1.ms.length ≤ 7) := hms
  clear hms
  go_enter Tryz.func17, Tryz.ntmps17
  go_wp2_with fail
  go_loopw [1, 5] (fun kk i wr => ∃ k r : Nat, k ≤ ps.length ∧ kk = .int .i64 (r : Int) ∧ i = .int .i64 k ∧ (1 ≤ r ∧ r ≤ 500) ∧ Hid (r = kS ps k ∧ Below w.heap.size w wr)) (fun _ i _ => ps.length - (intOf i).toNat)
  case atStart => exact ⟨0, 1, by omega, rfl, rfl, by omega, ⟨rfl, Below.refl _ _⟩⟩
  case round =>
    obtain ⟨k, r, hk, rfl, rfl, hr, HZ⟩ := hrel
    by_cases hlt : k < ps.length
    · obtain ⟨p, hp⟩ := Rg.get_at hlt
      obtain ⟨a2, cap2, e2, hc⟩ := HR.out.below HZ.out.2
      cases e2
      rcases hc with hc | ⟨g, rfl, hg, hc⟩
      · rw [hc] at hlt; simp at hlt
      have HC : Hid (∀ W, Below wr.heap.size wr W → W.cell? ⟨g, k * 2, none⟩ = some (.string (mtext r)) ∧ W.cell? ⟨g, k * 2 + 1, none⟩ = some p.2 ∧ HeldM W p.2 (r + 1) p.1.ms.length) := fun W hW => by
        obtain ⟨e1, e2, e3⟩ := hc k p hp
        rw [← HZ.out.1] at e1 e3
        exact ⟨(hW.cell (p := ⟨g, _, none⟩) hg).trans e1, (hW.cell (p := ⟨g, _, none⟩) hg).trans e2, e3.below hW⟩
      have HST : Hid (kS ps (k + 1) = r + 1 + p.1.ms.length * 7) := by show _ = _; rw [kS_step hp, HZ.out.1]
      have HN : Hid (p.1.ms.length ≤ 7) := HMS.out p (mem_at hp)
      have HBZ : Hid (Below w.heap.size w wr) := HZ.out.2
      have hp0 : (0 : Int) ≤ (k : Int) := by omega
      have hp1 : (k : Int) < (ps.length : Int) := by omega
      have h500 : r ≤ 400 := by have h1 := (HKL.out k hk).2; have h2 := HZ.out.1; omega
      clear hc hp HZ
      obtain ⟨⟨bd, ms⟩, vp⟩ := p
      obtain ⟨X, hX, W, QI0, QO0⟩ := Qc.klass wr
      have QI : Hid (∀ w', Below wr.heap.size wr w' → ∃ x, w' = W x) := QI0
      have QO : Hid (∀ x, Below wr.heap.size wr (W x)) := QO0
      have HMT : Hid (∀ W, Calls Tryz.prog 37 #[.int .i64 (r : Int)] W fun e w' => e = .returned (.string (mtext r)) ∧ Below W.heap.size W w') := fun W => Mk.markText_any r W (by omega) (by omega)
      have y0 := fun x => (HC.out _ (QO.out x)).1
      have hne : ((mtext r).toList != (mtext r).toList) = false := by simp
      have hnq : ((mtext r).toList == (mtext r).toList) = true := by simp
      generalize mtext r = mt at HMT y0 hne hnq
      clear QI0 QO0
      go_upto_region 4 with fail
      refine Qc.region_class (W := W) (by kernel_rfl) (by kernel_rfl) (QI.out _ Qc.from_drew) ?_
      repeat (go_big_quiet_step (first | (go_at_call 37; refine (HMT.out _).mono ?_; rintro e w2 ⟨rfl, b2⟩; exact ⟨rfl, Qc.back QI.out QO.out b2⟩)))
      refine wpQuiet_nil ?_
      rintro _ ⟨xq, rfl⟩
      have G2 : Hid (Below wr.heap.size wr (W xq)) := QO.out xq
      clear y0
      generalize W xq = wq at G2 ⊢
      have y1 := (HC.out _ G2.out).2.1
      have HHD : Hid (Calls Tryz.prog 38 #[vp, .int .i64 ((r + 1 : Nat) : Int)] wq fun e w' => e = .returned (.int .i64 ((r + 1 + ms.length * 7 : Nat) : Int)) ∧ Below wq.heap.size wq w') := heldMS_own vp ms.length (r + 1) wq (HC.out _ G2.out).2.2 (by have h7 : ms.length ≤ 7 := HN.out; omega) (by omega) (by omega)
      have HR2 : Hid (((r : Int) + 1) = ((r + 1 : Nat) : Int)) := by show _ = _; omega
      obtain ⟨m, HM⟩ : ∃ m : Nat, Hid (r + 1 + ms.length * 7 = m) := ⟨_, rfl⟩
      rw [HM.out] at HHD
      have hm0 : ¬ ((m : Int) < 0) := by omega
      have hm1 : 1 ≤ m ∧ m ≤ 500 := by have h7 : ms.length ≤ 7 := HN.out; have := HM.out; omega
      go_wp2_with fail
      rw [HR2.out]
      refine HHD.out.mono ?_
      rintro e w3 ⟨rfl, b3⟩
      have G3 : Hid (m = kS ps (k + 1) ∧ Below w.heap.size w w3) := ⟨by rw [HST.out, ← HM.out], HBZ.out.trans ((G2.out.trans (b3.mono G2.out.size)).mono HBZ.out.size)⟩
      clear b3
      go_wp2_with fail
      exact ⟨⟨k + 1, m, by omega, rfl, by go_num, hm1, G3.out⟩, by simp [intOf]; omega⟩
    · obtain rfl : k = ps.length := by omega
      go_wp2_with fail
      go_ret
      exact ⟨Rg.ret_i (by rw [HZ.out.1]), HZ.out.2⟩
end Go.Proofs.YtddmdnljfnimbaaGreatDoor.Wc

/- Lists of certificates: marked. -/
namespace Go.Proofs.YtddmdnljfnimbaaGreatDoor.Wc
open Go.RowKit Go.Proofs.YtddmdnljfnimbaaGreatDoor.Sl Go.Proofs.YtddmdnljfnimbaaGreatDoor.By Go.Proofs.YtddmdnljfnimbaaGreatDoor.Ap Go.Proofs.YtddmdnljfnimbaaGreatDoor.Gm Go.Proofs.YtddmdnljfnimbaaGreatDoor.Sh Go.Proofs.YtddmdnljfnimbaaGreatDoor.Vt Go.Proofs.YtddmdnljfnimbaaGreatDoor.Mk
open Go.Proofs.YtddmdnljfnimbaaGreatDoor.Rc (OwnM OwnM.row OwnM.kept OwnM.lt OwnM.below OwnM.mono HeldM HeldM.below set_eq set_ne)
open Go.Proofs.YtddmdnljfnimbaaGreatDoor.Rg (RowG RowG.slice RowG.at lt_at mem_at blk_cell blk_set blk_far bel_new Wr)

theorem held_kept {w w' : World} {v : Value} {a n : Nat} (h : HeldM w v a n) (hk : ∀ g, v.ownBlock = some g → g < w.heap.size → w'.heap[g]? = w.heap[g]?) : HeldM w' v a n := by
  obtain ⟨ad, cap, rfl, h⟩ := h
  refine ⟨ad, cap, rfl, ?_⟩
  rcases h with h | ⟨g, rfl, h2, h3, h4⟩
  · exact .inl h
  · have e := hk g rfl h2
    refine .inr ⟨g, rfl, ?_, h3, fun i hi => (World.cell?_of_block (a := ⟨g, _, none⟩) e).trans (h4 i hi)⟩
    have h5 : w.heap[g]? = some w.heap[g] := Array.getElem?_eq_getElem h2
    rw [h5] at e
    exact (Array.getElem?_eq_some_iff.1 e).1
/-- While they are marked: those ahead of q0 bear their first marks, those ahead of q1 all of them. -/
structure Mi (w wr : World) (g B q0 q1 : Nat) (ps : List (Ct × Value)) : Prop where
  blk : Wr wr g (ps.length * 2)
  c1 : ∀ i p, ps[i]? = some p → wr.cell? ⟨g, i * 2 + 1, none⟩ = some p.2
  c0 : ∀ i, i < q0 → wr.cell? ⟨g, i * 2, none⟩ = some (.string (mtext (kS ps i)))
  held : ∀ i p, i < q1 → ps[i]? = some p → HeldM wr p.2 (kS ps i + 1) p.1.ms.length
  rest : ∀ i p, q1 ≤ i → ps[i]? = some p → OwnM wr B p.2 p.1.ms
  bel : Below B w wr
theorem Mi.below {w wr w' : World} {g B q0 q1 : Nat} {ps : List (Ct × Value)} (h : Mi w wr g B q0 q1 ps) (hB : B ≤ wr.heap.size) (hb : Below wr.heap.size wr w') : Mi w w' g B q0 q1 ps :=
  have hg := h.blk.lt
  ⟨h.blk.below hb, fun i p hp => (hb.cell (p := ⟨g, _, none⟩) hg).trans (h.c1 i p hp), fun i hi => (hb.cell (p := ⟨g, _, none⟩) hg).trans (h.c0 i hi), fun i p hi hp => (h.held i p hi hp).below hb, fun i p hi hp => (h.rest i p hi hp).below hb, h.bel.trans (hb.mono hB)⟩
theorem Mi.set {w wr : World} {g B q : Nat} {ps : List (Ct × Value)} (h : Mi w wr g B q q ps) (hq : q < ps.length) (hg : B ≤ g) (hne : ∀ p ∈ ps, p.2.ownBlock ≠ some g) : Mi w (wr.setCell ⟨g, q * 2, none⟩ (.string (mtext (kS ps q)))) g B (q + 1) q ps := by
  refine ⟨h.blk.set _ _ _, fun i p hp => ?_, fun i hi => ?_, fun i p hi hp => ?_, fun i p hi hp => ?_, Below.setCell h.bel (p := ⟨g, q * 2, none⟩) hg _⟩
  · rw [set_ne (by omega)]; exact h.c1 i p hp
  · by_cases e : i = q
    · subst e; exact set_eq h.blk (by omega) _
    · rw [set_ne (by omega)]; exact h.c0 i (by omega)
  · exact held_kept (h.held i p hi hp) fun k hk _ => blk_far (fun e => hne p (mem_at hp) (by rw [← e]; exact hk)) _ _
  · exact (h.rest i p hi hp).kept fun k hk => blk_far (fun e => hne p (mem_at hp) (by rw [← e]; exact hk)) _ _
theorem kp_bel {w w' : World} {v : Value} {B : Nat} (h : Kp w w' v v) (hB : B ≤ w.heap.size) (hg : ∀ g, v.ownBlock = some g → B ≤ g) : Below B w w' :=
  ⟨h.os, h.tape, h.output, h.size, fun k hk => h.block k (by omega) (fun e => by have := hg k e.symm; omega)⟩
theorem Mi.mark {w wr w' : World} {g B q : Nat} {ps : List (Ct × Value)} {p : Ct × Value} (h : Mi w wr g B (q + 1) q ps) (hp : ps[q]? = some p) (hB : B ≤ wr.heap.size) (hk : Kp wr w' p.2 p.2) (hh : HeldM w' p.2 (kS ps q + 1) p.1.ms.length) (hne : ∀ p ∈ ps, p.2.ownBlock ≠ some g)
    (hap : ∀ i r, i ≠ q → ps[i]? = some r → ∀ k, r.2.ownBlock = some k → some k ≠ p.2.ownBlock) : Mi w w' g B (q + 1) (q + 1) ps := by
  have hg : w'.heap[g]? = wr.heap[g]? := hk.block g h.blk.lt (fun e => hne p (mem_at hp) e.symm)
  refine ⟨?_, fun i r hr => (World.cell?_of_block (a := ⟨g, _, none⟩) hg).trans (h.c1 i r hr), fun i hi => (World.cell?_of_block (a := ⟨g, _, none⟩) hg).trans (h.c0 i hi), fun i r hi hr => ?_, fun i r hi hr => ?_, ?_⟩
  · obtain ⟨A, t, h1, h2⟩ := h.blk
    exact ⟨A, t, hg.trans h1, h2⟩
  · by_cases e : i = q
    · subst e; rw [hp] at hr; cases hr; exact hh
    · exact held_kept (h.held i r (by omega) hr) fun k hk2 hlt => hk.block k hlt (hap i r e hr k hk2)
  · have hm := h.rest i r (by omega) hr
    exact hm.kept fun k hk2 => hk.block k (hm.lt k hk2).2 (hap i r (by omega) hr k hk2)
  · exact h.bel.trans (kp_bel hk hB fun k hk2 => ((h.rest q p (Nat.le_refl _) hp).lt k hk2).1)
set_option maxRecDepth 100000 in
set_option maxHeartbeats 1600000 in
theorem markCertS_own (v : Value) (ps : List (Ct × Value)) (B : Nat) (w : World) (h : OwnC w B v ps) (hB : B ≤ w.heap.size) (hl : ps.length ≤ 8) (hms : ∀ p ∈ ps, p.1.ms.length ≤ 7) :
    Calls Tryz.prog 16 #[v, .int .i64 1] w fun e w' => e = .returned (.int .i64 (kS ps ps.length : Int)) ∧ HeldC w' v ps ∧ Below B w w' := by
  by_cases hn : ps = []
  · subst hn
    obtain ⟨a, cap, rfl⟩ := h.slice
    have HH : Hid (HeldC w (.slice a 0 cap) []) := ⟨a, cap, rfl, .inl rfl⟩
    have HB : Hid (Below B w w) := Below.refl _ _
    clear h hB hl hms
    go_enter Tryz.func16, Tryz.ntmps16
    go_wp2_with fail
    go_loopw [1, 5] (fun kk i wr => kk = .int .i64 1 ∧ i = .int .i64 0 ∧ Hid (wr = w)) (fun _ _ _ => 0)
    case atStart => exact ⟨rfl, rfl, rfl⟩
    case round =>
      obtain ⟨rfl, rfl, HW⟩ := hrel
      obtain rfl := HW.out
      go_wp2_with fail
      go_ret
      exact ⟨rfl, HH.out, HB.out⟩
  obtain ⟨p0, hp0⟩ := Rg.get_at (xs := ps) (k := 0) (by have := List.length_pos_iff.2 hn; omega)
  obtain ⟨a, cap, rfl⟩ := h.slice
  obtain ⟨g, rfl, hBg, hgs, _, _⟩ := h.at hp0
  have HNE : Hid (∀ p ∈ ps, p.2.ownBlock ≠ some g) := fun p hp e => row_ne h.row (h.mem p hp) g e rfl
  have HAP : Hid (∀ (i q : Nat) (r p : Ct × Value), i ≠ q → ps[i]? = some r → ps[q]? = some p → ∀ k, r.2.ownBlock = some k → some k ≠ p.2.ownBlock) := fun i q r p hiq hr hp k hk e => by
    obtain ⟨hi, e1⟩ := List.getElem?_eq_some_iff.1 hr
    obtain ⟨hq, e2⟩ := List.getElem?_eq_some_iff.1 hp
    have ap := List.pairwise_iff_getElem.1 h.apart
    rcases Nat.lt_or_gt_of_ne hiq with hlt | hlt
    · exact ap i q hi hq hlt k (by rw [e1]; exact hk) (by rw [e2]; exact e.symm)
    · exact ap q i hq hi hlt k (by rw [e2]; exact e.symm) (by rw [e1]; exact hk)
  have HM0 : Hid (Mi w w g B 0 0 ps) := by
    refine ⟨?_, fun i p hp => ?_, fun i hi => by omega, fun i p hi => by omega, fun i p _ hp => h.mem p (mem_at hp), Below.refl _ _⟩
    · obtain ⟨hl2, hh⟩ := h.row
      rcases hh with ⟨e, _⟩ | ⟨g', cap', cur, e, _, hg', hc, _, hs, _⟩
      · cases e
      · cases e
        exact ⟨cur, _, hg', by rw [hs]; exact Nat.mul_le_mul_right 2 hc⟩
    · obtain ⟨g', e, _, _, _, E⟩ := h.at hp
      cases e
      exact E
  have HKL : Hid (∀ i, i ≤ ps.length → 1 ≤ kS ps i ∧ kS ps i ≤ 1 + 50 * i) := fun i hi => kS_le hms hi
  have HMS : Hid (∀ p ∈ ps, p.1.ms.length ≤ 7) := hms
  have HBG : Hid (B ≤ g ∧ B ≤ w.heap.size) := ⟨hBg, hB⟩
  have HN : Hid (ps ≠ []) := hn
  clear h hms hn hp0 hgs hBg hB
  go_enter Tryz.func16, Tryz.ntmps16
  go_wp2_with fail
  go_loopw [1, 5] (fun kk i wr => ∃ k r : Nat, k ≤ ps.length ∧ kk = .int .i64 (r : Int) ∧ i = .int .i64 k ∧ (1 ≤ r ∧ r ≤ 500) ∧ Hid (r = kS ps k ∧ Mi w wr g B k k ps)) (fun _ i _ => ps.length - (intOf i).toNat)
  case atStart => exact ⟨0, 1, by omega, rfl, rfl, by omega, ⟨rfl, HM0.out⟩⟩
  case round =>
    obtain ⟨k, r, hk, rfl, rfl, hr, HZ⟩ := hrel
    by_cases hlt : k < ps.length
    · obtain ⟨p, hp⟩ := Rg.get_at hlt
      have hp0 : (0 : Int) ≤ (k : Int) := by omega
      have hp1 : (k : Int) < (ps.length : Int) := by omega
      have h500 : r ≤ 400 := by have h1 := (HKL.out k hk).2; have h2 := HZ.out.1; omega
      have HPP : Hid (ps[k]? = some p) := hp
      have HST : Hid (kS ps (k + 1) = r + 1 + p.1.ms.length * 7) := by show _ = _; rw [kS_step hp, HZ.out.1]
      have HN7 : Hid (p.1.ms.length ≤ 7) := HMS.out p (mem_at hp)
      have HMT : Hid (∀ W, Calls Tryz.prog 37 #[.int .i64 (r : Int)] W fun e w' => e = .returned (.string (mtext r)) ∧ Below W.heap.size W w') := fun W => Mk.markText_any r W (by omega) (by omega)
      have HMZ : Hid (Mi w wr g B k k ps) := HZ.out.2
      have HRK : Hid (mtext (kS ps k) = mtext r) := by show _ = _; rw [HZ.out.1]
      have HRE : Hid (r = kS ps k) := HZ.out.1
      clear hp HZ
      obtain ⟨mt, HT⟩ : ∃ mt, Hid (mtext r = mt) := ⟨_, rfl⟩
      rw [HT.out] at HMT HRK
      go_wp2_with fail
      refine (HMT.out _).mono ?_
      rintro e u0 ⟨rfl, b0⟩
      have M0 : Hid (Mi w u0 g B k k ps) := HMZ.out.below (Nat.le_trans HBG.out.2 HMZ.out.bel.size) b0
      have M1 : Hid (Mi w (u0.setCell ⟨g, k * 2, none⟩ (.string mt)) g B (k + 1) k ps) := by
        have := M0.out.set hlt HBG.out.1 HNE.out
        rw [HRK.out] at this
        exact this
      obtain ⟨⟨y0, d0⟩, f0⟩ := M0.out.blk.cell (j := k * 2) (by omega)
      have d1 := M1.out.c1 k p HPP.out
      clear b0 HMZ
      obtain ⟨⟨bd, ms⟩, vp⟩ := p
      have HR2 : Hid (((r : Int) + 1) = ((r + 1 : Nat) : Int)) := by show _ = _; omega
      obtain ⟨m, HM⟩ : ∃ m : Nat, Hid (r + 1 + ms.length * 7 = m) := ⟨_, rfl⟩
      have hm1 : 1 ≤ m ∧ m ≤ 500 := by have h7 : ms.length ≤ 7 := HN7.out; have := HM.out; omega
      go_wp2_with fail
      generalize u0.setCell ⟨g, k * 2, none⟩ (.string mt) = u1 at M1 d1 ⊢
      rw [HR2.out]
      have HMM : Hid (Calls Tryz.prog 24 #[vp, .int .i64 ((r + 1 : Nat) : Int)] u1 fun e w' => e = .returned (.int .i64 (m : Int)) ∧ HeldM w' vp (r + 1) ms.length ∧ Kp u1 w' vp vp) := by
        have := markMS_own vp ms B (r + 1) u1 (M1.out.rest k _ (Nat.le_refl _) HPP.out) (by have h7 : ms.length ≤ 7 := HN7.out; omega) (by omega) (by omega)
        rw [HM.out] at this
        exact this
      refine HMM.out.mono ?_
      rintro e u2 ⟨rfl, hh, hkp⟩
      have M2 : Hid (m = kS ps (k + 1) ∧ Mi w u2 g B (k + 1) (k + 1) ps) := ⟨by rw [HST.out, ← HM.out], M1.out.mark HPP.out (Nat.le_trans HBG.out.2 M1.out.bel.size) hkp (by rw [← HRE.out]; exact hh) HNE.out (fun i r hi hr => HAP.out i k r _ hi hr HPP.out)⟩
      clear hh hkp d0 d1 f0
      go_wp2_with fail
      exact ⟨⟨k + 1, m, by omega, rfl, by go_num, hm1, M2.out⟩, by simp [intOf]; omega⟩
    · obtain rfl : k = ps.length := by omega
      have HH : Hid (HeldC wr (.slice (some ⟨g, 0, none⟩) ps.length cap) ps) := ⟨_, cap, rfl, .inr ⟨g, rfl, HZ.out.2.blk.lt, fun i p hp => ⟨HZ.out.2.c0 i (lt_at hp), HZ.out.2.c1 i p hp, HZ.out.2.held i p (lt_at hp) hp⟩⟩⟩
      go_wp2_with fail
      go_ret
      exact ⟨Rg.ret_i (by rw [HZ.out.1]), HH.out, HZ.out.2.bel⟩
end Go.Proofs.YtddmdnljfnimbaaGreatDoor.Wc
