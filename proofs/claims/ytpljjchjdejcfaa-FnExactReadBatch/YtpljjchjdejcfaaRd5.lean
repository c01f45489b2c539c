/- The laws' marks on a batch that was handed out. -/
import Derived.Test.YtpljjchjdejcfaaRjb
import Derived.Test.YtpljjchjdejcfaaHb
import Derived.Test.YtpljjchjdejcfaaTbo
namespace Go.Proofs.Ytpljjchjdejcfaa.Tkb
open Go.RowKit Go.Proofs.Ytpljjchjdejcfaa.Sl Go.Proofs.Ytpljjchjdejcfaa.By Go.Proofs.Ytpljjchjdejcfaa.Ap Go.Proofs.Ytpljjchjdejcfaa.Gr Go.Proofs.Ytpljjchjdejcfaa.Bo
open Go.Proofs.Ytpljjchjdejcfaa.Rg (RowG RowG.slice RowG.at bel_new Wr Mid markText_any mtext)

/-- The mark in cell i of the row, counted from a. -/
def mv (a i : Nat) : Value := if i % 3 < 2 then .int .i64 ((a + i : Nat) : Int) else .string (mtext (a + i))
def Up (w : World) (g a n : Nat) : Prop := ∀ i, i < n → w.cell? ⟨g, i, none⟩ = some (mv a i)
theorem Up.below {w w' : World} {g a n : Nat} (h : Up w g a n) (hg : g < w.heap.size) (hb : Below w.heap.size w w') : Up w' g a n := fun i hi => (hb.cell (p := ⟨g, _, none⟩) hg).trans (h i hi)
theorem set_eq {w : World} {g n j : Nat} (h : Wr w g n) (hj : j < n) (x : Value) : (w.setCell ⟨g, j, none⟩ x).cell? ⟨g, j, none⟩ = some x := by
  obtain ⟨A, t, h, hn⟩ := h
  have h1 := Rg.blk_set h j x
  exact (Rg.blk_cell h1 j (x := x) (by rw [Array.getElem?_setIfInBounds, if_pos rfl, if_pos (by omega)])).1
theorem set_ne {w : World} {g i j : Nat} (hne : i ≠ j) (x : Value) : (w.setCell ⟨g, i, none⟩ x).cell? ⟨g, j, none⟩ = w.cell? ⟨g, j, none⟩ :=
  World.cell?_setCell_other _ _ _ _ (fun e => hne (by have := congrArg Addr.off e; exact this))
theorem Up.next {w : World} {g a n N : Nat} (h : Up w g a n) (hw : Wr w g N) (hn : n < N) {x : Value} (hx : x = mv a n) : Up (w.setCell ⟨g, n, none⟩ x) g a (n + 1) := fun i hi => by
  by_cases e : i = n
  · subst e
    rw [set_eq hw hn, hx]
  · exact (set_ne (fun h => e h.symm) _).trans (h i (by omega))
theorem mv_int {a q j : Nat} (hj : j < 2) {r : Int} (hr : r = ((a + (q * 3 + j) : Nat) : Int)) : Value.int .i64 r = mv a (q * 3 + j) := by unfold mv; rw [if_pos (by omega), hr]
theorem mv_str {a q j : Nat} (h1 : 2 ≤ j) (h2 : j < 3) {r : Nat} (hr : r = a + (q * 3 + j)) : Value.string (mtext r) = mv a (q * 3 + j) := by unfold mv; rw [if_neg (by omega), hr]
set_option maxRecDepth 100000 in
set_option maxHeartbeats 1600000 in
theorem markM_any (g n cap : Nat) (a : Nat) (w : World) (h : Wr w g (n * 3)) (hn : n ≤ 1048576) (ha : a ≤ 1000) (ha0 : 0 < a) :
    Calls Try.prog 81 #[.slice (some ⟨g, 0, none⟩) n cap, .int .i64 a] w fun e w' => e = .returned (.int .i64 ((a + n * 3 : Nat) : Int)) ∧ Up w' g a (n * 3) ∧ Wr w' g (n * 3) ∧ Mid g (g + 1) w w' := by
  have hB : g ≤ g := Nat.le_refl _
  have hC : g < g + 1 := Nat.lt_succ_self _
  have H : Hid (Wr w g (n * 3)) := h
  clear h
  go_enter Try.func81, Try.ntmps81
  go_wp2_with fail
  go_loopw [1, 5] (fun k i wr => ∃ q r : Nat, q ≤ n ∧ k = .int .i64 (r : Int) ∧ (r ≤ a + q * 3 ∧ 0 < r) ∧ i = .int .i64 q ∧ Hid (r = a + q * 3) ∧ Hid (Wr wr g (n * 3) ∧ Mid g (g + 1) w wr ∧ Up wr g a (q * 3))) (fun _ i _ => n - (intOf i).toNat)
  case atStart => exact ⟨0, a, by omega, rfl, by omega, rfl, (by show _ = _; omega), H.out, Mid.refl _ _ _, fun i hi => absurd hi (by omega)⟩
  case round =>
    obtain ⟨q, r, hq, rfl, hrb, rfl, HRR, HA⟩ := hrel
    by_cases hlt : q < n
    · have hsz : q * 3 + 2 < n * 3 := by omega
      obtain ⟨⟨x0, c0⟩, f0⟩ := HA.out.1.cell (j := q * 3) (by omega)
      obtain ⟨⟨x1, c1⟩, f1⟩ := HA.out.1.cell (j := q * 3 + 1) (by omega)
      have HC : Hid (Wr ((wr.setCell ⟨g, q * 3, none⟩ (.int .i64 ((r : Int)))).setCell ⟨g, q * 3 + 1, none⟩ (.int .i64 ((r : Int) + 1))) g (n * 3) ∧ Mid g (g + 1) w ((wr.setCell ⟨g, q * 3, none⟩ (.int .i64 ((r : Int)))).setCell ⟨g, q * 3 + 1, none⟩ (.int .i64 ((r : Int) + 1))) ∧ Up ((wr.setCell ⟨g, q * 3, none⟩ (.int .i64 ((r : Int)))).setCell ⟨g, q * 3 + 1, none⟩ (.int .i64 ((r : Int) + 1))) g a (q * 3 + 2)) := ⟨((HA.out.1.set _ _ _).set _ _ _), ((HA.out.2.1.trans (Mid.set hB hC _ _)).trans (Mid.set hB hC _ _)),
        ((HA.out.2.2.next HA.out.1 (by omega) (mv_int (q := q) (j := 0) (by decide) (by have := HRR.out; omega))).next (HA.out.1.set _ _ _) (by omega) (mv_int (q := q) (j := 1) (by decide) (by have := HRR.out; omega)))⟩
      go_wp2_with fail
      generalize ((wr.setCell ⟨g, q * 3, none⟩ (.int .i64 ((r : Int)))).setCell ⟨g, q * 3 + 1, none⟩ (.int .i64 ((r : Int) + 1))) = v0 at HC ⊢
      clear HA c0 f0 c1 f1
      obtain ⟨r0, HR0⟩ : ∃ r0 : Nat, Hid (r + 2 = r0) := ⟨_, rfl⟩
      have ER : Hid ((r : Int) + 1 + 1 = (r0 : Int)) := by show _ = _; have := HR0.out; omega
      rw [ER.out]
      have l0 : 0 < r0 ∧ r0 ≤ a + q * 3 + 2 := by have := HR0.out; omega
      have HL0 : Hid (r0 = a + (q * 3 + 2)) := by show _ = _; have := HR0.out; have := HRR.out; omega
      refine (markText_any r0 v0 (by omega) (by omega)).mono ?_
      rintro e u0 ⟨rfl, b0⟩
      have HD0 : Hid (Wr u0 g (n * 3) ∧ Mid g (g + 1) w u0 ∧ Up u0 g a (q * 3 + 2)) := ⟨HC.out.1.below b0, HC.out.2.1.trans (Mid.of_below b0), HC.out.2.2.below HC.out.1.lt b0⟩
      have HV0 : Hid (Value.string (mtext r0) = mv a (q * 3 + 2)) := mv_str (by decide) (by decide) HL0.out
      generalize mtext r0 = mt0 at HV0 ⊢
      obtain ⟨⟨y0, d0⟩, g0⟩ := HD0.out.1.cell (j := q * 3 + 2) (by omega)
      have HE : Hid (Wr (u0.setCell ⟨g, q * 3 + 2, none⟩ (.string mt0)) g (n * 3) ∧ Mid g (g + 1) w (u0.setCell ⟨g, q * 3 + 2, none⟩ (.string mt0)) ∧ Up (u0.setCell ⟨g, q * 3 + 2, none⟩ (.string mt0)) g a (q * 3 + 3)) := ⟨HD0.out.1.set _ _ _, HD0.out.2.1.trans (Mid.set hB hC _ _), HD0.out.2.2.next HD0.out.1 (by omega) HV0.out⟩
      clear HC b0 HV0
      go_wp2_with fail
      exact ⟨⟨q + 1, r0 + 1, by omega, by go_num, by omega, by go_num, (by show _ = _; have := HL0.out; omega), ⟨HE.out.1, HE.out.2.1, by rw [show (q + 1) * 3 = q * 3 + 3 by omega]; exact HE.out.2.2⟩⟩, by simp [intOf]; omega⟩
    · obtain rfl : q = n := by omega
      go_wp2_with fail
      go_ret
      exact ⟨Rg.ret_i (by have := HRR.out; omega), HA.out.2.2, HA.out.1, HA.out.2.1⟩
set_option maxRecDepth 100000 in
set_option maxHeartbeats 1600000 in
theorem heldM_any (g n cap : Nat) (a : Nat) (w : World) (h : Up w g a (n * 3)) (hg : g < w.heap.size) (hcap : n ≤ cap) (hn : n ≤ 1048576) (ha : a ≤ 1000) (ha0 : 0 < a) :
    Calls Try.prog 85 #[.slice (some ⟨g, 0, none⟩) n cap, .int .i64 a] w fun e w' => e = .returned (.int .i64 ((a + n * 3 : Nat) : Int)) ∧ Below w.heap.size w w' := by
  have H : Hid (Up w g a (n * 3)) := h
  clear h
  go_enter Try.func85, Try.ntmps85
  go_wp2_with fail
  go_loopw [1, 5] (fun k i wr => ∃ q r : Nat, q ≤ n ∧ k = .int .i64 (r : Int) ∧ (r ≤ a + q * 3 ∧ 0 < r) ∧ i = .int .i64 q ∧ Hid (r = a + q * 3) ∧ Hid (Below w.heap.size w wr)) (fun _ i _ => n - (intOf i).toNat)
  case atStart => exact ⟨0, a, by omega, rfl, by omega, rfl, (by show _ = _; omega), Below.refl _ _⟩
  case round =>
    obtain ⟨q, r, hq, rfl, hrb, rfl, HRR, HB⟩ := hrel
    by_cases hlt : q < n
    · have HU : Hid (∀ W, Below w.heap.size w W → Up W g a (n * 3)) := fun W hW => H.out.below hg hW
      have c0 : wr.cell? ⟨g, q * 3, none⟩ = some (.int .i64 ((r : Int))) := (HU.out wr HB.out (q * 3 + 0) (by omega)).trans (congrArg some (mv_int (q := q) (j := 0) (by decide) (by have := HRR.out; omega)).symm)
      have e0 : (((r : Int)) != ((r : Int))) = false := by simp
      have c1 : wr.cell? ⟨g, q * 3 + 1, none⟩ = some (.int .i64 ((r : Int) + 1)) := (HU.out wr HB.out (q * 3 + 1) (by omega)).trans (congrArg some (mv_int (q := q) (j := 1) (by decide) (by have := HRR.out; omega)).symm)
      have e1 : (((r : Int) + 1) != ((r : Int) + 1)) = false := by simp
      have HT2 : Hid (∀ W : World, Calls Try.prog 107 #[.int .i64 ((r : Int) + 1 + 1)] W fun e w' => e = .returned (.string (mtext (r + 2))) ∧ Below W.heap.size W w') := fun W => by
        rw [show (r : Int) + 1 + 1 = ((r + 2 : Nat) : Int) by omega]; exact markText_any (r + 2) W (by omega) (by omega)
      have HV2 : Hid (Value.string (mtext (r + 2)) = mv a (q * 3 + 2)) := mv_str (by decide) (by decide) (by have := HRR.out; omega)
      have n2 : ((mtext (r + 2)).toList == (mtext (r + 2)).toList) = true := by simp
      have nn2 : ((mtext (r + 2)).toList != (mtext (r + 2)).toList) = false := by simp
      generalize mtext (r + 2) = mt2 at HT2 HV2 n2 nn2
      have hp0 : (0 : Int) ≤ (q : Int) := by omega
      have hp1 : (q : Int) < (n : Int) := by omega
      have c2 : wr.cell? ⟨g, q * 3 + 2, none⟩ = some (.string mt2) := (HU.out wr HB.out (q * 3 + 2) (by omega)).trans (congrArg some HV2.out.symm)
      go_wp2
      obtain ⟨X2, hX2, W2, QI0, QO0⟩ := Qc.klass wr
      have QI2 : Hid (∀ w', Below wr.heap.size wr w' → ∃ x, w' = W2 x) := QI0
      have QO2 : Hid (∀ x, Below wr.heap.size wr (W2 x)) := QO0
      clear QI0 QO0
      have y2 := Qc.cell_all QO2.out c2
      refine Qc.region_class (W := W2) (by kernel_rfl) (by kernel_rfl) (QI2.out _ Qc.from_drew) ?_
      repeat (go_big_quiet_step (first | (go_at_call 107; refine (HT2.out _).mono ?_; rintro e w2 ⟨rfl, b2⟩; exact ⟨rfl, Qc.back QI2.out QO2.out b2⟩)))
      refine wpQuiet_nil ?_
      rintro _ ⟨xq, rfl⟩
      have G2 : Hid (Below w.heap.size w (W2 xq)) := HB.out.trans ((QO2.out xq).mono HB.out.size)
      generalize W2 xq = w2 at G2 ⊢
      clear QI2 QO2 y2 c2 c0 c1 e0 e1
      go_wp2
      exact ⟨⟨q + 1, r + 3, by omega, by go_num, by omega, by go_num, (by show _ = _; have := HRR.out; omega), G2⟩, by simp [intOf]; omega⟩
    · obtain rfl : q = n := by omega
      go_wp2
      go_ret
      exact ⟨Rg.ret_i (by have := HRR.out; omega), HB.out⟩
set_option maxHeartbeats 400000 in
theorem markNilM_any (a : Nat) (ad : Option Addr) (cap : Nat) (w : World) : Calls Try.prog 81 #[.slice ad 0 cap, .int .i64 a] w fun e w' => e = .returned (.int .i64 (a : Int)) ∧ w' = w := by
  go_enter Try.func81, Try.ntmps81
  go_wp2_with fail
  go_loopw [1, 5] (fun k i wr => k = .int .i64 (a : Int) ∧ i = .int .i64 0 ∧ wr = w) (fun _ _ _ => 0)
  case atStart => exact ⟨rfl, rfl, rfl⟩
  case round =>
    obtain ⟨rfl, rfl, rfl⟩ := hrel
    go_wp2
    go_ret
    exact ⟨rfl, rfl⟩
set_option maxHeartbeats 400000 in
theorem heldNilM_any (a : Nat) (ad : Option Addr) (cap : Nat) (w : World) : Calls Try.prog 85 #[.slice ad 0 cap, .int .i64 a] w fun e w' => e = .returned (.int .i64 (a : Int)) ∧ w' = w := by
  go_enter Try.func85, Try.ntmps85
  go_wp2_with fail
  go_loopw [1, 5] (fun k i wr => k = .int .i64 (a : Int) ∧ i = .int .i64 0 ∧ wr = w) (fun _ _ _ => 0)
  case atStart => exact ⟨rfl, rfl, rfl⟩
  case round =>
    obtain ⟨rfl, rfl, rfl⟩ := hrel
    go_wp2
    go_ret
    exact ⟨rfl, rfl⟩
theorem OwnR.dest {w : World} {B : Nat} {v : Value} {ms : List Rd} (h : OwnR w B v ms) : ∃ ad cap, v = .slice ad ms.length cap ∧ (ms.length = 0 ∨ ∃ g, ad = some ⟨g, 0, none⟩ ∧ B ≤ g ∧ ms.length ≤ cap ∧ Wr w g (ms.length * 3)) := by
  obtain ⟨_, h⟩ := h
  rcases h with ⟨rfl, h0⟩ | ⟨g, cap, cur, rfl, hB, hg, hc, _, hs, _⟩
  · exact ⟨none, 0, by rw [h0], .inl h0⟩
  · exact ⟨_, cap, rfl, .inr ⟨g, rfl, hB, hc, cur, _, hg, by rw [hs]; exact Nat.mul_le_mul_right 3 hc⟩⟩
/-- The readings in v bear the marks from a on. -/
def HeldM (w : World) (v : Value) (a n : Nat) : Prop := ∃ ad cap, v = .slice ad n cap ∧ (n = 0 ∨ ∃ g, ad = some ⟨g, 0, none⟩ ∧ g < w.heap.size ∧ n ≤ cap ∧ Up w g a (n * 3))
theorem HeldM.below {w w' : World} {v : Value} {a n : Nat} (h : HeldM w v a n) (hb : Below w.heap.size w w') : HeldM w' v a n := by
  obtain ⟨ad, cap, rfl, h⟩ := h
  refine ⟨ad, cap, rfl, ?_⟩
  rcases h with h | ⟨g, rfl, h2, h3, h4⟩
  · exact .inl h
  · exact .inr ⟨g, rfl, Nat.lt_of_lt_of_le h2 hb.size, h3, h4.below h2 hb⟩
theorem kp_mid {w w' : World} {g n cap : Nat} (h : Mid g (g + 1) w w') : Kp w w' (.slice (some ⟨g, 0, none⟩) n cap) (.slice (some ⟨g, 0, none⟩) n cap) :=
  ⟨h.os, h.tape, h.output, h.size, fun k hk hne => h.block k hk (by simp [Value.ownBlock] at hne; omega), fun _ _ hne => hne⟩
set_option maxRecDepth 100000 in
set_option maxHeartbeats 800000 in
theorem markBatch_own (bx : Bv) (v : Value) (ms : List Rd) (B : Nat) (w : World) (h : OwnR w B v ms) (hn : ms.length ≤ 1048576) :
    Calls Try.prog 37 #[bV bx v, .int .i64 1] w fun e w' => e = .returned (.int .i64 ((1 + ms.length * 3 : Nat) : Int)) ∧ HeldM w' v 1 ms.length ∧ Kp w w' v v := by
  have HU : Hid (∀ W, Below w.heap.size w W → Calls Try.prog 81 #[v, .int .i64 1] W fun e w' => e = .returned (.int .i64 ((1 + ms.length * 3 : Nat) : Int)) ∧ HeldM w' v 1 ms.length ∧ Kp w w' v v) := fun W hW => by
    obtain ⟨ad, cap, hv, hd⟩ := OwnR.dest h
    clear h
    subst hv
    rcases hd with h | ⟨g, rfl, h1, h2, h3⟩
    · rw [h]
      refine (markNilM_any 1 ad cap W).mono ?_
      rintro e w' ⟨rfl, rfl⟩
      exact ⟨by simp, ⟨ad, cap, rfl, .inl rfl⟩, Kp.of_below _ hW⟩
    · refine (markM_any g ms.length cap 1 W (h3.below hW) hn (by decide) (by decide)).mono ?_
      rintro e w' ⟨rfl, m, m2, mm⟩
      exact ⟨rfl, ⟨_, cap, rfl, .inr ⟨g, rfl, m2.lt, h2, m⟩⟩, (Kp.of_below _ hW).trans (kp_mid mm)⟩
  clear h
  unfold bV batV
  go_enter Try.func37, Try.ntmps37
  go_wp2_with fail
  refine (HU.out _ (bel_new _ _)).mono ?_
  rintro e w1 ⟨rfl, h1, h2⟩
  have HE : Hid (HeldM w1 v 1 ms.length ∧ Kp w w1 v v) := ⟨h1, h2⟩
  clear h1 h2
  go_wp2_with fail
  go_ret
  exact ⟨rfl, HE.out⟩
set_option maxRecDepth 100000 in
set_option maxHeartbeats 800000 in
theorem heldBatch_own (bx : Bv) (v : Value) (n : Nat) (w : World) (h : HeldM w v 1 n) (hn : n ≤ 1048576) :
    Calls Try.prog 40 #[bV bx v, .int .i64 1] w fun e w' => e = .returned (.int .i64 ((1 + n * 3 : Nat) : Int)) ∧ Below w.heap.size w w' := by
  have HU : Hid (∀ W, Below w.heap.size w W → Calls Try.prog 85 #[v, .int .i64 1] W fun e w' => e = .returned (.int .i64 ((1 + n * 3 : Nat) : Int)) ∧ Below W.heap.size W w') := fun W hW => by
    have h' := h.below hW
    clear h
    obtain ⟨ad, cap, rfl, h⟩ := h'
    rcases h with h | ⟨g, rfl, h2, h3, h4⟩
    · rw [h]
      refine (heldNilM_any 1 ad cap W).mono ?_
      rintro e w' ⟨rfl, rfl⟩
      exact ⟨by simp, Below.refl _ _⟩
    · exact heldM_any g n cap 1 W h4 h2 h3 hn (by decide) (by decide)
  clear h
  unfold bV batV
  have hp : ¬ ((1 + n * 3 : Nat) : Int) < 0 := by omega
  go_enter Try.func40, Try.ntmps40
  go_wp2_with fail
  refine (HU.out _ (bel_new _ _)).mono ?_
  rintro e w1 ⟨rfl, b1⟩
  have HE : Hid (Below w.heap.size w w1) := (bel_new _ _).trans (b1.mono (by simp))
  clear b1
  go_wp2_with fail
  go_ret
  exact ⟨rfl, HE.out⟩
theorem kp_block {w w' : World} {v : Value} {k : Nat} {o : Obj} (h : Kp w w' v v) (hk : w.heap[k]? = some o) (hne : some k ≠ v.ownBlock) : w'.heap[k]? = some o := (h.block k (Array.getElem?_eq_some_iff.1 hk).1 hne).trans hk
end Go.Proofs.Ytpljjchjdejcfaa.Tkb
