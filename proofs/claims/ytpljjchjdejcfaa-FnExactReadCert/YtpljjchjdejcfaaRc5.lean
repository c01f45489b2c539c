/- The laws' marks on a certificate that was handed out. -/
import Derived.Test.YtpljjchjdejcfaaRc4
import Derived.Test.YtpljjchjdejcfaaHc
import Derived.Test.YtpljjchjdejcfaaTbo
namespace Go.Proofs.Ytpljjchjdejcfaa.Rc
open Go.RowKit Go.Proofs.Ytpljjchjdejcfaa.Sl Go.Proofs.Ytpljjchjdejcfaa.By Go.Proofs.Ytpljjchjdejcfaa.Ap Go.Proofs.Ytpljjchjdejcfaa.Gm Go.Proofs.Ytpljjchjdejcfaa.Cb
open Go.Proofs.Ytpljjchjdejcfaa.Rl (rdL)
open Go.Proofs.Ytpljjchjdejcfaa.Rg (RowG RowG.slice RowG.at bel_new Wr Mid markText_any mtext)

/-- The mark in cell i of the row, counted from a. -/
def mv (a i : Nat) : Value := if i % 7 < 4 then .int .i64 ((a + i : Nat) : Int) else .string (mtext (a + i))
def Up (w : World) (g a n : Nat) : Prop := ∀ i, i < n → w.cell? ⟨g, i, none⟩ = some (mv a i)
theorem Up.below {w w' : World} {g a n : Nat} (h : Up w g a n) (hg : g < w.heap.size) (hb : Below w.heap.size w w') : Up w' g a n := fun i hi => (hb.cell (p := ⟨g, _, none⟩) hg).trans (h i hi)
theorem set_eq {w : World} {g n j : Nat} (h : Wr w g n) (hj : j < n) (x : Value) : (w.setCell ⟨g, j, none⟩ x).cell? ⟨g, j, none⟩ = some x := by
  obtain ⟨A, t, h, hn⟩ := h
  have h1 := Rg.blk_set h j x
  exact (Rg.blk_cell h1 j (x := x) (by rw [Array.getElem?_setIfInBounds, if_pos rfl, if_pos (by omega)])).1
theorem set_ne {w : World} {g i j : Nat} (hne : i ≠ j) (x : Value) : (w.setCell ⟨g, i, none⟩ x).cell? ⟨g, j, none⟩ = w.cell? ⟨g, j, none⟩ :=
  World.cell?_setCell_other _ _ _ _ (fun e => hne (by have := congrArg Addr.off e; exact this))
theorem Up.next {w : World} {g a n N : Nat} (h : Up w g a n) (hw : Wr w g N) (hn : n < N) {x : Value} (hx : x = mv a n) : Up (w.setCell ⟨g, n, none⟩ x) g a (n + 1) := fun i hi => by
  by_cases e : i = n
  · subst e
    rw [set_eq hw hn, hx]
  · exact (set_ne (fun h => e h.symm) _).trans (h i (by omega))
theorem mv_int {a q j : Nat} (hj : j < 4) {r : Int} (hr : r = ((a + (q * 7 + j) : Nat) : Int)) : Value.int .i64 r = mv a (q * 7 + j) := by unfold mv; rw [if_pos (by omega), hr]
theorem mv_str {a q j : Nat} (h1 : 4 ≤ j) (h2 : j < 7) {r : Nat} (hr : r = a + (q * 7 + j)) : Value.string (mtext r) = mv a (q * 7 + j) := by unfold mv; rw [if_neg (by omega), hr]
set_option maxRecDepth 100000 in
set_option maxHeartbeats 1600000 in
theorem markM_any (g n cap : Nat) (a : Nat) (w : World) (h : Wr w g (n * 7)) (hn : n ≤ 1048576) (ha : a ≤ 1000) (ha0 : 0 < a) :
    Calls Try.prog 65 #[.slice (some ⟨g, 0, none⟩) n cap, .int .i64 a] w fun e w' => e = .returned (.int .i64 ((a + n * 7 : Nat) : Int)) ∧ Up w' g a (n * 7) ∧ Wr w' g (n * 7) ∧ Mid g (g + 1) w w' := by
  have hB : g ≤ g := Nat.le_refl _
  have hC : g < g + 1 := Nat.lt_succ_self _
  have H : Hid (Wr w g (n * 7)) := h
  clear h
  go_enter Try.func65, Try.ntmps65
  go_wp2_with fail
  go_loopw [1, 5] (fun k i wr => ∃ q r : Nat, q ≤ n ∧ k = .int .i64 (r : Int) ∧ (r ≤ a + q * 7 ∧ 0 < r) ∧ i = .int .i64 q ∧ Hid (r = a + q * 7) ∧ Hid (Wr wr g (n * 7) ∧ Mid g (g + 1) w wr ∧ Up wr g a (q * 7))) (fun _ i _ => n - (intOf i).toNat)
  case atStart => exact ⟨0, a, by omega, rfl, by omega, rfl, (by show _ = _; omega), H.out, Mid.refl _ _ _, fun i hi => absurd hi (by omega)⟩
  case round =>
    obtain ⟨q, r, hq, rfl, hrb, rfl, HRR, HA⟩ := hrel
    by_cases hlt : q < n
    · have hsz : q * 7 + 6 < n * 7 := by omega
      obtain ⟨⟨x0, c0⟩, f0⟩ := HA.out.1.cell (j := q * 7) (by omega)
      obtain ⟨⟨x1, c1⟩, f1⟩ := HA.out.1.cell (j := q * 7 + 1) (by omega)
      obtain ⟨⟨x2, c2⟩, f2⟩ := HA.out.1.cell (j := q * 7 + 2) (by omega)
      obtain ⟨⟨x3, c3⟩, f3⟩ := HA.out.1.cell (j := q * 7 + 3) (by omega)
      have HC : Hid (Wr ((((wr.setCell ⟨g, q * 7, none⟩ (.int .i64 ((r : Int)))).setCell ⟨g, q * 7 + 1, none⟩ (.int .i64 ((r : Int) + 1))).setCell ⟨g, q * 7 + 2, none⟩ (.int .i64 ((r : Int) + 1 + 1))).setCell ⟨g, q * 7 + 3, none⟩ (.int .i64 ((r : Int) + 1 + 1 + 1))) g (n * 7) ∧ Mid g (g + 1) w ((((wr.setCell ⟨g, q * 7, none⟩ (.int .i64 ((r : Int)))).setCell ⟨g, q * 7 + 1, none⟩ (.int .i64 ((r : Int) + 1))).setCell ⟨g, q * 7 + 2, none⟩ (.int .i64 ((r : Int) + 1 + 1))).setCell ⟨g, q * 7 + 3, none⟩ (.int .i64 ((r : Int) + 1 + 1 + 1))) ∧ Up ((((wr.setCell ⟨g, q * 7, none⟩ (.int .i64 ((r : Int)))).setCell ⟨g, q * 7 + 1, none⟩ (.int .i64 ((r : Int) + 1))).setCell ⟨g, q * 7 + 2, none⟩ (.int .i64 ((r : Int) + 1 + 1))).setCell ⟨g, q * 7 + 3, none⟩ (.int .i64 ((r : Int) + 1 + 1 + 1))) g a (q * 7 + 4)) := ⟨((((HA.out.1.set _ _ _).set _ _ _).set _ _ _).set _ _ _), ((((HA.out.2.1.trans (Mid.set hB hC _ _)).trans (Mid.set hB hC _ _)).trans (Mid.set hB hC _ _)).trans (Mid.set hB hC _ _)),
        (((HA.out.2.2.next HA.out.1 (by omega) (mv_int (q := q) (j := 0) (by decide) (by have := HRR.out; omega))).next (HA.out.1.set _ _ _) (by omega) (mv_int (q := q) (j := 1) (by decide) (by have := HRR.out; omega))).next ((HA.out.1.set _ _ _).set _ _ _) (by omega) (mv_int (q := q) (j := 2) (by decide) (by have := HRR.out; omega))).next (((HA.out.1.set _ _ _).set _ _ _).set _ _ _) (by omega) (mv_int (q := q) (j := 3) (by decide) (by have := HRR.out; omega))⟩
      go_wp2_with fail
      generalize ((((wr.setCell ⟨g, q * 7, none⟩ (.int .i64 ((r : Int)))).setCell ⟨g, q * 7 + 1, none⟩ (.int .i64 ((r : Int) + 1))).setCell ⟨g, q * 7 + 2, none⟩ (.int .i64 ((r : Int) + 1 + 1))).setCell ⟨g, q * 7 + 3, none⟩ (.int .i64 ((r : Int) + 1 + 1 + 1))) = v0 at HC ⊢
      clear HA c0 f0 c1 f1 c2 f2 c3 f3
      obtain ⟨r0, HR0⟩ : ∃ r0 : Nat, Hid (r + 4 = r0) := ⟨_, rfl⟩
      have ER : Hid ((r : Int) + 1 + 1 + 1 + 1 = (r0 : Int)) := by show _ = _; have := HR0.out; omega
      rw [ER.out]
      have l0 : 0 < r0 ∧ r0 ≤ a + q * 7 + 4 := by have := HR0.out; omega
      have HL0 : Hid (r0 = a + (q * 7 + 4)) := by show _ = _; have := HR0.out; have := HRR.out; omega
      refine (markText_any r0 v0 (by omega) (by omega)).mono ?_
      rintro e u0 ⟨rfl, b0⟩
      have HD0 : Hid (Wr u0 g (n * 7) ∧ Mid g (g + 1) w u0 ∧ Up u0 g a (q * 7 + 4)) := ⟨HC.out.1.below b0, HC.out.2.1.trans (Mid.of_below b0), HC.out.2.2.below HC.out.1.lt b0⟩
      have HV0 : Hid (Value.string (mtext r0) = mv a (q * 7 + 4)) := mv_str (by decide) (by decide) HL0.out
      generalize mtext r0 = mt0 at HV0 ⊢
      obtain ⟨⟨y0, d0⟩, g0⟩ := HD0.out.1.cell (j := q * 7 + 4) (by omega)
      have HE : Hid (Wr (u0.setCell ⟨g, q * 7 + 4, none⟩ (.string mt0)) g (n * 7) ∧ Mid g (g + 1) w (u0.setCell ⟨g, q * 7 + 4, none⟩ (.string mt0)) ∧ Up (u0.setCell ⟨g, q * 7 + 4, none⟩ (.string mt0)) g a (q * 7 + 5)) := ⟨HD0.out.1.set _ _ _, HD0.out.2.1.trans (Mid.set hB hC _ _), HD0.out.2.2.next HD0.out.1 (by omega) HV0.out⟩
      clear HC b0 HV0
      go_wp2_with fail
      generalize u0.setCell ⟨g, q * 7 + 4, none⟩ (.string mt0) = v1 at HE ⊢
      have HC := HE
      clear HE HD0 d0 g0 ER
      obtain ⟨r1, HR1⟩ : ∃ r1 : Nat, Hid (r0 + 1 = r1) := ⟨_, rfl⟩
      have ER : Hid ((r0 : Int) + 1 = (r1 : Int)) := by show _ = _; have := HR1.out; omega
      rw [ER.out]
      have l1 : 0 < r1 ∧ r1 ≤ a + q * 7 + 5 := by have := HR1.out; omega
      have HL1 : Hid (r1 = a + (q * 7 + 5)) := by show _ = _; have := HR1.out; have := HRR.out; have := HL0.out; omega
      refine (markText_any r1 v1 (by omega) (by omega)).mono ?_
      rintro e u1 ⟨rfl, b1⟩
      have HD1 : Hid (Wr u1 g (n * 7) ∧ Mid g (g + 1) w u1 ∧ Up u1 g a (q * 7 + 5)) := ⟨HC.out.1.below b1, HC.out.2.1.trans (Mid.of_below b1), HC.out.2.2.below HC.out.1.lt b1⟩
      have HV1 : Hid (Value.string (mtext r1) = mv a (q * 7 + 5)) := mv_str (by decide) (by decide) HL1.out
      generalize mtext r1 = mt1 at HV1 ⊢
      obtain ⟨⟨y1, d1⟩, g1⟩ := HD1.out.1.cell (j := q * 7 + 5) (by omega)
      have HE : Hid (Wr (u1.setCell ⟨g, q * 7 + 5, none⟩ (.string mt1)) g (n * 7) ∧ Mid g (g + 1) w (u1.setCell ⟨g, q * 7 + 5, none⟩ (.string mt1)) ∧ Up (u1.setCell ⟨g, q * 7 + 5, none⟩ (.string mt1)) g a (q * 7 + 6)) := ⟨HD1.out.1.set _ _ _, HD1.out.2.1.trans (Mid.set hB hC _ _), HD1.out.2.2.next HD1.out.1 (by omega) HV1.out⟩
      clear HC b1 HV1
      go_wp2_with fail
      generalize u1.setCell ⟨g, q * 7 + 5, none⟩ (.string mt1) = v2 at HE ⊢
      have HC := HE
      clear HE HD1 d1 g1 ER
      obtain ⟨r2, HR2⟩ : ∃ r2 : Nat, Hid (r1 + 1 = r2) := ⟨_, rfl⟩
      have ER : Hid ((r1 : Int) + 1 = (r2 : Int)) := by show _ = _; have := HR2.out; omega
      rw [ER.out]
      have l2 : 0 < r2 ∧ r2 ≤ a + q * 7 + 6 := by have := HR2.out; omega
      have HL2 : Hid (r2 = a + (q * 7 + 6)) := by show _ = _; have := HR2.out; have := HRR.out; have := HL1.out; omega
      refine (markText_any r2 v2 (by omega) (by omega)).mono ?_
      rintro e u2 ⟨rfl, b2⟩
      have HD2 : Hid (Wr u2 g (n * 7) ∧ Mid g (g + 1) w u2 ∧ Up u2 g a (q * 7 + 6)) := ⟨HC.out.1.below b2, HC.out.2.1.trans (Mid.of_below b2), HC.out.2.2.below HC.out.1.lt b2⟩
      have HV2 : Hid (Value.string (mtext r2) = mv a (q * 7 + 6)) := mv_str (by decide) (by decide) HL2.out
      generalize mtext r2 = mt2 at HV2 ⊢
      obtain ⟨⟨y2, d2⟩, g2⟩ := HD2.out.1.cell (j := q * 7 + 6) (by omega)
      have HE : Hid (Wr (u2.setCell ⟨g, q * 7 + 6, none⟩ (.string mt2)) g (n * 7) ∧ Mid g (g + 1) w (u2.setCell ⟨g, q * 7 + 6, none⟩ (.string mt2)) ∧ Up (u2.setCell ⟨g, q * 7 + 6, none⟩ (.string mt2)) g a (q * 7 + 7)) := ⟨HD2.out.1.set _ _ _, HD2.out.2.1.trans (Mid.set hB hC _ _), HD2.out.2.2.next HD2.out.1 (by omega) HV2.out⟩
      clear HC b2 HV2
      go_wp2_with fail
      exact ⟨⟨q + 1, r2 + 1, by omega, by go_num, by omega, by go_num, (by show _ = _; have := HL2.out; omega), ⟨HE.out.1, HE.out.2.1, by rw [show (q + 1) * 7 = q * 7 + 7 by omega]; exact HE.out.2.2⟩⟩, by simp [intOf]; omega⟩
    · obtain rfl : q = n := by omega
      go_wp2_with fail
      go_ret
      exact ⟨Rg.ret_i (by have := HRR.out; omega), HA.out.2.2, HA.out.1, HA.out.2.1⟩
set_option maxRecDepth 100000 in
set_option maxHeartbeats 1600000 in
theorem heldM_any (g n cap : Nat) (a : Nat) (w : World) (h : Up w g a (n * 7)) (hg : g < w.heap.size) (hcap : n ≤ cap) (hn : n ≤ 1048576) (ha : a ≤ 1000) (ha0 : 0 < a) :
    Calls Try.prog 69 #[.slice (some ⟨g, 0, none⟩) n cap, .int .i64 a] w fun e w' => e = .returned (.int .i64 ((a + n * 7 : Nat) : Int)) ∧ Below w.heap.size w w' := by
  have H : Hid (Up w g a (n * 7)) := h
  clear h
  go_enter Try.func69, Try.ntmps69
  go_wp2_with fail
  go_loopw [1, 5] (fun k i wr => ∃ q r : Nat, q ≤ n ∧ k = .int .i64 (r : Int) ∧ (r ≤ a + q * 7 ∧ 0 < r) ∧ i = .int .i64 q ∧ Hid (r = a + q * 7) ∧ Hid (Below w.heap.size w wr)) (fun _ i _ => n - (intOf i).toNat)
  case atStart => exact ⟨0, a, by omega, rfl, by omega, rfl, (by show _ = _; omega), Below.refl _ _⟩
  case round =>
    obtain ⟨q, r, hq, rfl, hrb, rfl, HRR, HB⟩ := hrel
    by_cases hlt : q < n
    · have HU : Hid (∀ W, Below w.heap.size w W → Up W g a (n * 7)) := fun W hW => H.out.below hg hW
      have c0 : wr.cell? ⟨g, q * 7, none⟩ = some (.int .i64 ((r : Int))) := (HU.out wr HB.out (q * 7 + 0) (by omega)).trans (congrArg some (mv_int (q := q) (j := 0) (by decide) (by have := HRR.out; omega)).symm)
      have e0 : (((r : Int)) != ((r : Int))) = false := by simp
      have c1 : wr.cell? ⟨g, q * 7 + 1, none⟩ = some (.int .i64 ((r : Int) + 1)) := (HU.out wr HB.out (q * 7 + 1) (by omega)).trans (congrArg some (mv_int (q := q) (j := 1) (by decide) (by have := HRR.out; omega)).symm)
      have e1 : (((r : Int) + 1) != ((r : Int) + 1)) = false := by simp
      have c2 : wr.cell? ⟨g, q * 7 + 2, none⟩ = some (.int .i64 ((r : Int) + 1 + 1)) := (HU.out wr HB.out (q * 7 + 2) (by omega)).trans (congrArg some (mv_int (q := q) (j := 2) (by decide) (by have := HRR.out; omega)).symm)
      have e2 : (((r : Int) + 1 + 1) != ((r : Int) + 1 + 1)) = false := by simp
      have c3 : wr.cell? ⟨g, q * 7 + 3, none⟩ = some (.int .i64 ((r : Int) + 1 + 1 + 1)) := (HU.out wr HB.out (q * 7 + 3) (by omega)).trans (congrArg some (mv_int (q := q) (j := 3) (by decide) (by have := HRR.out; omega)).symm)
      have e3 : (((r : Int) + 1 + 1 + 1) != ((r : Int) + 1 + 1 + 1)) = false := by simp
      have HT4 : Hid (∀ W : World, Calls Try.prog 107 #[.int .i64 ((r : Int) + 1 + 1 + 1 + 1)] W fun e w' => e = .returned (.string (mtext (r + 4))) ∧ Below W.heap.size W w') := fun W => by
        rw [show (r : Int) + 1 + 1 + 1 + 1 = ((r + 4 : Nat) : Int) by omega]; exact markText_any (r + 4) W (by omega) (by omega)
      have HV4 : Hid (Value.string (mtext (r + 4)) = mv a (q * 7 + 4)) := mv_str (by decide) (by decide) (by have := HRR.out; omega)
      have n4 : ((mtext (r + 4)).toList == (mtext (r + 4)).toList) = true := by simp
      have nn4 : ((mtext (r + 4)).toList != (mtext (r + 4)).toList) = false := by simp
      generalize mtext (r + 4) = mt4 at HT4 HV4 n4 nn4
      have HT5 : Hid (∀ W : World, Calls Try.prog 107 #[.int .i64 ((r : Int) + 1 + 1 + 1 + 1 + 1)] W fun e w' => e = .returned (.string (mtext (r + 5))) ∧ Below W.heap.size W w') := fun W => by
        rw [show (r : Int) + 1 + 1 + 1 + 1 + 1 = ((r + 5 : Nat) : Int) by omega]; exact markText_any (r + 5) W (by omega) (by omega)
      have HV5 : Hid (Value.string (mtext (r + 5)) = mv a (q * 7 + 5)) := mv_str (by decide) (by decide) (by have := HRR.out; omega)
      have n5 : ((mtext (r + 5)).toList == (mtext (r + 5)).toList) = true := by simp
      have nn5 : ((mtext (r + 5)).toList != (mtext (r + 5)).toList) = false := by simp
      generalize mtext (r + 5) = mt5 at HT5 HV5 n5 nn5
      have HT6 : Hid (∀ W : World, Calls Try.prog 107 #[.int .i64 ((r : Int) + 1 + 1 + 1 + 1 + 1 + 1)] W fun e w' => e = .returned (.string (mtext (r + 6))) ∧ Below W.heap.size W w') := fun W => by
        rw [show (r : Int) + 1 + 1 + 1 + 1 + 1 + 1 = ((r + 6 : Nat) : Int) by omega]; exact markText_any (r + 6) W (by omega) (by omega)
      have HV6 : Hid (Value.string (mtext (r + 6)) = mv a (q * 7 + 6)) := mv_str (by decide) (by decide) (by have := HRR.out; omega)
      have n6 : ((mtext (r + 6)).toList == (mtext (r + 6)).toList) = true := by simp
      have nn6 : ((mtext (r + 6)).toList != (mtext (r + 6)).toList) = false := by simp
      generalize mtext (r + 6) = mt6 at HT6 HV6 n6 nn6
      have hp0 : (0 : Int) ≤ (q : Int) := by omega
      have hp1 : (q : Int) < (n : Int) := by omega
      have c4 : wr.cell? ⟨g, q * 7 + 4, none⟩ = some (.string mt4) := (HU.out wr HB.out (q * 7 + 4) (by omega)).trans (congrArg some HV4.out.symm)
      go_wp2
      obtain ⟨X4, hX4, W4, QI0, QO0⟩ := Qc.klass wr
      have QI4 : Hid (∀ w', Below wr.heap.size wr w' → ∃ x, w' = W4 x) := QI0
      have QO4 : Hid (∀ x, Below wr.heap.size wr (W4 x)) := QO0
      clear QI0 QO0
      have y4 := Qc.cell_all QO4.out c4
      refine Qc.region_class (W := W4) (by kernel_rfl) (by kernel_rfl) (QI4.out _ Qc.from_drew) ?_
      repeat (go_big_quiet_step (first | (go_at_call 107; refine (HT4.out _).mono ?_; rintro e w2 ⟨rfl, b2⟩; exact ⟨rfl, Qc.back QI4.out QO4.out b2⟩)))
      refine wpQuiet_nil ?_
      rintro _ ⟨xq, rfl⟩
      have G4 : Hid (Below w.heap.size w (W4 xq)) := HB.out.trans ((QO4.out xq).mono HB.out.size)
      generalize W4 xq = w4 at G4 ⊢
      clear QI4 QO4 y4 c4 c0 c1 c2 c3 e0 e1 e2 e3
      have c5 : w4.cell? ⟨g, q * 7 + 5, none⟩ = some (.string mt5) := (HU.out w4 G4.out (q * 7 + 5) (by omega)).trans (congrArg some HV5.out.symm)
      go_wp2
      obtain ⟨X5, hX5, W5, QI0, QO0⟩ := Qc.klass w4
      have QI5 : Hid (∀ w', Below w4.heap.size w4 w' → ∃ x, w' = W5 x) := QI0
      have QO5 : Hid (∀ x, Below w4.heap.size w4 (W5 x)) := QO0
      clear QI0 QO0
      have y5 := Qc.cell_all QO5.out c5
      refine Qc.region_class (W := W5) (by kernel_rfl) (by kernel_rfl) (QI5.out _ Qc.from_drew) ?_
      repeat (go_big_quiet_step (first | (go_at_call 107; refine (HT5.out _).mono ?_; rintro e w2 ⟨rfl, b2⟩; exact ⟨rfl, Qc.back QI5.out QO5.out b2⟩)))
      refine wpQuiet_nil ?_
      rintro _ ⟨xq, rfl⟩
      have G5 : Hid (Below w.heap.size w (W5 xq)) := G4.out.trans ((QO5.out xq).mono G4.out.size)
      generalize W5 xq = w5 at G5 ⊢
      clear QI5 QO5 y5 c5 
      have c6 : w5.cell? ⟨g, q * 7 + 6, none⟩ = some (.string mt6) := (HU.out w5 G5.out (q * 7 + 6) (by omega)).trans (congrArg some HV6.out.symm)
      go_wp2
      obtain ⟨X6, hX6, W6, QI0, QO0⟩ := Qc.klass w5
      have QI6 : Hid (∀ w', Below w5.heap.size w5 w' → ∃ x, w' = W6 x) := QI0
      have QO6 : Hid (∀ x, Below w5.heap.size w5 (W6 x)) := QO0
      clear QI0 QO0
      have y6 := Qc.cell_all QO6.out c6
      refine Qc.region_class (W := W6) (by kernel_rfl) (by kernel_rfl) (QI6.out _ Qc.from_drew) ?_
      repeat (go_big_quiet_step (first | (go_at_call 107; refine (HT6.out _).mono ?_; rintro e w2 ⟨rfl, b2⟩; exact ⟨rfl, Qc.back QI6.out QO6.out b2⟩)))
      refine wpQuiet_nil ?_
      rintro _ ⟨xq, rfl⟩
      have G6 : Hid (Below w.heap.size w (W6 xq)) := G5.out.trans ((QO6.out xq).mono G5.out.size)
      generalize W6 xq = w6 at G6 ⊢
      clear QI6 QO6 y6 c6 
      go_wp2
      exact ⟨⟨q + 1, r + 7, by omega, by go_num, by omega, by go_num, (by show _ = _; have := HRR.out; omega), G6⟩, by simp [intOf]; omega⟩
    · obtain rfl : q = n := by omega
      go_wp2
      go_ret
      exact ⟨Rg.ret_i (by have := HRR.out; omega), HB.out⟩
set_option maxHeartbeats 400000 in
theorem markNilM_any (a : Nat) (ad : Option Addr) (cap : Nat) (w : World) : Calls Try.prog 65 #[.slice ad 0 cap, .int .i64 a] w fun e w' => e = .returned (.int .i64 (a : Int)) ∧ w' = w := by
  go_enter Try.func65, Try.ntmps65
  go_wp2_with fail
  go_loopw [1, 5] (fun k i wr => k = .int .i64 (a : Int) ∧ i = .int .i64 0 ∧ wr = w) (fun _ _ _ => 0)
  case atStart => exact ⟨rfl, rfl, rfl⟩
  case round =>
    obtain ⟨rfl, rfl, rfl⟩ := hrel
    go_wp2
    go_ret
    exact ⟨rfl, rfl⟩
set_option maxHeartbeats 400000 in
theorem heldNilM_any (a : Nat) (ad : Option Addr) (cap : Nat) (w : World) : Calls Try.prog 69 #[.slice ad 0 cap, .int .i64 a] w fun e w' => e = .returned (.int .i64 (a : Int)) ∧ w' = w := by
  go_enter Try.func69, Try.ntmps69
  go_wp2_with fail
  go_loopw [1, 5] (fun k i wr => k = .int .i64 (a : Int) ∧ i = .int .i64 0 ∧ wr = w) (fun _ _ _ => 0)
  case atStart => exact ⟨rfl, rfl, rfl⟩
  case round =>
    obtain ⟨rfl, rfl, rfl⟩ := hrel
    go_wp2
    go_ret
    exact ⟨rfl, rfl⟩
theorem OwnM.dest {w : World} {B : Nat} {v : Value} {ms : List Mg} (h : OwnM w B v ms) : ∃ ad cap, v = .slice ad ms.length cap ∧ (ms.length = 0 ∨ ∃ g, ad = some ⟨g, 0, none⟩ ∧ B ≤ g ∧ ms.length ≤ cap ∧ Wr w g (ms.length * 7)) := by
  obtain ⟨_, h⟩ := h
  rcases h with ⟨rfl, h0⟩ | ⟨g, cap, cur, rfl, hB, hg, hc, _, hs, _⟩
  · exact ⟨none, 0, by rw [h0], .inl h0⟩
  · exact ⟨_, cap, rfl, .inr ⟨g, rfl, hB, hc, cur, _, hg, by rw [hs]; exact Nat.mul_le_mul_right 7 hc⟩⟩
/-- The messages in v bear the marks from a on. -/
def HeldM (w : World) (v : Value) (a n : Nat) : Prop := ∃ ad cap, v = .slice ad n cap ∧ (n = 0 ∨ ∃ g, ad = some ⟨g, 0, none⟩ ∧ g < w.heap.size ∧ n ≤ cap ∧ Up w g a (n * 7))
theorem HeldM.below {w w' : World} {v : Value} {a n : Nat} (h : HeldM w v a n) (hb : Below w.heap.size w w') : HeldM w' v a n := by
  obtain ⟨ad, cap, rfl, h⟩ := h
  refine ⟨ad, cap, rfl, ?_⟩
  rcases h with h | ⟨g, rfl, h2, h3, h4⟩
  · exact .inl h
  · exact .inr ⟨g, rfl, Nat.lt_of_lt_of_le h2 hb.size, h3, h4.below h2 hb⟩
theorem kp_mid {w w' : World} {g n cap : Nat} (h : Mid g (g + 1) w w') : Kp w w' (.slice (some ⟨g, 0, none⟩) n cap) (.slice (some ⟨g, 0, none⟩) n cap) :=
  ⟨h.os, h.tape, h.output, h.size, fun k hk hne => h.block k hk (by simp [Value.ownBlock] at hne; omega), fun _ _ hne => hne⟩
set_option maxRecDepth 100000 in
set_option maxHeartbeats 800000 in
theorem markCert_own (bd : ByteArray) (v : Value) (ms : List Mg) (B : Nat) (w : World) (h : OwnM w B v ms) (hn : ms.length ≤ 1048576) :
    Calls Try.prog 25 #[crtV bd v, .int .i64 1] w fun e w' => e = .returned (.int .i64 ((1 + ms.length * 7 : Nat) : Int)) ∧ HeldM w' v 1 ms.length ∧ Kp w w' v v := by
  have HU : Hid (∀ W, Below w.heap.size w W → Calls Try.prog 65 #[v, .int .i64 1] W fun e w' => e = .returned (.int .i64 ((1 + ms.length * 7 : Nat) : Int)) ∧ HeldM w' v 1 ms.length ∧ Kp w w' v v) := fun W hW => by
    obtain ⟨ad, cap, hv, hd⟩ := OwnM.dest h
    clear h
    subst hv
    rcases hd with h | ⟨g, rfl, h1, h2, h3⟩
    · rw [h]
      refine (markNilM_any 1 ad cap W).mono ?_
      rintro e w' ⟨rfl, rfl⟩
      exact ⟨by simp, ⟨ad, cap, rfl, .inl rfl⟩, Kp.of_below _ hW⟩
    · refine (markM_any g ms.length cap 1 W (h3.below hW) hn (by decide) (by decide)).mono ?_
      rintro e w' ⟨rfl, m, m2, mm⟩
      exact ⟨rfl, ⟨_, cap, rfl, .inr ⟨g, rfl, m2.lt, h2, m⟩⟩, (Kp.of_below _ hW).trans (kp_mid mm)⟩
  clear h
  unfold crtV
  go_enter Try.func25, Try.ntmps25
  go_wp2_with fail
  refine (HU.out _ (bel_new _ _)).mono ?_
  rintro e w1 ⟨rfl, h1, h2⟩
  have HE : Hid (HeldM w1 v 1 ms.length ∧ Kp w w1 v v) := ⟨h1, h2⟩
  clear h1 h2
  go_wp2_with fail
  go_ret
  exact ⟨rfl, HE.out⟩
set_option maxRecDepth 100000 in
set_option maxHeartbeats 800000 in
theorem heldCert_own (bd : ByteArray) (v : Value) (n : Nat) (w : World) (h : HeldM w v 1 n) (hn : n ≤ 1048576) :
    Calls Try.prog 31 #[crtV bd v, .int .i64 1] w fun e w' => e = .returned (.int .i64 ((1 + n * 7 : Nat) : Int)) ∧ Below w.heap.size w w' := by
  have HU : Hid (∀ W, Below w.heap.size w W → Calls Try.prog 69 #[v, .int .i64 1] W fun e w' => e = .returned (.int .i64 ((1 + n * 7 : Nat) : Int)) ∧ Below W.heap.size W w') := fun W hW => by
    have h' := h.below hW
    clear h
    obtain ⟨ad, cap, rfl, h⟩ := h'
    rcases h with h | ⟨g, rfl, h2, h3, h4⟩
    · rw [h]
      refine (heldNilM_any 1 ad cap W).mono ?_
      rintro e w' ⟨rfl, rfl⟩
      exact ⟨by simp, Below.refl _ _⟩
    · exact heldM_any g n cap 1 W h4 h2 h3 hn (by decide) (by decide)
  clear h
  unfold crtV
  have hp : ¬ ((1 + n * 7 : Nat) : Int) < 0 := by omega
  go_enter Try.func31, Try.ntmps31
  go_wp2_with fail
  refine (HU.out _ (bel_new _ _)).mono ?_
  rintro e w1 ⟨rfl, b1⟩
  have HE : Hid (Below w.heap.size w w1) := (bel_new _ _).trans (b1.mono (by simp))
  clear b1
  go_wp2_with fail
  go_ret
  exact ⟨rfl, HE.out⟩
theorem rcMs_len (xs : List Int) : (rcMs xs).length ≤ 7 := by
  unfold rcMs
  split
  · rename_i h
    unfold rcOK at h
    rw [Bool.and_eq_true] at h
    obtain ⟨_, h⟩ := h
    revert h
    cases rdL xs with
    | nil => simp
    | cons t ts =>
      intro h
      dsimp only at h ⊢
      rw [Bool.and_eq_true] at h
      have h2 := h.2
      unfold cfB at h2
      rw [Bool.and_eq_true] at h2
      exact of_decide_eq_true h2.1
  · simp
theorem kp_block {w w' : World} {v : Value} {k : Nat} {o : Obj} (h : Kp w w' v v) (hk : w.heap[k]? = some o) (hne : some k ≠ v.ownBlock) : w'.heap[k]? = some o := (h.block k (Array.getElem?_eq_some_iff.1 hk).1 hne).trans hk
end Go.Proofs.Ytpljjchjdejcfaa.Rc
