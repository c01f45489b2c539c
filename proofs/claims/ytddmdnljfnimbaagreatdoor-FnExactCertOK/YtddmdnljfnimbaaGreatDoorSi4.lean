/- MessageSigned, of the program and of the specification. -/
import Derived.Test.YtddmdnljfnimbaaGreatDoorSi3
namespace Go.Proofs.YtddmdnljfnimbaaGreatDoor.Si
open Go.RowKit Go.Proofs.YtddmdnljfnimbaaGreatDoor.Sl Go.Proofs.YtddmdnljfnimbaaGreatDoor.By Go.Proofs.YtddmdnljfnimbaaGreatDoor.Rq Go.Proofs.YtddmdnljfnimbaaGreatDoor.Ap Go.Proofs.YtddmdnljfnimbaaGreatDoor.Sh Go.Proofs.YtddmdnljfnimbaaGreatDoor.Ho Go.Proofs.YtddmdnljfnimbaaGreatDoor.Mr Go.Proofs.YtddmdnljfnimbaaGreatDoor.Ms Go.Proofs.YtddmdnljfnimbaaGreatDoor.Mp Go.Proofs.YtddmdnljfnimbaaGreatDoor.Rp Go.Proofs.YtddmdnljfnimbaaGreatDoor.Pu Go.Proofs.YtddmdnljfnimbaaGreatDoor.Tm
open Go.Proofs.YtddmdnljfnimbaaGreatDoor.Tx (blk_cell blk_set blk_far blk_new bel_new)

/-- What MessageSigned answers. -/
def lB (n kd vw sq fr : Int) (dg bd mc : ByteArray) : Bool := msgB kd vw sq fr dg bd mc && (decide (fr < n) && ((mmk kd vw sq fr.toNat dg bd).toList == mc.toList))
def gB (n kd vw sq fr : Int) (dg bd mc : ByteArray) : Bool := decide (fCode n = 0) && lB n kd vw sq fr dg bd mc
theorem ret_bool {a b : Bool} (h : a = b) : Ending.returned (.bool a) = .returned (.bool b) := by rw [h]
theorem beq_sym (a b : List UInt8) : (a == b) = (b == a) := by rw [Bool.eq_iff_iff, beq_iff_eq, beq_iff_eq]; exact eq_comm
theorem from_nat {kd vw sq fr : Int} {dg bd mc : ByteArray} (h : msgB kd vw sq fr dg bd mc = true) : ∃ i : Nat, fr = i ∧ i < 7 := by
  rw [msg_eq] at h
  simp only [Bool.and_eq_true] at h
  have h2 := h.2.1
  unfold inB at h2
  simp only [decide_eq_true_eq] at h2
  obtain ⟨i, rfl⟩ := Int.eq_ofNat_of_zero_le h2.1
  exact ⟨i, rfl, by omega⟩
set_option maxRecDepth 100000 in
set_option maxHeartbeats 1600000 in
theorem l06Signed_any (n kd vw sq fr : Int) (dg bd mc : ByteArray) (w : World) :
    Calls Tryz.prog 48 #[.int .i64 n, msgV kd vw sq fr dg bd mc] w fun e w' => e = .returned (.bool (lB n kd vw sq fr dg bd mc)) ∧ Below w.heap.size w w' := by
  unfold msgV
  have HX : Hid (∀ W, Below (w.alloc (.cells #[.int .i64 kd, .int .i64 vw, .int .i64 sq, .int .i64 fr, .string dg, .string bd, .string mc] 39)).heap.size (w.alloc (.cells #[.int .i64 kd, .int .i64 vw, .int .i64 sq, .int .i64 fr, .string dg, .string bd, .string mc] 39)) W → (W.cell? ⟨w.heap.size, 0, none⟩ = some (.int .i64 kd) ∧ W.cell? ⟨w.heap.size, 1, none⟩ = some (.int .i64 vw) ∧ W.cell? ⟨w.heap.size, 2, none⟩ = some (.int .i64 sq) ∧ W.cell? ⟨w.heap.size, 3, none⟩ = some (.int .i64 fr) ∧ W.cell? ⟨w.heap.size, 4, none⟩ = some (.string dg) ∧ W.cell? ⟨w.heap.size, 5, none⟩ = some (.string bd) ∧ W.cell? ⟨w.heap.size, 6, none⟩ = some (.string mc)) ∧ Below w.heap.size w W) := fun W hW => by
    have h1 := (hW.block w.heap.size (by simp)).trans (heap_alloc_new w _)
    exact ⟨⟨(blk_cell h1 0 rfl).1, (blk_cell h1 1 rfl).1, (blk_cell h1 2 rfl).1, (blk_cell h1 3 rfl).1, (blk_cell h1 4 rfl).1, (blk_cell h1 5 rfl).1, (blk_cell h1 6 rfl).1⟩, (bel_new w _).trans (hW.mono (by simp))⟩
  have HOK : Hid (∀ W, Calls Tryz.prog 63 #[.agg #[.int .i64 kd, .int .i64 vw, .int .i64 sq, .int .i64 fr, .string dg, .string bd, .string mc]] W fun e w' => e = .returned (.bool (msgB kd vw sq fr dg bd mc)) ∧ Below W.heap.size W w') := fun W => specMessageOK_any kd vw sq fr dg bd mc W
  cases hq : msgB kd vw sq fr dg bd mc with
  | false =>
    have HE : Hid (lB n kd vw sq fr dg bd mc = false) := by show _ = _; unfold lB; rw [hq]; rfl
    rw [hq] at HOK
    go_enter Tryz.func48, Tryz.ntmps48
    go_upto_region 1 with fail
    generalize w.alloc (.cells #[.int .i64 kd, .int .i64 vw, .int .i64 sq, .int .i64 fr, .string dg, .string bd, .string mc] 39) = wb at HX ⊢
    obtain ⟨X, hX, W, QI0, QO0⟩ := Qc.klass wb
    have QI : Hid (∀ w', Below wb.heap.size wb w' → ∃ x, w' = W x) := QI0
    have QO : Hid (∀ x, Below wb.heap.size wb (W x)) := QO0
    clear QI0 QO0
    have y0 := fun q => (HX.out _ (QO.out q)).1.1
    have y1 := fun q => (HX.out _ (QO.out q)).1.2.1
    have y2 := fun q => (HX.out _ (QO.out q)).1.2.2.1
    have y3 := fun q => (HX.out _ (QO.out q)).1.2.2.2.1
    have y4 := fun q => (HX.out _ (QO.out q)).1.2.2.2.2.1
    have y5 := fun q => (HX.out _ (QO.out q)).1.2.2.2.2.2.1
    have y6 := fun q => (HX.out _ (QO.out q)).1.2.2.2.2.2.2
    refine Qc.region_class (W := W) (by kernel_rfl) (by kernel_rfl) (QI.out _ Qc.from_drew) ?_
    repeat (go_big_quiet_step (first | (go_at_call 63; refine (HOK.out _).mono ?_; rintro e w2 ⟨rfl, b2⟩; exact ⟨rfl, Qc.back QI.out QO.out b2⟩)))
    refine wpQuiet_nil ?_
    rintro _ ⟨xq, rfl⟩
    have G2 : Hid (Below w.heap.size w (W xq)) := (HX.out _ (QO.out xq)).2
    clear y0 y1 y2 y3 y4 y5 y6
    generalize W xq = wq at G2 ⊢
    go_wp2_with fail
    go_ret
    exact ⟨ret_bool HE.out.symm, G2.out⟩
  | true =>
    rw [hq] at HOK
    obtain ⟨i, rfl, hi⟩ := from_nat hq
    obtain ⟨hd, hb, hm⟩ := msg_small hq
    by_cases hn : (i : Int) < n
    · have HE : Hid (lB n kd vw sq i dg bd mc = ((mmk kd vw sq i dg bd).toList == mc.toList)) := by show _ = _; unfold lB; rw [hq, decide_eq_true hn]; rfl
      have HPL : Hid ((plainBs kd vw sq i dg bd).length ≤ 60000) := by show _ ≤ _; rw [plainBs_length]; omega
      have HPL2 : Hid (∀ W, Calls Tryz.prog 65 #[.agg #[.int .i64 kd, .int .i64 vw, .int .i64 sq, .int .i64 i, .string dg, .string bd, .string mc]] W fun e w' => ∃ v, e = .returned v ∧ RowB w' v (plainBs kd vw sq i dg bd) ∧ Below W.heap.size W w') := fun W => (l02Plain_any kd vw sq i dg bd mc W (by omega) (by omega)).mono fun e w' ⟨v, h1, h2, h3⟩ => ⟨v, h1, own_rowB h2 (plainBs_range kd vw sq i dg bd), box_old h3⟩
      have HMC : Hid (∀ W v, RowB W v (plainBs kd vw sq i dg bd) → Calls Tryz.prog 64 #[.int .i64 i, v] W fun e w' => e = .returned (.string (mmk kd vw sq i dg bd)) ∧ Below W.heap.size W w') := fun W v h => l04Mac_any i v _ W (by omega) h (plain_ne kd vw sq i dg bd) HPL.out
      obtain ⟨mk, HMK⟩ : ∃ mk, Hid (mmk kd vw sq i dg bd = mk) := ⟨_, rfl⟩
      rw [HMK.out] at HMC HE
      clear HPL hm hd hb hq
      go_enter Tryz.func48, Tryz.ntmps48
      go_upto_region 1 with fail
      generalize w.alloc (.cells #[.int .i64 kd, .int .i64 vw, .int .i64 sq, .int .i64 i, .string dg, .string bd, .string mc] 39) = wb at HX ⊢
      obtain ⟨⟨y0, y1, y2, y3, y4, y5, y6⟩, _⟩ := HX.out wb (Below.refl _ _)
      go_region_held (fun W => W.cell? ⟨w.heap.size, 0, none⟩ = some (.int .i64 kd) ∧ W.cell? ⟨w.heap.size, 1, none⟩ = some (.int .i64 vw) ∧ W.cell? ⟨w.heap.size, 2, none⟩ = some (.int .i64 sq) ∧ W.cell? ⟨w.heap.size, 3, none⟩ = some (.int .i64 i) ∧ W.cell? ⟨w.heap.size, 4, none⟩ = some (.string dg) ∧ W.cell? ⟨w.heap.size, 5, none⟩ = some (.string bd) ∧ W.cell? ⟨w.heap.size, 6, none⟩ = some (.string mc)) (first | exact (HX.out _ Qc.from_drew).1 | exact (HX.out _ B2.out).1 | exact (HX.out _ B3.out).1 | exact (HX.out _ B4.out).1)
        (first | (go_at_call 63; refine (HOK.out _).mono ?_; rintro e w2 ⟨rfl, b2⟩; have B2 : Hid (Below wb.heap.size wb w2) := Qc.from_drew.trans b2; clear b2) | (go_at_call 65; refine (HPL2.out _).mono ?_; rintro e w3 ⟨v3, rfl, r3, b3⟩; have B3 : Hid (Below wb.heap.size wb w3) := B2.out.trans (b3.mono B2.out.size); have R3 : Hid (RowB w3 v3 (plainBs kd vw sq i dg bd)) := r3; clear b3 r3) | (go_at_call 64; refine (HMC.out _ _ R3.out).mono ?_; rintro e w4 ⟨rfl, b4⟩; have B4 : Hid (Below wb.heap.size wb w4) := B3.out.trans (b4.mono B3.out.size); clear b4))
      all_goals
        have G4 : Hid (Below w.heap.size w w4) := (HX.out _ B4.out).2
        clear y0 y1 y2 y3 y4 y5 y6
        go_wp2_with fail
        go_ret
        exact ⟨ret_bool HE.out.symm, G4.out⟩
    · have HE : Hid (lB n kd vw sq i dg bd mc = false) := by show _ = _; unfold lB; rw [hq, decide_eq_false hn]; rfl
      clear hm hd hb hq
      have hn' : decide ((i : Int) < n) = false := decide_eq_false hn
      go_enter Tryz.func48, Tryz.ntmps48
      go_upto_region 1 with fail
      generalize w.alloc (.cells #[.int .i64 kd, .int .i64 vw, .int .i64 sq, .int .i64 i, .string dg, .string bd, .string mc] 39) = wb at HX ⊢
      obtain ⟨X, hX, W, QI0, QO0⟩ := Qc.klass wb
      have QI : Hid (∀ w', Below wb.heap.size wb w' → ∃ x, w' = W x) := QI0
      have QO : Hid (∀ x, Below wb.heap.size wb (W x)) := QO0
      clear QI0 QO0
      have y0 := fun q => (HX.out _ (QO.out q)).1.1
      have y1 := fun q => (HX.out _ (QO.out q)).1.2.1
      have y2 := fun q => (HX.out _ (QO.out q)).1.2.2.1
      have y3 := fun q => (HX.out _ (QO.out q)).1.2.2.2.1
      have y4 := fun q => (HX.out _ (QO.out q)).1.2.2.2.2.1
      have y5 := fun q => (HX.out _ (QO.out q)).1.2.2.2.2.2.1
      have y6 := fun q => (HX.out _ (QO.out q)).1.2.2.2.2.2.2
      refine Qc.region_class (W := W) (by kernel_rfl) (by kernel_rfl) (QI.out _ Qc.from_drew) ?_
      repeat (go_big_quiet_step (first | (go_at_call 63; refine (HOK.out _).mono ?_; rintro e w2 ⟨rfl, b2⟩; exact ⟨rfl, Qc.back QI.out QO.out b2⟩)))
      refine wpQuiet_nil ?_
      rintro _ ⟨xq, rfl⟩
      have G2 : Hid (Below w.heap.size w (W xq)) := (HX.out _ (QO.out xq)).2
      clear y0 y1 y2 y3 y4 y5 y6
      generalize W xq = wq at G2 ⊢
      go_wp2_with fail
      go_ret
      exact ⟨ret_bool HE.out.symm, G2.out⟩
set_option maxRecDepth 100000 in
set_option maxHeartbeats 1600000 in
theorem implMessageSigned_any (n kd vw sq fr : Int) (dg bd mc : ByteArray) (w : World) (hK : KTab w) (hp : 0 < w.heap.size) :
    Calls Tryz.prog 60 #[.int .i64 n, msgV kd vw sq fr dg bd mc] w fun e w' => e = .returned (.bool (gB n kd vw sq fr dg bd mc)) ∧ Below w.heap.size w w' := by
  unfold msgV
  have HX : Hid (∀ W, Below (w.alloc (.cells #[.int .i64 kd, .int .i64 vw, .int .i64 sq, .int .i64 fr, .string dg, .string bd, .string mc] 39)).heap.size (w.alloc (.cells #[.int .i64 kd, .int .i64 vw, .int .i64 sq, .int .i64 fr, .string dg, .string bd, .string mc] 39)) W → (W.cell? ⟨w.heap.size, 0, none⟩ = some (.int .i64 kd) ∧ W.cell? ⟨w.heap.size, 1, none⟩ = some (.int .i64 vw) ∧ W.cell? ⟨w.heap.size, 2, none⟩ = some (.int .i64 sq) ∧ W.cell? ⟨w.heap.size, 3, none⟩ = some (.int .i64 fr) ∧ W.cell? ⟨w.heap.size, 4, none⟩ = some (.string dg) ∧ W.cell? ⟨w.heap.size, 5, none⟩ = some (.string bd) ∧ W.cell? ⟨w.heap.size, 6, none⟩ = some (.string mc)) ∧ Below w.heap.size w W) := fun W hW => by
    have h1 := (hW.block w.heap.size (by simp)).trans (heap_alloc_new w _)
    exact ⟨⟨(blk_cell h1 0 rfl).1, (blk_cell h1 1 rfl).1, (blk_cell h1 2 rfl).1, (blk_cell h1 3 rfl).1, (blk_cell h1 4 rfl).1, (blk_cell h1 5 rfl).1, (blk_cell h1 6 rfl).1⟩, (bel_new w _).trans (hW.mono (by simp))⟩
  have GK : Hid (KTab w ∧ 0 < w.heap.size) := ⟨hK, hp⟩
  clear hK hp
  have HOK : Hid (∀ W, Calls Tryz.prog 81 #[.agg #[.int .i64 kd, .int .i64 vw, .int .i64 sq, .int .i64 fr, .string dg, .string bd, .string mc]] W fun e w' => e = .returned (.bool (msgB kd vw sq fr dg bd mc)) ∧ Below W.heap.size W w') := fun W => implMessageOK_any kd vw sq fr dg bd mc W
  have HE : Hid (gB n kd vw sq fr dg bd mc = (decide (fCode n = 0) && lB n kd vw sq fr dg bd mc)) := rfl
  have HF : Hid (∀ W, Calls Tryz.prog 34 #[.int .i64 n] W fun e w' => e = .returned (.tuple #[.int .i64 (fOut n), .int .i64 (fCode n)]) ∧ W = w') := fun W => (implFaultsOf_any n W).mono fun _ _ h => ⟨h.1, h.2.symm⟩
  generalize fOut n = fo at HF
  by_cases hc : fCode n = 0
  · rw [decide_eq_true hc] at HE
    rw [hc] at HF
    clear hc
    by_cases hn : fr < n
    · have hn' : decide (fr < n) = true := decide_eq_true hn
      cases hq : msgB kd vw sq fr dg bd mc with
      | false =>
        have HE2 : Hid (gB n kd vw sq fr dg bd mc = false) := by show _ = _; rw [HE.out]; unfold lB; rw [hq]; rfl
        rw [hq] at HOK
        clear HE GK
        go_enter Tryz.func60, Tryz.ntmps60
        go_upto_region 2 with (go_at_call 34; refine (HF.out _).mono ?_; rintro e w1 ⟨rfl, rfl⟩)
        generalize w.alloc (.cells #[.int .i64 kd, .int .i64 vw, .int .i64 sq, .int .i64 fr, .string dg, .string bd, .string mc] 39) = wb at HX ⊢
        obtain ⟨X, hX, W, QI0, QO0⟩ := Qc.klass wb
        have QI : Hid (∀ w', Below wb.heap.size wb w' → ∃ x, w' = W x) := QI0
        have QO : Hid (∀ x, Below wb.heap.size wb (W x)) := QO0
        clear QI0 QO0
        have y0 := fun q => (HX.out _ (QO.out q)).1.1
        have y1 := fun q => (HX.out _ (QO.out q)).1.2.1
        have y2 := fun q => (HX.out _ (QO.out q)).1.2.2.1
        have y3 := fun q => (HX.out _ (QO.out q)).1.2.2.2.1
        have y4 := fun q => (HX.out _ (QO.out q)).1.2.2.2.2.1
        have y5 := fun q => (HX.out _ (QO.out q)).1.2.2.2.2.2.1
        have y6 := fun q => (HX.out _ (QO.out q)).1.2.2.2.2.2.2
        refine Qc.region_class (W := W) (by kernel_rfl) (by kernel_rfl) (QI.out _ Qc.from_drew) ?_
        repeat (go_big_quiet_step (first | (go_at_call 81; refine (HOK.out _).mono ?_; rintro e w2 ⟨rfl, b2⟩; exact ⟨rfl, Qc.back QI.out QO.out b2⟩)))
        refine wpQuiet_nil ?_
        rintro _ ⟨xq, rfl⟩
        have G2 : Hid (Below w.heap.size w (W xq)) := (HX.out _ (QO.out xq)).2
        clear y0 y1 y2 y3 y4 y5 y6
        generalize W xq = wq at G2 ⊢
        go_wp2_with fail
        go_ret
        exact ⟨ret_bool HE2.out.symm, G2.out⟩
      | true =>
        rw [hq] at HOK
        obtain ⟨i, rfl, hi⟩ := from_nat hq
        have HE2 : Hid (gB n kd vw sq i dg bd mc = (mc.toList == (mmk kd vw sq i dg bd).toList)) := by show _ = _; rw [HE.out]; unfold lB; rw [hq, hn', beq_sym]; rfl
        have HMM : Hid (∀ W, Below w.heap.size w W → Calls Tryz.prog 82 #[.agg #[.int .i64 kd, .int .i64 vw, .int .i64 sq, .int .i64 i, .string dg, .string bd, .string mc]] W fun e w' => e = .returned (.string (mmk kd vw sq i dg bd)) ∧ Below W.heap.size W w') := fun W hW => messageMark_any kd vw sq i dg bd mc W hi hq (GK.out.1.below hW GK.out.2) (Nat.lt_of_lt_of_le GK.out.2 hW.size)
        obtain ⟨mk, HMK⟩ : ∃ mk, Hid (mmk kd vw sq i dg bd = mk) := ⟨_, rfl⟩
        rw [HMK.out] at HMM HE2
        clear HE GK hq
        go_enter Tryz.func60, Tryz.ntmps60
        go_upto_region 2 with (go_at_call 34; refine (HF.out _).mono ?_; rintro e w1 ⟨rfl, rfl⟩)
        generalize w.alloc (.cells #[.int .i64 kd, .int .i64 vw, .int .i64 sq, .int .i64 i, .string dg, .string bd, .string mc] 39) = wb at HX ⊢
        obtain ⟨X, hX, W, QI0, QO0⟩ := Qc.klass wb
        have QI : Hid (∀ w', Below wb.heap.size wb w' → ∃ x, w' = W x) := QI0
        have QO : Hid (∀ x, Below wb.heap.size wb (W x)) := QO0
        clear QI0 QO0
        have y0 := fun q => (HX.out _ (QO.out q)).1.1
        have y1 := fun q => (HX.out _ (QO.out q)).1.2.1
        have y2 := fun q => (HX.out _ (QO.out q)).1.2.2.1
        have y3 := fun q => (HX.out _ (QO.out q)).1.2.2.2.1
        have y4 := fun q => (HX.out _ (QO.out q)).1.2.2.2.2.1
        have y5 := fun q => (HX.out _ (QO.out q)).1.2.2.2.2.2.1
        have y6 := fun q => (HX.out _ (QO.out q)).1.2.2.2.2.2.2
        have HM2 : Hid (∀ q, Calls Tryz.prog 82 #[.agg #[.int .i64 kd, .int .i64 vw, .int .i64 sq, .int .i64 i, .string dg, .string bd, .string mc]] (W q) fun e w' => e = .returned (.string mk) ∧ Below (W q).heap.size (W q) w') := fun q => HMM.out _ (HX.out _ (QO.out q)).2
        clear HMM
        refine Qc.region_class (W := W) (by kernel_rfl) (by kernel_rfl) (QI.out _ Qc.from_drew) ?_
        repeat (go_big_quiet_step (first | (go_at_call 81; refine (HOK.out _).mono ?_; rintro e w2 ⟨rfl, b2⟩; exact ⟨rfl, Qc.back QI.out QO.out b2⟩) | (go_at_call 82; refine (HM2.out _).mono ?_; rintro e w2 ⟨rfl, b2⟩; exact ⟨rfl, Qc.back QI.out QO.out b2⟩)))
        refine wpQuiet_nil ?_
        rintro _ ⟨xq, rfl⟩
        have G2 : Hid (Below w.heap.size w (W xq)) := (HX.out _ (QO.out xq)).2
        clear y0 y1 y2 y3 y4 y5 y6
        generalize W xq = wq at G2 ⊢
        go_wp2_with fail
        go_ret
        exact ⟨ret_bool HE2.out.symm, G2.out⟩
    · have hn' : decide (fr < n) = false := decide_eq_false hn
      have HE2 : Hid (gB n kd vw sq fr dg bd mc = false) := by show _ = _; rw [HE.out]; unfold lB; rw [hn']; cases msgB kd vw sq fr dg bd mc <;> rfl
      clear HE GK HOK
      go_enter Tryz.func60, Tryz.ntmps60
      go_upto_region 2 with (go_at_call 34; refine (HF.out _).mono ?_; rintro e w1 ⟨rfl, rfl⟩)
      generalize w.alloc (.cells #[.int .i64 kd, .int .i64 vw, .int .i64 sq, .int .i64 fr, .string dg, .string bd, .string mc] 39) = wb at HX ⊢
      obtain ⟨X, hX, W, QI0, QO0⟩ := Qc.klass wb
      have QI : Hid (∀ w', Below wb.heap.size wb w' → ∃ x, w' = W x) := QI0
      have QO : Hid (∀ x, Below wb.heap.size wb (W x)) := QO0
      clear QI0 QO0
      have y0 := fun q => (HX.out _ (QO.out q)).1.1
      have y1 := fun q => (HX.out _ (QO.out q)).1.2.1
      have y2 := fun q => (HX.out _ (QO.out q)).1.2.2.1
      have y3 := fun q => (HX.out _ (QO.out q)).1.2.2.2.1
      have y4 := fun q => (HX.out _ (QO.out q)).1.2.2.2.2.1
      have y5 := fun q => (HX.out _ (QO.out q)).1.2.2.2.2.2.1
      have y6 := fun q => (HX.out _ (QO.out q)).1.2.2.2.2.2.2
      refine Qc.region_class (W := W) (by kernel_rfl) (by kernel_rfl) (QI.out _ Qc.from_drew) ?_
      repeat (go_big_quiet_step (first | (go_at_call 81; refine (HX.out _).mono ?_; rintro e w2 ⟨rfl, b2⟩; exact ⟨rfl, Qc.back QI.out QO.out b2⟩)))
      refine wpQuiet_nil ?_
      rintro _ ⟨xq, rfl⟩
      have G2 : Hid (Below w.heap.size w (W xq)) := (HX.out _ (QO.out xq)).2
      clear y0 y1 y2 y3 y4 y5 y6
      generalize W xq = wq at G2 ⊢
      go_wp2_with fail
      go_ret
      exact ⟨ret_bool HE2.out.symm, G2.out⟩
  · rw [decide_eq_false hc] at HE
    have HE2 : Hid (gB n kd vw sq fr dg bd mc = false) := HE.out
    have h4 : fCode n = 4 := by
      rcases f_cases n with rfl | rfl | rfl | ⟨_, _, _, _, hd⟩
      · exact absurd rfl hc
      · exact absurd rfl hc
      · exact absurd rfl hc
      · exact hd
    rw [h4] at HF
    clear hc h4 HE GK HOK
    go_enter Tryz.func60, Tryz.ntmps60
    go_upto_region 2 with (go_at_call 34; refine (HF.out _).mono ?_; rintro e w1 ⟨rfl, rfl⟩)
    generalize w.alloc (.cells #[.int .i64 kd, .int .i64 vw, .int .i64 sq, .int .i64 fr, .string dg, .string bd, .string mc] 39) = wb at HX ⊢
    obtain ⟨X, hX, W, QI0, QO0⟩ := Qc.klass wb
    have QI : Hid (∀ w', Below wb.heap.size wb w' → ∃ x, w' = W x) := QI0
    have QO : Hid (∀ x, Below wb.heap.size wb (W x)) := QO0
    clear QI0 QO0
    have y0 := fun q => (HX.out _ (QO.out q)).1.1
    have y1 := fun q => (HX.out _ (QO.out q)).1.2.1
    have y2 := fun q => (HX.out _ (QO.out q)).1.2.2.1
    have y3 := fun q => (HX.out _ (QO.out q)).1.2.2.2.1
    have y4 := fun q => (HX.out _ (QO.out q)).1.2.2.2.2.1
    have y5 := fun q => (HX.out _ (QO.out q)).1.2.2.2.2.2.1
    have y6 := fun q => (HX.out _ (QO.out q)).1.2.2.2.2.2.2
    refine Qc.region_class (W := W) (by kernel_rfl) (by kernel_rfl) (QI.out _ Qc.from_drew) ?_
    repeat (go_big_quiet_step (first | (go_at_call 81; refine (HX.out _).mono ?_; rintro e w2 ⟨rfl, b2⟩; exact ⟨rfl, Qc.back QI.out QO.out b2⟩)))
    refine wpQuiet_nil ?_
    rintro _ ⟨xq, rfl⟩
    have G2 : Hid (Below w.heap.size w (W xq)) := (HX.out _ (QO.out xq)).2
    clear y0 y1 y2 y3 y4 y5 y6
    generalize W xq = wq at G2 ⊢
    go_wp2_with fail
    go_ret
    exact ⟨ret_bool HE2.out.symm, G2.out⟩
end Go.Proofs.YtddmdnljfnimbaaGreatDoor.Si
