/- Texts put together: Si4, Vt, Vw. -/
import Derived.Test.YtondmbeccpekiaaGreatDoorH16
import Derived.Test.YtondmbeccpekiaaGreatDoorH1
import Derived.Lib.BitFns
import Derived.Lib.Strings
import Derived.Lib.Slices
import Derived.Lib.Small
import Derived.Lib.Walk
import Derived.Laws.StructEq
/- MessageSigned, of the program and of the specification. -/
namespace Go.Proofs.YtondmbeccpekiaaGreatDoor.Si
open Go.RowKit Go.Proofs.YtondmbeccpekiaaGreatDoor.Sl Go.Proofs.YtondmbeccpekiaaGreatDoor.By Go.Proofs.YtondmbeccpekiaaGreatDoor.Rq Go.Proofs.YtondmbeccpekiaaGreatDoor.Ap Go.Proofs.YtondmbeccpekiaaGreatDoor.Sh Go.Proofs.YtondmbeccpekiaaGreatDoor.Ho Go.Proofs.YtondmbeccpekiaaGreatDoor.Mr Go.Proofs.YtondmbeccpekiaaGreatDoor.Ms Go.Proofs.YtondmbeccpekiaaGreatDoor.Mp Go.Proofs.YtondmbeccpekiaaGreatDoor.Rp Go.Proofs.YtondmbeccpekiaaGreatDoor.Pu Go.Proofs.YtondmbeccpekiaaGreatDoor.Tm
open Go.Proofs.YtondmbeccpekiaaGreatDoor.Tx (blk_cell blk_set blk_far blk_new bel_new)

def lB (n kd vw sq fr : Int) (dg bd mc : ByteArray) : Bool := msgB kd vw sq fr dg bd mc && (decide (fr < n) && ((mmk kd vw sq fr.toNat dg bd).toList == mc.toList))
def gB (n kd vw sq fr : Int) (dg bd mc : ByteArray) : Bool := decide (fCode n = 0) && lB n kd vw sq fr dg bd mc
theorem ret_bool {a b : Bool} (h : a = b) : Ending.returned (.bool a) = .returned (.bool b) := by rw [h]
theorem beq_sym (a b : List UInt8) : (a == b) = (b == a) := by rw [Bool.eq_iff_iff, beq_iff_eq, beq_iff_eq]; exact eq_comm
theorem from_nat {kd vw sq fr : Int} {dg bd mc : ByteArray} (h : msgB kd vw sq fr dg bd mc = true) : ∃ i : Nat, fr = i ∧ i < 7 := by
  rw [msg_eq] at h
  simp only [Bool.and_eq_true] at h
  have h2 := h.2.1
  unfold inB at h2
  simp only [decide_eq_true_eq] at h2
  obtain ⟨i, rfl⟩ := Int.eq_ofNat_of_zero_le h2.1
  exact ⟨i, rfl, by omega⟩
set_option maxRecDepth 100000 in
set_option maxHeartbeats 1600000 in
theorem l06Signed_any (n kd vw sq fr : Int) (dg bd mc : ByteArray) (w : World) :
    Calls Tryz.prog 30 #[.int .i64 n, msgV kd vw sq fr dg bd mc] w fun e w' => e = .returned (.bool (lB n kd vw sq fr dg bd mc)) ∧ Below w.heap.size w w' := by
  unfold msgV
  have HX : Hid (∀ W, Below (w.alloc (.cells #[.int .i64 kd, .int .i64 vw, .int .i64 sq, .int .i64 fr, .string dg, .string bd, .string mc] 59)).heap.size (w.alloc (.cells #[.int .i64 kd, .int .i64 vw, .int .i64 sq, .int .i64 fr, .string dg, .string bd, .string mc] 59)) W → (W.cell? ⟨w.heap.size, 0, none⟩ = some (.int .i64 kd) ∧ W.cell? ⟨w.heap.size, 1, none⟩ = some (.int .i64 vw) ∧ W.cell? ⟨w.heap.size, 2, none⟩ = some (.int .i64 sq) ∧ W.cell? ⟨w.heap.size, 3, none⟩ = some (.int .i64 fr) ∧ W.cell? ⟨w.heap.size, 4, none⟩ = some (.string dg) ∧ W.cell? ⟨w.heap.size, 5, none⟩ = some (.string bd) ∧ W.cell? ⟨w.heap.size, 6, none⟩ = some (.string mc)) ∧ Below w.heap.size w W) := fun W hW => by
    have h1 := (hW.block w.heap.size (by simp)).trans (heap_alloc_new w _)
    exact ⟨⟨(blk_cell h1 0 rfl).1, (blk_cell h1 1 rfl).1, (blk_cell h1 2 rfl).1, (blk_cell h1 3 rfl).1, (blk_cell h1 4 rfl).1, (blk_cell h1 5 rfl).1, (blk_cell h1 6 rfl).1⟩, (bel_new w _).trans (hW.mono (by simp))⟩
  have HOK : Hid (∀ W, Calls Tryz.prog 66 #[.agg #[.int .i64 kd, .int .i64 vw, .int .i64 sq, .int .i64 fr, .string dg, .string bd, .string mc]] W fun e w' => e = .returned (.bool (msgB kd vw sq fr dg bd mc)) ∧ Below W.heap.size W w') := fun W => specMessageOK_any kd vw sq fr dg bd mc W
  cases hq : msgB kd vw sq fr dg bd mc with
  | false =>
    have HE : Hid (lB n kd vw sq fr dg bd mc = false) := by show _ = _; unfold lB; rw [hq]; rfl
    rw [hq] at HOK
    go_enter Tryz.func30, Tryz.ntmps30
    go_upto_region 1 with fail
    generalize w.alloc (.cells #[.int .i64 kd, .int .i64 vw, .int .i64 sq, .int .i64 fr, .string dg, .string bd, .string mc] 59) = wb at HX ⊢
    obtain ⟨X, hX, W, QI0, QO0⟩ := Qc.klass wb
    have QI : Hid (∀ w', Below wb.heap.size wb w' → ∃ x, w' = W x) := QI0
    have QO : Hid (∀ x, Below wb.heap.size wb (W x)) := QO0
    clear QI0 QO0
    have y0 := fun q => (HX.out _ (QO.out q)).1.1
    have y1 := fun q => (HX.out _ (QO.out q)).1.2.1
    have y2 := fun q => (HX.out _ (QO.out q)).1.2.2.1
    have y3 := fun q => (HX.out _ (QO.out q)).1.2.2.2.1
    have y4 := fun q => (HX.out _ (QO.out q)).1.2.2.2.2.1
    have y5 := fun q => (HX.out _ (QO.out q)).1.2.2.2.2.2.1
    have y6 := fun q => (HX.out _ (QO.out q)).1.2.2.2.2.2.2
    refine Qc.region_class (W := W) (by kernel_rfl) (by kernel_rfl) (QI.out _ Qc.from_drew) ?_
    repeat (go_big_quiet_step (first | (go_at_call 66; refine (HOK.out _).mono ?_; rintro e w2 ⟨rfl, b2⟩; exact ⟨rfl, Qc.back QI.out QO.out b2⟩)))
    refine wpQuiet_nil ?_
    rintro _ ⟨xq, rfl⟩
    have G2 : Hid (Below w.heap.size w (W xq)) := (HX.out _ (QO.out xq)).2
    clear y0 y1 y2 y3 y4 y5 y6
    generalize W xq = wq at G2 ⊢
    go_wp2_with fail
    go_ret
    exact ⟨ret_bool HE.out.symm, G2.out⟩
  | true =>
    rw [hq] at HOK
    obtain ⟨i, rfl, hi⟩ := from_nat hq
    obtain ⟨hd, hb, hm⟩ := msg_small hq
    by_cases hn : (i : Int) < n
    · have HE : Hid (lB n kd vw sq i dg bd mc = ((mmk kd vw sq i dg bd).toList == mc.toList)) := by show _ = _; unfold lB; rw [hq, decide_eq_true hn]; rfl
      have HPL : Hid ((plainBs kd vw sq i dg bd).length ≤ 60000) := by show _ ≤ _; rw [plainBs_length]; omega
      have HPL2 : Hid (∀ W, Calls Tryz.prog 68 #[.agg #[.int .i64 kd, .int .i64 vw, .int .i64 sq, .int .i64 i, .string dg, .string bd, .string mc]] W fun e w' => ∃ v, e = .returned v ∧ RowB w' v (plainBs kd vw sq i dg bd) ∧ Below W.heap.size W w') := fun W => (l02Plain_any kd vw sq i dg bd mc W (by omega) (by omega)).mono fun e w' ⟨v, h1, h2, h3⟩ => ⟨v, h1, own_rowB h2 (plainBs_range kd vw sq i dg bd), box_old h3⟩
      have HMC : Hid (∀ W v, RowB W v (plainBs kd vw sq i dg bd) → Calls Tryz.prog 67 #[.int .i64 i, v] W fun e w' => e = .returned (.string (mmk kd vw sq i dg bd)) ∧ Below W.heap.size W w') := fun W v h => l04Mac_any i v _ W (by omega) h (plain_ne kd vw sq i dg bd) HPL.out
      obtain ⟨mk, HMK⟩ : ∃ mk, Hid (mmk kd vw sq i dg bd = mk) := ⟨_, rfl⟩
      rw [HMK.out] at HMC HE
      clear HPL hm hd hb hq
      go_enter Tryz.func30, Tryz.ntmps30
      go_upto_region 1 with fail
      generalize w.alloc (.cells #[.int .i64 kd, .int .i64 vw, .int .i64 sq, .int .i64 i, .string dg, .string bd, .string mc] 59) = wb at HX ⊢
      obtain ⟨⟨y0, y1, y2, y3, y4, y5, y6⟩, _⟩ := HX.out wb (Below.refl _ _)
      go_region_held (fun W => W.cell? ⟨w.heap.size, 0, none⟩ = some (.int .i64 kd) ∧ W.cell? ⟨w.heap.size, 1, none⟩ = some (.int .i64 vw) ∧ W.cell? ⟨w.heap.size, 2, none⟩ = some (.int .i64 sq) ∧ W.cell? ⟨w.heap.size, 3, none⟩ = some (.int .i64 i) ∧ W.cell? ⟨w.heap.size, 4, none⟩ = some (.string dg) ∧ W.cell? ⟨w.heap.size, 5, none⟩ = some (.string bd) ∧ W.cell? ⟨w.heap.size, 6, none⟩ = some (.string mc)) (first | exact (HX.out _ Qc.from_drew).1 | exact (HX.out _ B2.out).1 | exact (HX.out _ B3.out).1 | exact (HX.out _ B4.out).1)
        (first | (go_at_call 66; refine (HOK.out _).mono ?_; rintro e w2 ⟨rfl, b2⟩; have B2 : Hid (Below wb.heap.size wb w2) := Qc.from_drew.trans b2; clear b2) | (go_at_call 68; refine (HPL2.out _).mono ?_; rintro e w3 ⟨v3, rfl, r3, b3⟩; have B3 : Hid (Below wb.heap.size wb w3) := B2.out.trans (b3.mono B2.out.size); have R3 : Hid (RowB w3 v3 (plainBs kd vw sq i dg bd)) := r3; clear b3 r3) | (go_at_call 67; refine (HMC.out _ _ R3.out).mono ?_; rintro e w4 ⟨rfl, b4⟩; have B4 : Hid (Below wb.heap.size wb w4) := B3.out.trans (b4.mono B3.out.size); clear b4))
      all_goals
        have G4 : Hid (Below w.heap.size w w4) := (HX.out _ B4.out).2
        clear y0 y1 y2 y3 y4 y5 y6
        go_wp2_with fail
        go_ret
        exact ⟨ret_bool HE.out.symm, G4.out⟩
    · have HE : Hid (lB n kd vw sq i dg bd mc = false) := by show _ = _; unfold lB; rw [hq, decide_eq_false hn]; rfl
      clear hm hd hb hq
      have hn' : decide ((i : Int) < n) = false := decide_eq_false hn
      go_enter Tryz.func30, Tryz.ntmps30
      go_upto_region 1 with fail
      generalize w.alloc (.cells #[.int .i64 kd, .int .i64 vw, .int .i64 sq, .int .i64 i, .string dg, .string bd, .string mc] 59) = wb at HX ⊢
      obtain ⟨X, hX, W, QI0, QO0⟩ := Qc.klass wb
      have QI : Hid (∀ w', Below wb.heap.size wb w' → ∃ x, w' = W x) := QI0
      have QO : Hid (∀ x, Below wb.heap.size wb (W x)) := QO0
      clear QI0 QO0
      have y0 := fun q => (HX.out _ (QO.out q)).1.1
      have y1 := fun q => (HX.out _ (QO.out q)).1.2.1
      have y2 := fun q => (HX.out _ (QO.out q)).1.2.2.1
      have y3 := fun q => (HX.out _ (QO.out q)).1.2.2.2.1
      have y4 := fun q => (HX.out _ (QO.out q)).1.2.2.2.2.1
      have y5 := fun q => (HX.out _ (QO.out q)).1.2.2.2.2.2.1
      have y6 := fun q => (HX.out _ (QO.out q)).1.2.2.2.2.2.2
      refine Qc.region_class (W := W) (by kernel_rfl) (by kernel_rfl) (QI.out _ Qc.from_drew) ?_
      repeat (go_big_quiet_step (first | (go_at_call 66; refine (HOK.out _).mono ?_; rintro e w2 ⟨rfl, b2⟩; exact ⟨rfl, Qc.back QI.out QO.out b2⟩)))
      refine wpQuiet_nil ?_
      rintro _ ⟨xq, rfl⟩
      have G2 : Hid (Below w.heap.size w (W xq)) := (HX.out _ (QO.out xq)).2
      clear y0 y1 y2 y3 y4 y5 y6
      generalize W xq = wq at G2 ⊢
      go_wp2_with fail
      go_ret
      exact ⟨ret_bool HE.out.symm, G2.out⟩
set_option maxRecDepth 100000 in
set_option maxHeartbeats 1600000 in
theorem implMessageSigned_any (n kd vw sq fr : Int) (dg bd mc : ByteArray) (w : World) (hK : KTab w) (hp : 0 < w.heap.size) :
    Calls Tryz.prog 37 #[.int .i64 n, msgV kd vw sq fr dg bd mc] w fun e w' => e = .returned (.bool (gB n kd vw sq fr dg bd mc)) ∧ Below w.heap.size w w' := by
  unfold msgV
  have HX : Hid (∀ W, Below (w.alloc (.cells #[.int .i64 kd, .int .i64 vw, .int .i64 sq, .int .i64 fr, .string dg, .string bd, .string mc] 59)).heap.size (w.alloc (.cells #[.int .i64 kd, .int .i64 vw, .int .i64 sq, .int .i64 fr, .string dg, .string bd, .string mc] 59)) W → (W.cell? ⟨w.heap.size, 0, none⟩ = some (.int .i64 kd) ∧ W.cell? ⟨w.heap.size, 1, none⟩ = some (.int .i64 vw) ∧ W.cell? ⟨w.heap.size, 2, none⟩ = some (.int .i64 sq) ∧ W.cell? ⟨w.heap.size, 3, none⟩ = some (.int .i64 fr) ∧ W.cell? ⟨w.heap.size, 4, none⟩ = some (.string dg) ∧ W.cell? ⟨w.heap.size, 5, none⟩ = some (.string bd) ∧ W.cell? ⟨w.heap.size, 6, none⟩ = some (.string mc)) ∧ Below w.heap.size w W) := fun W hW => by
    have h1 := (hW.block w.heap.size (by simp)).trans (heap_alloc_new w _)
    exact ⟨⟨(blk_cell h1 0 rfl).1, (blk_cell h1 1 rfl).1, (blk_cell h1 2 rfl).1, (blk_cell h1 3 rfl).1, (blk_cell h1 4 rfl).1, (blk_cell h1 5 rfl).1, (blk_cell h1 6 rfl).1⟩, (bel_new w _).trans (hW.mono (by simp))⟩
  have GK : Hid (KTab w ∧ 0 < w.heap.size) := ⟨hK, hp⟩
  clear hK hp
  have HOK : Hid (∀ W, Calls Tryz.prog 74 #[.agg #[.int .i64 kd, .int .i64 vw, .int .i64 sq, .int .i64 fr, .string dg, .string bd, .string mc]] W fun e w' => e = .returned (.bool (msgB kd vw sq fr dg bd mc)) ∧ Below W.heap.size W w') := fun W => implMessageOK_any kd vw sq fr dg bd mc W
  have HE : Hid (gB n kd vw sq fr dg bd mc = (decide (fCode n = 0) && lB n kd vw sq fr dg bd mc)) := rfl
  have HF : Hid (∀ W, Calls Tryz.prog 72 #[.int .i64 n] W fun e w' => e = .returned (.tuple #[.int .i64 (fOut n), .int .i64 (fCode n)]) ∧ W = w') := fun W => (implFaultsOf_any n W).mono fun _ _ h => ⟨h.1, h.2.symm⟩
  generalize fOut n = fo at HF
  by_cases hc : fCode n = 0
  · rw [decide_eq_true hc] at HE
    rw [hc] at HF
    clear hc
    by_cases hn : fr < n
    · have hn' : decide (fr < n) = true := decide_eq_true hn
      cases hq : msgB kd vw sq fr dg bd mc with
      | false =>
        have HE2 : Hid (gB n kd vw sq fr dg bd mc = false) := by show _ = _; rw [HE.out]; unfold lB; rw [hq]; rfl
        rw [hq] at HOK
        clear HE GK
        go_enter Tryz.func37, Tryz.ntmps37
        go_upto_region 2 with (go_at_call 72; refine (HF.out _).mono ?_; rintro e w1 ⟨rfl, rfl⟩)
        generalize w.alloc (.cells #[.int .i64 kd, .int .i64 vw, .int .i64 sq, .int .i64 fr, .string dg, .string bd, .string mc] 59) = wb at HX ⊢
        obtain ⟨X, hX, W, QI0, QO0⟩ := Qc.klass wb
        have QI : Hid (∀ w', Below wb.heap.size wb w' → ∃ x, w' = W x) := QI0
        have QO : Hid (∀ x, Below wb.heap.size wb (W x)) := QO0
        clear QI0 QO0
        have y0 := fun q => (HX.out _ (QO.out q)).1.1
        have y1 := fun q => (HX.out _ (QO.out q)).1.2.1
        have y2 := fun q => (HX.out _ (QO.out q)).1.2.2.1
        have y3 := fun q => (HX.out _ (QO.out q)).1.2.2.2.1
        have y4 := fun q => (HX.out _ (QO.out q)).1.2.2.2.2.1
        have y5 := fun q => (HX.out _ (QO.out q)).1.2.2.2.2.2.1
        have y6 := fun q => (HX.out _ (QO.out q)).1.2.2.2.2.2.2
        refine Qc.region_class (W := W) (by kernel_rfl) (by kernel_rfl) (QI.out _ Qc.from_drew) ?_
        repeat (go_big_quiet_step (first | (go_at_call 74; refine (HOK.out _).mono ?_; rintro e w2 ⟨rfl, b2⟩; exact ⟨rfl, Qc.back QI.out QO.out b2⟩)))
        refine wpQuiet_nil ?_
        rintro _ ⟨xq, rfl⟩
        have G2 : Hid (Below w.heap.size w (W xq)) := (HX.out _ (QO.out xq)).2
        clear y0 y1 y2 y3 y4 y5 y6
        generalize W xq = wq at G2 ⊢
        go_wp2_with fail
        go_ret
        exact ⟨ret_bool HE2.out.symm, G2.out⟩
      | true =>
        rw [hq] at HOK
        obtain ⟨i, rfl, hi⟩ := from_nat hq
        have HE2 : Hid (gB n kd vw sq i dg bd mc = (mc.toList == (mmk kd vw sq i dg bd).toList)) := by show _ = _; rw [HE.out]; unfold lB; rw [hq, hn', beq_sym]; rfl
        have HMM : Hid (∀ W, Below w.heap.size w W → Calls Tryz.prog 75 #[.agg #[.int .i64 kd, .int .i64 vw, .int .i64 sq, .int .i64 i, .string dg, .string bd, .string mc]] W fun e w' => e = .returned (.string (mmk kd vw sq i dg bd)) ∧ Below W.heap.size W w') := fun W hW => messageMark_any kd vw sq i dg bd mc W hi hq (GK.out.1.below hW GK.out.2) (Nat.lt_of_lt_of_le GK.out.2 hW.size)
        obtain ⟨mk, HMK⟩ : ∃ mk, Hid (mmk kd vw sq i dg bd = mk) := ⟨_, rfl⟩
        rw [HMK.out] at HMM HE2
        clear HE GK hq
        go_enter Tryz.func37, Tryz.ntmps37
        go_upto_region 2 with (go_at_call 72; refine (HF.out _).mono ?_; rintro e w1 ⟨rfl, rfl⟩)
        generalize w.alloc (.cells #[.int .i64 kd, .int .i64 vw, .int .i64 sq, .int .i64 i, .string dg, .string bd, .string mc] 59) = wb at HX ⊢
        obtain ⟨X, hX, W, QI0, QO0⟩ := Qc.klass wb
        have QI : Hid (∀ w', Below wb.heap.size wb w' → ∃ x, w' = W x) := QI0
        have QO : Hid (∀ x, Below wb.heap.size wb (W x)) := QO0
        clear QI0 QO0
        have y0 := fun q => (HX.out _ (QO.out q)).1.1
        have y1 := fun q => (HX.out _ (QO.out q)).1.2.1
        have y2 := fun q => (HX.out _ (QO.out q)).1.2.2.1
        have y3 := fun q => (HX.out _ (QO.out q)).1.2.2.2.1
        have y4 := fun q => (HX.out _ (QO.out q)).1.2.2.2.2.1
        have y5 := fun q => (HX.out _ (QO.out q)).1.2.2.2.2.2.1
        have y6 := fun q => (HX.out _ (QO.out q)).1.2.2.2.2.2.2
        have HM2 : Hid (∀ q, Calls Tryz.prog 75 #[.agg #[.int .i64 kd, .int .i64 vw, .int .i64 sq, .int .i64 i, .string dg, .string bd, .string mc]] (W q) fun e w' => e = .returned (.string mk) ∧ Below (W q).heap.size (W q) w') := fun q => HMM.out _ (HX.out _ (QO.out q)).2
        clear HMM
        refine Qc.region_class (W := W) (by kernel_rfl) (by kernel_rfl) (QI.out _ Qc.from_drew) ?_
        repeat (go_big_quiet_step (first | (go_at_call 74; refine (HOK.out _).mono ?_; rintro e w2 ⟨rfl, b2⟩; exact ⟨rfl, Qc.back QI.out QO.out b2⟩) | (go_at_call 75; refine (HM2.out _).mono ?_; rintro e w2 ⟨rfl, b2⟩; exact ⟨rfl, Qc.back QI.out QO.out b2⟩)))
        refine wpQuiet_nil ?_
        rintro _ ⟨xq, rfl⟩
        have G2 : Hid (Below w.heap.size w (W xq)) := (HX.out _ (QO.out xq)).2
        clear y0 y1 y2 y3 y4 y5 y6
        generalize W xq = wq at G2 ⊢
        go_wp2_with fail
        go_ret
        exact ⟨ret_bool HE2.out.symm, G2.out⟩
    · have hn' : decide (fr < n) = false := decide_eq_false hn
      have HE2 : Hid (gB n kd vw sq fr dg bd mc = false) := by show _ = _; rw [HE.out]; unfold lB; rw [hn']; cases msgB kd vw sq fr dg bd mc <;> rfl
      clear HE GK HOK
      go_enter Tryz.func37, Tryz.ntmps37
      go_upto_region 2 with (go_at_call 72; refine (HF.out _).mono ?_; rintro e w1 ⟨rfl, rfl⟩)
      generalize w.alloc (.cells #[.int .i64 kd, .int .i64 vw, .int .i64 sq, .int .i64 fr, .string dg, .string bd, .string mc] 59) = wb at HX ⊢
      obtain ⟨X, hX, W, QI0, QO0⟩ := Qc.klass wb
      have QI : Hid (∀ w', Below wb.heap.size wb w' → ∃ x, w' = W x) := QI0
      have QO : Hid (∀ x, Below wb.heap.size wb (W x)) := QO0
      clear QI0 QO0
      have y0 := fun q => (HX.out _ (QO.out q)).1.1
      have y1 := fun q => (HX.out _ (QO.out q)).1.2.1
      have y2 := fun q => (HX.out _ (QO.out q)).1.2.2.1
      have y3 := fun q => (HX.out _ (QO.out q)).1.2.2.2.1
      have y4 := fun q => (HX.out _ (QO.out q)).1.2.2.2.2.1
      have y5 := fun q => (HX.out _ (QO.out q)).1.2.2.2.2.2.1
      have y6 := fun q => (HX.out _ (QO.out q)).1.2.2.2.2.2.2
      refine Qc.region_class (W := W) (by kernel_rfl) (by kernel_rfl) (QI.out _ Qc.from_drew) ?_
      repeat (go_big_quiet_step (first | (go_at_call 74; refine (HX.out _).mono ?_; rintro e w2 ⟨rfl, b2⟩; exact ⟨rfl, Qc.back QI.out QO.out b2⟩)))
      refine wpQuiet_nil ?_
      rintro _ ⟨xq, rfl⟩
      have G2 : Hid (Below w.heap.size w (W xq)) := (HX.out _ (QO.out xq)).2
      clear y0 y1 y2 y3 y4 y5 y6
      generalize W xq = wq at G2 ⊢
      go_wp2_with fail
      go_ret
      exact ⟨ret_bool HE2.out.symm, G2.out⟩
  · rw [decide_eq_false hc] at HE
    have HE2 : Hid (gB n kd vw sq fr dg bd mc = false) := HE.out
    have h4 : fCode n = 4 := by
      rcases f_cases n with rfl | rfl | rfl | ⟨_, _, _, _, hd⟩
      · exact absurd rfl hc
      · exact absurd rfl hc
      · exact absurd rfl hc
      · exact hd
    rw [h4] at HF
    clear hc h4 HE GK HOK
    go_enter Tryz.func37, Tryz.ntmps37
    go_upto_region 2 with (go_at_call 72; refine (HF.out _).mono ?_; rintro e w1 ⟨rfl, rfl⟩)
    generalize w.alloc (.cells #[.int .i64 kd, .int .i64 vw, .int .i64 sq, .int .i64 fr, .string dg, .string bd, .string mc] 59) = wb at HX ⊢
    obtain ⟨X, hX, W, QI0, QO0⟩ := Qc.klass wb
    have QI : Hid (∀ w', Below wb.heap.size wb w' → ∃ x, w' = W x) := QI0
    have QO : Hid (∀ x, Below wb.heap.size wb (W x)) := QO0
    clear QI0 QO0
    have y0 := fun q => (HX.out _ (QO.out q)).1.1
    have y1 := fun q => (HX.out _ (QO.out q)).1.2.1
    have y2 := fun q => (HX.out _ (QO.out q)).1.2.2.1
    have y3 := fun q => (HX.out _ (QO.out q)).1.2.2.2.1
    have y4 := fun q => (HX.out _ (QO.out q)).1.2.2.2.2.1
    have y5 := fun q => (HX.out _ (QO.out q)).1.2.2.2.2.2.1
    have y6 := fun q => (HX.out _ (QO.out q)).1.2.2.2.2.2.2
    refine Qc.region_class (W := W) (by kernel_rfl) (by kernel_rfl) (QI.out _ Qc.from_drew) ?_
    repeat (go_big_quiet_step (first | (go_at_call 74; refine (HX.out _).mono ?_; rintro e w2 ⟨rfl, b2⟩; exact ⟨rfl, Qc.back QI.out QO.out b2⟩)))
    refine wpQuiet_nil ?_
    rintro _ ⟨xq, rfl⟩
    have G2 : Hid (Below w.heap.size w (W xq)) := (HX.out _ (QO.out xq)).2
    clear y0 y1 y2 y3 y4 y5 y6
    generalize W xq = wq at G2 ⊢
    go_wp2_with fail
    go_ret
    exact ⟨ret_bool HE2.out.symm, G2.out⟩
end Go.Proofs.YtondmbeccpekiaaGreatDoor.Si

/- Votes: plain facts on who signed, who rises, how many there are. -/
namespace Go.Proofs.YtondmbeccpekiaaGreatDoor.Vt
open Go.RowKit Go.Proofs.YtondmbeccpekiaaGreatDoor.Gm Go.Proofs.YtondmbeccpekiaaGreatDoor.Si Go.Proofs.YtondmbeccpekiaaGreatDoor.Tm Go.Proofs.YtondmbeccpekiaaGreatDoor.Ms
open Go.Proofs.YtondmbeccpekiaaGreatDoor.Qm (qOut)

noncomputable def bOf (p : Prop) : Bool := @decide p (Classical.propDecidable p)
theorem bOf_true {p : Prop} (h : p) : bOf p = true := by unfold bOf; simp [h]
theorem bOf_false {p : Prop} (h : ¬ p) : bOf p = false := by unfold bOf; simp [h]
theorem bOf_iff {p : Prop} : bOf p = true ↔ p := by unfold bOf; simp
theorem bOf_eq {p : Prop} {b : Bool} (h : b = true ↔ p) : b = bOf p := by
  cases b with
  | true => exact (bOf_true (h.1 rfl)).symm
  | false => exact (bOf_false (fun hp => by have := h.2 hp; cases this)).symm
def sg (n : Int) (x : Mg) : Bool := gB n x.kd x.vw x.sq x.fr x.dg x.bd x.mc
def isV (n : Int) (x : Mg) : Bool := sg n x && ((x.kd == 2) || (x.kd == 4))
def prV (x : Mg) : Value := .iface 226 (.agg #[.int .i64 x.fr, .int .i64 x.vw, .int .i64 x.sq, .string x.dg])
def chV (x : Mg) : Value := .iface 229 (.agg #[.int .i64 x.fr, .int .i64 x.vw, .string x.bd])
def votV (n : Int) (x : Mg) : Value := if sg n x then (if x.kd = 2 then prV x else if x.kd = 4 then chV x else .nilIface) else .nilIface
theorem sg_eq {n : Int} {x : Mg} (h : fCode n = 0) : sg n x = lB n x.kd x.vw x.sq x.fr x.dg x.bd x.mc := by
  unfold sg gB; rw [decide_eq_true h]; rfl
theorem sg_from {n : Int} {x : Mg} (h : sg n x = true) : fCode n = 0 ∧ ∃ i : Nat, x.fr = i ∧ i < 7 := by
  unfold sg gB at h
  rw [Bool.and_eq_true, decide_eq_true_eq] at h
  refine ⟨h.1, ?_⟩
  have h2 := h.2
  unfold lB at h2
  rw [Bool.and_eq_true] at h2
  exact from_nat h2.1
theorem isV_from {n : Int} {x : Mg} (h : isV n x = true) : fCode n = 0 ∧ ∃ i : Nat, x.fr = i ∧ i < 7 := by
  unfold isV at h
  rw [Bool.and_eq_true] at h
  exact sg_from h.1
def frn (x : Mg) : Nat := x.fr.toNat
theorem isV_frn {n : Int} {x : Mg} (h : isV n x = true) : x.fr = (frn x : Int) ∧ frn x < 7 := by
  obtain ⟨_, i, e, hi⟩ := isV_from h
  unfold frn
  rw [e]
  exact ⟨by simp, by simpa using hi⟩
def msk (ms : List Mg) : Nat → Nat
  | 0 => 0
  | k + 1 => msk ms k ||| 2 ^ frn (ms.getD k default)
theorem msk_step {ms : List Mg} {k : Nat} {x : Mg} (h : ms[k]? = some x) : msk ms (k + 1) = msk ms k ||| 2 ^ frn x := by
  show msk ms k ||| 2 ^ frn (ms.getD k default) = _
  rw [List.getD_eq_getElem?_getD, h]; rfl
theorem or_add {h i : Nat} (hh : h < 2 ^ i) : h ||| 2 ^ i = 2 ^ i + h := by
  have := Nat.two_pow_add_eq_or_of_lt hh 1
  simp at this
  rw [this, Nat.or_comm]
theorem pop_step : ∀ h : Fin 128, ∀ i : Fin 7, h.val < 2 ^ i.val → Lib.onesCount (h.val ||| 2 ^ i.val) = Lib.onesCount h.val + 1 := by decide +kernel
theorem pop_zero : Lib.onesCount 0 = 0 := by decide +kernel
def GoodTo (n : Int) (ms : List Mg) (k : Nat) : Prop := ∀ j x, j < k → ms[j]? = some x → isV n x = true ∧ msk ms j < 2 ^ frn x
def Rise (ms : List Mg) (k : Nat) : Prop := ∀ j x y, j + 1 < k → ms[j]? = some x → ms[j + 1]? = some y → x.fr < y.fr
theorem GoodTo.zero (n : Int) (ms : List Mg) : GoodTo n ms 0 := fun j x h => by omega
theorem GoodTo.succ {n : Int} {ms : List Mg} {k : Nat} {x : Mg} (h : GoodTo n ms k) (hx : ms[k]? = some x) (h1 : isV n x = true) (h2 : msk ms k < 2 ^ frn x) : GoodTo n ms (k + 1) := fun j y hj hy => by
  by_cases e : j = k
  · subst e; rw [hx] at hy; cases hy; exact ⟨h1, h2⟩
  · exact h j y (by omega) hy
theorem GoodTo.less {n : Int} {ms : List Mg} {k m : Nat} (h : GoodTo n ms k) (hm : m ≤ k) : GoodTo n ms m := fun j y hj hy => h j y (by omega) hy
theorem pow_le7 {i : Nat} (h : i < 7) : 2 ^ i + 2 ^ i ≤ 128 := by
  have : ∀ i : Fin 7, 2 ^ i.val + 2 ^ i.val ≤ 128 := by decide
  exact this ⟨i, h⟩
theorem good_msk {n : Int} {ms : List Mg} : ∀ {k : Nat}, GoodTo n ms k → k ≤ ms.length → msk ms k < 128 ∧ Lib.onesCount (msk ms k) = k ∧ ∀ i, i ≤ 7 → ((∀ j x, j < k → ms[j]? = some x → frn x < i) ↔ msk ms k < 2 ^ i)
  | 0, _, _ => ⟨by show (0 : Nat) < 128; decide, pop_zero, fun i _ => ⟨fun _ => Nat.two_pow_pos i, fun _ j x h => by omega⟩⟩
  | k + 1, h, hk => by
    obtain ⟨x, hx⟩ := Rg.get_at (show k < ms.length by omega)
    obtain ⟨h1, h2, h3⟩ := good_msk (h.less (Nat.le_succ k)) (by omega)
    obtain ⟨g1, g2⟩ := h k x (by omega) hx
    obtain ⟨_, g3⟩ := isV_frn g1
    rw [msk_step hx]
    have e := or_add g2
    have p := pow_le7 g3
    refine ⟨by omega, ?_, fun i hi => ?_⟩
    · have := pop_step ⟨msk ms k, h1⟩ ⟨frn x, g3⟩ g2
      simp only at this
      rw [this, h2]
    · rw [e]
      constructor
      · intro hh
        have hf := hh k x (by omega) hx
        have : 2 ^ (frn x + 1) ≤ 2 ^ i := Nat.pow_le_pow_right (by decide) hf
        rw [Nat.pow_succ] at this
        omega
      · intro hh j y hj hy
        have hfi : frn x < i := by
          refine Nat.lt_of_not_le fun hle => ?_
          have : 2 ^ i ≤ 2 ^ frn x := Nat.pow_le_pow_right (by decide) hle
          omega
        by_cases ej : j = k
        · subst ej; rw [hx] at hy; cases hy; exact hfi
        · exact Nat.lt_trans ((h3 (frn x) (by omega)).2 g2 j y (by omega) hy) hfi
theorem good_all {n : Int} {ms : List Mg} : ∀ {k : Nat}, k ≤ ms.length → (GoodTo n ms k ↔ (∀ j x, j < k → ms[j]? = some x → isV n x = true) ∧ Rise ms k)
  | 0, _ => ⟨fun _ => ⟨fun j x h => by omega, fun j x y h => by omega⟩, fun _ => GoodTo.zero n ms⟩
  | k + 1, hk => by
    obtain ⟨x, hx⟩ := Rg.get_at (show k < ms.length by omega)
    have ih := good_all (n := n) (ms := ms) (show k ≤ ms.length by omega)
    constructor
    · intro h
      obtain ⟨a1, a2⟩ := ih.1 (h.less (Nat.le_succ k))
      refine ⟨fun j y hj hy => (h j y hj hy).1, fun j y z hj hy hz => ?_⟩
      by_cases ej : j + 1 = k
      · subst ej
        rw [hx] at hz; cases hz
        obtain ⟨g1, g2⟩ := h (j + 1) x (by omega) hx
        have g0 := (h j y (by omega) hy).1
        have := ((good_msk (h.less (Nat.le_succ (j + 1))) (by omega)).2.2 (frn x) (by have := (isV_frn g1).2; omega)).2 g2 j y (by omega) hy
        rw [(isV_frn g0).1, (isV_frn g1).1]
        omega
      · exact a2 j y z (by omega) hy hz
    · rintro ⟨a1, a2⟩
      have h := ih.2 ⟨fun j y hj hy => a1 j y (by omega) hy, fun j y z hj hy hz => a2 j y z (by omega) hy hz⟩
      refine h.succ hx (a1 k x (by omega) hx) ?_
      obtain ⟨_, _, h3⟩ := good_msk h (by omega)
      have g1 := a1 k x (by omega) hx
      refine (h3 (frn x) (by have := (isV_frn g1).2; omega)).1 fun j y hj hy => ?_
      by_cases ek : k = 0
      · omega
      obtain ⟨m, rfl⟩ : ∃ m, k = m + 1 := ⟨k - 1, by omega⟩
      obtain ⟨z, hz⟩ := Rg.get_at (show m < ms.length by omega)
      have hzx := a2 m z x (by omega) hz hx
      have gz := a1 m z (by omega) hz
      have hzx' : frn z < frn x := by rw [(isV_frn gz).1, (isV_frn g1).1] at hzx; omega
      by_cases ej : j = m
      · subst ej; rw [hz] at hy; cases hy; exact hzx'
      · have hp := (h m z (by omega) hz).2
        have := ((good_msk (h.less (Nat.le_succ m)) (by omega)).2.2 (frn z) (by have := (isV_frn gz).2; omega)).2 hp j y (by omega) hy
        omega
noncomputable def qvB (n : Int) (ms : List Mg) : Bool := bOf (GoodTo n ms ms.length) && (decide (fCode n = 0) && decide ((Lib.onesCount (msk ms ms.length) : Int) = qOut n))
theorem qv_not {n : Int} {ms : List Mg} {k : Nat} {x : Mg} (hx : ms[k]? = some x) (h : ¬ (isV n x = true ∧ msk ms k < 2 ^ frn x)) : qvB n ms = false := by
  unfold qvB
  rw [bOf_false (fun hg => h (hg k x (Rg.lt_at hx) hx))]; rfl
theorem qv_end {n : Int} {ms : List Mg} (h : GoodTo n ms ms.length) : qvB n ms = (decide (fCode n = 0) && decide ((Lib.onesCount (msk ms ms.length) : Int) = qOut n)) := by
  unfold qvB; rw [bOf_true h]; rfl
theorem qv_iff {n : Int} {ms : List Mg} : qvB n ms = true ↔ fCode n = 0 ∧ (ms.length : Int) = qOut n ∧ (∀ x ∈ ms, isV n x = true) ∧ Rise ms ms.length := by
  unfold qvB
  rw [Bool.and_eq_true, Bool.and_eq_true, bOf_iff, decide_eq_true_eq, decide_eq_true_eq]
  constructor
  · rintro ⟨h1, h2, h3⟩
    rw [(good_msk h1 (Nat.le_refl _)).2.1] at h3
    obtain ⟨a1, a2⟩ := (good_all (Nat.le_refl _)).1 h1
    refine ⟨h2, h3, fun x hx => ?_, a2⟩
    obtain ⟨j, hj, e⟩ := List.getElem_of_mem hx
    exact a1 j x hj (by rw [List.getElem?_eq_getElem hj, e])
  · rintro ⟨h1, h2, h3, h4⟩
    have hg : GoodTo n ms ms.length := (good_all (Nat.le_refl _)).2 ⟨fun j x hj hx => h3 x (List.mem_of_getElem? hx), h4⟩
    refine ⟨hg, h1, ?_⟩
    rw [(good_msk hg (Nat.le_refl _)).2.1]
    exact h2
def OwnV (w : World) (B : Nat) (v : Value) (xs : List Value) : Prop := w.ownsRow B 199 1 v xs.length xs
def vts (n : Int) (ms : List Mg) : List Value := ms.map (votV n)
theorem vts_step {n : Int} {ms : List Mg} {k : Nat} {x : Mg} (h : ms[k]? = some x) : vts n (ms.take (k + 1)) = vts n (ms.take k) ++ [votV n x] := by
  unfold vts; rw [List.take_add_one, h]; simp
theorem OwnV.kept {w w' : World} {B : Nat} {v : Value} {ms : List Value} (h : OwnV w B v ms) (hk : ∀ g, v.ownBlock = some g → w'.heap[g]? = w.heap[g]?) : OwnV w' B v ms := by
  obtain ⟨hl, h⟩ := h
  refine ⟨hl, ?_⟩
  rcases h with h | ⟨g, cap, cur, rfl, h1, hg, h2⟩
  · exact .inl h
  · exact .inr ⟨g, cap, cur, rfl, h1, (hk g rfl).trans hg, h2⟩
theorem OwnV.slice {w : World} {B : Nat} {v : Value} {ms : List Value} (h : OwnV w B v ms) : ∃ a cap, v = .slice a ms.length cap := by
  obtain ⟨hl, h⟩ := h
  rcases h with ⟨rfl, h0⟩ | ⟨g, cap, cur, rfl, h1, hg, h2⟩
  · exact ⟨none, 0, by rw [h0]⟩
  · exact ⟨_, cap, rfl⟩
theorem OwnV.at {w : World} {B : Nat} {a : Option Addr} {l cap : Nat} {ms : List Value} {i : Nat} {x : Value} (h : OwnV w B (.slice a l cap) ms) (hi : ms[i]? = some x) : ∃ g, a = some ⟨g, 0, none⟩ ∧ g < w.heap.size ∧ w.cell? ⟨g, i, none⟩ = some x := by
  obtain ⟨hl, h⟩ := h
  have hil := Rg.lt_at hi
  rcases h with ⟨_, h0⟩ | ⟨g, cap', cur, e, hB, hg, hc, _, hs, htk⟩
  · omega
  · cases e
    refine ⟨g, rfl, (Array.getElem?_eq_some_iff.1 hg).1, ?_⟩
    rw [Joins.cell_of_block hg, ← Array.getElem?_toList]
    rw [← htk, List.getElem?_take] at hi
    split at hi
    · exact hi
    · cases hi
theorem OwnV.lt {w : World} {B : Nat} {v : Value} {ms : List Value} (h : OwnV w B v ms) : ∀ g, v.ownBlock = some g → B ≤ g ∧ g < w.heap.size := World.ownsRow.lt h
theorem OwnV.below {w w' : World} {B : Nat} {v : Value} {ms : List Value} (h : OwnV w B v ms) (hb : Below w.heap.size w w') : OwnV w' B v ms := h.kept fun g hg => hb.block g (h.lt g hg).2
theorem OwnV.nil (w : World) (B : Nat) : OwnV w B (.slice none 0 0) [] := World.ownsRow_nil _ _ _ _
theorem info_v : (Tryz.prog.info? 199).map (fun i => (i.zero, i.size, i.bytes)) = some (some .nilIface, 1, 16) := by kernel_rfl
end Go.Proofs.YtondmbeccpekiaaGreatDoor.Vt

/- Votes: sets of nodes, a message's vote. -/
namespace Go.Proofs.YtondmbeccpekiaaGreatDoor.Vt
open Go.RowKit Go.Proofs.YtondmbeccpekiaaGreatDoor.Gm Go.Proofs.YtondmbeccpekiaaGreatDoor.Si Go.Proofs.YtondmbeccpekiaaGreatDoor.Tm Go.Proofs.YtondmbeccpekiaaGreatDoor.Ms Go.Proofs.YtondmbeccpekiaaGreatDoor.Sh
open Go.Proofs.YtondmbeccpekiaaGreatDoor.Qm (qOut)
open Go.Proofs.YtondmbeccpekiaaGreatDoor.Rg (blk_cell bel_new)

theorem ret_b {a b : Bool} (h : a = b) : Ending.returned (.bool a) = .returned (.bool b) := by rw [h]
theorem ret_v {a b : Value} (h : a = b) : Ending.returned a = .returned b := by rw [h]
theorem ones_int (x : Int) (w : World) (h0 : 0 ≤ x) (h1 : x ≤ 255) : Calls Tryz.prog 182 #[.int .u8 x] w fun e w' => e = .returned (.int .i64 (Lib.onesCount x.toNat)) ∧ w' = w := by
  have e : wrap64 (Lib.pop8 x) = (Lib.onesCount x.toNat : Int) := by unfold wrap64; exact Lib.pop8_int x h0 h1
  rw [← e]
  clear e
  go_enter Tryz.func182, Tryz.ntmps182
  go_wp2
  go_ret
  exact ⟨rfl, rfl⟩
theorem ones_any (h : Nat) (w : World) (hh : h < 128) : Calls Tryz.prog 182 #[.int .u8 h] w fun e w' => e = .returned (.int .i64 (Lib.onesCount h)) ∧ w = w' :=
  (ones_int h w (by omega) (by omega)).mono fun e w' he => ⟨by rw [he.1, Int.toNat_natCast], he.2.symm⟩
theorem shr_lt : ∀ h : Fin 128, ∀ i : Fin 7, ((h.val / 2 ^ i.val == 0) = decide (h.val < 2 ^ i.val)) := by decide +kernel
set_option maxRecDepth 100000 in
theorem allBelow_any (h i : Nat) (w : World) (hh : h < 128) (hi : i < 7) : Calls Tryz.prog 150 #[.int .u8 h, .int .i64 i] w fun e w' => e = .returned (.bool (decide (h < 2 ^ i))) ∧ w = w' := by
  have hk : ∀ i : Nat, i < 7 → i = 0 ∨ i = 1 ∨ i = 2 ∨ i = 3 ∨ i = 4 ∨ i = 5 ∨ i = 6 := fun i h => by omega
  have hs := shr_lt ⟨h, hh⟩ ⟨i, hi⟩
  simp only at hs
  rw [← hs]
  clear hs
  rcases hk i hi with rfl | rfl | rfl | rfl | rfl | rfl | rfl
  all_goals
    go_enter Tryz.func150, Tryz.ntmps150
    go_wp2_with fail
    go_ret
    refine ⟨ret_b ?_, rfl⟩
    rw [Bool.eq_iff_iff, beq_iff_eq, beq_iff_eq]
    simp only [Nat.reducePow]
    omega
theorem with_or : ∀ h : Fin 128, ∀ i : Fin 7, bits .or .u8 (h.val : Int) ((2 ^ i.val : Nat) : Int) = ((h.val ||| 2 ^ i.val : Nat) : Int) := by decide +kernel
set_option maxRecDepth 100000 in
theorem with_any (h i : Nat) (w : World) (hh : h < 128) (hi : i < 7) : Calls Tryz.prog 151 #[.int .u8 h, .int .i64 i] w fun e w' => e = .returned (.int .u8 ((h ||| 2 ^ i : Nat) : Int)) ∧ w = w' := by
  have hk : ∀ i : Nat, i < 7 → i = 0 ∨ i = 1 ∨ i = 2 ∨ i = 3 ∨ i = 4 ∨ i = 5 ∨ i = 6 := fun i h => by omega
  rcases hk i hi with rfl | rfl | rfl | rfl | rfl | rfl | rfl
  all_goals
    go_enter Tryz.func151, Tryz.ntmps151
    go_wp2_with fail
    go_ret
    refine ⟨ret_v ?_, rfl⟩
    exact congrArg (Value.int .u8) (with_or ⟨h, hh⟩ ⟨_, hi⟩)
theorem isQuorum_any (h : Nat) (n : Int) (w : World) (hh : h < 128) : Calls Tryz.prog 166 #[.int .u8 h, .int .i64 n] w fun e w' => e = .returned (.bool (decide (fCode n = 0) && decide ((Lib.onesCount h : Int) = qOut n))) ∧ w = w' := by
  have HO := ones_any h w hh
  have HQ := Qm.implQuorumOf_any n w
  by_cases hf : fCode n = 0
  · rw [hf] at HQ ⊢
    generalize (Lib.onesCount h : Int) = oc at HO ⊢
    generalize qOut n = q at HQ ⊢
    go_enter Tryz.func166, Tryz.ntmps166
    go_wp2_with fail
    refine HQ.mono ?_
    rintro e w1 ⟨rfl, rfl⟩
    go_wp2_with fail
    refine HO.mono ?_
    rintro e w1 ⟨rfl, rfl⟩
    go_wp2_with fail
    go_ret
    exact ⟨ret_b (by rw [Bool.eq_iff_iff, beq_iff_eq, Bool.and_eq_true, decide_eq_true_eq, decide_eq_true_eq]; simp), rfl⟩
  · have hf' : (fCode n == 0) = false := by simp [hf]
    rw [decide_eq_false hf]
    generalize fCode n = fc at HQ hf hf'
    generalize qOut n = q at HQ
    go_enter Tryz.func166, Tryz.ntmps166
    go_wp2_with fail
    refine HQ.mono ?_
    rintro e w1 ⟨rfl, rfl⟩
    go_wp2_with fail
    go_ret
    exact ⟨ret_b (by simp), rfl⟩
theorem voterP_any (x : Mg) (w : World) : Calls Tryz.prog 221 #[.agg #[.int .i64 x.fr, .int .i64 x.vw, .int .i64 x.sq, .string x.dg]] w fun e w' => e = .returned (.int .i64 x.fr) ∧ Below w.heap.size w w' := by
  have HB : Hid (∀ o, Below w.heap.size w (w.alloc o)) := fun o => bel_new w o
  go_enter Tryz.func221, Tryz.ntmps221
  go_wp2_with fail
  go_ret
  exact ⟨rfl, HB.out _⟩
theorem voterC_any (x : Mg) (w : World) : Calls Tryz.prog 222 #[.agg #[.int .i64 x.fr, .int .i64 x.vw, .string x.bd]] w fun e w' => e = .returned (.int .i64 x.fr) ∧ Below w.heap.size w w' := by
  have HB : Hid (∀ o, Below w.heap.size w (w.alloc o)) := fun o => bel_new w o
  go_enter Tryz.func222, Tryz.ntmps222
  go_wp2_with fail
  go_ret
  exact ⟨rfl, HB.out _⟩
set_option maxRecDepth 100000 in
set_option maxHeartbeats 800000 in
theorem voteOf_any (n : Int) (x : Mg) (w : World) (hK : KTab w) (hp : 0 < w.heap.size) :
    Calls Tryz.prog 149 #[.int .i64 n, .agg #[.int .i64 x.kd, .int .i64 x.vw, .int .i64 x.sq, .int .i64 x.fr, .string x.dg, .string x.bd, .string x.mc]] w fun e w' => e = .returned (votV n x) ∧ Below w.heap.size w w' := by
  have HX : Hid (∀ W, Below (w.alloc (.cells #[.int .i64 x.kd, .int .i64 x.vw, .int .i64 x.sq, .int .i64 x.fr, .string x.dg, .string x.bd, .string x.mc] 59)).heap.size (w.alloc (.cells #[.int .i64 x.kd, .int .i64 x.vw, .int .i64 x.sq, .int .i64 x.fr, .string x.dg, .string x.bd, .string x.mc] 59)) W → (W.cell? ⟨w.heap.size, 0, none⟩ = some (.int .i64 x.kd) ∧ W.cell? ⟨w.heap.size, 1, none⟩ = some (.int .i64 x.vw) ∧ W.cell? ⟨w.heap.size, 2, none⟩ = some (.int .i64 x.sq) ∧ W.cell? ⟨w.heap.size, 3, none⟩ = some (.int .i64 x.fr) ∧ W.cell? ⟨w.heap.size, 4, none⟩ = some (.string x.dg) ∧ W.cell? ⟨w.heap.size, 5, none⟩ = some (.string x.bd)) ∧ Below w.heap.size w W) := fun W hW => by
    have h1 := (hW.block w.heap.size (by simp)).trans (heap_alloc_new w _)
    exact ⟨⟨(blk_cell h1 0 rfl).1, (blk_cell h1 1 rfl).1, (blk_cell h1 2 rfl).1, (blk_cell h1 3 rfl).1, (blk_cell h1 4 rfl).1, (blk_cell h1 5 rfl).1⟩, (bel_new w _).trans (hW.mono (by simp))⟩
  have HMS : Hid (Calls Tryz.prog 37 #[.int .i64 n, .agg #[.int .i64 x.kd, .int .i64 x.vw, .int .i64 x.sq, .int .i64 x.fr, .string x.dg, .string x.bd, .string x.mc]] (w.alloc (.cells #[.int .i64 x.kd, .int .i64 x.vw, .int .i64 x.sq, .int .i64 x.fr, .string x.dg, .string x.bd, .string x.mc] 59)) fun e w' => e = .returned (.bool (sg n x)) ∧ Below (w.alloc (.cells #[.int .i64 x.kd, .int .i64 x.vw, .int .i64 x.sq, .int .i64 x.fr, .string x.dg, .string x.bd, .string x.mc] 59)).heap.size (w.alloc (.cells #[.int .i64 x.kd, .int .i64 x.vw, .int .i64 x.sq, .int .i64 x.fr, .string x.dg, .string x.bd, .string x.mc] 59)) w') := implMessageSigned_any n x.kd x.vw x.sq x.fr x.dg x.bd x.mc _ (hK.below (bel_new w _) hp) (Nat.lt_of_lt_of_le hp (bel_new w _).size)
  have HE : Hid (votV n x = if sg n x then (if x.kd = 2 then prV x else if x.kd = 4 then chV x else .nilIface) else .nilIface) := rfl
  clear hK hp
  generalize votV n x = out at HE ⊢
  cases hs : sg n x with
  | false =>
    rw [hs] at HMS
    have HO : Hid (out = .nilIface) := by show _ = _; rw [HE.out, hs]; rfl
    clear HE hs
    go_enter Tryz.func149, Tryz.ntmps149
    go_wp2_with fail
    refine HMS.out.mono ?_
    rintro e w1 ⟨rfl, b1⟩
    have G : Hid (Below w.heap.size w w1) := (HX.out _ b1).2
    clear b1 HX
    go_wp2_with fail
    go_ret
    exact ⟨ret_v HO.out.symm, G.out⟩
  | true =>
    rw [hs] at HMS
    rw [hs, if_pos rfl] at HE
    clear hs
    by_cases h2 : x.kd = 2
    · have HO : Hid (out = .iface 226 (.agg #[.int .i64 x.fr, .int .i64 x.vw, .int .i64 x.sq, .string x.dg])) := by show _ = _; rw [HE.out, if_pos h2]; rfl
      clear HE
      have h2' : (x.kd == 2) = true := by simp [h2]
      clear h2
      go_enter Tryz.func149, Tryz.ntmps149
      go_wp2_with fail
      refine HMS.out.mono ?_
      rintro e w1 ⟨rfl, b1⟩
      obtain ⟨⟨c0, c1, c2, c3, c4, c5⟩, g⟩ := HX.out _ b1
      have G : Hid (Below w.heap.size w w1) := g
      clear b1 HX g
      go_wp2_with fail
      go_ret
      exact ⟨ret_v HO.out.symm, G.out⟩
    · rw [if_neg h2] at HE
      have h2' : (x.kd == 2) = false := by simp [h2]
      by_cases h4 : x.kd = 4
      · have HO : Hid (out = .iface 229 (.agg #[.int .i64 x.fr, .int .i64 x.vw, .string x.bd])) := by show _ = _; rw [HE.out, if_pos h4]; rfl
        clear HE
        have h4' : (x.kd == 4) = true := by simp [h4]
        clear h4 h2
        go_enter Tryz.func149, Tryz.ntmps149
        go_wp2_with fail
        refine HMS.out.mono ?_
        rintro e w1 ⟨rfl, b1⟩
        obtain ⟨⟨c0, c1, c2, c3, c4, c5⟩, g⟩ := HX.out _ b1
        have G : Hid (Below w.heap.size w w1) := g
        clear b1 HX g
        go_wp2_with fail
        go_ret
        exact ⟨ret_v HO.out.symm, G.out⟩
      · rw [if_neg h4] at HE
        have h4' : (x.kd == 4) = false := by simp [h4]
        clear h4 h2
        go_enter Tryz.func149, Tryz.ntmps149
        go_wp2_with fail
        refine HMS.out.mono ?_
        rintro e w1 ⟨rfl, b1⟩
        obtain ⟨⟨c0, c1, c2, c3, c4, c5⟩, g⟩ := HX.out _ b1
        have G : Hid (Below w.heap.size w w1) := g
        clear b1 HX g
        go_wp2_with fail
        go_ret
        exact ⟨ret_v HE.out.symm, G.out⟩
end Go.Proofs.YtondmbeccpekiaaGreatDoor.Vt
