/- Texts put together: Si3, Si4, Vt. -/
import Derived.Test.YtkfiahemgdppfaaGreatDoorP13
import Derived.Test.YtkfiahemgdppfaaGreatDoorP1
import Derived.Lib.BitFns
/- SignMessage of the specification. -/
namespace Go.Proofs.YtkfiahemgdppfaaGreatDoor.Si
open Go.RowKit Go.Proofs.YtkfiahemgdppfaaGreatDoor.Sl Go.Proofs.YtkfiahemgdppfaaGreatDoor.By Go.Proofs.YtkfiahemgdppfaaGreatDoor.Rq Go.Proofs.YtkfiahemgdppfaaGreatDoor.Ap Go.Proofs.YtkfiahemgdppfaaGreatDoor.Sh Go.Proofs.YtkfiahemgdppfaaGreatDoor.Ho Go.Proofs.YtkfiahemgdppfaaGreatDoor.Mr Go.Proofs.YtkfiahemgdppfaaGreatDoor.Ms Go.Proofs.YtkfiahemgdppfaaGreatDoor.Mp Go.Proofs.YtkfiahemgdppfaaGreatDoor.Rp Go.Proofs.YtkfiahemgdppfaaGreatDoor.Pu
open Go.Proofs.YtkfiahemgdppfaaGreatDoor.Tx (blk_cell blk_set blk_far blk_new bel_new)

def b9 : ByteArray := ⟨#[49, 50, 51, 52, 53, 54, 55, 56]⟩
theorem b9_b8 (kd vw sq fr : Int) (dg bd : ByteArray) : msgB kd vw sq fr dg bd b9 = msgB kd vw sq fr dg bd b8 := msgB_mac kd vw sq fr dg bd rfl
set_option maxRecDepth 100000 in
set_option maxHeartbeats 800000 in
theorem l06Sign_any (kd vw sq : Int) (i : Nat) (fr : Int) (dg bd mc : ByteArray) (w : World) (hi : i < 7) (hd : dg.size ≤ 32) (hb : bd.size ≤ 20000) :
    Calls Tryz.prog 54 #[.int .i64 i, msgV kd vw sq fr dg bd mc] w fun e w' => e = .returned (msgV kd vw sq i dg bd (mmk kd vw sq i dg bd)) ∧ Below w.heap.size w w' := by
  have HP := l02Plain_any kd vw sq i dg bd mc
  have HPL : Hid ((plainBs kd vw sq i dg bd).length ≤ 60000) := by show _ ≤ _; rw [plainBs_length]; omega
  unfold msgV at HP ⊢
  go_enter Tryz.func54, Tryz.ntmps54
  go_wp2_with fail
  refine (HP _ (by omega) (by omega)).mono ?_
  rintro e w1 ⟨v1, rfl, o1, b1⟩
  have b0 := box_old b1
  obtain ⟨k0, k1, kB⟩ := two b0
  have K0 : Hid (w1.heap[w.heap.size]? = some (.cells #[.int .i64 kd, .int .i64 vw, .int .i64 sq, .int .i64 i, .string dg, .string bd, .string mc] 26 (0, 0))) := k0
  have K1 : Hid (w1.heap[w.heap.size + 1]? = some (.cells #[.int .i64 0, .int .i64 0, .int .i64 0, .int .i64 0, .string ⟨#[]⟩, .string ⟨#[]⟩, .string ⟨#[]⟩] 26 (0, 0))) := k1
  have KB : Hid (Below w.heap.size w w1) := kB
  have R1 : Hid (RowB w1 v1 (plainBs kd vw sq i dg bd)) := own_rowB o1 (plainBs_range kd vw sq i dg bd)
  clear b1 b0 k0 k1 kB o1 HP
  have HM : Hid (Calls Tryz.prog 84 #[.int .i64 i, v1] w1 fun e w' => e = .returned (.string (mmk kd vw sq i dg bd)) ∧ Below w1.heap.size w1 w') := l04Mac_any i v1 _ w1 (by omega) R1.out (plain_ne kd vw sq i dg bd) HPL.out
  go_wp2_with fail
  refine HM.out.mono ?_
  rintro e w2 ⟨rfl, b2⟩
  have s1 := (Array.getElem?_eq_some_iff.1 K1.out).1
  have K02 : Hid (w2.heap[w.heap.size]? = some (.cells #[.int .i64 kd, .int .i64 vw, .int .i64 sq, .int .i64 i, .string dg, .string bd, .string mc] 26 (0, 0))) := (b2.block _ (by omega)).trans K0.out
  have K12 : Hid (w2.heap[w.heap.size + 1]? = some (.cells #[.int .i64 0, .int .i64 0, .int .i64 0, .int .i64 0, .string ⟨#[]⟩, .string ⟨#[]⟩, .string ⟨#[]⟩] 26 (0, 0))) := (b2.block _ s1).trans K1.out
  have KB2 : Hid (Below w.heap.size w w2) := KB.out.trans (b2.mono KB.out.size)
  clear b2 K0 K1 KB HM s1 R1
  obtain ⟨mk, HE⟩ : ∃ mk, Hid (mk = mmk kd vw sq i dg bd) := ⟨_, rfl⟩
  rw [← HE.out]
  obtain ⟨s6, t6⟩ := blk_cell K02.out 6 (x := .string mc) rfl
  have K03 : Hid ((w2.setCell ⟨w.heap.size, 6, none⟩ (.string mk)).heap[w.heap.size]? = some (.cells #[.int .i64 kd, .int .i64 vw, .int .i64 sq, .int .i64 i, .string dg, .string bd, .string mk] 26 (0, 0))) := blk_set K02.out 6 (.string mk)
  have K13 : Hid ((w2.setCell ⟨w.heap.size, 6, none⟩ (.string mk)).heap[w.heap.size + 1]? = some (.cells #[.int .i64 0, .int .i64 0, .int .i64 0, .int .i64 0, .string ⟨#[]⟩, .string ⟨#[]⟩, .string ⟨#[]⟩] 26 (0, 0))) := (blk_far (by omega) 6 (.string mk)).trans K12.out
  have KB3 : Hid (Below w.heap.size w (w2.setCell ⟨w.heap.size, 6, none⟩ (.string mk))) := Below.setCell KB2.out (p := ⟨w.heap.size, 6, none⟩) (Nat.le_refl _) (.string mk)
  clear K02 K12 KB2
  go_upto_region 3 with fail
  generalize w2.setCell ⟨w.heap.size, 6, none⟩ (.string mk) = w9 at K03 K13 KB3 ⊢
  clear s6 t6
  have p0 := (blk_cell K03.out 0 (x := .int .i64 kd) rfl).1
  have p1 := (blk_cell K03.out 1 (x := .int .i64 vw) rfl).1
  have p2 := (blk_cell K03.out 2 (x := .int .i64 sq) rfl).1
  have p3 := (blk_cell K03.out 3 (x := .int .i64 i) rfl).1
  have p4 := (blk_cell K03.out 4 (x := .string dg) rfl).1
  have p5 := (blk_cell K03.out 5 (x := .string bd) rfl).1
  have p6 := (blk_cell K03.out 6 (x := .string mk) rfl).1
  obtain ⟨m0, n0⟩ := blk_cell K13.out 0 (x := .int .i64 0) rfl
  obtain ⟨m1, n1⟩ := blk_cell K13.out 1 (x := .int .i64 0) rfl
  obtain ⟨m2, n2⟩ := blk_cell K13.out 2 (x := .int .i64 0) rfl
  obtain ⟨m3, n3⟩ := blk_cell K13.out 3 (x := .int .i64 0) rfl
  obtain ⟨m4, n4⟩ := blk_cell K13.out 4 (x := .string ⟨#[]⟩) rfl
  obtain ⟨m5, n5⟩ := blk_cell K13.out 5 (x := .string ⟨#[]⟩) rfl
  obtain ⟨m6, n6⟩ := blk_cell K13.out 6 (x := .string ⟨#[]⟩) rfl
  have AF : (((((((w9.setCell ⟨w.heap.size + 1, 0, none⟩ (.int .i64 kd)).setCell ⟨w.heap.size + 1, 1, none⟩ (.int .i64 vw)).setCell ⟨w.heap.size + 1, 2, none⟩ (.int .i64 sq)).setCell ⟨w.heap.size + 1, 3, none⟩ (.int .i64 i)).setCell ⟨w.heap.size + 1, 4, none⟩ (.string dg)).setCell ⟨w.heap.size + 1, 5, none⟩ (.string bd)).setCell ⟨w.heap.size + 1, 6, none⟩ (.string mk)).heap[w.heap.size + 1]? = some (.cells #[.int .i64 kd, .int .i64 vw, .int .i64 sq, .int .i64 i, .string dg, .string bd, .string mk] 26 (0, 0)) := (blk_set (blk_set (blk_set (blk_set (blk_set (blk_set (blk_set K13.out 0 (.int .i64 kd)) 1 (.int .i64 vw)) 2 (.int .i64 sq)) 3 (.int .i64 i)) 4 (.string dg)) 5 (.string bd)) 6 (.string mk))
  have GF : Hid (Below w.heap.size w (((((((w9.setCell ⟨w.heap.size + 1, 0, none⟩ (.int .i64 kd)).setCell ⟨w.heap.size + 1, 1, none⟩ (.int .i64 vw)).setCell ⟨w.heap.size + 1, 2, none⟩ (.int .i64 sq)).setCell ⟨w.heap.size + 1, 3, none⟩ (.int .i64 i)).setCell ⟨w.heap.size + 1, 4, none⟩ (.string dg)).setCell ⟨w.heap.size + 1, 5, none⟩ (.string bd)).setCell ⟨w.heap.size + 1, 6, none⟩ (.string mk))) := (Below.setCell (Below.setCell (Below.setCell (Below.setCell (Below.setCell (Below.setCell (Below.setCell KB3.out (p := ⟨w.heap.size + 1, 0, none⟩) (by show _ ≤ w.heap.size + 1; omega) (.int .i64 kd)) (p := ⟨w.heap.size + 1, 1, none⟩) (by show _ ≤ w.heap.size + 1; omega) (.int .i64 vw)) (p := ⟨w.heap.size + 1, 2, none⟩) (by show _ ≤ w.heap.size + 1; omega) (.int .i64 sq)) (p := ⟨w.heap.size + 1, 3, none⟩) (by show _ ≤ w.heap.size + 1; omega) (.int .i64 i)) (p := ⟨w.heap.size + 1, 4, none⟩) (by show _ ≤ w.heap.size + 1; omega) (.string dg)) (p := ⟨w.heap.size + 1, 5, none⟩) (by show _ ≤ w.heap.size + 1; omega) (.string bd)) (p := ⟨w.heap.size + 1, 6, none⟩) (by show _ ≤ w.heap.size + 1; omega) (.string mk))
  go_wp2_with fail
  generalize (((((((w9.setCell ⟨w.heap.size + 1, 0, none⟩ (.int .i64 kd)).setCell ⟨w.heap.size + 1, 1, none⟩ (.int .i64 vw)).setCell ⟨w.heap.size + 1, 2, none⟩ (.int .i64 sq)).setCell ⟨w.heap.size + 1, 3, none⟩ (.int .i64 i)).setCell ⟨w.heap.size + 1, 4, none⟩ (.string dg)).setCell ⟨w.heap.size + 1, 5, none⟩ (.string bd)).setCell ⟨w.heap.size + 1, 6, none⟩ (.string mk)) = wf at AF GF ⊢
  have d0 := (blk_cell AF 0 (x := .int .i64 kd) rfl).1
  have d1 := (blk_cell AF 1 (x := .int .i64 vw) rfl).1
  have d2 := (blk_cell AF 2 (x := .int .i64 sq) rfl).1
  have d3 := (blk_cell AF 3 (x := .int .i64 i) rfl).1
  have d4 := (blk_cell AF 4 (x := .string dg) rfl).1
  have d5 := (blk_cell AF 5 (x := .string bd) rfl).1
  have d6 := (blk_cell AF 6 (x := .string mk) rfl).1
  exact bodyPost_ret (v := .agg #[.int .i64 kd, .int .i64 vw, .int .i64 sq, .int .i64 i, .string dg, .string bd, .string mk]) (by simp [results, Tryz.results54, go_sem, d0, d1, d2, d3, d4, d5, d6]) rfl ⟨by rw [HE.out], GF.out⟩
end Go.Proofs.YtkfiahemgdppfaaGreatDoor.Si

/- MessageSigned, of the program and of the specification. -/
namespace Go.Proofs.YtkfiahemgdppfaaGreatDoor.Si
open Go.RowKit Go.Proofs.YtkfiahemgdppfaaGreatDoor.Sl Go.Proofs.YtkfiahemgdppfaaGreatDoor.By Go.Proofs.YtkfiahemgdppfaaGreatDoor.Rq Go.Proofs.YtkfiahemgdppfaaGreatDoor.Ap Go.Proofs.YtkfiahemgdppfaaGreatDoor.Sh Go.Proofs.YtkfiahemgdppfaaGreatDoor.Ho Go.Proofs.YtkfiahemgdppfaaGreatDoor.Mr Go.Proofs.YtkfiahemgdppfaaGreatDoor.Ms Go.Proofs.YtkfiahemgdppfaaGreatDoor.Mp Go.Proofs.YtkfiahemgdppfaaGreatDoor.Rp Go.Proofs.YtkfiahemgdppfaaGreatDoor.Pu Go.Proofs.YtkfiahemgdppfaaGreatDoor.Tm
open Go.Proofs.YtkfiahemgdppfaaGreatDoor.Tx (blk_cell blk_set blk_far blk_new bel_new)

/-- What MessageSigned answers. -/
def lB (n kd vw sq fr : Int) (dg bd mc : ByteArray) : Bool := msgB kd vw sq fr dg bd mc && (decide (fr < n) && ((mmk kd vw sq fr.toNat dg bd).toList == mc.toList))
def gB (n kd vw sq fr : Int) (dg bd mc : ByteArray) : Bool := decide (fCode n = 0) && lB n kd vw sq fr dg bd mc
theorem ret_bool {a b : Bool} (h : a = b) : Ending.returned (.bool a) = .returned (.bool b) := by rw [h]
theorem beq_sym (a b : List UInt8) : (a == b) = (b == a) := by rw [Bool.eq_iff_iff, beq_iff_eq, beq_iff_eq]; exact eq_comm
theorem from_nat {kd vw sq fr : Int} {dg bd mc : ByteArray} (h : msgB kd vw sq fr dg bd mc = true) : ∃ i : Nat, fr = i ∧ i < 7 := by
  rw [msg_eq] at h
  simp only [Bool.and_eq_true] at h
  have h2 := h.2.1
  unfold inB at h2
  simp only [decide_eq_true_eq] at h2
  obtain ⟨i, rfl⟩ := Int.eq_ofNat_of_zero_le h2.1
  exact ⟨i, rfl, by omega⟩
set_option maxRecDepth 100000 in
set_option maxHeartbeats 1600000 in
theorem l06Signed_any (n kd vw sq fr : Int) (dg bd mc : ByteArray) (w : World) :
    Calls Tryz.prog 66 #[.int .i64 n, msgV kd vw sq fr dg bd mc] w fun e w' => e = .returned (.bool (lB n kd vw sq fr dg bd mc)) ∧ Below w.heap.size w w' := by
  unfold msgV
  have HX : Hid (∀ W, Below (w.alloc (.cells #[.int .i64 kd, .int .i64 vw, .int .i64 sq, .int .i64 fr, .string dg, .string bd, .string mc] 26)).heap.size (w.alloc (.cells #[.int .i64 kd, .int .i64 vw, .int .i64 sq, .int .i64 fr, .string dg, .string bd, .string mc] 26)) W → (W.cell? ⟨w.heap.size, 0, none⟩ = some (.int .i64 kd) ∧ W.cell? ⟨w.heap.size, 1, none⟩ = some (.int .i64 vw) ∧ W.cell? ⟨w.heap.size, 2, none⟩ = some (.int .i64 sq) ∧ W.cell? ⟨w.heap.size, 3, none⟩ = some (.int .i64 fr) ∧ W.cell? ⟨w.heap.size, 4, none⟩ = some (.string dg) ∧ W.cell? ⟨w.heap.size, 5, none⟩ = some (.string bd) ∧ W.cell? ⟨w.heap.size, 6, none⟩ = some (.string mc)) ∧ Below w.heap.size w W) := fun W hW => by
    have h1 := (hW.block w.heap.size (by simp)).trans (heap_alloc_new w _)
    exact ⟨⟨(blk_cell h1 0 rfl).1, (blk_cell h1 1 rfl).1, (blk_cell h1 2 rfl).1, (blk_cell h1 3 rfl).1, (blk_cell h1 4 rfl).1, (blk_cell h1 5 rfl).1, (blk_cell h1 6 rfl).1⟩, (bel_new w _).trans (hW.mono (by simp))⟩
  have HOK : Hid (∀ W, Calls Tryz.prog 103 #[.agg #[.int .i64 kd, .int .i64 vw, .int .i64 sq, .int .i64 fr, .string dg, .string bd, .string mc]] W fun e w' => e = .returned (.bool (msgB kd vw sq fr dg bd mc)) ∧ Below W.heap.size W w') := fun W => specMessageOK_any kd vw sq fr dg bd mc W
  cases hq : msgB kd vw sq fr dg bd mc with
  | false =>
    have HE : Hid (lB n kd vw sq fr dg bd mc = false) := by show _ = _; unfold lB; rw [hq]; rfl
    rw [hq] at HOK
    go_enter Tryz.func66, Tryz.ntmps66
    go_upto_region 1 with fail
    generalize w.alloc (.cells #[.int .i64 kd, .int .i64 vw, .int .i64 sq, .int .i64 fr, .string dg, .string bd, .string mc] 26) = wb at HX ⊢
    obtain ⟨X, hX, W, QI0, QO0⟩ := Qc.klass wb
    have QI : Hid (∀ w', Below wb.heap.size wb w' → ∃ x, w' = W x) := QI0
    have QO : Hid (∀ x, Below wb.heap.size wb (W x)) := QO0
    clear QI0 QO0
    have y0 := fun q => (HX.out _ (QO.out q)).1.1
    have y1 := fun q => (HX.out _ (QO.out q)).1.2.1
    have y2 := fun q => (HX.out _ (QO.out q)).1.2.2.1
    have y3 := fun q => (HX.out _ (QO.out q)).1.2.2.2.1
    have y4 := fun q => (HX.out _ (QO.out q)).1.2.2.2.2.1
    have y5 := fun q => (HX.out _ (QO.out q)).1.2.2.2.2.2.1
    have y6 := fun q => (HX.out _ (QO.out q)).1.2.2.2.2.2.2
    refine Qc.region_class (W := W) (by kernel_rfl) (by kernel_rfl) (QI.out _ Qc.from_drew) ?_
    repeat (go_big_quiet_step (first | (go_at_call 103; refine (HOK.out _).mono ?_; rintro e w2 ⟨rfl, b2⟩; exact ⟨rfl, Qc.back QI.out QO.out b2⟩)))
    refine wpQuiet_nil ?_
    rintro _ ⟨xq, rfl⟩
    have G2 : Hid (Below w.heap.size w (W xq)) := (HX.out _ (QO.out xq)).2
    clear y0 y1 y2 y3 y4 y5 y6
    generalize W xq = wq at G2 ⊢
    go_wp2_with fail
    go_ret
    exact ⟨ret_bool HE.out.symm, G2.out⟩
  | true =>
    rw [hq] at HOK
    obtain ⟨i, rfl, hi⟩ := from_nat hq
    obtain ⟨hd, hb, hm⟩ := msg_small hq
    by_cases hn : (i : Int) < n
    · have HE : Hid (lB n kd vw sq i dg bd mc = ((mmk kd vw sq i dg bd).toList == mc.toList)) := by show _ = _; unfold lB; rw [hq, decide_eq_true hn]; rfl
      have HPL : Hid ((plainBs kd vw sq i dg bd).length ≤ 60000) := by show _ ≤ _; rw [plainBs_length]; omega
      have HPL2 : Hid (∀ W, Calls Tryz.prog 85 #[.agg #[.int .i64 kd, .int .i64 vw, .int .i64 sq, .int .i64 i, .string dg, .string bd, .string mc]] W fun e w' => ∃ v, e = .returned v ∧ RowB w' v (plainBs kd vw sq i dg bd) ∧ Below W.heap.size W w') := fun W => (l02Plain_any kd vw sq i dg bd mc W (by omega) (by omega)).mono fun e w' ⟨v, h1, h2, h3⟩ => ⟨v, h1, own_rowB h2 (plainBs_range kd vw sq i dg bd), box_old h3⟩
      have HMC : Hid (∀ W v, RowB W v (plainBs kd vw sq i dg bd) → Calls Tryz.prog 84 #[.int .i64 i, v] W fun e w' => e = .returned (.string (mmk kd vw sq i dg bd)) ∧ Below W.heap.size W w') := fun W v h => l04Mac_any i v _ W (by omega) h (plain_ne kd vw sq i dg bd) HPL.out
      obtain ⟨mk, HMK⟩ : ∃ mk, Hid (mmk kd vw sq i dg bd = mk) := ⟨_, rfl⟩
      rw [HMK.out] at HMC HE
      clear HPL hm hd hb hq
      go_enter Tryz.func66, Tryz.ntmps66
      go_upto_region 1 with fail
      generalize w.alloc (.cells #[.int .i64 kd, .int .i64 vw, .int .i64 sq, .int .i64 i, .string dg, .string bd, .string mc] 26) = wb at HX ⊢
      obtain ⟨⟨y0, y1, y2, y3, y4, y5, y6⟩, _⟩ := HX.out wb (Below.refl _ _)
      go_region_held (fun W => W.cell? ⟨w.heap.size, 0, none⟩ = some (.int .i64 kd) ∧ W.cell? ⟨w.heap.size, 1, none⟩ = some (.int .i64 vw) ∧ W.cell? ⟨w.heap.size, 2, none⟩ = some (.int .i64 sq) ∧ W.cell? ⟨w.heap.size, 3, none⟩ = some (.int .i64 i) ∧ W.cell? ⟨w.heap.size, 4, none⟩ = some (.string dg) ∧ W.cell? ⟨w.heap.size, 5, none⟩ = some (.string bd) ∧ W.cell? ⟨w.heap.size, 6, none⟩ = some (.string mc)) (first | exact (HX.out _ Qc.from_drew).1 | exact (HX.out _ B2.out).1 | exact (HX.out _ B3.out).1 | exact (HX.out _ B4.out).1)
        (first | (go_at_call 103; refine (HOK.out _).mono ?_; rintro e w2 ⟨rfl, b2⟩; have B2 : Hid (Below wb.heap.size wb w2) := Qc.from_drew.trans b2; clear b2) | (go_at_call 85; refine (HPL2.out _).mono ?_; rintro e w3 ⟨v3, rfl, r3, b3⟩; have B3 : Hid (Below wb.heap.size wb w3) := B2.out.trans (b3.mono B2.out.size); have R3 : Hid (RowB w3 v3 (plainBs kd vw sq i dg bd)) := r3; clear b3 r3) | (go_at_call 84; refine (HMC.out _ _ R3.out).mono ?_; rintro e w4 ⟨rfl, b4⟩; have B4 : Hid (Below wb.heap.size wb w4) := B3.out.trans (b4.mono B3.out.size); clear b4))
      all_goals
        have G4 : Hid (Below w.heap.size w w4) := (HX.out _ B4.out).2
        clear y0 y1 y2 y3 y4 y5 y6
        go_wp2_with fail
        go_ret
        exact ⟨ret_bool HE.out.symm, G4.out⟩
    · have HE : Hid (lB n kd vw sq i dg bd mc = false) := by show _ = _; unfold lB; rw [hq, decide_eq_false hn]; rfl
      clear hm hd hb hq
      have hn' : decide ((i : Int) < n) = false := decide_eq_false hn
      go_enter Tryz.func66, Tryz.ntmps66
      go_upto_region 1 with fail
      generalize w.alloc (.cells #[.int .i64 kd, .int .i64 vw, .int .i64 sq, .int .i64 i, .string dg, .string bd, .string mc] 26) = wb at HX ⊢
      obtain ⟨X, hX, W, QI0, QO0⟩ := Qc.klass wb
      have QI : Hid (∀ w', Below wb.heap.size wb w' → ∃ x, w' = W x) := QI0
      have QO : Hid (∀ x, Below wb.heap.size wb (W x)) := QO0
      clear QI0 QO0
      have y0 := fun q => (HX.out _ (QO.out q)).1.1
      have y1 := fun q => (HX.out _ (QO.out q)).1.2.1
      have y2 := fun q => (HX.out _ (QO.out q)).1.2.2.1
      have y3 := fun q => (HX.out _ (QO.out q)).1.2.2.2.1
      have y4 := fun q => (HX.out _ (QO.out q)).1.2.2.2.2.1
      have y5 := fun q => (HX.out _ (QO.out q)).1.2.2.2.2.2.1
      have y6 := fun q => (HX.out _ (QO.out q)).1.2.2.2.2.2.2
      refine Qc.region_class (W := W) (by kernel_rfl) (by kernel_rfl) (QI.out _ Qc.from_drew) ?_
      repeat (go_big_quiet_step (first | (go_at_call 103; refine (HOK.out _).mono ?_; rintro e w2 ⟨rfl, b2⟩; exact ⟨rfl, Qc.back QI.out QO.out b2⟩)))
      refine wpQuiet_nil ?_
      rintro _ ⟨xq, rfl⟩
      have G2 : Hid (Below w.heap.size w (W xq)) := (HX.out _ (QO.out xq)).2
      clear y0 y1 y2 y3 y4 y5 y6
      generalize W xq = wq at G2 ⊢
      go_wp2_with fail
      go_ret
      exact ⟨ret_bool HE.out.symm, G2.out⟩
set_option maxRecDepth 100000 in
set_option maxHeartbeats 1600000 in
theorem implMessageSigned_any (n kd vw sq fr : Int) (dg bd mc : ByteArray) (w : World) (hK : KTab w) (hp : 0 < w.heap.size) :
    Calls Tryz.prog 60 #[.int .i64 n, msgV kd vw sq fr dg bd mc] w fun e w' => e = .returned (.bool (gB n kd vw sq fr dg bd mc)) ∧ Below w.heap.size w w' := by
  unfold msgV
  have HX : Hid (∀ W, Below (w.alloc (.cells #[.int .i64 kd, .int .i64 vw, .int .i64 sq, .int .i64 fr, .string dg, .string bd, .string mc] 26)).heap.size (w.alloc (.cells #[.int .i64 kd, .int .i64 vw, .int .i64 sq, .int .i64 fr, .string dg, .string bd, .string mc] 26)) W → (W.cell? ⟨w.heap.size, 0, none⟩ = some (.int .i64 kd) ∧ W.cell? ⟨w.heap.size, 1, none⟩ = some (.int .i64 vw) ∧ W.cell? ⟨w.heap.size, 2, none⟩ = some (.int .i64 sq) ∧ W.cell? ⟨w.heap.size, 3, none⟩ = some (.int .i64 fr) ∧ W.cell? ⟨w.heap.size, 4, none⟩ = some (.string dg) ∧ W.cell? ⟨w.heap.size, 5, none⟩ = some (.string bd) ∧ W.cell? ⟨w.heap.size, 6, none⟩ = some (.string mc)) ∧ Below w.heap.size w W) := fun W hW => by
    have h1 := (hW.block w.heap.size (by simp)).trans (heap_alloc_new w _)
    exact ⟨⟨(blk_cell h1 0 rfl).1, (blk_cell h1 1 rfl).1, (blk_cell h1 2 rfl).1, (blk_cell h1 3 rfl).1, (blk_cell h1 4 rfl).1, (blk_cell h1 5 rfl).1, (blk_cell h1 6 rfl).1⟩, (bel_new w _).trans (hW.mono (by simp))⟩
  have GK : Hid (KTab w ∧ 0 < w.heap.size) := ⟨hK, hp⟩
  clear hK hp
  have HOK : Hid (∀ W, Calls Tryz.prog 95 #[.agg #[.int .i64 kd, .int .i64 vw, .int .i64 sq, .int .i64 fr, .string dg, .string bd, .string mc]] W fun e w' => e = .returned (.bool (msgB kd vw sq fr dg bd mc)) ∧ Below W.heap.size W w') := fun W => implMessageOK_any kd vw sq fr dg bd mc W
  have HE : Hid (gB n kd vw sq fr dg bd mc = (decide (fCode n = 0) && lB n kd vw sq fr dg bd mc)) := rfl
  have HF : Hid (∀ W, Calls Tryz.prog 26 #[.int .i64 n] W fun e w' => e = .returned (.tuple #[.int .i64 (fOut n), .int .i64 (fCode n)]) ∧ W = w') := fun W => (implFaultsOf_any n W).mono fun _ _ h => ⟨h.1, h.2.symm⟩
  generalize fOut n = fo at HF
  by_cases hc : fCode n = 0
  · rw [decide_eq_true hc] at HE
    rw [hc] at HF
    clear hc
    by_cases hn : fr < n
    · have hn' : decide (fr < n) = true := decide_eq_true hn
      cases hq : msgB kd vw sq fr dg bd mc with
      | false =>
        have HE2 : Hid (gB n kd vw sq fr dg bd mc = false) := by show _ = _; rw [HE.out]; unfold lB; rw [hq]; rfl
        rw [hq] at HOK
        clear HE GK
        go_enter Tryz.func60, Tryz.ntmps60
        go_upto_region 2 with (go_at_call 26; refine (HF.out _).mono ?_; rintro e w1 ⟨rfl, rfl⟩)
        generalize w.alloc (.cells #[.int .i64 kd, .int .i64 vw, .int .i64 sq, .int .i64 fr, .string dg, .string bd, .string mc] 26) = wb at HX ⊢
        obtain ⟨X, hX, W, QI0, QO0⟩ := Qc.klass wb
        have QI : Hid (∀ w', Below wb.heap.size wb w' → ∃ x, w' = W x) := QI0
        have QO : Hid (∀ x, Below wb.heap.size wb (W x)) := QO0
        clear QI0 QO0
        have y0 := fun q => (HX.out _ (QO.out q)).1.1
        have y1 := fun q => (HX.out _ (QO.out q)).1.2.1
        have y2 := fun q => (HX.out _ (QO.out q)).1.2.2.1
        have y3 := fun q => (HX.out _ (QO.out q)).1.2.2.2.1
        have y4 := fun q => (HX.out _ (QO.out q)).1.2.2.2.2.1
        have y5 := fun q => (HX.out _ (QO.out q)).1.2.2.2.2.2.1
        have y6 := fun q => (HX.out _ (QO.out q)).1.2.2.2.2.2.2
        refine Qc.region_class (W := W) (by kernel_rfl) (by kernel_rfl) (QI.out _ Qc.from_drew) ?_
        repeat (go_big_quiet_step (first | (go_at_call 95; refine (HOK.out _).mono ?_; rintro e w2 ⟨rfl, b2⟩; exact ⟨rfl, Qc.back QI.out QO.out b2⟩)))
        refine wpQuiet_nil ?_
        rintro _ ⟨xq, rfl⟩
        have G2 : Hid (Below w.heap.size w (W xq)) := (HX.out _ (QO.out xq)).2
        clear y0 y1 y2 y3 y4 y5 y6
        generalize W xq = wq at G2 ⊢
        go_wp2_with fail
        go_ret
        exact ⟨ret_bool HE2.out.symm, G2.out⟩
      | true =>
        rw [hq] at HOK
        obtain ⟨i, rfl, hi⟩ := from_nat hq
        have HE2 : Hid (gB n kd vw sq i dg bd mc = (mc.toList == (mmk kd vw sq i dg bd).toList)) := by show _ = _; rw [HE.out]; unfold lB; rw [hq, hn', beq_sym]; rfl
        have HMM : Hid (∀ W, Below w.heap.size w W → Calls Tryz.prog 96 #[.agg #[.int .i64 kd, .int .i64 vw, .int .i64 sq, .int .i64 i, .string dg, .string bd, .string mc]] W fun e w' => e = .returned (.string (mmk kd vw sq i dg bd)) ∧ Below W.heap.size W w') := fun W hW => messageMark_any kd vw sq i dg bd mc W hi hq (GK.out.1.below hW GK.out.2) (Nat.lt_of_lt_of_le GK.out.2 hW.size)
        obtain ⟨mk, HMK⟩ : ∃ mk, Hid (mmk kd vw sq i dg bd = mk) := ⟨_, rfl⟩
        rw [HMK.out] at HMM HE2
        clear HE GK hq
        go_enter Tryz.func60, Tryz.ntmps60
        go_upto_region 2 with (go_at_call 26; refine (HF.out _).mono ?_; rintro e w1 ⟨rfl, rfl⟩)
        generalize w.alloc (.cells #[.int .i64 kd, .int .i64 vw, .int .i64 sq, .int .i64 i, .string dg, .string bd, .string mc] 26) = wb at HX ⊢
        obtain ⟨X, hX, W, QI0, QO0⟩ := Qc.klass wb
        have QI : Hid (∀ w', Below wb.heap.size wb w' → ∃ x, w' = W x) := QI0
        have QO : Hid (∀ x, Below wb.heap.size wb (W x)) := QO0
        clear QI0 QO0
        have y0 := fun q => (HX.out _ (QO.out q)).1.1
        have y1 := fun q => (HX.out _ (QO.out q)).1.2.1
        have y2 := fun q => (HX.out _ (QO.out q)).1.2.2.1
        have y3 := fun q => (HX.out _ (QO.out q)).1.2.2.2.1
        have y4 := fun q => (HX.out _ (QO.out q)).1.2.2.2.2.1
        have y5 := fun q => (HX.out _ (QO.out q)).1.2.2.2.2.2.1
        have y6 := fun q => (HX.out _ (QO.out q)).1.2.2.2.2.2.2
        have HM2 : Hid (∀ q, Calls Tryz.prog 96 #[.agg #[.int .i64 kd, .int .i64 vw, .int .i64 sq, .int .i64 i, .string dg, .string bd, .string mc]] (W q) fun e w' => e = .returned (.string mk) ∧ Below (W q).heap.size (W q) w') := fun q => HMM.out _ (HX.out _ (QO.out q)).2
        clear HMM
        refine Qc.region_class (W := W) (by kernel_rfl) (by kernel_rfl) (QI.out _ Qc.from_drew) ?_
        repeat (go_big_quiet_step (first | (go_at_call 95; refine (HOK.out _).mono ?_; rintro e w2 ⟨rfl, b2⟩; exact ⟨rfl, Qc.back QI.out QO.out b2⟩) | (go_at_call 96; refine (HM2.out _).mono ?_; rintro e w2 ⟨rfl, b2⟩; exact ⟨rfl, Qc.back QI.out QO.out b2⟩)))
        refine wpQuiet_nil ?_
        rintro _ ⟨xq, rfl⟩
        have G2 : Hid (Below w.heap.size w (W xq)) := (HX.out _ (QO.out xq)).2
        clear y0 y1 y2 y3 y4 y5 y6
        generalize W xq = wq at G2 ⊢
        go_wp2_with fail
        go_ret
        exact ⟨ret_bool HE2.out.symm, G2.out⟩
    · have hn' : decide (fr < n) = false := decide_eq_false hn
      have HE2 : Hid (gB n kd vw sq fr dg bd mc = false) := by show _ = _; rw [HE.out]; unfold lB; rw [hn']; cases msgB kd vw sq fr dg bd mc <;> rfl
      clear HE GK HOK
      go_enter Tryz.func60, Tryz.ntmps60
      go_upto_region 2 with (go_at_call 26; refine (HF.out _).mono ?_; rintro e w1 ⟨rfl, rfl⟩)
      generalize w.alloc (.cells #[.int .i64 kd, .int .i64 vw, .int .i64 sq, .int .i64 fr, .string dg, .string bd, .string mc] 26) = wb at HX ⊢
      obtain ⟨X, hX, W, QI0, QO0⟩ := Qc.klass wb
      have QI : Hid (∀ w', Below wb.heap.size wb w' → ∃ x, w' = W x) := QI0
      have QO : Hid (∀ x, Below wb.heap.size wb (W x)) := QO0
      clear QI0 QO0
      have y0 := fun q => (HX.out _ (QO.out q)).1.1
      have y1 := fun q => (HX.out _ (QO.out q)).1.2.1
      have y2 := fun q => (HX.out _ (QO.out q)).1.2.2.1
      have y3 := fun q => (HX.out _ (QO.out q)).1.2.2.2.1
      have y4 := fun q => (HX.out _ (QO.out q)).1.2.2.2.2.1
      have y5 := fun q => (HX.out _ (QO.out q)).1.2.2.2.2.2.1
      have y6 := fun q => (HX.out _ (QO.out q)).1.2.2.2.2.2.2
      refine Qc.region_class (W := W) (by kernel_rfl) (by kernel_rfl) (QI.out _ Qc.from_drew) ?_
      repeat (go_big_quiet_step (first | (go_at_call 95; refine (HX.out _).mono ?_; rintro e w2 ⟨rfl, b2⟩; exact ⟨rfl, Qc.back QI.out QO.out b2⟩)))
      refine wpQuiet_nil ?_
      rintro _ ⟨xq, rfl⟩
      have G2 : Hid (Below w.heap.size w (W xq)) := (HX.out _ (QO.out xq)).2
      clear y0 y1 y2 y3 y4 y5 y6
      generalize W xq = wq at G2 ⊢
      go_wp2_with fail
      go_ret
      exact ⟨ret_bool HE2.out.symm, G2.out⟩
  · rw [decide_eq_false hc] at HE
    have HE2 : Hid (gB n kd vw sq fr dg bd mc = false) := HE.out
    have h4 : fCode n = 4 := by
      rcases f_cases n with rfl | rfl | rfl | ⟨_, _, _, _, hd⟩
      · exact absurd rfl hc
      · exact absurd rfl hc
      · exact absurd rfl hc
      · exact hd
    rw [h4] at HF
    clear hc h4 HE GK HOK
    go_enter Tryz.func60, Tryz.ntmps60
    go_upto_region 2 with (go_at_call 26; refine (HF.out _).mono ?_; rintro e w1 ⟨rfl, rfl⟩)
    generalize w.alloc (.cells #[.int .i64 kd, .int .i64 vw, .int .i64 sq, .int .i64 fr, .string dg, .string bd, .string mc] 26) = wb at HX ⊢
    obtain ⟨X, hX, W, QI0, QO0⟩ := Qc.klass wb
    have QI : Hid (∀ w', Below wb.heap.size wb w' → ∃ x, w' = W x) := QI0
    have QO : Hid (∀ x, Below wb.heap.size wb (W x)) := QO0
    clear QI0 QO0
    have y0 := fun q => (HX.out _ (QO.out q)).1.1
    have y1 := fun q => (HX.out _ (QO.out q)).1.2.1
    have y2 := fun q => (HX.out _ (QO.out q)).1.2.2.1
    have y3 := fun q => (HX.out _ (QO.out q)).1.2.2.2.1
    have y4 := fun q => (HX.out _ (QO.out q)).1.2.2.2.2.1
    have y5 := fun q => (HX.out _ (QO.out q)).1.2.2.2.2.2.1
    have y6 := fun q => (HX.out _ (QO.out q)).1.2.2.2.2.2.2
    refine Qc.region_class (W := W) (by kernel_rfl) (by kernel_rfl) (QI.out _ Qc.from_drew) ?_
    repeat (go_big_quiet_step (first | (go_at_call 95; refine (HX.out _).mono ?_; rintro e w2 ⟨rfl, b2⟩; exact ⟨rfl, Qc.back QI.out QO.out b2⟩)))
    refine wpQuiet_nil ?_
    rintro _ ⟨xq, rfl⟩
    have G2 : Hid (Below w.heap.size w (W xq)) := (HX.out _ (QO.out xq)).2
    clear y0 y1 y2 y3 y4 y5 y6
    generalize W xq = wq at G2 ⊢
    go_wp2_with fail
    go_ret
    exact ⟨ret_bool HE2.out.symm, G2.out⟩
end Go.Proofs.YtkfiahemgdppfaaGreatDoor.Si

/- Votes: plain facts on who signed, who rises, how many there are. -/
namespace Go.Proofs.YtkfiahemgdppfaaGreatDoor.Vt
open Go.RowKit Go.Proofs.YtkfiahemgdppfaaGreatDoor.Gm Go.Proofs.YtkfiahemgdppfaaGreatDoor.Si Go.Proofs.YtkfiahemgdppfaaGreatDoor.Tm Go.Proofs.YtkfiahemgdppfaaGreatDoor.Ms
open Go.Proofs.YtkfiahemgdppfaaGreatDoor.Qm (qOut)

noncomputable def bOf (p : Prop) : Bool := @decide p (Classical.propDecidable p)
theorem bOf_true {p : Prop} (h : p) : bOf p = true := by unfold bOf; simp [h]
theorem bOf_false {p : Prop} (h : ¬ p) : bOf p = false := by unfold bOf; simp [h]
theorem bOf_iff {p : Prop} : bOf p = true ↔ p := by unfold bOf; simp
theorem bOf_eq {p : Prop} {b : Bool} (h : b = true ↔ p) : b = bOf p := by
  cases b with
  | true => exact (bOf_true (h.1 rfl)).symm
  | false => exact (bOf_false (fun hp => by have := h.2 hp; cases this)).symm
/-- A message is signed; it is a vote; the vote. -/
def sg (n : Int) (x : Mg) : Bool := gB n x.kd x.vw x.sq x.fr x.dg x.bd x.mc
def isV (n : Int) (x : Mg) : Bool := sg n x && ((x.kd == 2) || (x.kd == 4))
def prV (x : Mg) : Value := .iface 108 (.agg #[.int .i64 x.fr, .int .i64 x.vw, .int .i64 x.sq, .string x.dg])
def chV (x : Mg) : Value := .iface 102 (.agg #[.int .i64 x.fr, .int .i64 x.vw, .string x.bd])
def votV (n : Int) (x : Mg) : Value := if sg n x then (if x.kd = 2 then prV x else if x.kd = 4 then chV x else .nilIface) else .nilIface
theorem sg_eq {n : Int} {x : Mg} (h : fCode n = 0) : sg n x = lB n x.kd x.vw x.sq x.fr x.dg x.bd x.mc := by
  unfold sg gB; rw [decide_eq_true h]; rfl
theorem sg_from {n : Int} {x : Mg} (h : sg n x = true) : fCode n = 0 ∧ ∃ i : Nat, x.fr = i ∧ i < 7 := by
  unfold sg gB at h
  rw [Bool.and_eq_true, decide_eq_true_eq] at h
  refine ⟨h.1, ?_⟩
  have h2 := h.2
  unfold lB at h2
  rw [Bool.and_eq_true] at h2
  exact from_nat h2.1
theorem isV_from {n : Int} {x : Mg} (h : isV n x = true) : fCode n = 0 ∧ ∃ i : Nat, x.fr = i ∧ i < 7 := by
  unfold isV at h
  rw [Bool.and_eq_true] at h
  exact sg_from h.1
def frn (x : Mg) : Nat := x.fr.toNat
theorem isV_frn {n : Int} {x : Mg} (h : isV n x = true) : x.fr = (frn x : Int) ∧ frn x < 7 := by
  obtain ⟨_, i, e, hi⟩ := isV_from h
  unfold frn
  rw [e]
  exact ⟨by simp, by simpa using hi⟩
/-- The set of the first k, as bits. -/
def msk (ms : List Mg) : Nat → Nat
  | 0 => 0
  | k + 1 => msk ms k ||| 2 ^ frn (ms.getD k default)
theorem msk_step {ms : List Mg} {k : Nat} {x : Mg} (h : ms[k]? = some x) : msk ms (k + 1) = msk ms k ||| 2 ^ frn x := by
  show msk ms k ||| 2 ^ frn (ms.getD k default) = _
  rw [List.getD_eq_getElem?_getD, h]; rfl
theorem or_add {h i : Nat} (hh : h < 2 ^ i) : h ||| 2 ^ i = 2 ^ i + h := by
  have := Nat.two_pow_add_eq_or_of_lt hh 1
  simp at this
  rw [this, Nat.or_comm]
theorem pop_step : ∀ h : Fin 128, ∀ i : Fin 7, h.val < 2 ^ i.val → Lib.onesCount (h.val ||| 2 ^ i.val) = Lib.onesCount h.val + 1 := by decide +kernel
theorem pop_zero : Lib.onesCount 0 = 0 := by decide +kernel
/-- The first k are votes, each behind all those ahead of it. -/
def GoodTo (n : Int) (ms : List Mg) (k : Nat) : Prop := ∀ j x, j < k → ms[j]? = some x → isV n x = true ∧ msk ms j < 2 ^ frn x
def Rise (ms : List Mg) (k : Nat) : Prop := ∀ j x y, j + 1 < k → ms[j]? = some x → ms[j + 1]? = some y → x.fr < y.fr
theorem GoodTo.zero (n : Int) (ms : List Mg) : GoodTo n ms 0 := fun j x h => by omega
theorem GoodTo.succ {n : Int} {ms : List Mg} {k : Nat} {x : Mg} (h : GoodTo n ms k) (hx : ms[k]? = some x) (h1 : isV n x = true) (h2 : msk ms k < 2 ^ frn x) : GoodTo n ms (k + 1) := fun j y hj hy => by
  by_cases e : j = k
  · subst e; rw [hx] at hy; cases hy; exact ⟨h1, h2⟩
  · exact h j y (by omega) hy
theorem GoodTo.less {n : Int} {ms : List Mg} {k m : Nat} (h : GoodTo n ms k) (hm : m ≤ k) : GoodTo n ms m := fun j y hj hy => h j y (by omega) hy
theorem pow_le7 {i : Nat} (h : i < 7) : 2 ^ i + 2 ^ i ≤ 128 := by
  have : ∀ i : Fin 7, 2 ^ i.val + 2 ^ i.val ≤ 128 := by decide
  exact this ⟨i, h⟩
theorem good_msk {n : Int} {ms : List Mg} : ∀ {k : Nat}, GoodTo n ms k → k ≤ ms.length → msk ms k < 128 ∧ Lib.onesCount (msk ms k) = k ∧ ∀ i, i ≤ 7 → ((∀ j x, j < k → ms[j]? = some x → frn x < i) ↔ msk ms k < 2 ^ i)
  | 0, _, _ => ⟨by show (0 : Nat) < 128; decide, pop_zero, fun i _ => ⟨fun _ => Nat.two_pow_pos i, fun _ j x h => by omega⟩⟩
  | k + 1, h, hk => by
    obtain ⟨x, hx⟩ := Rg.get_at (show k < ms.length by omega)
    obtain ⟨h1, h2, h3⟩ := good_msk (h.less (Nat.le_succ k)) (by omega)
    obtain ⟨g1, g2⟩ := h k x (by omega) hx
    obtain ⟨_, g3⟩ := isV_frn g1
    rw [msk_step hx]
    have e := or_add g2
    have p := pow_le7 g3
    refine ⟨by omega, ?_, fun i hi => ?_⟩
    · have := pop_step ⟨msk ms k, h1⟩ ⟨frn x, g3⟩ g2
      simp only at this
      rw [this, h2]
    · rw [e]
      constructor
      · intro hh
        have hf := hh k x (by omega) hx
        have : 2 ^ (frn x + 1) ≤ 2 ^ i := Nat.pow_le_pow_right (by decide) hf
        rw [Nat.pow_succ] at this
        omega
      · intro hh j y hj hy
        have hfi : frn x < i := by
          refine Nat.lt_of_not_le fun hle => ?_
          have : 2 ^ i ≤ 2 ^ frn x := Nat.pow_le_pow_right (by decide) hle
          omega
        by_cases ej : j = k
        · subst ej; rw [hx] at hy; cases hy; exact hfi
        · exact Nat.lt_trans ((h3 (frn x) (by omega)).2 g2 j y (by omega) hy) hfi
theorem good_all {n : Int} {ms : List Mg} : ∀ {k : Nat}, k ≤ ms.length → (GoodTo n ms k ↔ (∀ j x, j < k → ms[j]? = some x → isV n x = true) ∧ Rise ms k)
  | 0, _ => ⟨fun _ => ⟨fun j x h => by omega, fun j x y h => by omega⟩, fun _ => GoodTo.zero n ms⟩
  | k + 1, hk => by
    obtain ⟨x, hx⟩ := Rg.get_at (show k < ms.length by omega)
    have ih := good_all (n := n) (ms := ms) (show k ≤ ms.length by omega)
    constructor
    · intro h
      obtain ⟨a1, a2⟩ := ih.1 (h.less (Nat.le_succ k))
      refine ⟨fun j y hj hy => (h j y hj hy).1, fun j y z hj hy hz => ?_⟩
      by_cases ej : j + 1 = k
      · subst ej
        rw [hx] at hz; cases hz
        obtain ⟨g1, g2⟩ := h (j + 1) x (by omega) hx
        have g0 := (h j y (by omega) hy).1
        have := ((good_msk (h.less (Nat.le_succ (j + 1))) (by omega)).2.2 (frn x) (by have := (isV_frn g1).2; omega)).2 g2 j y (by omega) hy
        rw [(isV_frn g0).1, (isV_frn g1).1]
        omega
      · exact a2 j y z (by omega) hy hz
    · rintro ⟨a1, a2⟩
      have h := ih.2 ⟨fun j y hj hy => a1 j y (by omega) hy, fun j y z hj hy hz => a2 j y z (by omega) hy hz⟩
      refine h.succ hx (a1 k x (by omega) hx) ?_
      obtain ⟨_, _, h3⟩ := good_msk h (by omega)
      have g1 := a1 k x (by omega) hx
      refine (h3 (frn x) (by have := (isV_frn g1).2; omega)).1 fun j y hj hy => ?_
      by_cases ek : k = 0
      · omega
      obtain ⟨m, rfl⟩ : ∃ m, k = m + 1 := ⟨k - 1, by omega⟩
      obtain ⟨z, hz⟩ := Rg.get_at (show m < ms.length by omega)
      have hzx := a2 m z x (by omega) hz hx
      have gz := a1 m z (by omega) hz
      have hzx' : frn z < frn x := by rw [(isV_frn gz).1, (isV_frn g1).1] at hzx; omega
      by_cases ej : j = m
      · subst ej; rw [hz] at hy; cases hy; exact hzx'
      · have hp := (h m z (by omega) hz).2
        have := ((good_msk (h.less (Nat.le_succ m)) (by omega)).2.2 (frn z) (by have := (isV_frn gz).2; omega)).2 hp j y (by omega) hy
        omega
/-- Just a quorum of votes of different nodes, rising. -/
noncomputable def qvB (n : Int) (ms : List Mg) : Bool := bOf (GoodTo n ms ms.length) && (decide (fCode n = 0) && decide ((Lib.onesCount (msk ms ms.length) : Int) = qOut n))
theorem qv_not {n : Int} {ms : List Mg} {k : Nat} {x : Mg} (hx : ms[k]? = some x) (h : ¬ (isV n x = true ∧ msk ms k < 2 ^ frn x)) : qvB n ms = false := by
  unfold qvB
  rw [bOf_false (fun hg => h (hg k x (Rg.lt_at hx) hx))]; rfl
theorem qv_end {n : Int} {ms : List Mg} (h : GoodTo n ms ms.length) : qvB n ms = (decide (fCode n = 0) && decide ((Lib.onesCount (msk ms ms.length) : Int) = qOut n)) := by
  unfold qvB; rw [bOf_true h]; rfl
theorem qv_iff {n : Int} {ms : List Mg} : qvB n ms = true ↔ fCode n = 0 ∧ (ms.length : Int) = qOut n ∧ (∀ x ∈ ms, isV n x = true) ∧ Rise ms ms.length := by
  unfold qvB
  rw [Bool.and_eq_true, Bool.and_eq_true, bOf_iff, decide_eq_true_eq, decide_eq_true_eq]
  constructor
  · rintro ⟨h1, h2, h3⟩
    rw [(good_msk h1 (Nat.le_refl _)).2.1] at h3
    obtain ⟨a1, a2⟩ := (good_all (Nat.le_refl _)).1 h1
    refine ⟨h2, h3, fun x hx => ?_, a2⟩
    obtain ⟨j, hj, e⟩ := List.getElem_of_mem hx
    exact a1 j x hj (by rw [List.getElem?_eq_getElem hj, e])
  · rintro ⟨h1, h2, h3, h4⟩
    have hg : GoodTo n ms ms.length := (good_all (Nat.le_refl _)).2 ⟨fun j x hj hx => h3 x (List.mem_of_getElem? hx), h4⟩
    refine ⟨hg, h1, ?_⟩
    rw [(good_msk hg (Nat.le_refl _)).2.1]
    exact h2
/-- Votes in a slice of one's own. -/
def OwnV (w : World) (B : Nat) (v : Value) (xs : List Value) : Prop := w.ownsRow B 67 1 v xs.length xs
def vts (n : Int) (ms : List Mg) : List Value := ms.map (votV n)
theorem vts_step {n : Int} {ms : List Mg} {k : Nat} {x : Mg} (h : ms[k]? = some x) : vts n (ms.take (k + 1)) = vts n (ms.take k) ++ [votV n x] := by
  unfold vts; rw [List.take_add_one, h]; simp
theorem OwnV.kept {w w' : World} {B : Nat} {v : Value} {ms : List Value} (h : OwnV w B v ms) (hk : ∀ g, v.ownBlock = some g → w'.heap[g]? = w.heap[g]?) : OwnV w' B v ms := by
  obtain ⟨hl, h⟩ := h
  refine ⟨hl, ?_⟩
  rcases h with h | ⟨g, cap, cur, rfl, h1, hg, h2⟩
  · exact .inl h
  · exact .inr ⟨g, cap, cur, rfl, h1, (hk g rfl).trans hg, h2⟩
theorem OwnV.slice {w : World} {B : Nat} {v : Value} {ms : List Value} (h : OwnV w B v ms) : ∃ a cap, v = .slice a ms.length cap := by
  obtain ⟨hl, h⟩ := h
  rcases h with ⟨rfl, h0⟩ | ⟨g, cap, cur, rfl, h1, hg, h2⟩
  · exact ⟨none, 0, by rw [h0]⟩
  · exact ⟨_, cap, rfl⟩
theorem OwnV.at {w : World} {B : Nat} {a : Option Addr} {l cap : Nat} {ms : List Value} {i : Nat} {x : Value} (h : OwnV w B (.slice a l cap) ms) (hi : ms[i]? = some x) : ∃ g, a = some ⟨g, 0, none⟩ ∧ g < w.heap.size ∧ w.cell? ⟨g, i, none⟩ = some x := by
  obtain ⟨hl, h⟩ := h
  have hil := Rg.lt_at hi
  rcases h with ⟨_, h0⟩ | ⟨g, cap', cur, e, hB, hg, hc, _, hs, htk⟩
  · omega
  · cases e
    refine ⟨g, rfl, (Array.getElem?_eq_some_iff.1 hg).1, ?_⟩
    rw [Joins.cell_of_block hg, ← Array.getElem?_toList]
    rw [← htk, List.getElem?_take] at hi
    split at hi
    · exact hi
    · cases hi
theorem OwnV.lt {w : World} {B : Nat} {v : Value} {ms : List Value} (h : OwnV w B v ms) : ∀ g, v.ownBlock = some g → B ≤ g ∧ g < w.heap.size := World.ownsRow.lt h
theorem OwnV.below {w w' : World} {B : Nat} {v : Value} {ms : List Value} (h : OwnV w B v ms) (hb : Below w.heap.size w w') : OwnV w' B v ms := h.kept fun g hg => hb.block g (h.lt g hg).2
theorem OwnV.nil (w : World) (B : Nat) : OwnV w B (.slice none 0 0) [] := World.ownsRow_nil _ _ _ _
theorem info_v : (Tryz.prog.info? 67).map (fun i => (i.zero, i.size, i.bytes)) = some (some .nilIface, 1, 16) := by kernel_rfl
end Go.Proofs.YtkfiahemgdppfaaGreatDoor.Vt
