/-
  impl.MessageBytes answers at every message just what the specification's MessageBytes answers; its answer owns its memory.
  Conditions: none beyond the given row's own.
-/
import Derived.Test.YtgbdmclpnkaihabOpm
import Derived.Test.YtgbdmclpnkaihabMsgPut
import Derived.Test.YtgbdmclpnkaihabMark
import Derived.WalkKit
import Derived.ProofKit
import Derived.OpenShut
import Derived.ShutString
import Derived.ChangeOld
import Derived.Below
namespace Go.Proofs.Ytgbdmclpnkaihab.fnExactMessageBytes
open Go.ChangeShapes Go.WideShapes Go.ChangeAt Go.RowKit
open Go.ChangeMaps (open_string shut_string)

theorem own : ownKnob Try.prog.godebug = none := by kernel_rfl
theorem laidOut : laidOutB Try.prog = true := by kernel_rfl

open Go.Proofs.Ytgbdmclpnkaihab.Rq Go.Proofs.Ytgbdmclpnkaihab.Rp Go.Proofs.Ytgbdmclpnkaihab.Ap Go.Proofs.Ytgbdmclpnkaihab.By Go.Proofs.Ytgbdmclpnkaihab.Sl Go.Proofs.Ytgbdmclpnkaihab.Mk Go.Proofs.Ytgbdmclpnkaihab.Ms Go.Proofs.Ytgbdmclpnkaihab.Mp
theorem out_range (kd vw sq fr : Int) (dg bd mc : ByteArray) : ∀ z ∈ msgOut kd vw sq fr dg bd mc, 0 ≤ z ∧ z ≤ 255 := by
  unfold msgOut
  split
  · exact msgBs_range _ _ _ _ _ _ _
  · intro z hz; cases hz
theorem out_small (kd vw sq fr : Int) (dg bd mc : ByteArray) : (msgOut kd vw sq fr dg bd mc).length ≤ 1048576 := by
  unfold msgOut
  split
  · rename_i h
    rw [msgBs_length]
    have := msg_small h
    omega
  · simp
set_option maxHeartbeats 1600000 in
/-- THE WALK: both functions answer alike; the answer owns its memory, behind another call too. -/
theorem walk (kd vw sq fr : Int) (dg bd mc : ByteArray) (hd : dg.size ≤ maxLen) (hb : bd.size ≤ maxLen) (hm : mc.size ≤ maxLen) (w : World) :
    Calls Try.prog 4 #[msgV kd vw sq fr dg bd mc] w fun e w' => e = .returned (.bool true) ∧ Below w.heap.size w w' := by
  by_cases hbig : (1048576 : Int) < ((dg.size + bd.size + mc.size : Nat) : Int)
  · have HL : lft 1048576 ((dg.size + bd.size + mc.size : Nat) : Int) = -1 := lft_no hbig
    go_enter Try.func4, Try.ntmps4
    unfold msgV
    go_wp2_with fail
    refine (szMessage_any kd vw sq fr dg bd mc _ hd hb hm).mono ?_
    rintro e w1 ⟨rfl, b1⟩
    have g1 := box_first b1
    clear b1
    rw [HL]
    go_wp2_with fail
    go_ret
    exact ⟨rfl, box_old g1⟩
  obtain ⟨lf, HL, hlf⟩ : ∃ lf, Hid (lft 1048576 ((dg.size + bd.size + mc.size : Nat) : Int) = lf) ∧ 0 ≤ lf := ⟨_, rfl, by rw [lft_yes hbig]; omega⟩
  have HR := out_range kd vw sq fr dg bd mc
  have HZ := out_small kd vw sq fr dg bd mc
  obtain ⟨xs, HX⟩ : ∃ xs, Hid (msgOut kd vw sq fr dg bd mc = xs) := ⟨_, rfl⟩
  obtain ⟨code, HC⟩ : ∃ code, Hid (msgCode kd vw sq fr dg bd mc = code) := ⟨_, rfl⟩
  rw [HX.out] at HR HZ
  have hcc : (code != code) = false := by simp
  have hml : ¬ ((1 : Int) + (xs.length : Int) < 0) := by omega
  have hmm : (((1 : Int) + (xs.length : Int)) != (1 : Int) + (xs.length : Int)) = false := by simp
  have GR : Hid (∀ z ∈ xs, 0 ≤ z ∧ z ≤ 255) := HR
  have GZ : Hid (xs.length ≤ 1048576) := HZ
  clear HR HZ
  go_enter Try.func4, Try.ntmps4
  unfold msgV
  go_wp2_with fail
  refine (szMessage_any kd vw sq fr dg bd mc _ hd hb hm).mono ?_
  rintro e w1 ⟨rfl, b1⟩
  rw [HL.out]
  have g1 := box_first b1
  obtain ⟨q0, q1, q2, q3, q4, q5, q6⟩ := msg_box g1
  clear b1
  go_wp2_with fail
  refine (toMessage_any kd vw sq fr dg bd mc _).mono ?_
  rintro e w2 ⟨rfl, b2⟩
  have g2 := box_next g1 b2
  clear b2 q0 q1 q2 q3 q4 q5 q6 g1
  go_wp2_with fail
  refine (specMessageBytes_any kd vw sq fr dg bd mc _).mono ?_
  rintro e w3 ⟨v3, rfl, o3, b3⟩
  rw [HX.out] at o3
  rw [HC.out]
  have g3 := box_next g2 b3
  have r3 : Hid (RowB w3 v3 xs) := own_rowB o3 GR.out
  obtain ⟨q0, q1, q2, q3, q4, q5, q6⟩ := msg_box g3
  clear b3 g2 o3
  go_wp2_with fail
  refine (toMessage_any kd vw sq fr dg bd mc _).mono ?_
  rintro e w4 ⟨rfl, b4⟩
  have g4 := box_next g3 b4
  have r4 : Hid (RowB w4 v3 xs) := r3.out.below b4
  clear b4 q0 q1 q2 q3 q4 q5 q6 g3 r3
  go_wp2_with fail
  refine (implMessageBytes_any kd vw sq fr dg bd mc _).mono ?_
  rintro e w5 ⟨v5, rfl, o5, b5⟩
  rw [HX.out] at o5
  rw [HC.out]
  have g5 := box_next g4 b5
  have r5 : Hid (RowB w5 v3 xs) := r4.out.below b5
  have O5 : Hid (OwnB 5 w5 w4.heap.size v5 xs) := o5
  have R5 : Hid (RowB w5 v5 xs) := own_rowB o5 GR.out
  have S4 : Hid (w.heap.size + 1 ≤ w4.heap.size) := Nat.le_trans (Nat.le_of_eq (size_new _ _).symm) g4.size
  have M4 : Hid (Below w4.heap.size w4 w5) := b5
  clear o5 g4 b5
  go_wp2_with fail
  refine (eqByteS_same _ _ xs _ R5.out r5.out GZ.out).mono ?_
  rintro e w6 ⟨rfl, b6⟩
  have g6 := box_next g5 b6
  have O6 : Hid (OwnB 5 w6 w4.heap.size v5 xs) := own_below O5.out b6
  have r6 : Hid (RowB w6 v3 xs) := r5.out.below b6
  have r46 : Hid (Below w4.heap.size w4 w6) := andThen M4.out (Nat.le_refl _) b6
  clear b6 g5 r5 O5 R5 M4
  go_wp2_with fail
  refine (markByteS_any _ xs 1 w4.heap.size _ O6.out (by decide) (by decide) (by have := GZ.out; omega)).mono ?_
  rintro e w7 ⟨rfl, o7, k7⟩
  have b67 : Below w4.heap.size w6 w7 := k7.below O6.out r46.out.size
  have g7 := g6.trans (b67.mono S4.out)
  have r47 : Hid (Below w4.heap.size w4 w7) := r46.out.trans b67
  have r7 : Hid (RowB w7 v3 xs) := r4.out.below r47.out
  have R7 : Hid (RowB w7 v5 (marks 1 xs.length)) := own_rowB o7 (marks_range _ _)
  clear b67 k7 o7 O6 r6 r46 r4 g6
  go_wp2_with fail
  refine (heldByteS_any _ xs.length 1 _ R7.out (by decide) (by decide) (by have := GZ.out; omega)).mono ?_
  rintro e w7' ⟨rfl, rfl⟩
  obtain ⟨q0, q1, q2, q3, q4, q5, q6⟩ := msg_box g7
  go_wp2_with fail
  refine (toMessage_any kd vw sq fr dg bd mc _).mono ?_
  rintro e w8 ⟨rfl, b8⟩
  have g8 := box_next g7 b8
  have r8 : Hid (RowB w8 v3 xs) := r7.out.below b8
  have R8 : Hid (RowB w8 v5 (marks 1 xs.length)) := R7.out.below b8
  clear b8 q0 q1 q2 q3 q4 q5 q6 g7 r7 R7 r47
  go_wp2_with fail
  refine (implMessageBytes_any kd vw sq fr dg bd mc _).mono ?_
  rintro e w9 ⟨v9, rfl, o9, b9⟩
  rw [HX.out] at o9
  rw [HC.out]
  have g9 := box_next g8 b9
  have r9 : Hid (RowB w9 v3 xs) := r8.out.below b9
  have R9 : Hid (RowB w9 v5 (marks 1 xs.length)) := R8.out.below b9
  have P9 : Hid (RowB w9 v9 xs) := own_rowB o9 GR.out
  clear b9 g8 r8 R8 o9
  go_wp2_with fail
  refine (eqByteS_same _ _ xs _ P9.out r9.out GZ.out).mono ?_
  rintro e w10 ⟨rfl, b10⟩
  have g10 := box_next g9 b10
  have R10 : Hid (RowB w10 v5 (marks 1 xs.length)) := R9.out.below b10
  clear b10 g9 r9 R9 P9
  go_wp2_with fail
  refine (heldByteS_any _ xs.length 1 _ R10.out (by decide) (by decide) (by have := GZ.out; omega)).mono ?_
  rintro e w11 ⟨rfl, rfl⟩
  go_wp2_with fail
  go_ret
  exact ⟨rfl, box_old g10⟩

/-! ### THE ROW's STEP -/
set_option maxRecDepth 100000 in
theorem lifted (os : Os) (started : os.Started) (H : Type) (enc : TypeId × Value → H) :
    ReturnsInHanded {} Try.checked os 4 .any (Rows.fnExactMessageBytesSpec.pre6 enc Try.prog Try.f4 Rows.fnExactMessageBytesRow.domain false) (Rows.fnExactMessageBytesSpec.post enc Try.prog Try.f4 false true false false) := by
  refine returnsInHanded_of_change (C := Try.checked) own started (by kernel_rfl) Try.func4
    (ChangeSpec.witness6 (enc := enc) (C := Try.checked) false ⟨#[], #[.agg #[.int .i64 0, .int .i64 0, .int .i64 0, .int .i64 0, .string ByteArray.empty, .string ByteArray.empty, .string ByteArray.empty]], []⟩ 8 (by kernel_rfl) (by kernel_rfl) (by kernel_rfl) (by kernel_rfl)) ?_
  intro W base args ds gs before hval0 hW hcnd _
  have hval : ∀ (j : Nat) t v, Try.f4.params[j]? = some t → args[j]? = some v → Value.okWide Try.prog W .any base t v := hval0
  have hW' := hW
  obtain ⟨p, q, hA0, hV, rfl, hfz, hnd⟩ := hW
  have hA : DataW.TrodAll enc Try.prog W 0 (fun _ => true) true Try.f4.params.toList args.toList ds p := hA0
  rw [Try.params4] at hA hval
  obtain ⟨v0, vs0, d0, ds0, p0, q0, hargs, rfl, rfl, h0, r0⟩ := trodAll_cons hA
  obtain ⟨rfl, rfl, rfl⟩ := trodAll_nil r0
  obtain rfl : args = #[v0] := by cases args; simp_all
  obtain ⟨rfl, rfl⟩ := trodVars_none hV
  have k00 := h0
  have lt0 : ∀ x ∈ p0, x.block < W.heap.size := by obtain ⟨m, hm⟩ := k00; exact DataW.trod_lt m _ _ _ hm
  obtain ⟨kd0, vw0, sq0, fr0, dg0, bd0, mc0, rfl, hd0, hb0, hm0⟩ := Op.open_msg (hval 0 23 v0 rfl rfl) h0
  clear hA0 hval0
  refine (walk kd0 vw0 sq0 fr0 dg0 bd0 mc0 hd0 hb0 hm0 W).mono fun e W' ⟨he, bel⟩ => ?_
  subst he
  exact ⟨_, rfl, _, _, _, [], _, [], hW', trodAll_mk1 (shut_bool Try.underlying4 _), (trodAll_cons_mk (Below.trod laidOut (by kernel_rfl) (of_decide_eq_true (by kernel_rfl)) k00 bel lt0) trodAll_mk0), rfl, bel.frame _, fun h => by cases h⟩

theorem over : Rows.fnExactMessageBytesRow.holds Try.pinned (OpenSpec.ofChange Rows.fnExactMessageBytesSpec) :=
  OpenClaim.holds_of_wide 4 Try.f4 rfl rfl rfl rfl rfl rfl rfl ⟨rfl, rfl, rfl, rfl, rfl⟩ rfl rfl rfl rfl rfl (by kernel_rfl) Try.func4 (by kernel_rfl)
    (of_decide_eq_true (by kernel_rfl)) (by unfold Func.isWrapper; first | (rw [if_pos (by decide +kernel)]; kernel_rfl) | (rw [if_neg (by decide +kernel)]; exact ⟨rfl, rfl⟩))
    (fun os started H enc _ => lifted os started H enc)

end Go.Proofs.Ytgbdmclpnkaihab.fnExactMessageBytes
namespace Go.Proofs.Ytgbdmclpnkaihab
/-- THE STATEMENT. -/
theorem fnExactMessageBytes_holds : Rows.FnExactMessageBytesSaid := fnExactMessageBytes.over
end Go.Proofs.Ytgbdmclpnkaihab
