/-
  impl.MessageOK answers at every message just what the specification's MessageOK answers.
  Conditions: none beyond the given row's own.
-/
import Derived.Test.YtgbdmclpnkaihabOpm
import Derived.WalkKit
import Derived.ProofKit
import Derived.OpenShut
import Derived.ShutString
import Derived.ChangeOld
import Derived.Below
namespace Go.Proofs.Ytgbdmclpnkaihab.fnExactMessageOK
open Go.ChangeShapes Go.WideShapes Go.ChangeAt Go.RowKit
open Go.ChangeMaps (open_string shut_string)

theorem own : ownKnob Try.prog.godebug = none := by kernel_rfl
theorem laidOut : laidOutB Try.prog = true := by kernel_rfl

open Go.Proofs.Ytgbdmclpnkaihab.Rq Go.Proofs.Ytgbdmclpnkaihab.Ms
set_option maxHeartbeats 400000 in
/-- THE WALK: both functions answer alike. -/
theorem walk (kd vw sq fr : Int) (dg bd mc : ByteArray) (hd : dg.size ≤ maxLen) (hb : bd.size ≤ maxLen) (hm : mc.size ≤ maxLen) (w : World) :
    Calls Try.prog 3 #[msgV kd vw sq fr dg bd mc] w fun e w' => e = .returned (.bool true) ∧ Below w.heap.size w w' := by
  by_cases hbig : (1048576 : Int) < ((dg.size + bd.size + mc.size : Nat) : Int)
  · have HL : lft 1048576 ((dg.size + bd.size + mc.size : Nat) : Int) = -1 := lft_no hbig
    go_enter Try.func3, Try.ntmps3
    unfold msgV
    go_wp2_with fail
    refine (szMessage_any kd vw sq fr dg bd mc _ hd hb hm).mono ?_
    rintro e w1 ⟨rfl, b1⟩
    have g1 := box_first b1
    clear b1
    rw [HL]
    go_wp2_with fail
    go_ret
    exact ⟨rfl, box_old g1⟩
  · obtain ⟨lf, HL, hlf⟩ : ∃ lf, Hid (lft 1048576 ((dg.size + bd.size + mc.size : Nat) : Int) = lf) ∧ 0 ≤ lf := ⟨_, rfl, by rw [lft_yes hbig]; omega⟩
    go_enter Try.func3, Try.ntmps3
    unfold msgV
    go_wp2_with fail
    refine (szMessage_any kd vw sq fr dg bd mc _ hd hb hm).mono ?_
    rintro e w1 ⟨rfl, b1⟩
    have g1 := box_first b1
    rw [HL.out]
    obtain ⟨q0, q1, q2, q3, q4, q5, q6⟩ := msg_box g1
    clear b1
    go_wp2_with fail
    refine (toMessage_any kd vw sq fr dg bd mc _).mono ?_
    rintro e w2 ⟨rfl, b2⟩
    have g2 := box_next g1 b2
    clear b2 q0 q1 q2 q3 q4 q5 q6 g1
    go_wp2_with fail
    refine (specMessageOK_any kd vw sq fr dg bd mc _).mono ?_
    rintro e w3 ⟨rfl, b3⟩
    have g3 := box_next g2 b3
    obtain ⟨q0, q1, q2, q3, q4, q5, q6⟩ := msg_box g3
    clear b3 g2
    go_wp2_with fail
    refine (toMessage_any kd vw sq fr dg bd mc _).mono ?_
    rintro e w4 ⟨rfl, b4⟩
    have g4 := box_next g3 b4
    clear b4 q0 q1 q2 q3 q4 q5 q6 g3
    go_wp2_with fail
    refine (implMessageOK_any kd vw sq fr dg bd mc _).mono ?_
    rintro e w5 ⟨rfl, b5⟩
    have g5 := box_next g4 b5
    clear b5 g4
    have hq : (msgB kd vw sq fr dg bd mc != msgB kd vw sq fr dg bd mc) = false := by simp
    go_wp2_with fail
    go_ret
    exact ⟨rfl, box_old g5⟩

/-! ### THE ROW's STEP -/
set_option maxRecDepth 100000 in
theorem lifted (os : Os) (started : os.Started) (H : Type) (enc : TypeId × Value → H) :
    ReturnsInHanded {} Try.checked os 3 .any (Rows.fnExactMessageOKSpec.pre6 enc Try.prog Try.f3 Rows.fnExactMessageOKRow.domain false) (Rows.fnExactMessageOKSpec.post enc Try.prog Try.f3 false true false false) := by
  refine returnsInHanded_of_change (C := Try.checked) own started (by kernel_rfl) Try.func3
    (ChangeSpec.witness6 (enc := enc) (C := Try.checked) false ⟨#[], #[.agg #[.int .i64 0, .int .i64 0, .int .i64 0, .int .i64 0, .string ByteArray.empty, .string ByteArray.empty, .string ByteArray.empty]], []⟩ 8 (by kernel_rfl) (by kernel_rfl) (by kernel_rfl) (by kernel_rfl)) ?_
  intro W base args ds gs before hval0 hW hcnd _
  have hval : ∀ (j : Nat) t v, Try.f3.params[j]? = some t → args[j]? = some v → Value.okWide Try.prog W .any base t v := hval0
  have hW' := hW
  obtain ⟨p, q, hA0, hV, rfl, hfz, hnd⟩ := hW
  have hA : DataW.TrodAll enc Try.prog W 0 (fun _ => true) true Try.f3.params.toList args.toList ds p := hA0
  rw [Try.params3] at hA hval
  obtain ⟨v0, vs0, d0, ds0, p0, q0, hargs, rfl, rfl, h0, r0⟩ := trodAll_cons hA
  obtain ⟨rfl, rfl, rfl⟩ := trodAll_nil r0
  obtain rfl : args = #[v0] := by cases args; simp_all
  obtain ⟨rfl, rfl⟩ := trodVars_none hV
  have k00 := h0
  have lt0 : ∀ x ∈ p0, x.block < W.heap.size := by obtain ⟨m, hm⟩ := k00; exact DataW.trod_lt m _ _ _ hm
  obtain ⟨kd0, vw0, sq0, fr0, dg0, bd0, mc0, rfl, hd0, hb0, hm0⟩ := Op.open_msg (hval 0 23 v0 rfl rfl) h0
  clear hA0 hval0
  refine (walk kd0 vw0 sq0 fr0 dg0 bd0 mc0 hd0 hb0 hm0 W).mono fun e W' ⟨he, bel⟩ => ?_
  subst he
  exact ⟨_, rfl, _, _, _, [], _, [], hW', trodAll_mk1 (shut_bool Try.underlying4 _), (trodAll_cons_mk (Below.trod laidOut (by kernel_rfl) (of_decide_eq_true (by kernel_rfl)) k00 bel lt0) trodAll_mk0), rfl, bel.frame _, fun h => by cases h⟩

theorem over : Rows.fnExactMessageOKRow.holds Try.pinned (OpenSpec.ofChange Rows.fnExactMessageOKSpec) :=
  OpenClaim.holds_of_wide 3 Try.f3 rfl rfl rfl rfl rfl rfl rfl ⟨rfl, rfl, rfl, rfl, rfl⟩ rfl rfl rfl rfl rfl (by kernel_rfl) Try.func3 (by kernel_rfl)
    (of_decide_eq_true (by kernel_rfl)) (by unfold Func.isWrapper; first | (rw [if_pos (by decide +kernel)]; kernel_rfl) | (rw [if_neg (by decide +kernel)]; exact ⟨rfl, rfl⟩))
    (fun os started H enc _ => lifted os started H enc)

end Go.Proofs.Ytgbdmclpnkaihab.fnExactMessageOK
namespace Go.Proofs.Ytgbdmclpnkaihab
/-- THE STATEMENT. -/
theorem fnExactMessageOK_holds : Rows.FnExactMessageOKSaid := fnExactMessageOK.over
end Go.Proofs.Ytgbdmclpnkaihab
