/-
  impl.MedianOf answers at every list of numbers just what the specification's MedianOf answers, and leaves the list as it was.
  Conditions: none beyond the given row's own.
-/
import Derived.Test.YtgbdmclpnkaihaaMi
import Derived.WalkKit
import Derived.ProofKit
import Derived.OpenShut
import Derived.ShutString
import Derived.ChangeOld
import Derived.Below
namespace Go.Proofs.Ytgbdmclpnkaihaa.fnExactMedianOf
open Go.ChangeShapes Go.WideShapes Go.ChangeAt Go.RowKit
open Go.ChangeMaps (open_string shut_string)

theorem own : ownKnob Try.prog.godebug = none := by kernel_rfl
theorem laidOut : laidOutB Try.prog = true := by kernel_rfl

open Go.Proofs.Ytgbdmclpnkaihaa.Sl Go.Proofs.Ytgbdmclpnkaihaa.Is Go.Proofs.Ytgbdmclpnkaihaa.Md Go.Proofs.Ytgbdmclpnkaihaa.Mi
set_option maxRecDepth 100000 in
set_option maxHeartbeats 800000 in
/-- THE WALK: both functions answer alike, and the list is as it was. -/
theorem walk (v0 : Value) (xs : List Int) (w : World) (h0 : RowI w v0 xs) :
    Calls Try.prog 5 #[v0] w fun e w' => e = .returned (.bool true) ∧ Below w.heap.size w w' := by
  have G0 : Hid (RowI w v0 xs) := h0
  obtain ⟨a, cap, rfl, _⟩ := h0
  by_cases hb0 : (1048576 : Int) < (xs.length : Int)
  · go_enter Try.func5, Try.ntmps5
    go_wp2
    go_ret
    exact ⟨rfl, Below.refl _ _⟩
  have hl : xs.length ≤ 1048576 := by omega
  have HL : Hid (xs.length ≤ 1048576) := hl
  clear hl
  go_enter Try.func5, Try.ntmps5
  go_wp2_with fail
  refine (toIntS_any _ xs w G0.out HL.out).mono ?_
  rintro e w1 ⟨u1, rfl, r1, b1⟩
  go_wp2_with fail
  refine (specMedianOf_any u1 xs w1 r1 HL.out).mono ?_
  rintro e w2 ⟨rfl, b2⟩
  have B2 : Hid (Below w.heap.size w w2) := b1.trans (b2.mono b1.size)
  clear r1 b1 b2
  go_wp2_with fail
  refine (toIntS_any _ xs w2 (G0.out.below B2.out) HL.out).mono ?_
  rintro e w3 ⟨u3, rfl, r3, b3⟩
  have B3 : Hid (Below w.heap.size w w3) := B2.out.trans (b3.mono B2.out.size)
  have R3 : Hid (RowI w3 u3 xs) := r3
  clear r3 b3 B2
  go_wp2_with fail
  refine (implMedianOf_any u3 xs w3 R3.out HL.out).mono ?_
  rintro e w4 ⟨rfl, b4⟩
  have B4 : Hid (Below w.heap.size w w4) := B3.out.trans (b4.mono B3.out.size)
  have R4 : Hid (RowI w4 u3 xs) := R3.out.below b4
  clear b4 R3 B3
  generalize mOut xs = o
  generalize mCode xs = c
  go_wp2_with fail
  refine (toIntS_any _ xs w4 (G0.out.below B4.out) HL.out).mono ?_
  rintro e w5 ⟨u5, rfl, r5, b5⟩
  have B5 : Hid (Below w.heap.size w w5) := B4.out.trans (b5.mono B4.out.size)
  have R5 : Hid (RowI w5 u5 xs ∧ RowI w5 u3 xs) := ⟨r5, R4.out.below b5⟩
  clear r5 b5 B4 R4
  go_wp2_with fail
  refine (eqIntS_same u3 u5 xs w5 R5.out.2 R5.out.1 HL.out).mono ?_
  rintro e w6 ⟨rfl, b6⟩
  have B6 : Hid (Below w.heap.size w w6) := B5.out.trans (b6.mono B5.out.size)
  clear b6 B5 R5
  go_wp2_with fail
  go_ret
  exact ⟨rfl, B6.out⟩

/-! ### THE ROW's STEP -/
set_option maxRecDepth 100000 in
theorem lifted (os : Os) (started : os.Started) (H : Type) (enc : TypeId × Value → H) :
    ReturnsInHanded {} Try.checked os 5 .any (Rows.fnExactMedianOfSpec.pre6 enc Try.prog Try.f5 Rows.fnExactMedianOfRow.domain false) (Rows.fnExactMedianOfSpec.post enc Try.prog Try.f5 false true false false) := by
  refine returnsInHanded_of_change (C := Try.checked) own started (by kernel_rfl) Try.func5
    (ChangeSpec.witness6 (enc := enc) (C := Try.checked) false ⟨#[], #[.slice none 0 0], []⟩ 8 (by kernel_rfl) (by kernel_rfl) (by kernel_rfl) (by kernel_rfl)) ?_
  intro W base args ds gs before hval0 hW hcnd _
  have hval : ∀ (j : Nat) t v, Try.f5.params[j]? = some t → args[j]? = some v → Value.okWide Try.prog W .any base t v := hval0
  have hW' := hW
  obtain ⟨p, q, hA0, hV, rfl, hfz, hnd⟩ := hW
  have hA : DataW.TrodAll enc Try.prog W 0 (fun _ => true) true Try.f5.params.toList args.toList ds p := hA0
  rw [Try.params5] at hA hval
  obtain ⟨v0, vs0, d0, ds0, p0, q0, hargs, rfl, rfl, h0, r0⟩ := trodAll_cons hA
  obtain ⟨rfl, rfl, rfl⟩ := trodAll_nil r0
  obtain rfl : args = #[v0] := by cases args; simp_all
  obtain ⟨rfl, rfl⟩ := trodVars_none hV
  have k00 := h0
  have lt0 : ∀ x ∈ p0, x.block < W.heap.size := by obtain ⟨m, hm⟩ := k00; exact DataW.trod_lt m _ _ _ hm
  obtain ⟨xs0, w0⟩ := Op.open_ints (hval 0 23 v0 rfl rfl) h0 (fun _ => rfl)
  clear hA0 hval0
  refine (walk v0 xs0 W w0).mono fun e W' ⟨he, bel⟩ => ?_
  subst he
  exact ⟨_, rfl, _, _, _, [], _, [], hW', trodAll_mk1 (shut_bool Try.underlying4 _), (trodAll_cons_mk (Below.trod laidOut (by kernel_rfl) (of_decide_eq_true (by kernel_rfl)) k00 bel lt0) trodAll_mk0), rfl, bel.frame _, fun h => by cases h⟩

theorem over : Rows.fnExactMedianOfRow.holds Try.pinned (OpenSpec.ofChange Rows.fnExactMedianOfSpec) :=
  OpenClaim.holds_of_wide 5 Try.f5 rfl rfl rfl rfl rfl rfl rfl ⟨rfl, rfl, rfl, rfl, rfl⟩ rfl rfl rfl rfl rfl (by kernel_rfl) Try.func5 (by kernel_rfl)
    (of_decide_eq_true (by kernel_rfl)) (by unfold Func.isWrapper; first | (rw [if_pos (by decide +kernel)]; kernel_rfl) | (rw [if_neg (by decide +kernel)]; exact ⟨rfl, rfl⟩))
    (fun os started H enc _ => lifted os started H enc)

end Go.Proofs.Ytgbdmclpnkaihaa.fnExactMedianOf
namespace Go.Proofs.Ytgbdmclpnkaihaa
/-- THE STATEMENT. -/
theorem fnExactMedianOf_holds : Rows.FnExactMedianOfSaid := fnExactMedianOf.over
end Go.Proofs.Ytgbdmclpnkaihaa
