/-
  Times add up as numbers do, up to the greatest one there is, at every two codes.
  Conditions: none beyond the given row's own.
-/
import Derived.Test.YtgbdmclpnkaihaaTm
import Derived.Test.YtgbdmclpnkaihaaLa
import Derived.Test.YtgbdmclpnkaihaaOpc
import Derived.WalkKit
import Derived.ProofKit
import Derived.OpenShut
import Derived.ShutString
import Derived.ChangeOld
import Derived.Below
namespace Go.Proofs.Ytgbdmclpnkaihaa.fnAddTime
open Go.ChangeShapes Go.WideShapes Go.ChangeAt Go.RowKit
open Go.ChangeMaps (open_string shut_string)

theorem own : ownKnob Try.prog.godebug = none := by kernel_rfl
theorem laidOut : laidOutB Try.prog = true := by kernel_rfl

open Go.Proofs.Ytgbdmclpnkaihaa.Tm Go.Proofs.Ytgbdmclpnkaihaa.Sl Go.Proofs.Ytgbdmclpnkaihaa.La
set_option maxRecDepth 100000 in
set_option maxHeartbeats 800000 in
/-- THE WALK: the law holds at every two codes. -/
theorem walk {w : World} (v0 : Value) (xs : List Int) (h0 : RowB w v0 xs) (v1 : Value) (ys : List Int) (h1 : RowB w v1 ys) :
    Calls Try.prog 4 #[v0, v1] w fun e w' => e = .returned (.bool true) ∧ Below w.heap.size w w' := by
  have G0 : Hid (RowB w v0 xs) := h0
  have G1 : Hid (RowB w v1 ys) := h1
  obtain ⟨a, cap, rfl, _⟩ := h0
  obtain ⟨c, dap, rfl, _⟩ := h1
  by_cases hb0 : (1048576 : Int) < (xs.length : Int)
  · go_enter Try.func4, Try.ntmps4
    go_wp2
    go_ret
    exact ⟨rfl, Below.refl _ _⟩
  by_cases hb1 : (1048576 : Int) < (ys.length : Int)
  · go_enter Try.func4, Try.ntmps4
    go_wp2
    go_ret
    exact ⟨rfl, Below.refl _ _⟩
  go_enter Try.func4, Try.ntmps4
  go_wp2_with fail
  refine (at_any _ xs 0 1000 w G0.out (by omega) (by decide) (by decide) (by decide)).mono ?_
  rintro e w1 ⟨r1, rfl, l1, b1⟩
  go_wp2_with fail
  refine (at_any _ xs 1 1000000 w1 (G0.out.below b1) (by omega) (by decide) (by decide) (by decide)).mono ?_
  rintro e w2 ⟨r2, rfl, l2, b2⟩
  have b3 := b1.trans (b2.mono b1.size)
  clear b1 b2
  obtain ⟨p, hp, lp⟩ : ∃ p : Nat, (r1 : Int) * (r2 : Int) = p ∧ p < 1000000000 := ⟨r1 * r2, by omega, Nat.lt_of_le_of_lt (Nat.mul_le_mul (Nat.le_of_lt_succ (Nat.succ_le_succ (Nat.le_of_lt_succ l1))) (Nat.le_of_lt_succ (Nat.succ_le_succ (Nat.le_of_lt_succ l2)))) (by decide)⟩
  have HW : ((r1 : Int) * (r2 : Int)) = p := hp
  clear hp
  go_wp2_with fail
  refine (at_any _ ys 0 1000 w2 (G1.out.below b3) (by omega) (by decide) (by decide) (by decide)).mono ?_
  rintro e w3 ⟨r3, rfl, l3, b4⟩
  have b5 := b3.trans (b4.mono b3.size)
  clear b3 b4
  have C1 : ∀ W, Calls Try.prog 12 #[.int .i64 p, .int .i64 r3] W fun e w' => e = .returned (.int .i64 ((p : Int) + r3)) ∧ w' = W := fun W => by
    have := implAddTime_any p r3 W (by omega) (by omega)
    rwa [show adT p r3 = (p : Int) + r3 by unfold adT; omega] at this
  have C2 : ∀ W, Calls Try.prog 12 #[.int .i64 9223372036854775807, .int .i64 r3] W fun e w' => e = .returned (.int .i64 9223372036854775807) ∧ w' = W := fun W => by
    have := implAddTime_any 9223372036854775807 r3 W (by omega) (by omega)
    rwa [show adT 9223372036854775807 r3 = 9223372036854775807 by unfold adT; omega] at this
  have C3 : ∀ W, Calls Try.prog 12 #[.int .i64 (9223372036854775807 - (p : Int)), .int .i64 p] W fun e w' => e = .returned (.int .i64 9223372036854775807) ∧ w' = W := fun W => by
    have := implAddTime_any (9223372036854775807 - (p : Int)) p W (by omega) (by omega)
    rwa [show adT (9223372036854775807 - (p : Int)) p = 9223372036854775807 by unfold adT; omega] at this
  have C4 : ∀ W, Calls Try.prog 12 #[.int .i64 (9223372036854775807 - (r3 : Int)), .int .i64 ((r3 : Int) + 1)] W fun e w' => e = .returned (.int .i64 9223372036854775807) ∧ w' = W := fun W => by
    have := implAddTime_any (9223372036854775807 - (r3 : Int)) (r3 + 1) W (by omega) (by omega)
    rwa [show adT (9223372036854775807 - (r3 : Int)) (r3 + 1) = 9223372036854775807 by unfold adT; omega] at this
  have C5 : ∀ W, Calls Try.prog 12 #[.int .i64 (-1), .int .i64 r3] W fun e w' => e = .returned (.int .i64 r3) ∧ w' = W := fun W => by
    have := implAddTime_any (-1) r3 W (by omega) (by omega)
    rwa [show adT (-1) r3 = (r3 : Int) by unfold adT; omega] at this
  have C6 : ∀ W, Calls Try.prog 12 #[.int .i64 r3, .int .i64 p] W fun e w' => e = .returned (.int .i64 ((p : Int) + r3)) ∧ w' = W := fun W => by
    have := implAddTime_any r3 p W (by omega) (by omega)
    rwa [show adT r3 p = (p : Int) + r3 by unfold adT; omega] at this
  go_wp2_with (go_at_call 12; (first | with_reducible refine (C1 _).mono ?_ | with_reducible refine (C2 _).mono ?_ | with_reducible refine (C3 _).mono ?_ | with_reducible refine (C4 _).mono ?_ | with_reducible refine (C5 _).mono ?_ | with_reducible refine (C6 _).mono ?_); rintro e w' ⟨rfl, rfl⟩)
  go_ret
  exact ⟨rfl, b5⟩

/-! ### THE ROW's STEP -/
set_option maxRecDepth 100000 in
theorem lifted (os : Os) (started : os.Started) (H : Type) (enc : TypeId × Value → H) :
    ReturnsInHanded {} Try.checked os 4 .any (Rows.fnAddTimeSpec.pre6 enc Try.prog Try.f4 Rows.fnAddTimeRow.domain false) (Rows.fnAddTimeSpec.post enc Try.prog Try.f4 false true false false) := by
  refine returnsInHanded_of_change (C := Try.checked) own started (by kernel_rfl) Try.func4
    (ChangeSpec.witness6 (enc := enc) (C := Try.checked) false ⟨#[], #[.slice none 0 0, .slice none 0 0], []⟩ 8 (by kernel_rfl) (by kernel_rfl) (by kernel_rfl) (by kernel_rfl)) ?_
  intro W base args ds gs before hval0 hW hcnd _
  have hval : ∀ (j : Nat) t v, Try.f4.params[j]? = some t → args[j]? = some v → Value.okWide Try.prog W .any base t v := hval0
  have hW' := hW
  obtain ⟨p, q, hA0, hV, rfl, hfz, hnd⟩ := hW
  have hA : DataW.TrodAll enc Try.prog W 0 (fun _ => true) true Try.f4.params.toList args.toList ds p := hA0
  rw [Try.params4] at hA hval
  obtain ⟨v0, vs0, d0, ds0, p0, q0, hargs, rfl, rfl, h0, r0⟩ := trodAll_cons hA
  obtain ⟨v1, vs1, d1, ds1, p1, q1, rfl, rfl, rfl, h1, r1⟩ := trodAll_cons r0
  obtain ⟨rfl, rfl, rfl⟩ := trodAll_nil r1
  obtain rfl : args = #[v0, v1] := by cases args; simp_all
  obtain ⟨rfl, rfl⟩ := trodVars_none hV
  have k00 := h0
  have lt0 : ∀ x ∈ p0, x.block < W.heap.size := by obtain ⟨m, hm⟩ := k00; exact DataW.trod_lt m _ _ _ hm
  obtain ⟨xs0, w0⟩ := Op.open_bytes (hval 0 22 v0 rfl rfl) h0 (fun _ => rfl)
  have k10 := h1
  have lt1 : ∀ x ∈ p1, x.block < W.heap.size := by obtain ⟨m, hm⟩ := k10; exact DataW.trod_lt m _ _ _ hm
  obtain ⟨xs1, w1⟩ := Op.open_bytes (hval 1 22 v1 rfl rfl) h1 (fun _ => rfl)
  clear hA0 hval0
  refine (walk v0 xs0 w0 v1 xs1 w1).mono fun e W' ⟨he, bel⟩ => ?_
  subst he
  exact ⟨_, rfl, _, _, _, [], _, [], hW', trodAll_mk1 (shut_bool Try.underlying4 _), (trodAll_cons_mk (Below.trod laidOut (by kernel_rfl) (of_decide_eq_true (by kernel_rfl)) k00 bel lt0) (trodAll_cons_mk (Below.trod laidOut (by kernel_rfl) (of_decide_eq_true (by kernel_rfl)) k10 bel lt1) trodAll_mk0)), rfl, bel.frame _, fun h => by cases h⟩

theorem over : Rows.fnAddTimeRow.holds Try.pinned (OpenSpec.ofChange Rows.fnAddTimeSpec) :=
  OpenClaim.holds_of_wide 4 Try.f4 rfl rfl rfl rfl rfl rfl rfl ⟨rfl, rfl, rfl, rfl, rfl⟩ rfl rfl rfl rfl rfl (by kernel_rfl) Try.func4 (by kernel_rfl)
    (of_decide_eq_true (by kernel_rfl)) (by unfold Func.isWrapper; first | (rw [if_pos (by decide +kernel)]; kernel_rfl) | (rw [if_neg (by decide +kernel)]; exact ⟨rfl, rfl⟩))
    (fun os started H enc _ => lifted os started H enc)

end Go.Proofs.Ytgbdmclpnkaihaa.fnAddTime
namespace Go.Proofs.Ytgbdmclpnkaihaa
/-- THE STATEMENT. -/
theorem fnAddTime_holds : Rows.FnAddTimeSaid := fnAddTime.over
end Go.Proofs.Ytgbdmclpnkaihaa
