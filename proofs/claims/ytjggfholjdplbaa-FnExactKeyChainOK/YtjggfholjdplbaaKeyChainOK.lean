/-
  impl.KeyChainOK answers at every chain just what the specification's KeyChainOK answers.
  Conditions: none beyond the given row's own.
-/
import Derived.Test.YtjggfholjdplbaaCk
import Derived.Test.YtjggfholjdplbaaOc
import Derived.WalkKit
import Derived.ProofKit
import Derived.OpenShut
import Derived.ShutString
import Derived.ChangeOld
import Derived.Below
namespace Go.Proofs.Ytjggfholjdplbaa.fnExactKeyChainOK
open Go.ChangeShapes Go.WideShapes Go.ChangeAt Go.RowKit
open Go.ChangeMaps (open_string shut_string)

theorem own : ownKnob Try.prog.godebug = none := by kernel_rfl
theorem laidOut : laidOutB Try.prog = true := by kernel_rfl

open Go.Proofs.Ytjggfholjdplbaa.Ck
set_option maxRecDepth 100000 in
set_option maxHeartbeats 400000 in
/-- THE WALK: both functions answer alike. -/
theorem walk (s0 : ByteArray) (i0 : Int) (z0 : s0.size ≤ maxLen) (_y0 : -9223372036854775808 ≤ i0 ∧ i0 ≤ 9223372036854775807) (w : World) :
    Calls Try.prog 3 #[.agg #[.string s0, .int .i64 i0]] w fun e w' => e = .returned (.bool true) ∧ Below w.heap.size w w' := by
  have T0 : Hid (Below w.heap.size w (w.alloc (.cells #[.string s0, .int .i64 i0] 23)) ∧ (w.alloc (.cells #[.string s0, .int .i64 i0] 23)).heap.size = w.heap.size + 1 ∧ (w.alloc (.cells #[.string s0, .int .i64 i0] 23)).heap[w.heap.size]? = some (.cells #[.string s0, .int .i64 i0] 23 (0, 0))) := ⟨newBel _ _, by simp, heap_alloc_new w _⟩
  have HZ : Hid (s0.size ≤ maxLen) := z0
  clear z0 _y0
  by_cases hb0 : 1048576 < s0.size
  · have HL : Hid (lf s0 = -1) := if_pos hb0
    go_enter Try.func3, Try.ntmps3
    go_wp2_with fail
    refine (szKeyChain_any s0 i0 _ HZ.out).mono ?_
    rintro e w1 ⟨rfl, b1⟩
    rw [HL.out]
    have g1 := T0.out.1.trans (b1.mono T0.out.1.size)
    clear b1
    go_wp2_with fail
    go_ret
    exact ⟨rfl, g1⟩
  obtain ⟨l0, HL, hl0⟩ : ∃ l0, Hid (lf s0 = l0) ∧ ¬ l0 < 0 := ⟨_, rfl, by unfold lf; rw [if_neg hb0]; omega⟩
  clear hb0
  have HX : Hid (∀ W, Below (w.heap.size + 1) (w.alloc (.cells #[.string s0, .int .i64 i0] 23)) W → (W.cell? ⟨w.heap.size, 0, none⟩ = some (.string s0) ∧ W.cell? ⟨w.heap.size, 1, none⟩ = some (.int .i64 i0) ∧ Below w.heap.size w W ∧ w.heap.size + 1 ≤ W.heap.size)) := fun W hW => by
    have h1 := (hW.block w.heap.size (by omega)).trans T0.out.2.2
    have hs := hW.size
    rw [T0.out.2.1] at hs
    exact ⟨by simp [World.cell?, h1], by simp [World.cell?, h1], T0.out.1.trans (hW.mono (by omega)), hs⟩
  go_enter Try.func3, Try.ntmps3
  go_wp2_with fail
  refine (szKeyChain_any s0 i0 _ HZ.out).mono ?_
  rintro e w1 ⟨rfl, b1⟩
  rw [HL.out]
  rw [T0.out.2.1] at b1
  obtain ⟨x0, x1, g1, t1⟩ := HX.out w1 b1
  have B1 : Hid (Below (w.heap.size + 1) (w.alloc (.cells #[.string s0, .int .i64 i0] 23)) w1) := b1
  clear b1
  go_wp2_with fail
  refine (toKeyChain_any s0 i0 w1).mono ?_
  rintro e w2 ⟨rfl, b2⟩
  have B2 : Hid (Below (w.heap.size + 1) (w.alloc (.cells #[.string s0, .int .i64 i0] 23)) w2) := B1.out.trans (b2.mono t1)
  obtain ⟨_, _, _, t2⟩ := HX.out w2 B2.out
  clear b2 x0 x1 g1 t1
  go_wp2_with fail
  refine (specKeyChainOK_any s0 i0 w2).mono ?_
  rintro e w3 ⟨rfl, b3⟩
  have B3 : Hid (Below (w.heap.size + 1) (w.alloc (.cells #[.string s0, .int .i64 i0] 23)) w3) := B2.out.trans (b3.mono t2)
  obtain ⟨x0, x1, g3, t3⟩ := HX.out w3 B3.out
  clear b3 t2
  go_wp2_with fail
  refine (toKeyChain_any s0 i0 w3).mono ?_
  rintro e w4 ⟨rfl, b4⟩
  have B4 : Hid (Below (w.heap.size + 1) (w.alloc (.cells #[.string s0, .int .i64 i0] 23)) w4) := B3.out.trans (b4.mono t3)
  obtain ⟨_, _, _, t4⟩ := HX.out w4 B4.out
  clear b4 x0 x1 g3 t3
  go_wp2_with fail
  refine (implKeyChainOK_any s0 i0 w4).mono ?_
  rintro e w5 ⟨rfl, b5⟩
  obtain ⟨_, _, g5, _⟩ := HX.out w5 (B4.out.trans (b5.mono t4))
  clear b5 t4
  have hq : (ckB s0 i0 != ckB s0 i0) = false := by simp
  go_wp2_with fail
  go_ret
  exact ⟨rfl, g5⟩

/-! ### THE ROW's STEP -/
set_option maxRecDepth 100000 in
theorem lifted (os : Os) (started : os.Started) (H : Type) (enc : TypeId × Value → H) :
    ReturnsInHanded {} Try.checked os 3 .any (Rows.fnExactKeyChainOKSpec.pre6 enc Try.prog Try.f3 Rows.fnExactKeyChainOKRow.domain false) (Rows.fnExactKeyChainOKSpec.post enc Try.prog Try.f3 false true false false) := by
  refine returnsInHanded_of_change (C := Try.checked) own started (by kernel_rfl) Try.func3
    (ChangeSpec.witness6 (enc := enc) (C := Try.checked) false ⟨#[], #[.agg #[.string ByteArray.empty, .int .i64 0]], []⟩ 8 (by kernel_rfl) (by kernel_rfl) (by kernel_rfl) (by kernel_rfl)) ?_
  intro W base args ds gs before hval0 hW hcnd _
  have hval : ∀ (j : Nat) t v, Try.f3.params[j]? = some t → args[j]? = some v → Value.okWide Try.prog W .any base t v := hval0
  have hW' := hW
  obtain ⟨p, q, hA0, hV, rfl, hfz, hnd⟩ := hW
  have hA : DataW.TrodAll enc Try.prog W 0 (fun _ => true) true Try.f3.params.toList args.toList ds p := hA0
  rw [Try.params3] at hA hval
  obtain ⟨v0, vs0, d0, ds0, p0, q0, hargs, rfl, rfl, h0, r0⟩ := trodAll_cons hA
  obtain ⟨rfl, rfl, rfl⟩ := trodAll_nil r0
  obtain rfl : args = #[v0] := by cases args; simp_all
  obtain ⟨rfl, rfl⟩ := trodVars_none hV
  have k00 := h0
  have lt0 : ∀ x ∈ p0, x.block < W.heap.size := by obtain ⟨m, hm⟩ := k00; exact DataW.trod_lt m _ _ _ hm
  obtain ⟨s0, i0, rfl, z0, y0⟩ := Op.open_chain (hval 0 23 v0 rfl rfl) h0
  clear hA0 hval0
  refine (walk s0 i0 z0 y0 W).mono fun e W' ⟨he, bel⟩ => ?_
  subst he
  exact ⟨_, rfl, _, _, _, [], _, [], hW', trodAll_mk1 (shut_bool Try.underlying4 _), (trodAll_cons_mk (Below.trod laidOut (by kernel_rfl) (of_decide_eq_true (by kernel_rfl)) k00 bel lt0) trodAll_mk0), rfl, bel.frame _, fun h => by cases h⟩

theorem over : Rows.fnExactKeyChainOKRow.holds Try.pinned (OpenSpec.ofChange Rows.fnExactKeyChainOKSpec) :=
  OpenClaim.holds_of_wide 3 Try.f3 rfl rfl rfl rfl rfl rfl rfl ⟨rfl, rfl, rfl, rfl, rfl⟩ rfl rfl rfl rfl rfl (by kernel_rfl) Try.func3 (by kernel_rfl)
    (of_decide_eq_true (by kernel_rfl)) (by unfold Func.isWrapper; first | (rw [if_pos (by decide +kernel)]; kernel_rfl) | (rw [if_neg (by decide +kernel)]; exact ⟨rfl, rfl⟩))
    (fun os started H enc _ => lifted os started H enc)

end Go.Proofs.Ytjggfholjdplbaa.fnExactKeyChainOK
namespace Go.Proofs.Ytjggfholjdplbaa
/-- THE STATEMENT. -/
theorem fnExactKeyChainOK_holds : Rows.FnExactKeyChainOKSaid := fnExactKeyChainOK.over
end Go.Proofs.Ytjggfholjdplbaa
