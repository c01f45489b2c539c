/-
  impl.ReadLine answers at every text just what the specification's ReadLine answers.
  Conditions: none beyond the given row's own.
-/
import Derived.Test.YtlhokhccjejcoaaRlv
import Derived.WalkKit
import Derived.ProofKit
import Derived.OpenShut
import Derived.ShutString
import Derived.ChangeOld
import Derived.Below
namespace Go.Proofs.Ytlhokhccjejcoaa.fnExactReadLine
open Go.ChangeShapes Go.WideShapes Go.ChangeAt Go.RowKit
open Go.ChangeMaps (open_string shut_string)

theorem own : ownKnob Try.prog.godebug = none := by kernel_rfl
theorem laidOut : laidOutB Try.prog = true := by kernel_rfl

open Go.Lib Go.Proofs.Ytlhokhccjejcoaa.Ap Go.Proofs.Ytlhokhccjejcoaa.Tx Go.Proofs.Ytlhokhccjejcoaa.Stw Go.Proofs.Ytlhokhccjejcoaa.Rl16
theorem rlA_act {ts : List ByteArray} {U : Array Value} (h : rlA ts = some U) : ∃ kd cl op le nm gk gn, U = waC kd cl op le nm gk gn := by
  unfold rlA at h
  split at h
  · split at h
    · cases h
      exact ⟨_, _, _, _, _, _, _, rfl⟩
    · cases h
  · split at h
    · cases h
      exact ⟨_, _, _, _, _, _, _, rfl⟩
    · cases h
  · split at h
    · cases h
      exact ⟨_, _, _, _, _, _, _, rfl⟩
    · cases h
  · cases h
theorem act_any (t : ByteArray) : ∃ kd cl op le nm gk gn, rlV t = waC kd cl op le nm gk gn := by
  unfold rlV
  split
  · exact ⟨_, _, _, _, _, _, _, rfl⟩
  · cases h : rlA (words t) with
    | none => exact ⟨_, _, _, _, _, _, _, rfl⟩
    | some U => exact rlA_act h
theorem size_lt' {w : World} {b : Nat} {o : Obj} (h : w.heap[b]? = some o) : b < w.heap.size := (Array.getElem?_eq_some_iff.1 h).1
set_option maxRecDepth 100000 in
set_option maxHeartbeats 3200000 in
/-- THE WALK: both functions answer alike. -/
theorem walk (t : ByteArray) (_z : t.size ≤ maxLen) (w : World) :
    Calls Try.prog 3 #[.string t] w fun e w' => e = .returned (.bool true) ∧ Below w.heap.size w w' := by
  clear _z
  by_cases hl : (1048576 : Int) < (t.size : Int)
  · go_enter Try.func3, Try.ntmps3
    go_wp2_with fail
    go_ret
    exact ⟨rfl, Below.refl _ _⟩
  have HSP : Hid (∀ W, Calls Try.prog 4 #[.string t] W fun e w' => e = .returned (.tuple #[.agg (rlV t), .int .i64 (rlC t)]) ∧ Below W.heap.size W w') := fun W => specReadLine_any t W (by omega)
  have HIM : Hid (∀ W, Calls Try.prog 5 #[.string t] W fun e w' => e = .returned (.tuple #[.agg (rlV t), .int .i64 (rlC t)]) ∧ Below W.heap.size W w') := fun W => ReadLine_any t W (by omega)
  obtain ⟨kd, cl, op, le, nm, gk, gn, hV⟩ := act_any t
  rw [hV] at HSP HIM
  clear hV
  generalize rlC t = c at HSP HIM
  have HE : Hid (∀ W, Calls Try.prog 6 #[.agg (waC kd cl op le nm gk gn), .agg (waC kd cl op le nm gk gn)] W fun e w' => e = .returned (.bool true) ∧ Below W.heap.size W w') := fun W => eqWorldAct_any kd cl op le nm gk gn W
  go_enter Try.func3, Try.ntmps3
  go_upto_region 3 with fail
  go_upto_region 4 with (first | (go_at_call 4; refine (HSP.out _).mono ?_; rintro e w1 ⟨rfl, b1⟩) | (refine wpList_box rfl 31 (.tmp 3) (.tmp 13) rfl (w1.heap.size) _ (waC kd cl op le nm gk gn) 31 ?_ ?_ (blk_new _ _ _) ?_ ?_ ?_ ?_; go_must ((iterate 3 (first | rfl | kernel_rfl)); (iterate 2 (first | kernel_rfl | rfl)); intro wA Ab Af Ag; simp only [Act.put])))
  have HX : Hid (wA.heap[w1.heap.size]? = some (.cells (waC kd cl op le nm gk gn) 31 (0, 0)) ∧ Below w.heap.size w wA) := ⟨Ab, Ag (b1.trans ((bel_new w1 _).mono b1.size)) b1.size⟩
  clear Ab Af Ag b1 HSP
  go_upto_region 5 with (first | (go_at_call 5; refine (HIM.out _).mono ?_; rintro e w2 ⟨rfl, b2⟩) | (refine wpList_box rfl 31 (.tmp 5) (.tmp 18) rfl (w2.heap.size) _ (waC kd cl op le nm gk gn) 31 ?_ ?_ (blk_new _ _ _) ?_ ?_ ?_ ?_; go_must ((iterate 3 (first | rfl | kernel_rfl)); (iterate 2 (first | kernel_rfl | rfl)); intro wB Bb Bf Bg; simp only [Act.put])))
  have HY : Hid (wB.heap[w2.heap.size]? = some (.cells (waC kd cl op le nm gk gn) 31 (0, 0)) ∧ wB.heap[w1.heap.size]? = some (.cells (waC kd cl op le nm gk gn) 31 (0, 0)) ∧ Below w.heap.size w wB) := by
    have e1 := size_lt' HX.out.1
    have e2 := Nat.lt_of_lt_of_le e1 b2.size
    have B2 : Below w.heap.size w w2 := HX.out.2.trans (b2.mono HX.out.2.size)
    exact ⟨Bb, (Bf _ (Nat.ne_of_lt e2)).trans (((bel_new w2 _).block _ e2).trans ((b2.block _ e1).trans HX.out.1)), Bg (B2.trans ((bel_new w2 _).mono B2.size)) B2.size⟩
  clear Bb Bf Bg b2 HIM HX
  have hn : (c != c) = false := by simp
  go_wp2_with (first | (refine wpList_ldbox rfl 31 (.tmp 5) rfl (w2.heap.size) (waC kd cl op le nm gk gn) 31 ?_ HY.out.1 ?_ ?_ ?_; go_must ((first | rfl | kernel_rfl); (iterate 2 kernel_rfl); simp only [Act.put])) | (refine wpList_ldbox rfl 31 (.tmp 3) rfl (w1.heap.size) (waC kd cl op le nm gk gn) 31 ?_ HY.out.2.1 ?_ ?_ ?_; go_must ((first | rfl | kernel_rfl); (iterate 2 kernel_rfl); simp only [Act.put])) | (go_at_call 6; refine (HE.out _).mono ?_; rintro e w3 ⟨rfl, b3⟩))
  go_ret
  exact ⟨rfl, HY.out.2.2.trans (b3.mono HY.out.2.2.size)⟩

/-! ### THE ROW's STEP -/
set_option maxRecDepth 100000 in
theorem lifted (os : Os) (started : os.Started) (H : Type) (enc : TypeId × Value → H) :
    ReturnsInHanded {} Try.checked os 3 .any (Rows.fnExactReadLineSpec.pre6 enc Try.prog Try.f3 Rows.fnExactReadLineRow.domain false) (Rows.fnExactReadLineSpec.post enc Try.prog Try.f3 false true false false) := by
  refine returnsInHanded_of_change (C := Try.checked) own started (by kernel_rfl) Try.func3
    (ChangeSpec.witness6 (enc := enc) (C := Try.checked) false ⟨#[], #[.string ByteArray.empty], []⟩ 8 (by kernel_rfl) (by kernel_rfl) (by kernel_rfl) (by kernel_rfl)) ?_
  intro W base args ds gs before hval0 hW hcnd _
  have hval : ∀ (j : Nat) t v, Try.f3.params[j]? = some t → args[j]? = some v → Value.okWide Try.prog W .any base t v := hval0
  have hW' := hW
  obtain ⟨p, q, hA0, hV, rfl, hfz, hnd⟩ := hW
  have hA : DataW.TrodAll enc Try.prog W 0 (fun _ => true) true Try.f3.params.toList args.toList ds p := hA0
  rw [Try.params3] at hA hval
  obtain ⟨v0, vs0, d0, ds0, p0, q0, hargs, rfl, rfl, h0, r0⟩ := trodAll_cons hA
  obtain ⟨rfl, rfl, rfl⟩ := trodAll_nil r0
  obtain rfl : args = #[v0] := by cases args; simp_all
  obtain ⟨rfl, rfl⟩ := trodVars_none hV
  have k00 := h0
  have lt0 : ∀ x ∈ p0, x.block < W.heap.size := by obtain ⟨m, hm⟩ := k00; exact DataW.trod_lt m _ _ _ hm
  obtain ⟨s0, rfl, rfl, rfl, z0⟩ := open_string Try.underlying9 (hval 0 9 v0 rfl rfl) h0
  clear hA0 hval0
  refine (walk s0 z0 W).mono fun e W' ⟨he, bel⟩ => ?_
  subst he
  exact ⟨_, rfl, _, _, _, [], _, [], hW', trodAll_mk1 (shut_bool Try.underlying4 _), (trodAll_cons_mk (Below.trod laidOut (by kernel_rfl) (of_decide_eq_true (by kernel_rfl)) k00 bel lt0) trodAll_mk0), rfl, bel.frame _, fun h => by cases h⟩

theorem over : Rows.fnExactReadLineRow.holds Try.pinned (OpenSpec.ofChange Rows.fnExactReadLineSpec) :=
  OpenClaim.holds_of_wide 3 Try.f3 rfl rfl rfl rfl rfl rfl rfl ⟨rfl, rfl, rfl, rfl, rfl⟩ rfl rfl rfl rfl rfl (by kernel_rfl) Try.func3 (by kernel_rfl)
    (of_decide_eq_true (by kernel_rfl)) (by unfold Func.isWrapper; first | (rw [if_pos (by decide +kernel)]; kernel_rfl) | (rw [if_neg (by decide +kernel)]; exact ⟨rfl, rfl⟩))
    (fun os started H enc _ => lifted os started H enc)

end Go.Proofs.Ytlhokhccjejcoaa.fnExactReadLine
namespace Go.Proofs.Ytlhokhccjejcoaa
/-- THE STATEMENT. -/
theorem fnExactReadLine_holds : Rows.FnExactReadLineSaid := fnExactReadLine.over
end Go.Proofs.Ytlhokhccjejcoaa
