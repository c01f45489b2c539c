/-
  impl.MessageSigned answers at every number and message just what the specification's MessageSigned answers.
  Conditions: none beyond the given row's own; the package variable that it reads starts as the program's text lays it (the card ties it).
-/
import Derived.Test.YtpljjchjdejcfaaDoorSi4
import Derived.Test.YtpljjchjdejcfaaDoorOpm
import Derived.Test.YtpljjchjdejcfaaDoorHashLaid
import Derived.WalkKit
namespace Go.Proofs.YtpljjchjdejcfaaDoor.fnExactMessageSigned
open Go.ChangeShapes Go.WideShapes Go.ChangeAt Go.RowKit
open Go.ChangeMaps (open_string shut_string)
open Go.Proofs.YtpljjchjdejcfaaDoor.Hl (own laidOut rowed door_met)

open Go.Proofs.YtpljjchjdejcfaaDoor.Sl Go.Proofs.YtpljjchjdejcfaaDoor.By Go.Proofs.YtpljjchjdejcfaaDoor.Ap Go.Proofs.YtpljjchjdejcfaaDoor.Sh Go.Proofs.YtpljjchjdejcfaaDoor.Ho Go.Proofs.YtpljjchjdejcfaaDoor.Rq Go.Proofs.YtpljjchjdejcfaaDoor.Ms Go.Proofs.YtpljjchjdejcfaaDoor.Mp Go.Proofs.YtpljjchjdejcfaaDoor.Si
open Go.Proofs.YtpljjchjdejcfaaDoor.Tx (blk_cell blk_set blk_far blk_new bel_new)
set_option maxRecDepth 100000 in
set_option maxHeartbeats 800000 in
/-- THE WALK: both functions answer alike. -/
theorem walk (n : Int) {q0 : Prop} (_z0 : q0) (kd vw sq fr : Int) (dg bd mc : ByteArray) (hd : dg.size ≤ maxLen) (hb : bd.size ≤ maxLen) (hm : mc.size ≤ maxLen) (w : World) (hK : KTab w) (hp : 0 < w.heap.size) :
    Calls Tryd.prog 5 #[.int .i64 n, msgV kd vw sq fr dg bd mc] w fun e w' => e = .returned (.bool true) ∧ Below w.heap.size w w' := by
  have GK : Hid (KTab w) := hK
  clear hK
  by_cases hbig : (1048576 : Int) < ((dg.size + bd.size + mc.size : Nat) : Int)
  · have HL : lft 1048576 ((dg.size + bd.size + mc.size : Nat) : Int) = -1 := lft_no hbig
    go_enter Tryd.func5, Tryd.ntmps5
    unfold msgV
    go_wp2_with fail
    refine (szMessage_any kd vw sq fr dg bd mc _ hd hb hm).mono ?_
    rintro e w1 ⟨rfl, b1⟩
    have g1 := box_first b1
    clear b1
    rw [HL]
    go_wp2_with fail
    go_ret
    exact ⟨rfl, box_old g1⟩
  · obtain ⟨lf, HL, hlf⟩ : ∃ lf, Hid (lft 1048576 ((dg.size + bd.size + mc.size : Nat) : Int) = lf) ∧ 0 ≤ lf := ⟨_, rfl, by rw [lft_yes hbig]; omega⟩
    go_enter Tryd.func5, Tryd.ntmps5
    unfold msgV
    go_wp2_with fail
    refine (szMessage_any kd vw sq fr dg bd mc _ hd hb hm).mono ?_
    rintro e w1 ⟨rfl, b1⟩
    have g1 := box_first b1
    rw [HL.out]
    obtain ⟨q0, q1, q2, q3, q4, q5, q6⟩ := msg_box g1
    clear b1
    go_wp2_with fail
    refine (toMessage_any kd vw sq fr dg bd mc _).mono ?_
    rintro e w2 ⟨rfl, b2⟩
    have g2 := box_next g1 b2
    clear b2 q0 q1 q2 q3 q4 q5 q6 g1
    go_wp2_with fail
    refine (specMessageSigned_any n kd vw sq fr dg bd mc _).mono ?_
    rintro e w3 ⟨rfl, b3⟩
    have g3 := box_next g2 b3
    obtain ⟨q0, q1, q2, q3, q4, q5, q6⟩ := msg_box g3
    clear b3 g2
    go_wp2_with fail
    refine (toMessage_any kd vw sq fr dg bd mc _).mono ?_
    rintro e w4 ⟨rfl, b4⟩
    have g4 := box_next g3 b4
    clear b4 q0 q1 q2 q3 q4 q5 q6 g3
    have B4 : Hid (Below w.heap.size w w4) := box_old g4
    go_wp2_with fail
    refine (implMessageSigned_any n kd vw sq fr dg bd mc _ (GK.out.below B4.out hp) (Nat.lt_of_lt_of_le hp B4.out.size)).mono ?_
    rintro e w5 ⟨rfl, b5⟩
    have g5 := box_next g4 b5
    clear b5 g4
    generalize gB n kd vw sq fr dg bd mc = o
    have hq : (o != o) = false := by simp
    go_wp2_with fail
    go_ret
    exact ⟨rfl, box_old g5⟩

set_option maxRecDepth 100000 in
theorem lifted (os : Os) (started : os.Started) (H : Type) (enc : TypeId × Value → H) :
    ReturnsInHanded {} Tryd.checked os 5 .any (fun w args => (Rows.fnExactMessageSignedSpec.pre enc Tryd.prog Tryd.f5 [] false w args ∧ laidMetH Tryd.prog Rows.fnExactMessageSignedRow.laid w) ∧ sizedMet enc Tryd.prog Tryd.f5 (OpenSpec.ofChange Rows.fnExactMessageSignedSpec) false w args)
      (Rows.fnExactMessageSignedSpec.post enc Tryd.prog Tryd.f5 false true false false) := by
  refine returnsInHanded_of_change_and (C := Tryd.checked) (X := fun w _ => laidMetH Tryd.prog Rows.fnExactMessageSignedRow.laid w) (fun _ _ _ hh h => h.of_heap hh) own started (by kernel_rfl) Tryd.func5
    (ChangeSpec.witness_shaped (enc := enc) (C := Tryd.checked) (os := os) (X := fun w _ => laidMetH Tryd.prog Rows.fnExactMessageSignedRow.laid w) false (World.doorLaid Tryd.prog 400 os) #[.int .i64 0, .agg #[.int .i64 0, .int .i64 0, .int .i64 0, .int .i64 0, .string ByteArray.empty, .string ByteArray.empty, .string ByteArray.empty]] 8 rfl (World.shaped_of_RefB (by kernel_rfl) (by kernel_rfl)) (by kernel_rfl) (by kernel_rfl) (by kernel_rfl) (door_met os _)) ?_
  intro W base args ds gs before hval0 hW _ _ hL _
  have hval : ∀ (j : Nat) t v, Tryd.f5.params[j]? = some t → args[j]? = some v → Value.okWide Tryd.prog W .any base t v := hval0
  have hW' := hW
  obtain ⟨p, q, hA0, hV0, rfl, hfz, hnd⟩ := hW
  have hA : DataW.TrodAll enc Tryd.prog W 0 (fun _ => true) true Tryd.f5.params.toList args.toList ds p := hA0
  have hV : DataW.TrodVars enc Tryd.prog W (fun _ => true) ["loop.example/g00292/impl.roundWords"] gs q := hV0
  rw [Tryd.params5] at hA hval
  obtain ⟨v0, vs0, d0, ds0, p0, q0, hargs, rfl, rfl, h0, r0⟩ := trodAll_cons hA
  obtain ⟨v1, vs1, d1, ds1, p1, q1, rfl, rfl, rfl, h1, r1⟩ := trodAll_cons r0
  obtain ⟨rfl, rfl, rfl⟩ := trodAll_nil r1
  obtain rfl : args = #[v0, v1] := by cases args; simp_all
  obtain ⟨_, _, _, _, dv, _, rfl, _⟩ := trodVars_one hV
  have k00 := h0
  have lt0 : ∀ x ∈ p0, x.block < W.heap.size := by obtain ⟨m, hm⟩ := k00; exact DataW.trod_lt m _ _ _ hm
  obtain ⟨i0, rfl, rfl, rfl, z0⟩ := open_int Tryd.underlying3 (hval 0 3 v0 rfl rfl) h0
  have k10 := h1
  have lt1 : ∀ x ∈ p1, x.block < W.heap.size := by obtain ⟨m, hm⟩ := k10; exact DataW.trod_lt m _ _ _ hm
  obtain ⟨kd1, vw1, sq1, fr1, dg1, bd1, mc1, rfl, hd1, hb1, hm1⟩ := Op.open_msg (hval 1 26 v1 rfl rfl) h1
  clear hA0 hval0 hV0
  have hT := Hl.tab_of hL
  refine (walk i0 z0 kd1 vw1 sq1 fr1 dg1 bd1 mc1 hd1 hb1 hm1 W hT.1 hT.2).mono fun e W' ⟨he, bel⟩ => ?_
  subst he
  exact ⟨_, rfl, _, _, _, [], _, q, hW', trodAll_mk1 (shut_bool Tryd.underlying4 _), (trodAll_cons_mk (Below.trod laidOut (by kernel_rfl) (of_decide_eq_true (by kernel_rfl)) k00 bel lt0) (trodAll_cons_mk (Below.trod laidOut (by kernel_rfl) (of_decide_eq_true (by kernel_rfl)) k10 bel lt1) trodAll_mk0)), Below.trodVars laidOut bel rowed hV, bel.frame _, fun h => by cases h⟩

theorem said : Rows.FnExactMessageSignedSaid :=
  OpenClaim.holds_of_wide 5 Tryd.f5 rfl rfl rfl rfl rfl rfl rfl ⟨rfl, rfl, rfl, rfl, rfl⟩ rfl rfl rfl rfl rfl (by kernel_rfl) Tryd.func5 (by kernel_rfl)
    (of_decide_eq_true (by kernel_rfl)) (by unfold Func.isWrapper; first | (rw [if_pos (by decide +kernel)]; kernel_rfl) | (rw [if_neg (by decide +kernel)]; exact ⟨rfl, rfl⟩))
    (fun os started H enc _ => lifted os started H enc)

/-- No parameter wants a stand-in; the program's own looks are off. -/
theorem plain (f : FuncId) (fn : Func) (hf : Tryd.pinned.checked.prog.funcNamed "loop.example/g00292/laws.FnExactMessageSigned" = some f) (hfn : Tryd.pinned.checked.prog.funcs[f]? = some fn) :
    false = Tryd.pinned.checked.prog.looks [] ∧ ∀ (j : Nat) t, fn.params[j]? = some t → Tryd.pinned.checked.prog.wantsStandIn t = false := by
  obtain rfl : f = 5 := Option.some.inj ((show Tryd.prog.funcNamed "loop.example/g00292/laws.FnExactMessageSigned" = some 5 by kernel_rfl).symm.trans hf) |>.symm
  obtain rfl : fn = Tryd.f5 := (Option.some.inj (Tryd.func5.symm.trans hfn)).symm
  refine ⟨by kernel_rfl, fun j t ht => ?_⟩
  rw [Tryd.params5] at ht
  have hm := Array.mem_of_getElem? ht
  have hl : t ∈ [3, 26] := by simpa using hm
  have hall : ∀ x ∈ [3, 26], Tryd.prog.wantsStandIn x = false := by
    intro x hx
    simp only [List.mem_cons, List.not_mem_nil, or_false] at hx
    rcases hx with rfl | rfl <;> kernel_rfl
  exact hall t hl
end Go.Proofs.YtpljjchjdejcfaaDoor.fnExactMessageSigned
namespace Go.Proofs.YtpljjchjdejcfaaDoor
/-- THE STATEMENT: the card. -/
theorem fnExactMessageSigned_holds : Rows.FnExactMessageSignedCardSaid :=
  Claim7.holds_tied_plain_at .later [] _ _ _ _ fnExactMessageSigned.said (fun _ h => by cases h) (by kernel_rfl) (fun _ h => by cases h) fnExactMessageSigned_row_tie rfl ⟨rfl, rfl⟩ (by kernel_rfl) rfl fnExactMessageSigned.plain (by kernel_rfl)
end Go.Proofs.YtpljjchjdejcfaaDoor
