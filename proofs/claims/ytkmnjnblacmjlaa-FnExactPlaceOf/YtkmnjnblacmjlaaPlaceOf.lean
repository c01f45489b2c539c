/-
  impl.PlaceOf answers at every list of texts and every two numbers just what the specification's PlaceOf answers; it writes into no argument.
  Conditions: none beyond the given row's own.
-/
import Derived.Test.YtkmnjnblacmjlaaOt
import Derived.Test.YtkmnjnblacmjlaaSv
import Derived.Test.YtkmnjnblacmjlaaSlRow
import Derived.Test.YtkmnjnblacmjlaaOb
import Derived.Test.YtkmnjnblacmjlaaHnd
import Derived.WalkKit
import Derived.ProofKit
import Derived.OpenShut
import Derived.ShutString
import Derived.ChangeOld
import Derived.Below
namespace Go.Proofs.Ytkmnjnblacmjlaa.fnExactPlaceOf
open Go.ChangeShapes Go.WideShapes Go.ChangeAt Go.RowKit
open Go.ChangeMaps (open_string shut_string)

theorem own : ownKnob Try.prog.godebug = none := by kernel_rfl
theorem laidOut : laidOutB Try.prog = true := by kernel_rfl

open Go.Proofs.Ytkmnjnblacmjlaa.Ap Go.Proofs.Ytkmnjnblacmjlaa.By Go.Proofs.Ytkmnjnblacmjlaa.Sl Go.Proofs.Ytkmnjnblacmjlaa.Tx Go.Proofs.Ytkmnjnblacmjlaa.Mk Go.Proofs.Ytkmnjnblacmjlaa.Sv
open Go.Proofs.Ytkmnjnblacmjlaa.Hn (plP plC implPlaceOf_any specPlaceOf_any)
set_option maxRecDepth 100000 in
set_option maxHeartbeats 3200000 in
/-- THE WALK: both functions answer alike; the copy that was handed in is as it was. -/
theorem walk (v : Value) (ts : List ByteArray) (w : World) (hrow : RowT w v ts) (hl : ts.length ≤ maxLen) (hz : ∀ t ∈ ts, t.size ≤ maxLen) (c : Int) {q1 : Prop} (_h1 : q1) (s : Int) {q2 : Prop} (_h2 : q2) (_W : World) :
    Calls Try.prog 3 #[v, .int .i64 c, .int .i64 s] w fun e w' => e = .returned (.bool true) ∧ Below w.heap.size w w' := by
  have HR : Hid (RowT w v ts) := hrow
  have HSZ : Hid (Calls Try.prog 4 #[v, .int .i64 1048576] w fun e w' => e = .returned (.int .i64 (lfT 1048576 ts)) ∧ w = w') := szStringS_any v ts 1048576 w hrow hl hz (by decide) (by decide)
  have HLF := @lfT_neg ts
  obtain ⟨m, HM⟩ : ∃ m, Hid (lfT 1048576 ts = m) := ⟨_, rfl⟩
  rw [HM.out] at HSZ HLF
  clear hl hz hrow
  by_cases hbig : 1048576 < tot ts
  · have hm : m < 0 := HLF.2 hbig
    clear HLF hbig
    go_enter Try.func3, Try.ntmps3
    go_wp2_with fail
    refine HSZ.out.mono ?_
    rintro e w1 ⟨rfl, rfl⟩
    go_wp2_with fail
    go_ret
    exact ⟨rfl, Below.refl _ _⟩
  have hm : ¬ m < 0 := fun h => hbig (HLF.1 h)
  obtain ⟨hl, hs⟩ := each_small hbig
  have HT : Hid (∀ _ : Unit, ts.length ≤ 1048576 ∧ ∀ t ∈ ts, t.size ≤ 1048576) := fun _ => ⟨hl, hs⟩
  have HS : Hid (∀ u W, RowT W u ts → Calls Try.prog 5 #[u, .int .i64 c, .int .i64 s] W fun e w' => e = .returned (.tuple #[.int .i64 (plP c s ts), .int .i64 (plC c s ts)]) ∧ Below W.heap.size W w') := fun u W h => specPlaceOf_any u ts c s W h hl hs
  have HI : Hid (∀ u W, RowT W u ts → Calls Try.prog 7 #[u, .int .i64 c, .int .i64 s] W fun e w' => e = .returned (.tuple #[.int .i64 (plP c s ts), .int .i64 (plC c s ts)]) ∧ Below W.heap.size W w') := fun u W h => implPlaceOf_any u ts c s W h hl hs
  generalize plP c s ts = P at HS HI
  generalize plC c s ts = C at HS HI
  have hcp : (P != P) = false := by simp
  have hcc : (C != C) = false := by simp
  clear hs hl hbig HLF
  go_enter Try.func3, Try.ntmps3
  go_wp2_with fail
  refine HSZ.out.mono ?_
  rintro e w0 ⟨rfl, rfl⟩
  go_wp2_with fail
  refine (toStringS_any _ ts _ HR.out (HT.out ()).1).mono ?_
  rintro e w1 ⟨v1, rfl, t1, b1⟩
  go_wp2_with fail
  refine (HS.out _ _ t1.row).mono ?_
  rintro e w2 ⟨rfl, b2⟩
  have B2 := andThen b1 (Nat.le_refl _) b2
  clear t1 b1 b2 HSZ
  go_wp2_with fail
  refine (toStringS_any _ ts _ (HR.out.below B2) (HT.out ()).1).mono ?_
  rintro e w3 ⟨v3, rfl, t3, b3⟩
  have B3 := andThen B2 (Nat.le_refl _) b3
  have T3 : Hid (RowT w3 v3 ts) := t3.row
  clear t3 b3 B2
  go_wp2_with fail
  refine (HI.out _ _ T3.out).mono ?_
  rintro e w4 ⟨rfl, b4⟩
  have B4 := andThen B3 (Nat.le_refl _) b4
  have T4 : Hid (RowT w4 v3 ts) := T3.out.below b4
  clear b4 T3 B3
  go_wp2_with fail
  refine (toStringS_any _ ts _ (HR.out.below B4) (HT.out ()).1).mono ?_
  rintro e w6 ⟨v6, rfl, t6, b6⟩
  have B6 := andThen B4 (Nat.le_refl _) b6
  have T6 : Hid (RowT w6 v3 ts) := T4.out.below b6
  have R6 : Hid (RowT w6 v6 ts) := t6.row
  clear t6 b6 T4 B4
  go_wp2_with fail
  refine (eqStringS_same _ _ ts _ T6.out R6.out (HT.out ()).1).mono ?_
  rintro e w7 ⟨rfl, b7⟩
  have B7 := andThen B6 (Nat.le_refl _) b7
  clear b7 T6 R6 B6
  go_wp2_with fail
  go_ret
  exact ⟨rfl, B7⟩

/-! ### THE ROW's STEP -/
set_option maxRecDepth 100000 in
theorem lifted (os : Os) (started : os.Started) (H : Type) (enc : TypeId × Value → H) :
    ReturnsInHanded {} Try.checked os 3 .any (Rows.fnExactPlaceOfSpec.pre6 enc Try.prog Try.f3 Rows.fnExactPlaceOfRow.domain false) (Rows.fnExactPlaceOfSpec.post enc Try.prog Try.f3 false true false false) := by
  refine returnsInHanded_of_change (C := Try.checked) own started (by kernel_rfl) Try.func3
    (ChangeSpec.witness6 (enc := enc) (C := Try.checked) false ⟨#[], #[.slice none 0 0, .int .i64 0, .int .i64 0], []⟩ 8 (by kernel_rfl) (by kernel_rfl) (by kernel_rfl) (by kernel_rfl)) ?_
  intro W base args ds gs before hval0 hW hcnd _
  have hval : ∀ (j : Nat) t v, Try.f3.params[j]? = some t → args[j]? = some v → Value.okWide Try.prog W .any base t v := hval0
  have hW' := hW
  obtain ⟨p, q, hA0, hV, rfl, hfz, hnd⟩ := hW
  have hA : DataW.TrodAll enc Try.prog W 0 (fun _ => true) true Try.f3.params.toList args.toList ds p := hA0
  rw [Try.params3] at hA hval
  obtain ⟨v0, vs0, d0, ds0, p0, q0, hargs, rfl, rfl, h0, r0⟩ := trodAll_cons hA
  obtain ⟨v1, vs1, d1, ds1, p1, q1, rfl, rfl, rfl, h1, r1⟩ := trodAll_cons r0
  obtain ⟨v2, vs2, d2, ds2, p2, q2, rfl, rfl, rfl, h2, r2⟩ := trodAll_cons r1
  obtain ⟨rfl, rfl, rfl⟩ := trodAll_nil r2
  obtain rfl : args = #[v0, v1, v2] := by cases args; simp_all
  obtain ⟨rfl, rfl⟩ := trodVars_none hV
  have k00 := h0
  have lt0 : ∀ x ∈ p0, x.block < W.heap.size := by obtain ⟨m, hm⟩ := k00; exact DataW.trod_lt m _ _ _ hm
  obtain ⟨ts0, w0, tl0, tz0⟩ := Op.open_strs (hval 0 22 v0 rfl rfl) h0 (fun _ => rfl)
  have k10 := h1
  have lt1 : ∀ x ∈ p1, x.block < W.heap.size := by obtain ⟨m, hm⟩ := k10; exact DataW.trod_lt m _ _ _ hm
  obtain ⟨i1, rfl, rfl, rfl, z1⟩ := open_int Try.underlying3 (hval 1 3 v1 rfl rfl) h1
  have k20 := h2
  have lt2 : ∀ x ∈ p2, x.block < W.heap.size := by obtain ⟨m, hm⟩ := k20; exact DataW.trod_lt m _ _ _ hm
  obtain ⟨i2, rfl, rfl, rfl, z2⟩ := open_int Try.underlying3 (hval 2 3 v2 rfl rfl) h2
  clear hA0 hval0
  refine (walk v0 ts0 W w0 tl0 tz0 i1 z1 i2 z2 W).mono fun e W' ⟨he, bel⟩ => ?_
  subst he
  exact ⟨_, rfl, _, _, _, [], _, [], hW', trodAll_mk1 (shut_bool Try.underlying4 _), (trodAll_cons_mk (Below.trod laidOut (by kernel_rfl) (of_decide_eq_true (by kernel_rfl)) k00 bel lt0) (trodAll_cons_mk (Below.trod laidOut (by kernel_rfl) (of_decide_eq_true (by kernel_rfl)) k10 bel lt1) (trodAll_cons_mk (Below.trod laidOut (by kernel_rfl) (of_decide_eq_true (by kernel_rfl)) k20 bel lt2) trodAll_mk0))), rfl, bel.frame _, fun h => by cases h⟩

theorem over : Rows.fnExactPlaceOfRow.holds Try.pinned (OpenSpec.ofChange Rows.fnExactPlaceOfSpec) :=
  OpenClaim.holds_of_wide 3 Try.f3 rfl rfl rfl rfl rfl rfl rfl ⟨rfl, rfl, rfl, rfl, rfl⟩ rfl rfl rfl rfl rfl (by kernel_rfl) Try.func3 (by kernel_rfl)
    (of_decide_eq_true (by kernel_rfl)) (by unfold Func.isWrapper; first | (rw [if_pos (by decide +kernel)]; kernel_rfl) | (rw [if_neg (by decide +kernel)]; exact ⟨rfl, rfl⟩))
    (fun os started H enc _ => lifted os started H enc)

end Go.Proofs.Ytkmnjnblacmjlaa.fnExactPlaceOf
namespace Go.Proofs.Ytkmnjnblacmjlaa
/-- THE STATEMENT. -/
theorem fnExactPlaceOf_holds : Rows.FnExactPlaceOfSaid := fnExactPlaceOf.over
end Go.Proofs.Ytkmnjnblacmjlaa
