/-
  impl.CutPieces answers at every []byte just what the specification's CutPieces answers; it writes into no argument, and its answer owns its memory.
  Conditions: none beyond the given row's own.
-/
import Derived.Test.YtgakmjonfecnhaaOb
import Derived.Test.YtgakmjonfecnhaaTbp
import Derived.Test.YtgakmjonfecnhaaPh
import Derived.WalkKit
import Derived.ProofKit
import Derived.OpenShut
import Derived.ShutString
import Derived.ChangeOld
import Derived.Below
namespace Go.Proofs.Ytgakmjonfecnhaa.fnExactCutPieces
open Go.ChangeShapes Go.WideShapes Go.ChangeAt Go.RowKit
open Go.ChangeMaps (open_string shut_string)

theorem own : ownKnob Try.prog.godebug = none := by kernel_rfl
theorem laidOut : laidOutB Try.prog = true := by kernel_rfl

open Go.Proofs.Ytgakmjonfecnhaa.Ap Go.Proofs.Ytgakmjonfecnhaa.By Go.Proofs.Ytgakmjonfecnhaa.Sl Go.Proofs.Ytgakmjonfecnhaa.Tx Go.Proofs.Ytgakmjonfecnhaa.Mk Go.Proofs.Ytgakmjonfecnhaa.Sv Go.Proofs.Ytgakmjonfecnhaa.Tb9 Go.Proofs.Ytgakmjonfecnhaa.Pg
set_option maxRecDepth 100000 in
set_option maxHeartbeats 3200000 in
/-- THE WALK: both functions answer alike; the copy that was handed in is as it was, the answer owns its memory, behind another call too. -/
theorem walk (v : Value) (xs : List Int) (w : World) (hrow : RowB w v xs) :
    Calls Try.prog 3 #[v] w fun e w' => e = .returned (.bool true) ∧ Below w.heap.size w w' := by
  have HR : Hid (RowB w v xs) := hrow
  obtain ⟨a, cap, rfl, _, hr⟩ := hrow
  by_cases hbig : (1048576 : Int) < (xs.length : Int)
  · go_enter Try.func3, Try.ntmps3
    go_wp2
    go_ret
    exact ⟨rfl, Below.refl _ _⟩
  have hl : xs.length ≤ 1048576 := by omega
  have GZ0 := cutL_small xs
  obtain ⟨ts, HX⟩ : ∃ ts, Hid (cutL xs = ts) := ⟨_, rfl⟩
  obtain ⟨code, HC⟩ : ∃ code, Hid (cutC xs = code) := ⟨_, rfl⟩
  rw [HX.out] at GZ0
  have GZ : Hid (∀ _ : Unit, ts.length ≤ 64) := fun _ => GZ0
  have HL : Hid (∀ _ : Unit, xs.length ≤ 1048576) := fun _ => hl
  have GR : Hid (∀ z ∈ xs, 0 ≤ z ∧ z ≤ 255) := hr
  have hcc : (code != code) = false := by simp
  have hml : ¬ ((1 : Int) + (xs.length : Int) < 0) := by omega
  have hmt : ¬ ((1 : Int) + (ts.length : Int) < 0) := by omega
  have hmm : (((1 : Int) + (ts.length : Int)) != (1 : Int) + (ts.length : Int)) = false := by simp
  have HNAT : Hid (((1 + ts.length : Nat) : Int) = (1 : Int) + (ts.length : Int)) := by show _ = _; omega
  clear GZ0 hr hl
  go_enter Try.func3, Try.ntmps3
  go_wp2_with fail
  refine (toByteS_any _ xs _ HR.out (HL.out ())).mono ?_
  rintro e w1 ⟨v1, rfl, r1, b1⟩
  go_wp2_with fail
  refine (specCutPieces_any _ xs _ r1 (HL.out ())).mono ?_
  rintro e w2 ⟨v2, rfl, o2, b2⟩
  rw [HX.out] at o2
  rw [HC.out]
  have B2 := andThen b1 (Nat.le_refl _) b2
  have R2 : Hid (RowT w2 v2 ts) := o2.row
  clear r1 b1 b2 o2
  go_wp2_with fail
  refine (toByteO_any _ xs _ (HR.out.below B2) (HL.out ())).mono ?_
  rintro e w3 ⟨v3, rfl, o3, b3⟩
  have B3 := andThen B2 (Nat.le_refl _) b3
  have T3 : Hid (OwnB 5 w3 w2.heap.size v3 xs) := o3
  have N3 : Hid (Below w2.heap.size w2 w3) := b3
  clear o3 b3
  go_wp2_with fail
  refine (implCutPieces_any _ xs _ (own_rowB T3.out GR.out) (HL.out ())).mono ?_
  rintro e w4 ⟨v4, rfl, o4, b4⟩
  rw [HX.out] at o4
  rw [HC.out]
  have B4 := andThen B3 (Nat.le_refl _) b4
  have T4 : Hid (OwnB 5 w4 w2.heap.size v3 xs) := own_below T3.out b4
  have N4 : Hid (Below w2.heap.size w2 w4) := andThen N3.out (Nat.le_refl _) b4
  have O4 : Hid (OwnS w4 w3.heap.size v4 ts) := o4
  have L3 : Hid (∀ g, v3.ownBlock = some g → g < w3.heap.size) := fun g hg => (World.ownsRow.lt T3.out g hg).2
  have S34 : Hid (w3.heap.size ≤ w4.heap.size) := b4.size
  have M3 : Hid (w.heap.size ≤ w3.heap.size ∧ w2.heap.size ≤ w3.heap.size) := ⟨B3.size, N3.out.size⟩
  clear b4 o4 T3 N3 B3
  go_wp2_with fail
  refine (eqStringS_same _ _ ts _ O4.out.row (R2.out.below N4.out) (by have := GZ.out (); omega)).mono ?_
  rintro e w5 ⟨rfl, b5⟩
  have B5 := andThen B4 (Nat.le_refl _) b5
  have T5 : Hid (OwnB 5 w5 w2.heap.size v3 xs) := own_below T4.out b5
  have N5 : Hid (Below w2.heap.size w2 w5) := andThen N4.out (Nat.le_refl _) b5
  have O5 : Hid (OwnS w5 w3.heap.size v4 ts) := OwnS.below O4.out b5
  have S35 : Hid (w3.heap.size ≤ w5.heap.size) := Nat.le_trans S34.out b5.size
  clear b5 T4 N4 O4 B4 S34
  go_wp2_with fail
  refine (toByteS_any _ xs _ (HR.out.below B5) (HL.out ())).mono ?_
  rintro e w6 ⟨v6, rfl, t6, b6⟩
  have B6 := andThen B5 (Nat.le_refl _) b6
  have T6 : Hid (OwnB 5 w6 w2.heap.size v3 xs) := own_below T5.out b6
  have N6 : Hid (Below w2.heap.size w2 w6) := andThen N5.out (Nat.le_refl _) b6
  have O6 : Hid (OwnS w6 w3.heap.size v4 ts) := OwnS.below O5.out b6
  have S36 : Hid (w3.heap.size ≤ w6.heap.size) := Nat.le_trans S35.out b6.size
  clear b6 T5 N5 O5 S35 B5
  go_wp2_with fail
  refine (eqByteS_same _ _ xs _ (own_rowB T6.out GR.out) t6 (HL.out ())).mono ?_
  rintro e w7 ⟨rfl, b7⟩
  have B7 := andThen B6 (Nat.le_refl _) b7
  have T7 : Hid (OwnB 5 w7 w2.heap.size v3 xs) := own_below T6.out b7
  have N7 : Hid (Below w2.heap.size w2 w7) := andThen N6.out (Nat.le_refl _) b7
  have O7 : Hid (OwnS w7 w3.heap.size v4 ts) := OwnS.below O6.out b7
  have S37 : Hid (w3.heap.size ≤ w7.heap.size) := Nat.le_trans S36.out b7.size
  clear b7 t6 T6 N6 O6 B6 S36
  go_wp2_with fail
  refine (markByteS_any _ xs 1 w2.heap.size _ T7.out (by decide) (by decide) (by have := HL.out (); omega)).mono ?_
  rintro e w8 ⟨rfl, _, k8⟩
  have b8 := k8.below T7.out N7.out.size
  have N8 : Hid (Below w2.heap.size w2 w8) := N7.out.trans b8
  have B8 : Below w.heap.size w w8 := B7.trans (b8.mono B2.size)
  have O8 : Hid (OwnS w8 w3.heap.size v4 ts) := ownS_kp O7.out k8 L3.out
  have S38 : Hid (w3.heap.size ≤ w8.heap.size) := Nat.le_trans S37.out k8.size
  clear k8 b8 T7 N7 O7 S37 B7 L3
  go_wp2_with fail
  refine (eqStringS_same _ _ ts _ O8.out.row (R2.out.below N8.out) (by have := GZ.out (); omega)).mono ?_
  rintro e w9 ⟨rfl, b9⟩
  have B9 := andThen B8 (Nat.le_refl _) b9
  have N9 : Hid (Below w2.heap.size w2 w9) := andThen N8.out (Nat.le_refl _) b9
  have O9 : Hid (OwnS w9 w3.heap.size v4 ts) := OwnS.below O8.out b9
  have S39 : Hid (w3.heap.size ≤ w9.heap.size) := Nat.le_trans S38.out b9.size
  clear b9 B8 N8 O8 S38
  have HMK : Hid (Calls Try.prog 11 #[v4, .int .i64 1] w9 fun e w' => e = .returned (.int .i64 ((1 : Int) + (ts.length : Int))) ∧ RowT w' v4 (tmarks 1 ts.length) ∧ Below w3.heap.size w9 w') := by
    refine (markOwn_any v4 ts 1 w3.heap.size ts.length w9 O9.out rfl (by decide) (by decide) (by have := GZ.out (); omega)).mono ?_
    rintro e w' ⟨rfl, h1, h2⟩
    exact ⟨by rw [HNAT.out], h1, kp_below (fun g hg => (World.ownsRow.lt O9.out g hg).1) h2 S39.out⟩
  go_wp2_with fail
  refine HMK.out.mono ?_
  rintro e w10 ⟨rfl, t10, b10⟩
  have B10 : Below w.heap.size w w10 := B9.trans (b10.mono M3.out.1)
  have r10 : Hid (RowT w10 v4 (tmarks 1 ts.length)) := t10
  have N10 : Hid (Below w2.heap.size w2 w10) := N9.out.trans (b10.mono M3.out.2)
  clear b10 t10 O9 N9 B9 S39 HMK
  go_wp2_with fail
  refine (heldStringS_any _ ts.length 1 _ r10.out (by decide) (by decide) (by have := GZ.out (); omega)).mono ?_
  rintro e w11 ⟨rfl, b11⟩
  have B11 := andThen B10 (Nat.le_refl _) b11
  have r11 : Hid (RowT w11 v4 (tmarks 1 ts.length)) := r10.out.below b11
  have N11 : Hid (Below w2.heap.size w2 w11) := andThen N10.out (Nat.le_refl _) b11
  clear b11 r10 N10 B10
  go_wp2_with fail
  refine (toByteS_any _ xs _ (HR.out.below B11) (HL.out ())).mono ?_
  rintro e w12 ⟨v12, rfl, t12, b12⟩
  go_wp2_with fail
  refine (implCutPieces_any _ xs _ t12 (HL.out ())).mono ?_
  rintro e w13 ⟨v13, rfl, o13, b13⟩
  rw [HX.out] at o13
  rw [HC.out]
  have b1113 := andThen b12 (Nat.le_refl _) b13
  have B13 := andThen B11 (Nat.le_refl _) b1113
  have r13 : Hid (RowT w13 v4 (tmarks 1 ts.length)) := r11.out.below b1113
  have R13 : Hid (RowT w13 v2 ts) := R2.out.below (andThen N11.out (Nat.le_refl _) b1113)
  have P13 : Hid (RowT w13 v13 ts) := o13.row
  clear b12 b13 b1113 t12 o13 r11 N11 B11
  go_wp2_with fail
  refine (eqStringS_same _ _ ts _ P13.out R13.out (by have := GZ.out (); omega)).mono ?_
  rintro e w14 ⟨rfl, b14⟩
  have B14 := andThen B13 (Nat.le_refl _) b14
  have r14 : Hid (RowT w14 v4 (tmarks 1 ts.length)) := r13.out.below b14
  clear b14 r13 R13 P13 B13
  go_wp2_with fail
  refine (heldStringS_any _ ts.length 1 _ r14.out (by decide) (by decide) (by have := GZ.out (); omega)).mono ?_
  rintro e w15 ⟨rfl, b15⟩
  have B15 := andThen B14 (Nat.le_refl _) b15
  clear b15 B14 r14
  go_wp2_with fail
  go_ret
  exact ⟨rfl, B15⟩

/-! ### THE ROW's STEP -/
set_option maxRecDepth 100000 in
theorem lifted (os : Os) (started : os.Started) (H : Type) (enc : TypeId × Value → H) :
    ReturnsInHanded {} Try.checked os 3 .any (Rows.fnExactCutPiecesSpec.pre6 enc Try.prog Try.f3 Rows.fnExactCutPiecesRow.domain false) (Rows.fnExactCutPiecesSpec.post enc Try.prog Try.f3 false true false false) := by
  refine returnsInHanded_of_change (C := Try.checked) own started (by kernel_rfl) Try.func3
    (ChangeSpec.witness6 (enc := enc) (C := Try.checked) false ⟨#[], #[.slice none 0 0], []⟩ 8 (by kernel_rfl) (by kernel_rfl) (by kernel_rfl) (by kernel_rfl)) ?_
  intro W base args ds gs before hval0 hW hcnd _
  have hval : ∀ (j : Nat) t v, Try.f3.params[j]? = some t → args[j]? = some v → Value.okWide Try.prog W .any base t v := hval0
  have hW' := hW
  obtain ⟨p, q, hA0, hV, rfl, hfz, hnd⟩ := hW
  have hA : DataW.TrodAll enc Try.prog W 0 (fun _ => true) true Try.f3.params.toList args.toList ds p := hA0
  rw [Try.params3] at hA hval
  obtain ⟨v0, vs0, d0, ds0, p0, q0, hargs, rfl, rfl, h0, r0⟩ := trodAll_cons hA
  obtain ⟨rfl, rfl, rfl⟩ := trodAll_nil r0
  obtain rfl : args = #[v0] := by cases args; simp_all
  obtain ⟨rfl, rfl⟩ := trodVars_none hV
  have k00 := h0
  have lt0 : ∀ x ∈ p0, x.block < W.heap.size := by obtain ⟨m, hm⟩ := k00; exact DataW.trod_lt m _ _ _ hm
  obtain ⟨xs0, w0⟩ := Op.open_bytes (hval 0 22 v0 rfl rfl) h0 (fun _ => rfl)
  clear hA0 hval0
  refine (walk v0 xs0 W w0).mono fun e W' ⟨he, bel⟩ => ?_
  subst he
  exact ⟨_, rfl, _, _, _, [], _, [], hW', trodAll_mk1 (shut_bool Try.underlying4 _), (trodAll_cons_mk (Below.trod laidOut (by kernel_rfl) (of_decide_eq_true (by kernel_rfl)) k00 bel lt0) trodAll_mk0), rfl, bel.frame _, fun h => by cases h⟩

theorem over : Rows.fnExactCutPiecesRow.holds Try.pinned (OpenSpec.ofChange Rows.fnExactCutPiecesSpec) :=
  OpenClaim.holds_of_wide 3 Try.f3 rfl rfl rfl rfl rfl rfl rfl ⟨rfl, rfl, rfl, rfl, rfl⟩ rfl rfl rfl rfl rfl (by kernel_rfl) Try.func3 (by kernel_rfl)
    (of_decide_eq_true (by kernel_rfl)) (by unfold Func.isWrapper; first | (rw [if_pos (by decide +kernel)]; kernel_rfl) | (rw [if_neg (by decide +kernel)]; exact ⟨rfl, rfl⟩))
    (fun os started H enc _ => lifted os started H enc)

end Go.Proofs.Ytgakmjonfecnhaa.fnExactCutPieces
namespace Go.Proofs.Ytgakmjonfecnhaa
/-- THE STATEMENT. -/
theorem fnExactCutPieces_holds : Rows.FnExactCutPiecesSaid := fnExactCutPieces.over
end Go.Proofs.Ytgakmjonfecnhaa
