/-
  impl.JoinPieces answers at every list of texts just what the specification's JoinPieces answers; it writes into no argument, and its answer owns its memory.
  Conditions: none beyond the given row's own.
-/
import Derived.Test.YtgakmjonfecnhaaOt
import Derived.Test.YtgakmjonfecnhaaSv
import Derived.Test.YtgakmjonfecnhaaPk
import Derived.WalkKit
import Derived.ProofKit
import Derived.OpenShut
import Derived.ShutString
import Derived.ChangeOld
import Derived.Below
namespace Go.Proofs.Ytgakmjonfecnhaa.fnExactJoinPieces
open Go.ChangeShapes Go.WideShapes Go.ChangeAt Go.RowKit
open Go.ChangeMaps (open_string shut_string)

theorem own : ownKnob Try.prog.godebug = none := by kernel_rfl
theorem laidOut : laidOutB Try.prog = true := by kernel_rfl

open Go.Proofs.Ytgakmjonfecnhaa.Ap Go.Proofs.Ytgakmjonfecnhaa.By Go.Proofs.Ytgakmjonfecnhaa.Sl Go.Proofs.Ytgakmjonfecnhaa.Tx Go.Proofs.Ytgakmjonfecnhaa.Mk Go.Proofs.Ytgakmjonfecnhaa.Sv Go.Proofs.Ytgakmjonfecnhaa.Pj
set_option maxRecDepth 100000 in
set_option maxHeartbeats 3200000 in
/-- THE WALK: both functions answer alike; the copy that was handed in is as it was, the answer owns its memory, behind another call too. -/
theorem walk (v : Value) (ts : List ByteArray) (w : World) (hrow : RowT w v ts) (hl : ts.length ≤ maxLen) (hz : ∀ t ∈ ts, t.size ≤ maxLen) :
    Calls Try.prog 4 #[v] w fun e w' => e = .returned (.bool true) ∧ Below w.heap.size w w' := by
  have HR : Hid (RowT w v ts) := hrow
  have HSZ : Hid (Calls Try.prog 13 #[v, .int .i64 1048576] w fun e w' => e = .returned (.int .i64 (lfT 1048576 ts)) ∧ w = w') := szStringS_any v ts 1048576 w hrow hl hz (by decide) (by decide)
  have HLF := @lfT_neg ts
  obtain ⟨m, HM⟩ : ∃ m, Hid (lfT 1048576 ts = m) := ⟨_, rfl⟩
  rw [HM.out] at HSZ HLF
  clear hl hz hrow
  by_cases hbig : 1048576 < tot ts
  · have hm : m < 0 := HLF.2 hbig
    clear HLF hbig
    go_enter Try.func4, Try.ntmps4
    go_wp2_with fail
    refine HSZ.out.mono ?_
    rintro e w1 ⟨rfl, rfl⟩
    go_wp2_with fail
    go_ret
    exact ⟨rfl, Below.refl _ _⟩
  have hm : ¬ m < 0 := fun h => hbig (HLF.1 h)
  obtain ⟨hl, hs⟩ := each_small hbig
  have HS : Hid (∀ t ∈ ts, t.size ≤ 1048576) := hs
  have HT : Hid (∀ _ : Unit, ts.length ≤ 1048576) := fun _ => hl
  have GR0 := jn_range ts
  have GZ0 := jn_small ts
  obtain ⟨xs, HX⟩ : ∃ xs, Hid (jnL ts = xs) := ⟨_, rfl⟩
  obtain ⟨code, HC⟩ : ∃ code, Hid (Pf.pcC ts = code) := ⟨_, rfl⟩
  rw [HX.out] at GR0 GZ0
  have GR : Hid (∀ z ∈ xs, 0 ≤ z ∧ z ≤ 255) := GR0
  have GZ : Hid (xs.length ≤ 1048576) := by show _ ≤ _; omega
  have hcc : (code != code) = false := by simp
  have hml : ¬ ((1 : Int) + (xs.length : Int) < 0) := by omega
  have hmt : ¬ ((1 : Int) + (ts.length : Int) < 0) := by omega
  have hmm : (((1 : Int) + (xs.length : Int)) != (1 : Int) + (xs.length : Int)) = false := by simp
  clear GR0 GZ0 hs hl hbig HLF
  go_enter Try.func4, Try.ntmps4
  go_wp2_with fail
  refine HSZ.out.mono ?_
  rintro e w0 ⟨rfl, rfl⟩
  go_wp2_with fail
  refine (toStringS_any _ ts _ HR.out (HT.out ())).mono ?_
  rintro e w1 ⟨v1, rfl, t1, b1⟩
  go_wp2_with fail
  refine (specJoinPieces_any _ ts _ t1.row (HT.out ())).mono ?_
  rintro e w2 ⟨v2, rfl, o2, b2⟩
  rw [HX.out] at o2
  rw [HC.out]
  have B2 := andThen b1 (Nat.le_refl _) b2
  have R2 : Hid (RowB w2 v2 xs) := own_rowB o2 GR.out
  clear t1 b1 b2 o2 HSZ
  go_wp2_with fail
  refine (toStringS_any _ ts _ (HR.out.below B2) (HT.out ())).mono ?_
  rintro e w3 ⟨v3, rfl, t3, b3⟩
  have B3 := andThen B2 (Nat.le_refl _) b3
  have T3 : Hid (OwnT w3 w2.heap.size v3 ts) := t3
  have N3 : Hid (Below w2.heap.size w2 w3) := b3
  clear t3 b3
  go_wp2_with fail
  refine (implJoinPieces_any _ ts _ T3.out.row (HT.out ())).mono ?_
  rintro e w4 ⟨v4, rfl, o4, b4⟩
  rw [HX.out] at o4
  rw [HC.out]
  have B4 := andThen B3 (Nat.le_refl _) b4
  have T4 : Hid (OwnT w4 w2.heap.size v3 ts) := T3.out.below b4
  have N4 : Hid (Below w2.heap.size w2 w4) := andThen N3.out (Nat.le_refl _) b4
  have O4 : Hid (OwnX w4 w3.heap.size v4 xs) := o4
  have L3 : Hid (∀ g, v3.ownBlock = some g → g < w3.heap.size) := fun g hg => (OwnT.lt T3.out g hg).2
  have S34 : Hid (w3.heap.size ≤ w4.heap.size) := b4.size
  have M3 : Hid (w.heap.size ≤ w3.heap.size ∧ w2.heap.size ≤ w3.heap.size) := ⟨B3.size, N3.out.size⟩
  clear b4 o4 T3 N3 B3
  go_wp2_with fail
  refine (eqByteS_same _ _ xs _ (O4.out.row GR.out) (R2.out.below N4.out) GZ.out).mono ?_
  rintro e w5 ⟨rfl, b5⟩
  have B5 := andThen B4 (Nat.le_refl _) b5
  have T5 : Hid (OwnT w5 w2.heap.size v3 ts) := T4.out.below b5
  have N5 : Hid (Below w2.heap.size w2 w5) := andThen N4.out (Nat.le_refl _) b5
  have O5 : Hid (OwnX w5 w3.heap.size v4 xs) := O4.out.below b5
  have S35 : Hid (w3.heap.size ≤ w5.heap.size) := Nat.le_trans S34.out b5.size
  clear b5 T4 N4 O4 B4 S34
  go_wp2_with fail
  refine (toStringS_any _ ts _ (HR.out.below B5) (HT.out ())).mono ?_
  rintro e w6 ⟨v6, rfl, t6, b6⟩
  have B6 := andThen B5 (Nat.le_refl _) b6
  have T6 : Hid (OwnT w6 w2.heap.size v3 ts) := T5.out.below b6
  have N6 : Hid (Below w2.heap.size w2 w6) := andThen N5.out (Nat.le_refl _) b6
  have O6 : Hid (OwnX w6 w3.heap.size v4 xs) := O5.out.below b6
  have S36 : Hid (w3.heap.size ≤ w6.heap.size) := Nat.le_trans S35.out b6.size
  clear b6 T5 N5 O5 S35 B5
  go_wp2_with fail
  refine (eqStringS_same _ _ ts _ T6.out.row t6.row (HT.out ())).mono ?_
  rintro e w7 ⟨rfl, b7⟩
  have B7 := andThen B6 (Nat.le_refl _) b7
  have T7 : Hid (OwnT w7 w2.heap.size v3 ts) := T6.out.below b7
  have N7 : Hid (Below w2.heap.size w2 w7) := andThen N6.out (Nat.le_refl _) b7
  have O7 : Hid (OwnX w7 w3.heap.size v4 xs) := O6.out.below b7
  have S37 : Hid (w3.heap.size ≤ w7.heap.size) := Nat.le_trans S36.out b7.size
  clear b7 t6 T6 N6 O6 B6 S36
  go_wp2_with fail
  refine (markT_any _ ts 1 w2.heap.size _ T7.out (by decide) (by decide) (by have := HT.out (); omega)).mono ?_
  rintro e w8 ⟨rfl, k8⟩
  have b8 := kp_below (fun g hg => (OwnT.lt T7.out g hg).1) k8 N7.out.size
  have N8 : Hid (Below w2.heap.size w2 w8) := N7.out.trans b8
  have B8 : Below w.heap.size w w8 := B7.trans (b8.mono B2.size)
  have O8 : Hid (OwnX w8 w3.heap.size v4 xs) := O7.out.kp k8 L3.out
  have S38 : Hid (w3.heap.size ≤ w8.heap.size) := Nat.le_trans S37.out k8.size
  clear k8 b8 T7 N7 O7 S37 B7 L3
  go_wp2_with fail
  refine (eqByteS_same _ _ xs _ (O8.out.row GR.out) (R2.out.below N8.out) GZ.out).mono ?_
  rintro e w9 ⟨rfl, b9⟩
  have B9 := andThen B8 (Nat.le_refl _) b9
  have N9 : Hid (Below w2.heap.size w2 w9) := andThen N8.out (Nat.le_refl _) b9
  have O9 : Hid (OwnX w9 w3.heap.size v4 xs) := O8.out.below b9
  have S39 : Hid (w3.heap.size ≤ w9.heap.size) := Nat.le_trans S38.out b9.size
  clear b9 B8 N8 O8 S38
  go_wp2_with fail
  refine (markX_any _ xs 1 w3.heap.size _ O9.out (by decide) (by decide) (by have := GZ.out; omega)).mono ?_
  rintro e w10 ⟨rfl, o10, b10⟩
  have b10' := b10.mono (show w3.heap.size ≤ w3.heap.size from Nat.le_refl _)
  have B10 : Below w.heap.size w w10 := B9.trans (b10.mono M3.out.1)
  have r10 : Hid (RowB w10 v4 (marks 1 xs.length)) := o10
  have N10 : Hid (Below w2.heap.size w2 w10) := N9.out.trans (b10.mono M3.out.2)
  clear b10 b10' o10 O9 N9 B9 S39
  go_wp2_with fail
  refine (heldByteS_any _ xs.length 1 _ r10.out (by decide) (by decide) (by have := GZ.out; omega)).mono ?_
  rintro e w10' ⟨rfl, rfl⟩
  go_wp2_with fail
  refine (toStringS_any _ ts _ (HR.out.below B10) (HT.out ())).mono ?_
  rintro e w11 ⟨v11, rfl, t11, b11⟩
  go_wp2_with fail
  refine (implJoinPieces_any _ ts _ t11.row (HT.out ())).mono ?_
  rintro e w12 ⟨v12, rfl, o12, b12⟩
  rw [HX.out] at o12
  rw [HC.out]
  have b1012 := andThen b11 (Nat.le_refl _) b12
  have B12 := andThen B10 (Nat.le_refl _) b1012
  have r12 : Hid (RowB w12 v4 (marks 1 xs.length)) := r10.out.below b1012
  have R12 : Hid (RowB w12 v2 xs) := R2.out.below (andThen N10.out (Nat.le_refl _) b1012)
  have P12 : Hid (RowB w12 v12 xs) := o12.row GR.out
  clear b11 b12 b1012 t11 o12 r10 N10 B10
  go_wp2_with fail
  refine (eqByteS_same _ _ xs _ P12.out R12.out GZ.out).mono ?_
  rintro e w13 ⟨rfl, b13⟩
  have B13 := andThen B12 (Nat.le_refl _) b13
  have r13 : Hid (RowB w13 v4 (marks 1 xs.length)) := r12.out.below b13
  clear b13 r12 R12 P12 B12
  go_wp2_with fail
  refine (heldByteS_any _ xs.length 1 _ r13.out (by decide) (by decide) (by have := GZ.out; omega)).mono ?_
  rintro e w14 ⟨rfl, rfl⟩
  go_wp2_with fail
  go_ret
  exact ⟨rfl, B13⟩

/-! ### THE ROW's STEP -/
set_option maxRecDepth 100000 in
theorem lifted (os : Os) (started : os.Started) (H : Type) (enc : TypeId × Value → H) :
    ReturnsInHanded {} Try.checked os 4 .any (Rows.fnExactJoinPiecesSpec.pre6 enc Try.prog Try.f4 Rows.fnExactJoinPiecesRow.domain false) (Rows.fnExactJoinPiecesSpec.post enc Try.prog Try.f4 false true false false) := by
  refine returnsInHanded_of_change (C := Try.checked) own started (by kernel_rfl) Try.func4
    (ChangeSpec.witness6 (enc := enc) (C := Try.checked) false ⟨#[], #[.slice none 0 0], []⟩ 8 (by kernel_rfl) (by kernel_rfl) (by kernel_rfl) (by kernel_rfl)) ?_
  intro W base args ds gs before hval0 hW hcnd _
  have hval : ∀ (j : Nat) t v, Try.f4.params[j]? = some t → args[j]? = some v → Value.okWide Try.prog W .any base t v := hval0
  have hW' := hW
  obtain ⟨p, q, hA0, hV, rfl, hfz, hnd⟩ := hW
  have hA : DataW.TrodAll enc Try.prog W 0 (fun _ => true) true Try.f4.params.toList args.toList ds p := hA0
  rw [Try.params4] at hA hval
  obtain ⟨v0, vs0, d0, ds0, p0, q0, hargs, rfl, rfl, h0, r0⟩ := trodAll_cons hA
  obtain ⟨rfl, rfl, rfl⟩ := trodAll_nil r0
  obtain rfl : args = #[v0] := by cases args; simp_all
  obtain ⟨rfl, rfl⟩ := trodVars_none hV
  have k00 := h0
  have lt0 : ∀ x ∈ p0, x.block < W.heap.size := by obtain ⟨m, hm⟩ := k00; exact DataW.trod_lt m _ _ _ hm
  obtain ⟨ts0, w0, tl0, tz0⟩ := Op.open_strs (hval 0 23 v0 rfl rfl) h0 (fun _ => rfl)
  clear hA0 hval0
  refine (walk v0 ts0 W w0 tl0 tz0).mono fun e W' ⟨he, bel⟩ => ?_
  subst he
  exact ⟨_, rfl, _, _, _, [], _, [], hW', trodAll_mk1 (shut_bool Try.underlying4 _), (trodAll_cons_mk (Below.trod laidOut (by kernel_rfl) (of_decide_eq_true (by kernel_rfl)) k00 bel lt0) trodAll_mk0), rfl, bel.frame _, fun h => by cases h⟩

theorem over : Rows.fnExactJoinPiecesRow.holds Try.pinned (OpenSpec.ofChange Rows.fnExactJoinPiecesSpec) :=
  OpenClaim.holds_of_wide 4 Try.f4 rfl rfl rfl rfl rfl rfl rfl ⟨rfl, rfl, rfl, rfl, rfl⟩ rfl rfl rfl rfl rfl (by kernel_rfl) Try.func4 (by kernel_rfl)
    (of_decide_eq_true (by kernel_rfl)) (by unfold Func.isWrapper; first | (rw [if_pos (by decide +kernel)]; kernel_rfl) | (rw [if_neg (by decide +kernel)]; exact ⟨rfl, rfl⟩))
    (fun os started H enc _ => lifted os started H enc)

end Go.Proofs.Ytgakmjonfecnhaa.fnExactJoinPieces
namespace Go.Proofs.Ytgakmjonfecnhaa
/-- THE STATEMENT. -/
theorem fnExactJoinPieces_holds : Rows.FnExactJoinPiecesSaid := fnExactJoinPieces.over
end Go.Proofs.Ytgakmjonfecnhaa
