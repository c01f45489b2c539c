/-
  impl.ListBytes answers at every list of texts just what the specification's ListBytes answers; it writes into no argument, and its answer owns its memory.
  Conditions: none beyond the given row's own.
-/
import Derived.Test.YtmafigajapkmnaaOpt
import Derived.Test.YtmafigajapkmnaaLb2
import Derived.Test.YtmafigajapkmnaaMkt
import Derived.WalkKit
import Derived.ProofKit
import Derived.OpenShut
import Derived.ShutString
import Derived.ChangeOld
import Derived.Below
namespace Go.Proofs.Ytmafigajapkmnaa.fnExactListBytes
open Go.ChangeShapes Go.WideShapes Go.ChangeAt Go.RowKit
open Go.ChangeMaps (open_string shut_string)

theorem own : ownKnob Try.prog.godebug = none := by kernel_rfl
theorem laidOut : laidOutB Try.prog = true := by kernel_rfl

open Go.Proofs.Ytmafigajapkmnaa.Rq Go.Proofs.Ytmafigajapkmnaa.Rr Go.Proofs.Ytmafigajapkmnaa.Ap Go.Proofs.Ytmafigajapkmnaa.By Go.Proofs.Ytmafigajapkmnaa.Sl Go.Proofs.Ytmafigajapkmnaa.Tx Go.Proofs.Ytmafigajapkmnaa.Lb Go.Proofs.Ytmafigajapkmnaa.Mk
theorem out_range (ts : List ByteArray) : ∀ z ∈ lbOut ts, 0 ≤ z ∧ z ≤ 255 := by
  unfold lbOut
  split
  · exact listTo_range _ _
  · intro z hz; cases hz
theorem len_eq (ts : List ByteArray) : ∀ k, k ≤ ts.length → lenTo ts k = 1 + 2 * k + szT ts k
  | 0, _ => by simp [lenTo, szT]
  | k + 1, h => by unfold lenTo; rw [len_eq ts k (by omega), szT_succ ts k (by omega)]; omega
theorem out_small (ts : List ByteArray) (_h : big ts = false) : (lbOut ts).length ≤ 1048576 := by
  unfold lbOut
  split
  · rename_i hc
    rw [listTo_length]
    unfold lbCode at hc
    split at hc
    · cases hc
    · split at hc
      · cases hc
      · split at hc
        · rename_i hn
          rw [List.find?_eq_none] at hn
          by_cases h0 : ts.length = 0
          · rw [h0]; show 1 ≤ 1048576; decide
          · have := hn (ts.length - 1) (by simp; omega)
            unfold bad at this
            simp at this
            rw [show ts.length - 1 + 1 = ts.length by omega] at this
            omega
        · exact absurd hc (cd_pos _ _)
  · simp
theorem each_small (ts : List ByteArray) (h : big ts = false) : ts.length ≤ 1048576 ∧ ∀ i, i < ts.length → (tnth ts i).size ≤ 1048576 := by
  unfold big at h
  rw [decide_eq_false_iff_not] at h
  refine ⟨by omega, fun i hi => ?_⟩
  have h1 := szT_succ ts i hi
  have h2 := szT_mono ts (show i + 1 ≤ ts.length by omega)
  omega
theorem kp_belowT {w w' : World} {B : Nat} {v : Value} {ts : List ByteArray} (h : OwnT w B v ts) (hk : Kp w w' v v) (hB : B ≤ w.heap.size) : Below B w w' := by
  obtain ⟨g, A, rfl, hg, _⟩ := h
  exact ⟨hk.os, hk.tape, hk.output, hk.size, fun k hlt => hk.block k (by omega) (by simp [Value.ownBlock]; omega)⟩
theorem ownT_lt {w : World} {B : Nat} {v : Value} {ts : List ByteArray} (h : OwnT w B v ts) : ∀ g, v.ownBlock = some g → g < w.heap.size := by
  obtain ⟨g, A, rfl, _, hg, _⟩ := h
  intro g' hg'
  simp [Value.ownBlock] at hg'
  subst hg'
  exact (Array.getElem?_eq_some_iff.1 hg).1

set_option maxRecDepth 100000 in
set_option maxHeartbeats 3200000 in
/-- THE WALK: both functions answer alike; the copy that was handed in is as it was, the answer owns its memory, behind another call too. -/
theorem walk (v : Value) (ts : List ByteArray) (w : World) (hrow : RowT w v ts) (hl : ts.length ≤ maxLen) (hz : ∀ t ∈ ts, t.size ≤ maxLen) :
    Calls Try.prog 11 #[v] w fun e w' => e = .returned (.bool true) ∧ Below w.heap.size w w' := by
  have HR : Hid (RowT w v ts) := hrow
  have HL : Hid (∀ _ : Unit, ts.length ≤ maxLen) := fun _ => hl
  have HZ : Hid (∀ t ∈ ts, t.size ≤ maxLen) := hz
  clear hl hz hrow
  cases hbig : big ts
  case true =>
    go_enter Try.func11, Try.ntmps11
    go_wp2_with fail
    refine (szStringS_any _ ts _ HR.out (HL.out ()) HZ.out).mono ?_
    rintro e w1 ⟨⟨m, rfl, hm⟩, rfl⟩
    have hm' : m < 0 := hm.2 hbig
    clear hm
    go_wp2_with fail
    go_ret
    exact ⟨rfl, Below.refl _ _⟩
  obtain ⟨hl, hs⟩ := each_small ts hbig
  have HS : Hid (∀ i, i < ts.length → (tnth ts i).size ≤ 1048576) := hs
  have HT : Hid (∀ _ : Unit, ts.length ≤ 1048576) := fun _ => hl
  have GR0 := out_range ts
  have GZ0 := out_small ts hbig
  obtain ⟨xs, HX⟩ : ∃ xs, Hid (lbOut ts = xs) := ⟨_, rfl⟩
  obtain ⟨code, HC⟩ : ∃ code, Hid (lbCode ts = code) := ⟨_, rfl⟩
  rw [HX.out] at GR0 GZ0
  have GR : Hid (∀ z ∈ xs, 0 ≤ z ∧ z ≤ 255) := GR0
  have GZ : Hid (xs.length ≤ 1048576) := GZ0
  have hcc : (code != code) = false := by simp
  have hml : ¬ ((1 : Int) + (xs.length : Int) < 0) := by omega
  have hmt : ¬ ((1 : Int) + (ts.length : Int) < 0) := by omega
  have hmm : (((1 : Int) + (xs.length : Int)) != (1 : Int) + (xs.length : Int)) = false := by simp
  clear GR0 GZ0 hs hl
  go_enter Try.func11, Try.ntmps11
  go_wp2_with fail
  refine (szStringS_any _ ts _ HR.out (HL.out ()) HZ.out).mono ?_
  rintro e w0 ⟨⟨m, rfl, hm⟩, hw⟩
  rw [hw]
  clear hw
  have hm' : ¬ m < 0 := fun h => by rw [hm.1 h] at hbig; cases hbig
  clear hm hbig HL HZ
  go_wp2_with fail
  refine (toStringS_any _ ts _ HR.out (HT.out ())).mono ?_
  rintro e w1 ⟨v1, rfl, t1, b1⟩
  go_wp2_with fail
  refine (specListBytes_any _ ts _ t1.row (HT.out ()) HS.out).mono ?_
  rintro e w2 ⟨v2, rfl, o2, b2⟩
  rw [HX.out] at o2
  rw [HC.out]
  have B2 := andThen b1 (Nat.le_refl _) b2
  have R2 : Hid (RowB w2 v2 xs) := own_rowB o2 GR.out
  clear t1 b1 b2 o2
  go_wp2_with fail
  refine (toStringS_any _ ts _ (HR.out.below B2) (HT.out ())).mono ?_
  rintro e w3 ⟨v3, rfl, t3, b3⟩
  have B3 := andThen B2 (Nat.le_refl _) b3
  have T3 : Hid (OwnT w3 w2.heap.size v3 ts) := t3
  have N3 : Hid (Below w2.heap.size w2 w3) := b3
  clear t3 b3
  go_wp2_with fail
  refine (implListBytes_any _ ts _ T3.out.row (HT.out ()) HS.out).mono ?_
  rintro e w4 ⟨v4, rfl, o4, b4⟩
  rw [HX.out] at o4
  rw [HC.out]
  have B4 := andThen B3 (Nat.le_refl _) b4
  have T4 : Hid (OwnT w4 w2.heap.size v3 ts) := T3.out.below b4
  have N4 : Hid (Below w2.heap.size w2 w4) := andThen N3.out (Nat.le_refl _) b4
  have O4 : Hid (OwnB 5 w4 w3.heap.size v4 xs) := o4
  have L3 : Hid (∀ g, v3.ownBlock = some g → g < w3.heap.size) := ownT_lt T3.out
  have S34 : Hid (Below w3.heap.size w3 w4) := b4
  clear b4 o4 T3 N3 B3
  go_wp2_with fail
  refine (eqByteS_same _ _ xs _ (own_rowB O4.out GR.out) (R2.out.below N4.out) GZ.out).mono ?_
  rintro e w5 ⟨rfl, b5⟩
  have B5 := andThen B4 (Nat.le_refl _) b5
  have T5 : Hid (OwnT w5 w2.heap.size v3 ts) := T4.out.below b5
  have N5 : Hid (Below w2.heap.size w2 w5) := andThen N4.out (Nat.le_refl _) b5
  have O5 : Hid (OwnB 5 w5 w3.heap.size v4 xs) := own_below O4.out b5
  have S35 : Hid (Below w3.heap.size w3 w5) := andThen S34.out (Nat.le_refl _) b5
  clear b5 T4 N4 O4 B4 S34
  go_wp2_with fail
  refine (toStringS_any _ ts _ (HR.out.below B5) (HT.out ())).mono ?_
  rintro e w6 ⟨v6, rfl, t6, b6⟩
  have B6 := andThen B5 (Nat.le_refl _) b6
  have T6 : Hid (OwnT w6 w2.heap.size v3 ts) := T5.out.below b6
  have N6 : Hid (Below w2.heap.size w2 w6) := andThen N5.out (Nat.le_refl _) b6
  have O6 : Hid (OwnB 5 w6 w3.heap.size v4 xs) := own_below O5.out b6
  have S36 : Hid (Below w3.heap.size w3 w6) := andThen S35.out (Nat.le_refl _) b6
  clear b6 T5 N5 O5 S35 B5
  go_wp2_with fail
  refine (eqStringS_same _ _ ts _ T6.out.row t6.row (HT.out ())).mono ?_
  rintro e w7 ⟨rfl, b7⟩
  have B7 := andThen B6 (Nat.le_refl _) b7
  have T7 : OwnT w7 w2.heap.size v3 ts := T6.out.below b7
  have N7 := andThen N6.out (Nat.le_refl _) b7
  have O7 := own_below O6.out b7
  have S37 := andThen S36.out (Nat.le_refl _) b7
  clear b7 t6 T6 N6 O6 B6 S36
  go_wp2_with fail
  refine (markStringS_any _ ts 1 w2.heap.size _ T7 (by decide) (by decide) (by have := HT.out (); omega)).mono ?_
  rintro e w8 ⟨rfl, t8, k8⟩
  have b8 := kp_belowT T7 k8 (Nat.le_trans (Nat.le_refl _) N7.size)
  have N8 : Hid (Below w2.heap.size w2 w8) := N7.trans b8
  have B8 : Below w.heap.size w w8 := B7.trans (b8.mono B2.size)
  have O8 : Hid (OwnB 5 w8 w3.heap.size v4 xs) := own_kp O7 k8 L3.out
  have S38 : Hid (w3.heap.size ≤ w8.heap.size) := Nat.le_trans S37.size k8.size
  have M23 : w2.heap.size ≤ w3.heap.size := by
    rcases T7 with ⟨g, A, hv, hg, _⟩
    have := L3.out g (by rw [hv]; rfl)
    omega
  have M3 : Hid (w.heap.size ≤ w3.heap.size ∧ w2.heap.size ≤ w3.heap.size) := ⟨Nat.le_trans B2.size M23, M23⟩
  clear M23
  clear t8 k8 b8 T7 N7 O7 S37 B7
  go_wp2_with fail
  refine (eqByteS_same _ _ xs _ (own_rowB O8.out GR.out) (R2.out.below N8.out) GZ.out).mono ?_
  rintro e w9 ⟨rfl, b9⟩
  have B9 := andThen B8 (Nat.le_refl _) b9
  have N9 : Hid (Below w2.heap.size w2 w9) := andThen N8.out (Nat.le_refl _) b9
  have O9 : Hid (OwnB 5 w9 w3.heap.size v4 xs) := own_below O8.out b9
  have S39 : Hid (w3.heap.size ≤ w9.heap.size) := Nat.le_trans S38.out b9.size
  clear b9 B8 N8 O8 S38
  go_wp2_with fail
  refine (markByteS_any _ xs 1 w3.heap.size _ O9.out (by decide) (by decide) (by have := GZ.out; omega)).mono ?_
  rintro e w10 ⟨rfl, o10, k10⟩
  have b10 := k10.below O9.out S39.out
  have B10 : Below w.heap.size w w10 := B9.trans (b10.mono M3.out.1)
  have r10 : Hid (RowB w10 v4 (marks 1 xs.length)) := own_rowB o10 (marks_range _ _)
  have N10 : Hid (Below w2.heap.size w2 w10) := N9.out.trans (b10.mono M3.out.2)
  clear b10 k10 o10 O9 N9 B9 S39
  go_wp2_with fail
  refine (heldByteS_any _ xs.length 1 _ r10.out (by decide) (by decide) (by have := GZ.out; omega)).mono ?_
  rintro e w10' ⟨rfl, rfl⟩
  go_wp2_with fail
  refine (toStringS_any _ ts _ (HR.out.below B10) (HT.out ())).mono ?_
  rintro e w11 ⟨v11, rfl, t11, b11⟩
  go_wp2_with fail
  refine (implListBytes_any _ ts _ t11.row (HT.out ()) HS.out).mono ?_
  rintro e w12 ⟨v12, rfl, o12, b12⟩
  rw [HX.out] at o12
  rw [HC.out]
  have b1012 := andThen b11 (Nat.le_refl _) b12
  have B12 := andThen B10 (Nat.le_refl _) b1012
  have r12 : Hid (RowB w12 v4 (marks 1 xs.length)) := r10.out.below b1012
  have R12 : Hid (RowB w12 v2 xs) := R2.out.below (andThen N10.out (Nat.le_refl _) b1012)
  have P12 : Hid (RowB w12 v12 xs) := own_rowB o12 GR.out
  clear b11 b12 b1012 t11 o12 r10 N10 B10
  go_wp2_with fail
  refine (eqByteS_same _ _ xs _ P12.out R12.out GZ.out).mono ?_
  rintro e w13 ⟨rfl, b13⟩
  have B13 := andThen B12 (Nat.le_refl _) b13
  have r13 : Hid (RowB w13 v4 (marks 1 xs.length)) := r12.out.below b13
  clear b13 r12 R12 P12 B12
  go_wp2_with fail
  refine (heldByteS_any _ xs.length 1 _ r13.out (by decide) (by decide) (by have := GZ.out; omega)).mono ?_
  rintro e w14 ⟨rfl, rfl⟩
  go_wp2_with fail
  go_ret
  exact ⟨rfl, B13⟩

/-! ### THE ROW's STEP -/
set_option maxRecDepth 100000 in
theorem lifted (os : Os) (started : os.Started) (H : Type) (enc : TypeId × Value → H) :
    ReturnsInHanded {} Try.checked os 11 .any (Rows.fnExactListBytesSpec.pre6 enc Try.prog Try.f11 Rows.fnExactListBytesRow.domain false) (Rows.fnExactListBytesSpec.post enc Try.prog Try.f11 false true false false) := by
  refine returnsInHanded_of_change (C := Try.checked) own started (by kernel_rfl) Try.func11
    (ChangeSpec.witness6 (enc := enc) (C := Try.checked) false ⟨#[], #[.slice none 0 0], []⟩ 8 (by kernel_rfl) (by kernel_rfl) (by kernel_rfl) (by kernel_rfl)) ?_
  intro W base args ds gs before hval0 hW hcnd _
  have hval : ∀ (j : Nat) t v, Try.f11.params[j]? = some t → args[j]? = some v → Value.okWide Try.prog W .any base t v := hval0
  have hW' := hW
  obtain ⟨p, q, hA0, hV, rfl, hfz, hnd⟩ := hW
  have hA : DataW.TrodAll enc Try.prog W 0 (fun _ => true) true Try.f11.params.toList args.toList ds p := hA0
  rw [Try.params11] at hA hval
  obtain ⟨v0, vs0, d0, ds0, p0, q0, hargs, rfl, rfl, h0, r0⟩ := trodAll_cons hA
  obtain ⟨rfl, rfl, rfl⟩ := trodAll_nil r0
  obtain rfl : args = #[v0] := by cases args; simp_all
  obtain ⟨rfl, rfl⟩ := trodVars_none hV
  have k00 := h0
  have lt0 : ∀ x ∈ p0, x.block < W.heap.size := by obtain ⟨m, hm⟩ := k00; exact DataW.trod_lt m _ _ _ hm
  obtain ⟨ts0, w0, tl0, tz0⟩ := Op.open_strs (hval 0 64 v0 rfl rfl) h0 (fun _ => rfl)
  clear hA0 hval0
  refine (walk v0 ts0 W w0 tl0 tz0).mono fun e W' ⟨he, bel⟩ => ?_
  subst he
  exact ⟨_, rfl, _, _, _, [], _, [], hW', trodAll_mk1 (shut_bool Try.underlying4 _), (trodAll_cons_mk (Below.trod laidOut (by kernel_rfl) (of_decide_eq_true (by kernel_rfl)) k00 bel lt0) trodAll_mk0), rfl, bel.frame _, fun h => by cases h⟩

theorem over : Rows.fnExactListBytesRow.holds Try.pinned (OpenSpec.ofChange Rows.fnExactListBytesSpec) :=
  OpenClaim.holds_of_wide 11 Try.f11 rfl rfl rfl rfl rfl rfl rfl ⟨rfl, rfl, rfl, rfl, rfl⟩ rfl rfl rfl rfl rfl (by kernel_rfl) Try.func11 (by kernel_rfl)
    (of_decide_eq_true (by kernel_rfl)) (by unfold Func.isWrapper; first | (rw [if_pos (by decide +kernel)]; kernel_rfl) | (rw [if_neg (by decide +kernel)]; exact ⟨rfl, rfl⟩))
    (fun os started H enc _ => lifted os started H enc)

end Go.Proofs.Ytmafigajapkmnaa.fnExactListBytes
namespace Go.Proofs.Ytmafigajapkmnaa
/-- THE STATEMENT. -/
theorem fnExactListBytes_holds : Rows.FnExactListBytesSaid := fnExactListBytes.over
end Go.Proofs.Ytmafigajapkmnaa
