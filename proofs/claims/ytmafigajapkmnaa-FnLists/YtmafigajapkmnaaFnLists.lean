/-
  A drawn list is read back from its bytes, and any bytes that are read are just those of what was read.
  Conditions: none beyond the given row's own.
-/
import Derived.Test.YtmafigajapkmnaaOpb
import Derived.Test.YtmafigajapkmnaaGtx
import Derived.Test.YtmafigajapkmnaaRt
import Derived.Test.YtmafigajapkmnaaSat
import Derived.Test.YtmafigajapkmnaaLb2
import Derived.WalkKit
import Derived.ProofKit
import Derived.OpenShut
import Derived.ShutString
import Derived.ChangeOld
import Derived.Below
namespace Go.Proofs.Ytmafigajapkmnaa.fnLists
open Go.ChangeShapes Go.WideShapes Go.ChangeAt Go.RowKit
open Go.ChangeMaps (open_string shut_string)

theorem own : ownKnob Try.prog.godebug = none := by kernel_rfl
theorem laidOut : laidOutB Try.prog = true := by kernel_rfl

open Go.Proofs.Ytmafigajapkmnaa.Rq Go.Proofs.Ytmafigajapkmnaa.Rr Go.Proofs.Ytmafigajapkmnaa.Ap Go.Proofs.Ytmafigajapkmnaa.By Go.Proofs.Ytmafigajapkmnaa.Sl Go.Proofs.Ytmafigajapkmnaa.Tx Go.Proofs.Ytmafigajapkmnaa.Tl Go.Proofs.Ytmafigajapkmnaa.Rl Go.Proofs.Ytmafigajapkmnaa.Lb Go.Proofs.Ytmafigajapkmnaa.Gn
theorem out_range (ts : List ByteArray) : ∀ z ∈ lbOut ts, 0 ≤ z ∧ z ≤ 255 := by
  unfold lbOut
  split
  · exact listTo_range _ _
  · intro z hz; cases hz
theorem at_of (ts : List ByteArray) (n : Nat) (h : ∀ t ∈ ts, t.size ≤ n) (i : Nat) (hi : i < ts.length) : (tnth ts i).size ≤ n :=
  h _ (by unfold tnth; rw [List.getD_eq_getElem?_getD, List.getElem?_eq_getElem hi]; exact List.getElem_mem _)
theorem rd_small (ys : List Int) (hr : ∀ x ∈ ys, 0 ≤ x ∧ x ≤ 255) : ∀ i, i < (rdL ys).length → (tnth (rdL ys) i).size ≤ 1048576 := by
  intro i hi
  unfold rdL rlO at hi ⊢
  split at hi
  · rename_i hc
    rw [if_pos hc]
    rw [lT_length] at hi
    rw [lT_at _ _ _ hi]
    have := txt_small _ (lR_range (tkR_range (n := 1) hr) i)
    omega
  · simp at hi
set_option maxRecDepth 100000 in
set_option maxHeartbeats 3200000 in
/-- THE WALK: a drawn list is read back; what is read is written again. -/
theorem walk (v : Value) (xs : List Int) (w : World) (hrow : RowB w v xs) (u : Value) (ys : List Int) (_w : World) (grow : RowB w u ys) :
    Calls Try.prog 14 #[v, u] w fun e w' => e = .returned (.bool true) ∧ Below w.heap.size w w' := by
  have HR : Hid (RowB w v xs) := hrow
  have HG : Hid (RowB w u ys) := grow
  obtain ⟨a, cap, rfl, _, _⟩ := hrow
  obtain ⟨a', cap', rfl, _, gr⟩ := grow
  by_cases hbig : (1048576 : Int) < (xs.length : Int)
  · go_enter Try.func14, Try.ntmps14
    go_wp2
    go_ret
    exact ⟨rfl, Below.refl _ _⟩
  by_cases hbig2 : (1048576 : Int) < (ys.length : Int)
  · go_enter Try.func14, Try.ntmps14
    go_wp2
    go_ret
    exact ⟨rfl, Below.refl _ _⟩
  have HL : Hid (∀ _ : Unit, xs.length ≤ 1048576 ∧ ys.length ≤ 1048576) := fun _ => ⟨by omega, by omega⟩
  have GR : Hid (∀ z ∈ ys, 0 ≤ z ∧ z ≤ 255) := gr
  clear gr
  go_enter Try.func14, Try.ntmps14
  go_wp2_with fail
  refine (TextsOf_any _ xs _ HR.out (HL.out ()).1).mono ?_
  rintro e w1 ⟨v1, ts, rfl, o1, h5, h4, b1⟩
  obtain ⟨d1, d2, d3, d4⟩ := drawn_back ts h5 h4
  have D : Hid (∀ _ : Unit, lbCode ts = 0 ∧ rdC (lbOut ts) = 0 ∧ rdL (lbOut ts) = ts ∧ (lbOut ts).length ≤ 31) := fun _ => ⟨d1, d2, d3, d4⟩
  have HT : Hid (∀ _ : Unit, ts.length ≤ 1048576 ∧ ∀ i, i < ts.length → (tnth ts i).size ≤ 1048576) := fun _ => ⟨by omega, fun i hi => by have := at_of ts 4 h4 i hi; omega⟩
  have R1 : Hid (RowT w1 v1 ts) := o1.row
  have B1 : Below w.heap.size w w1 := b1
  clear o1 h5 h4 b1 d1 d2 d3 d4
  go_wp2_with fail
  refine (implListBytes_any _ ts _ R1.out (HT.out ()).1 (HT.out ()).2).mono ?_
  rintro e w2 ⟨v2, rfl, o2, b2⟩
  rw [(D.out ()).1]
  have B2 := andThen B1 (Nat.le_refl _) b2
  have R2 : Hid (RowT w2 v1 ts) := R1.out.below b2
  have P2 : Hid (RowB w2 v2 (lbOut ts)) := own_rowB o2 (out_range ts)
  clear o2 b2 R1 B1
  go_wp2_with fail
  refine (specListBytes_any _ ts _ R2.out (HT.out ()).1 (HT.out ()).2).mono ?_
  rintro e w3 ⟨v3, rfl, o3, b3⟩
  have B3 := andThen B2 (Nat.le_refl _) b3
  have R3 : Hid (RowT w3 v1 ts) := R2.out.below b3
  have P3 : Hid (RowB w3 v2 (lbOut ts)) := P2.out.below b3
  have Q3 : Hid (RowB w3 v3 (lbOut ts)) := own_rowB o3 (out_range ts)
  clear o3 b3 R2 P2 B2
  go_wp2_with fail
  refine (implReadList_any _ (lbOut ts) _ P3.out (by have := (D.out ()).2.2.2; omega)).mono ?_
  rintro e w4 ⟨v4, rfl, o4, b4⟩
  rw [(D.out ()).2.2.1] at o4
  rw [(D.out ()).2.1]
  have B4 := andThen B3 (Nat.le_refl _) b4
  have R4 : Hid (RowT w4 v1 ts) := R3.out.below b4
  have S4 : Hid (RowT w4 v4 ts) := o4.row
  have hc2 := run_convert_row (P := Try.prog) w4 w4.heap.size 29 5 9 Try.underlying29 Try.underlying5 Try.underlying9 v2 (lbOut ts) (RowU.of (P3.out.below b4))
  have hc3 := run_convert_row (P := Try.prog) w4 w4.heap.size 29 5 9 Try.underlying29 Try.underlying5 Try.underlying9 v3 (lbOut ts) (RowU.of (Q3.out.below b4))
  clear o4 b4 R3 P3 Q3 B3
  generalize strOfNums (lbOut ts) = sb at hc2 hc3
  have hsb : (sb.toList != sb.toList) = false := by simp
  go_wp2_with fail
  refine (sameTexts_same _ _ ts _ S4.out R4.out (HT.out ()).1).mono ?_
  rintro e w5 ⟨rfl, b5⟩
  have B5 := andThen B4 (Nat.le_refl _) b5
  clear b5 hc2 hc3 S4 R4 B4 D HT hsb
  go_wp2_with fail
  refine (implReadList_any _ ys _ (HG.out.below B5) (HL.out ()).2).mono ?_
  rintro e w6 ⟨v6, rfl, o6, b6⟩
  have B6 := andThen B5 (Nat.le_refl _) b6
  have R6 : Hid (RowT w6 v6 (rdL ys)) := o6.row
  clear o6 b6 B5
  go_wp2_with fail
  refine (specReadList_any _ ys _ (HG.out.below B6) (HL.out ()).2).mono ?_
  rintro e w7 ⟨v7, rfl, o7, b7⟩
  have B7 := andThen B6 (Nat.le_refl _) b7
  have R7 : Hid (RowT w7 v6 (rdL ys)) := R6.out.below b7
  clear o7 b7 B6 R6
  have HW : Hid (rdC ys = 0 → lbCode (rdL ys) = 0 ∧ lbOut (rdL ys) = ys) := write_back ys GR.out
  have HS : Hid (∀ _ : Unit, (rdL ys).length ≤ 1048576 ∧ ∀ i, i < (rdL ys).length → (tnth (rdL ys) i).size ≤ 1048576) := fun _ => ⟨by have := rdL_small ys GR.out; omega, rd_small ys GR.out⟩
  generalize rdC ys = code at HW ⊢
  generalize rdL ys = us at R7 HW HS
  have hcc : (code != code) = false := by simp
  by_cases h0 : code = 0
  · subst h0
    obtain ⟨e1, e2⟩ := HW.out rfl
    have E1 : Hid (lbCode us = 0) := e1
    have E2 : Hid (lbOut us = ys) := e2
    clear e1 e2 HW
    go_wp2_with fail
    refine (implListBytes_any _ us _ R7.out (HS.out ()).1 (HS.out ()).2).mono ?_
    rintro e w8 ⟨v8, rfl, o8, b8⟩
    rw [E1.out]
    rw [E2.out] at o8
    have B8 := andThen B7 (Nat.le_refl _) b8
    have hc8 := run_convert_row (P := Try.prog) w8 w8.heap.size 29 5 9 Try.underlying29 Try.underlying5 Try.underlying9 v8 ys (RowU.of (own_rowB o8 GR.out))
    have hc9 := run_convert_row (P := Try.prog) w8 w8.heap.size 29 5 9 Try.underlying29 Try.underlying5 Try.underlying9 _ ys (RowU.of (HG.out.below B8))
    clear o8 b8 B7 R7
    generalize strOfNums ys = sb at hc8 hc9
    have hsb : (sb.toList == sb.toList) = true := by simp
    go_wp2_with fail
    go_ret
    exact ⟨rfl, B8⟩
  · have h0' : (code != 0) = true := by simp [h0]
    go_wp2_with fail
    go_ret
    exact ⟨rfl, B7⟩

/-! ### THE ROW's STEP -/
set_option maxRecDepth 100000 in
theorem lifted (os : Os) (started : os.Started) (H : Type) (enc : TypeId × Value → H) :
    ReturnsInHanded {} Try.checked os 14 .any (Rows.fnListsSpec.pre6 enc Try.prog Try.f14 Rows.fnListsRow.domain false) (Rows.fnListsSpec.post enc Try.prog Try.f14 false true false false) := by
  refine returnsInHanded_of_change (C := Try.checked) own started (by kernel_rfl) Try.func14
    (ChangeSpec.witness6 (enc := enc) (C := Try.checked) false ⟨#[], #[.slice none 0 0, .slice none 0 0], []⟩ 8 (by kernel_rfl) (by kernel_rfl) (by kernel_rfl) (by kernel_rfl)) ?_
  intro W base args ds gs before hval0 hW hcnd _
  have hval : ∀ (j : Nat) t v, Try.f14.params[j]? = some t → args[j]? = some v → Value.okWide Try.prog W .any base t v := hval0
  have hW' := hW
  obtain ⟨p, q, hA0, hV, rfl, hfz, hnd⟩ := hW
  have hA : DataW.TrodAll enc Try.prog W 0 (fun _ => true) true Try.f14.params.toList args.toList ds p := hA0
  rw [Try.params14] at hA hval
  obtain ⟨v0, vs0, d0, ds0, p0, q0, hargs, rfl, rfl, h0, r0⟩ := trodAll_cons hA
  obtain ⟨v1, vs1, d1, ds1, p1, q1, rfl, rfl, rfl, h1, r1⟩ := trodAll_cons r0
  obtain ⟨rfl, rfl, rfl⟩ := trodAll_nil r1
  obtain rfl : args = #[v0, v1] := by cases args; simp_all
  obtain ⟨rfl, rfl⟩ := trodVars_none hV
  have k00 := h0
  have lt0 : ∀ x ∈ p0, x.block < W.heap.size := by obtain ⟨m, hm⟩ := k00; exact DataW.trod_lt m _ _ _ hm
  obtain ⟨xs0, w0⟩ := Op.open_bytes (hval 0 29 v0 rfl rfl) h0 (fun _ => rfl)
  have k10 := h1
  have lt1 : ∀ x ∈ p1, x.block < W.heap.size := by obtain ⟨m, hm⟩ := k10; exact DataW.trod_lt m _ _ _ hm
  obtain ⟨xs1, w1⟩ := Op.open_bytes (hval 1 29 v1 rfl rfl) h1 (fun _ => rfl)
  clear hA0 hval0
  refine (walk v0 xs0 W w0 v1 xs1 W w1).mono fun e W' ⟨he, bel⟩ => ?_
  subst he
  exact ⟨_, rfl, _, _, _, [], _, [], hW', trodAll_mk1 (shut_bool Try.underlying4 _), (trodAll_cons_mk (Below.trod laidOut (by kernel_rfl) (of_decide_eq_true (by kernel_rfl)) k00 bel lt0) (trodAll_cons_mk (Below.trod laidOut (by kernel_rfl) (of_decide_eq_true (by kernel_rfl)) k10 bel lt1) trodAll_mk0)), rfl, bel.frame _, fun h => by cases h⟩

theorem over : Rows.fnListsRow.holds Try.pinned (OpenSpec.ofChange Rows.fnListsSpec) :=
  OpenClaim.holds_of_wide 14 Try.f14 rfl rfl rfl rfl rfl rfl rfl ⟨rfl, rfl, rfl, rfl, rfl⟩ rfl rfl rfl rfl rfl (by kernel_rfl) Try.func14 (by kernel_rfl)
    (of_decide_eq_true (by kernel_rfl)) (by unfold Func.isWrapper; first | (rw [if_pos (by decide +kernel)]; kernel_rfl) | (rw [if_neg (by decide +kernel)]; exact ⟨rfl, rfl⟩))
    (fun os started H enc _ => lifted os started H enc)

end Go.Proofs.Ytmafigajapkmnaa.fnLists
namespace Go.Proofs.Ytmafigajapkmnaa
/-- THE STATEMENT. -/
theorem fnLists_holds : Rows.FnListsSaid := fnLists.over
end Go.Proofs.Ytmafigajapkmnaa
