/-
  impl.ReadMessage answers at every []byte just what the specification's ReadMessage answers, and writes nothing into it.
  Conditions: none beyond the given row's own.
-/
import Derived.Test.YtgbdmclpnkaihabOpb
import Derived.Test.YtgbdmclpnkaihabEqMsg
import Derived.WalkKit
import Derived.ProofKit
import Derived.OpenShut
import Derived.ShutString
import Derived.ChangeOld
import Derived.Below
namespace Go.Proofs.Ytgbdmclpnkaihab.fnExactReadMessage
open Go.ChangeShapes Go.WideShapes Go.ChangeAt Go.RowKit
open Go.ChangeMaps (open_string shut_string)

theorem own : ownKnob Try.prog.godebug = none := by kernel_rfl
theorem laidOut : laidOutB Try.prog = true := by kernel_rfl

open Go.Proofs.Ytgbdmclpnkaihab.Rq Go.Proofs.Ytgbdmclpnkaihab.Rr Go.Proofs.Ytgbdmclpnkaihab.Ap Go.Proofs.Ytgbdmclpnkaihab.By Go.Proofs.Ytgbdmclpnkaihab.Sl Go.Proofs.Ytgbdmclpnkaihab.Of Go.Proofs.Ytgbdmclpnkaihab.Om Go.Proofs.Ytgbdmclpnkaihab.Ms
set_option maxRecDepth 100000 in
set_option maxHeartbeats 1600000 in
/-- THE WALK: both functions answer alike; the copy that was handed in is as it was. -/
theorem walk (v : Value) (xs : List Int) (w : World) (hrow : RowB w v xs) :
    Calls Try.prog 5 #[v] w fun e w' => e = .returned (.bool true) ∧ Below w.heap.size w w' := by
  have HR : Hid (RowB w v xs) := hrow
  obtain ⟨a, cap, rfl, _, _⟩ := hrow
  by_cases hbig : (1048576 : Int) < (xs.length : Int)
  · go_enter Try.func5, Try.ntmps5
    go_wp2
    go_ret
    exact ⟨rfl, Below.refl _ _⟩
  have hl : xs.length ≤ 1048576 := by omega
  obtain ⟨kd, vw, sq, fr, dg, bd, mc, code, hf⟩ := readMsg_form xs
  have hcc : (code != code) = false := by simp
  go_enter Try.func5, Try.ntmps5
  go_wp2_with fail
  refine (toByteS_any _ xs _ HR.out hl).mono ?_
  rintro e w1 ⟨v1, rfl, r1, b1⟩
  go_wp2_with fail
  refine (specReadMessage_any _ xs _ r1 hl).mono ?_
  rintro e w2 ⟨rfl, b2⟩
  rw [hf]
  have B2 := andThen b1 (Nat.le_refl _) b2
  have C2 := B2.alloc B2.size (.cells #[.int .i64 kd, .int .i64 vw, .int .i64 sq, .int .i64 fr, .string dg, .string bd, .string mc] 26)
  have X2 := blk_new w2 #[.int .i64 kd, .int .i64 vw, .int .i64 sq, .int .i64 fr, .string dg, .string bd, .string mc] 26
  clear r1 b1 b2
  go_wp2_with fail
  refine (toByteS_any _ xs _ (HR.out.below C2) hl).mono ?_
  rintro e w3 ⟨v3, rfl, r3, b3⟩
  have B3 := andThen C2 (Nat.le_refl _) b3
  have X3 := (b3.block w2.heap.size (by simp)).trans X2
  have R3 : Hid (RowB w3 v3 xs) := r3
  clear r3 b3 X2 C2 B2
  go_wp2_with fail
  refine (implReadMessage_any _ xs _ R3.out hl).mono ?_
  rintro e w4 ⟨rfl, b4⟩
  rw [hf]
  have h23 : w2.heap.size < w3.heap.size := (Array.getElem?_eq_some_iff.1 X3).1
  have X4 := (b4.block w2.heap.size h23).trans X3
  have R4 := R3.out.below b4
  have B4 := andThen B3 (Nat.le_refl _) b4
  have h24 : w2.heap.size < w4.heap.size := (Array.getElem?_eq_some_iff.1 X4).1
  have X5 := (Below.heap_alloc w4 (.cells #[.int .i64 kd, .int .i64 vw, .int .i64 sq, .int .i64 fr, .string dg, .string bd, .string mc] 26) w2.heap.size h24).trans X4
  have Y5 := blk_new w4 #[.int .i64 kd, .int .i64 vw, .int .i64 sq, .int .i64 fr, .string dg, .string bd, .string mc] 26
  have B5 := B4.alloc B4.size (.cells #[.int .i64 kd, .int .i64 vw, .int .i64 sq, .int .i64 fr, .string dg, .string bd, .string mc] 26)
  have R5 : Hid (RowB (w4.alloc (.cells #[.int .i64 kd, .int .i64 vw, .int .i64 sq, .int .i64 fr, .string dg, .string bd, .string mc] 26)) v3 xs) := R4.below ((Below.refl _ _).alloc (Nat.le_refl _) _)
  clear X3 X4 R3 R4 b4 B3 B4 h23 h24
  go_upto_region 6 with fail
  generalize w4.alloc (.cells #[.int .i64 kd, .int .i64 vw, .int .i64 sq, .int .i64 fr, .string dg, .string bd, .string mc] 26) = w5 at X5 Y5 B5 R5 ⊢
  generalize w4.heap.size = y5 at Y5 ⊢
  generalize w2.heap.size = x5 at X5 ⊢
  have xc0 := (blk_cell X5 0 (x := .int .i64 kd) rfl).1
  have xc1 := (blk_cell X5 1 (x := .int .i64 vw) rfl).1
  have xc2 := (blk_cell X5 2 (x := .int .i64 sq) rfl).1
  have xc3 := (blk_cell X5 3 (x := .int .i64 fr) rfl).1
  have xc4 := (blk_cell X5 4 (x := .string dg) rfl).1
  have xc5 := (blk_cell X5 5 (x := .string bd) rfl).1
  have xc6 := (blk_cell X5 6 (x := .string mc) rfl).1
  have yc0 := (blk_cell Y5 0 (x := .int .i64 kd) rfl).1
  have yc1 := (blk_cell Y5 1 (x := .int .i64 vw) rfl).1
  have yc2 := (blk_cell Y5 2 (x := .int .i64 sq) rfl).1
  have yc3 := (blk_cell Y5 3 (x := .int .i64 fr) rfl).1
  have yc4 := (blk_cell Y5 4 (x := .string dg) rfl).1
  have yc5 := (blk_cell Y5 5 (x := .string bd) rfl).1
  have yc6 := (blk_cell Y5 6 (x := .string mc) rfl).1
  clear X5 Y5
  go_wp2_with fail
  refine (eqMessage_same kd vw sq fr dg bd mc _).mono ?_
  rintro e w6 ⟨rfl, b6⟩
  have B6 := andThen B5 (Nat.le_refl _) b6
  have R6 : Hid (RowB w6 v3 xs) := R5.out.below b6
  clear b6 R5 B5 xc0 yc0 xc1 yc1 xc2 yc2 xc3 yc3 xc4 yc4 xc5 yc5 xc6 yc6
  go_wp2_with fail
  refine (toByteS_any _ xs _ (HR.out.below B6) hl).mono ?_
  rintro e w7 ⟨v7, rfl, r7, b7⟩
  have B7 := andThen B6 (Nat.le_refl _) b7
  have R7 : Hid (RowB w7 v3 xs) := R6.out.below b7
  clear b7 R6 B6
  go_wp2_with fail
  refine (eqByteS_same _ _ xs _ R7.out r7 hl).mono ?_
  rintro e w8 ⟨rfl, b8⟩
  have B8 := andThen B7 (Nat.le_refl _) b8
  clear b8 B7 r7 R7
  go_wp2_with fail
  go_ret
  exact ⟨rfl, B8⟩

/-! ### THE ROW's STEP -/
set_option maxRecDepth 100000 in
theorem lifted (os : Os) (started : os.Started) (H : Type) (enc : TypeId × Value → H) :
    ReturnsInHanded {} Try.checked os 5 .any (Rows.fnExactReadMessageSpec.pre6 enc Try.prog Try.f5 Rows.fnExactReadMessageRow.domain false) (Rows.fnExactReadMessageSpec.post enc Try.prog Try.f5 false true false false) := by
  refine returnsInHanded_of_change (C := Try.checked) own started (by kernel_rfl) Try.func5
    (ChangeSpec.witness6 (enc := enc) (C := Try.checked) false ⟨#[], #[.slice none 0 0], []⟩ 8 (by kernel_rfl) (by kernel_rfl) (by kernel_rfl) (by kernel_rfl)) ?_
  intro W base args ds gs before hval0 hW hcnd _
  have hval : ∀ (j : Nat) t v, Try.f5.params[j]? = some t → args[j]? = some v → Value.okWide Try.prog W .any base t v := hval0
  have hW' := hW
  obtain ⟨p, q, hA0, hV, rfl, hfz, hnd⟩ := hW
  have hA : DataW.TrodAll enc Try.prog W 0 (fun _ => true) true Try.f5.params.toList args.toList ds p := hA0
  rw [Try.params5] at hA hval
  obtain ⟨v0, vs0, d0, ds0, p0, q0, hargs, rfl, rfl, h0, r0⟩ := trodAll_cons hA
  obtain ⟨rfl, rfl, rfl⟩ := trodAll_nil r0
  obtain rfl : args = #[v0] := by cases args; simp_all
  obtain ⟨rfl, rfl⟩ := trodVars_none hV
  have k00 := h0
  have lt0 : ∀ x ∈ p0, x.block < W.heap.size := by obtain ⟨m, hm⟩ := k00; exact DataW.trod_lt m _ _ _ hm
  obtain ⟨xs0, w0⟩ := Op.open_bytes (hval 0 29 v0 rfl rfl) h0 (fun _ => rfl)
  clear hA0 hval0
  refine (walk v0 xs0 W w0).mono fun e W' ⟨he, bel⟩ => ?_
  subst he
  exact ⟨_, rfl, _, _, _, [], _, [], hW', trodAll_mk1 (shut_bool Try.underlying4 _), (trodAll_cons_mk (Below.trod laidOut (by kernel_rfl) (of_decide_eq_true (by kernel_rfl)) k00 bel lt0) trodAll_mk0), rfl, bel.frame _, fun h => by cases h⟩

theorem over : Rows.fnExactReadMessageRow.holds Try.pinned (OpenSpec.ofChange Rows.fnExactReadMessageSpec) :=
  OpenClaim.holds_of_wide 5 Try.f5 rfl rfl rfl rfl rfl rfl rfl ⟨rfl, rfl, rfl, rfl, rfl⟩ rfl rfl rfl rfl rfl (by kernel_rfl) Try.func5 (by kernel_rfl)
    (of_decide_eq_true (by kernel_rfl)) (by unfold Func.isWrapper; first | (rw [if_pos (by decide +kernel)]; kernel_rfl) | (rw [if_neg (by decide +kernel)]; exact ⟨rfl, rfl⟩))
    (fun os started H enc _ => lifted os started H enc)

end Go.Proofs.Ytgbdmclpnkaihab.fnExactReadMessage
namespace Go.Proofs.Ytgbdmclpnkaihab
/-- THE STATEMENT. -/
theorem fnExactReadMessage_holds : Rows.FnExactReadMessageSaid := fnExactReadMessage.over
end Go.Proofs.Ytgbdmclpnkaihab
