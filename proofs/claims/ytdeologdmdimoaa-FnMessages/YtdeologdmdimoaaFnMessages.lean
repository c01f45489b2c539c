/-
  A drawn message is read back from its bytes, and any bytes that are read are just those of what was read.
  Conditions: none beyond the given row's own.
-/
import Derived.Test.YtdeologdmdimoaaOpb
import Derived.Test.YtdeologdmdimoaaGw
import Derived.Test.YtdeologdmdimoaaWb
import Derived.Test.YtdeologdmdimoaaNq
import Derived.WalkKit
import Derived.ProofKit
import Derived.OpenShut
import Derived.ShutString
import Derived.ChangeOld
import Derived.Below
namespace Go.Proofs.Ytdeologdmdimoaa.fnMessages
open Go.ChangeShapes Go.WideShapes Go.ChangeAt Go.RowKit
open Go.ChangeMaps (open_string shut_string)

theorem own : ownKnob Try.prog.godebug = none := by kernel_rfl
theorem laidOut : laidOutB Try.prog = true := by kernel_rfl

open Go.Proofs.Ytdeologdmdimoaa.Rq Go.Proofs.Ytdeologdmdimoaa.Rr Go.Proofs.Ytdeologdmdimoaa.Ap Go.Proofs.Ytdeologdmdimoaa.By Go.Proofs.Ytdeologdmdimoaa.Sl Go.Proofs.Ytdeologdmdimoaa.Tx Go.Proofs.Ytdeologdmdimoaa.Gn Go.Proofs.Ytdeologdmdimoaa.Pu Go.Proofs.Ytdeologdmdimoaa.Rp Go.Proofs.Ytdeologdmdimoaa.Mp Go.Proofs.Ytdeologdmdimoaa.Ms Go.Proofs.Ytdeologdmdimoaa.Of Go.Proofs.Ytdeologdmdimoaa.Om Go.Proofs.Ytdeologdmdimoaa.Gr Go.Proofs.Ytdeologdmdimoaa.Bo Go.Proofs.Ytdeologdmdimoaa.Bt Go.Proofs.Ytdeologdmdimoaa.Tkb Go.Proofs.Ytdeologdmdimoaa.Wb
open Go.Proofs.Ytdeologdmdimoaa.Rg (RowG RowG.slice bel_new)
set_option maxRecDepth 100000 in
set_option maxHeartbeats 3200000 in
theorem walk (v : Value) (xs : List Int) (w : World) (hrow : RowB w v xs) (u : Value) (ys : List Int) (_w : World) (grow : RowB w u ys) :
    Calls Try.prog 4 #[v, u] w fun e w' => e = .returned (.bool true) ∧ Below w.heap.size w w' := by
  have HR : Hid (RowB w v xs) := hrow
  have HG : Hid (RowB w u ys) := grow
  obtain ⟨a, cap, rfl, _, _⟩ := hrow
  obtain ⟨a', cap', rfl, _, gr⟩ := grow
  by_cases hbig : (1048576 : Int) < (xs.length : Int)
  · go_enter Try.func4, Try.ntmps4
    go_wp2
    go_ret
    exact ⟨rfl, Below.refl _ _⟩
  by_cases hbig2 : (1048576 : Int) < (ys.length : Int)
  · go_enter Try.func4, Try.ntmps4
    go_wp2
    go_ret
    exact ⟨rfl, Below.refl _ _⟩
  have HL : Hid (∀ _ : Unit, xs.length ≤ 1048576 ∧ ys.length ≤ 1048576) := fun _ => ⟨by omega, by omega⟩
  have GR : Hid (∀ z ∈ ys, 0 ≤ z ∧ z ≤ 255) := gr
  clear gr
  go_enter Try.func4, Try.ntmps4
  go_wp2_with fail
  refine (MessageOf_any _ xs _ HR.out (HL.out ()).1).mono ?_
  rintro e w1 ⟨kd, vw, sq, fr, dg, bd, mc, rfl, hq, b1⟩
  obtain ⟨_, _, _, _, pd, pb, pm⟩ := msg_parts hq
  have HQ : Hid (msgB kd vw sq fr dg bd mc = true) := hq
  have HRB : Hid (readMsg (msgBs kd vw sq fr dg bd mc) = .tuple #[.agg #[.int .i64 kd, .int .i64 vw, .int .i64 sq, .int .i64 fr, .string dg, .string bd, .string mc], .int .i64 0]) := readMsg_back hq
  have HO : Hid (msgOut kd vw sq fr dg bd mc = msgBs kd vw sq fr dg bd mc ∧ msgCode kd vw sq fr dg bd mc = 0) := by unfold msgOut msgCode; rw [hq]; exact ⟨rfl, rfl⟩
  have HLN : Hid ((msgBs kd vw sq fr dg bd mc).length ≤ 1048576) := by show _ ≤ _; rw [msgBs_length]; omega
  have B1 : Below w.heap.size w w1 := b1
  clear b1 hq pd pb pm
  have HI : Hid (∀ W, Calls Try.prog 12 #[.agg #[.int .i64 kd, .int .i64 vw, .int .i64 sq, .int .i64 fr, .string dg, .string bd, .string mc]] W fun e w' => ∃ v', e = .returned (.tuple #[v', .int .i64 0]) ∧ OwnB 5 w' W.heap.size v' (msgBs kd vw sq fr dg bd mc) ∧ Below W.heap.size W w') := fun W => by
    have h := implMessageBytes_any kd vw sq fr dg bd mc W
    rw [HO.out.1, HO.out.2] at h
    exact h
  have HS : Hid (∀ W, Calls Try.prog 13 #[.agg #[.int .i64 kd, .int .i64 vw, .int .i64 sq, .int .i64 fr, .string dg, .string bd, .string mc]] W fun e w' => ∃ v', e = .returned (.tuple #[v', .int .i64 0]) ∧ OwnB 5 w' W.heap.size v' (msgBs kd vw sq fr dg bd mc) ∧ Below W.heap.size W w') := fun W => by
    have h := specMessageBytes_any kd vw sq fr dg bd mc W
    rw [HO.out.1, HO.out.2] at h
    exact h
  have HK : Hid (∀ W, Calls Try.prog 15 #[.agg #[.int .i64 kd, .int .i64 vw, .int .i64 sq, .int .i64 fr, .string dg, .string bd, .string mc]] W fun e w' => e = .returned (.bool true) ∧ Below W.heap.size W w') := fun W => by
    have h := implMessageOK_any kd vw sq fr dg bd mc W
    rw [HQ.out] at h
    exact h
  have HRR : Hid (∀ W v, RowB W v (msgBs kd vw sq fr dg bd mc) → Calls Try.prog 14 #[v] W fun e w' => e = .returned (.tuple #[.agg #[.int .i64 kd, .int .i64 vw, .int .i64 sq, .int .i64 fr, .string dg, .string bd, .string mc], .int .i64 0]) ∧ Below W.heap.size W w') := fun W v hv => by
    have h := implReadMessage_any v _ W hv HLN.out
    rw [HRB.out] at h
    exact h
  have HRG : Hid (∀ z ∈ msgBs kd vw sq fr dg bd mc, 0 ≤ z ∧ z ≤ 255) := msgBs_range kd vw sq fr dg bd mc
  clear HO HLN HRB HQ
  generalize msgBs kd vw sq fr dg bd mc = bs at HI HS HRR HRG
  have W1 : Below w.heap.size w (w1.alloc (.cells #[.int .i64 kd, .int .i64 vw, .int .i64 sq, .int .i64 fr, .string dg, .string bd, .string mc] 35)) := B1.alloc B1.size _
  have C1 : Hid ((w1.alloc (.cells #[.int .i64 kd, .int .i64 vw, .int .i64 sq, .int .i64 fr, .string dg, .string bd, .string mc] 35)).heap[w1.heap.size]? = some (.cells #[.int .i64 kd, .int .i64 vw, .int .i64 sq, .int .i64 fr, .string dg, .string bd, .string mc] 35 (0, 0))) := blk_new _ _ _
  have X1 := B1.size
  go_upto_region 4 with fail
  generalize w1.alloc (.cells #[.int .i64 kd, .int .i64 vw, .int .i64 sq, .int .i64 fr, .string dg, .string bd, .string mc] 35) = w2 at W1 C1 ⊢
  generalize w1.heap.size = x at C1 X1 ⊢
  clear B1
  have c0 := (blk_cell C1.out 0 (x := .int .i64 kd) rfl).1
  have c1 := (blk_cell C1.out 1 (x := .int .i64 vw) rfl).1
  have c2 := (blk_cell C1.out 2 (x := .int .i64 sq) rfl).1
  have c3 := (blk_cell C1.out 3 (x := .int .i64 fr) rfl).1
  have c4 := (blk_cell C1.out 4 (x := .string dg) rfl).1
  have c5 := (blk_cell C1.out 5 (x := .string bd) rfl).1
  have c6 := (blk_cell C1.out 6 (x := .string mc) rfl).1
  go_wp2_with fail
  refine (HI.out _).mono ?_
  rintro e w3 ⟨v3, rfl, o3, b3⟩
  have W3 := andThen W1 (Nat.le_refl _) b3
  have C3 : Hid (w3.heap[x]? = some (.cells #[.int .i64 kd, .int .i64 vw, .int .i64 sq, .int .i64 fr, .string dg, .string bd, .string mc] 35 (0, 0))) := (b3.block _ (Array.getElem?_eq_some_iff.1 C1.out).1).trans C1.out
  have R3 : Hid (RowB w3 v3 bs) := own_rowB o3 HRG.out
  clear o3 b3 W1 C1 HI c0 c1 c2 c3 c4 c5 c6
  have c0 := (blk_cell C3.out 0 (x := .int .i64 kd) rfl).1
  have c1 := (blk_cell C3.out 1 (x := .int .i64 vw) rfl).1
  have c2 := (blk_cell C3.out 2 (x := .int .i64 sq) rfl).1
  have c3 := (blk_cell C3.out 3 (x := .int .i64 fr) rfl).1
  have c4 := (blk_cell C3.out 4 (x := .string dg) rfl).1
  have c5 := (blk_cell C3.out 5 (x := .string bd) rfl).1
  have c6 := (blk_cell C3.out 6 (x := .string mc) rfl).1
  go_wp2_with fail
  refine (HS.out _).mono ?_
  rintro e w4 ⟨v4, rfl, o4, b4⟩
  have W4 := andThen W3 (Nat.le_refl _) b4
  have C4 : Hid (w4.heap[x]? = some (.cells #[.int .i64 kd, .int .i64 vw, .int .i64 sq, .int .i64 fr, .string dg, .string bd, .string mc] 35 (0, 0))) := (b4.block _ (Array.getElem?_eq_some_iff.1 C3.out).1).trans C3.out
  have R4 : Hid (RowB w4 v3 bs) := R3.out.below b4
  have Q4 : Hid (RowB w4 v4 bs) := own_rowB o4 HRG.out
  clear o4 b4 W3 C3 R3 HS c0 c1 c2 c3 c4 c5 c6
  go_wp2_with fail
  refine (HRR.out _ _ R4.out).mono ?_
  rintro e w5 ⟨rfl, b5⟩
  have W5 := andThen W4 (Nat.le_refl _) b5
  have L5 := (Array.getElem?_eq_some_iff.1 C4.out).1
  have C5 : Hid (w5.heap[x]? = some (.cells #[.int .i64 kd, .int .i64 vw, .int .i64 sq, .int .i64 fr, .string dg, .string bd, .string mc] 35 (0, 0))) := (b5.block _ L5).trans C4.out
  have R5 : Hid (RowB w5 v3 bs) := R4.out.below b5
  have Q5 : Hid (RowB w5 v4 bs) := Q4.out.below b5
  clear b5 W4 C4 R4 Q4 HRR L5
  have L6 := (Array.getElem?_eq_some_iff.1 C5.out).1
  have W6 : Below w.heap.size w (w5.alloc (.cells #[.int .i64 kd, .int .i64 vw, .int .i64 sq, .int .i64 fr, .string dg, .string bd, .string mc] 35)) := W5.alloc W5.size _
  have C6 : Hid ((w5.alloc (.cells #[.int .i64 kd, .int .i64 vw, .int .i64 sq, .int .i64 fr, .string dg, .string bd, .string mc] 35)).heap[x]? = some (.cells #[.int .i64 kd, .int .i64 vw, .int .i64 sq, .int .i64 fr, .string dg, .string bd, .string mc] 35 (0, 0))) := (Below.heap_alloc _ _ _ L6).trans C5.out
  have D6 : Hid ((w5.alloc (.cells #[.int .i64 kd, .int .i64 vw, .int .i64 sq, .int .i64 fr, .string dg, .string bd, .string mc] 35)).heap[w5.heap.size]? = some (.cells #[.int .i64 kd, .int .i64 vw, .int .i64 sq, .int .i64 fr, .string dg, .string bd, .string mc] 35 (0, 0))) := blk_new _ _ _
  have R6 : Hid (RowB (w5.alloc (.cells #[.int .i64 kd, .int .i64 vw, .int .i64 sq, .int .i64 fr, .string dg, .string bd, .string mc] 35)) v3 bs) := R5.out.below (bel_new _ _)
  have Q6 : Hid (RowB (w5.alloc (.cells #[.int .i64 kd, .int .i64 vw, .int .i64 sq, .int .i64 fr, .string dg, .string bd, .string mc] 35)) v4 bs) := Q5.out.below (bel_new _ _)
  go_upto_region 7 with fail
  generalize w5.alloc (.cells #[.int .i64 kd, .int .i64 vw, .int .i64 sq, .int .i64 fr, .string dg, .string bd, .string mc] 35) = w6 at W6 C6 D6 R6 Q6 ⊢
  generalize w5.heap.size = y at D6 ⊢
  clear W5 C5 R5 Q5 L6
  have hc3 := run_convert_row (P := Try.prog) w6 w6.heap.size 33 5 9 Try.underlying33 Try.underlying5 Try.underlying9 v3 bs (RowU.of R6.out)
  have hc4 := run_convert_row (P := Try.prog) w6 w6.heap.size 33 5 9 Try.underlying33 Try.underlying5 Try.underlying9 v4 bs (RowU.of Q6.out)
  generalize strOfNums bs = sb at hc3 hc4
  have hsb : (sb.toList != sb.toList) = false := by simp
  have c0 := (blk_cell C6.out 0 (x := .int .i64 kd) rfl).1
  have c1 := (blk_cell C6.out 1 (x := .int .i64 vw) rfl).1
  have c2 := (blk_cell C6.out 2 (x := .int .i64 sq) rfl).1
  have c3 := (blk_cell C6.out 3 (x := .int .i64 fr) rfl).1
  have c4 := (blk_cell C6.out 4 (x := .string dg) rfl).1
  have c5 := (blk_cell C6.out 5 (x := .string bd) rfl).1
  have c6 := (blk_cell C6.out 6 (x := .string mc) rfl).1
  have d0 := (blk_cell D6.out 0 (x := .int .i64 kd) rfl).1
  have d1 := (blk_cell D6.out 1 (x := .int .i64 vw) rfl).1
  have d2 := (blk_cell D6.out 2 (x := .int .i64 sq) rfl).1
  have d3 := (blk_cell D6.out 3 (x := .int .i64 fr) rfl).1
  have d4 := (blk_cell D6.out 4 (x := .string dg) rfl).1
  have d5 := (blk_cell D6.out 5 (x := .string bd) rfl).1
  have d6 := (blk_cell D6.out 6 (x := .string mc) rfl).1
  have hne := neqM kd vw sq fr dg bd mc
  have hgd := guardM
  go_wp2_with fail
  refine (HK.out _).mono ?_
  rintro e w7 ⟨rfl, b7⟩
  have W7 := andThen W6 (Nat.le_refl _) b7
  clear b7 W6 C6 D6 R6 Q6 hc3 hc4 hsb c0 c1 c2 c3 c4 c5 c6 d0 d1 d2 d3 d4 d5 d6 hne hgd HK HRG
  obtain ⟨kd2, vw2, sq2, fr2, dg2, bd2, mc2, code, hf, hok⟩ := readMsg_again ys GR.out
  have HF : Hid (readMsg ys = .tuple #[.agg #[.int .i64 kd2, .int .i64 vw2, .int .i64 sq2, .int .i64 fr2, .string dg2, .string bd2, .string mc2], .int .i64 code]) := hf
  have HOK : Hid (code = 0 → msgB kd2 vw2 sq2 fr2 dg2 bd2 mc2 = true ∧ msgBs kd2 vw2 sq2 fr2 dg2 bd2 mc2 = ys) := hok
  clear hf hok
  have HRI : Hid (Calls Try.prog 14 #[.slice a' ys.length cap'] w7 fun e w' => e = .returned (.tuple #[.agg #[.int .i64 kd2, .int .i64 vw2, .int .i64 sq2, .int .i64 fr2, .string dg2, .string bd2, .string mc2], .int .i64 code]) ∧ Below w7.heap.size w7 w') := by
    have h := implReadMessage_any _ ys w7 (HG.out.below W7) (HL.out ()).2
    rw [HF.out] at h
    exact h
  go_wp2_with fail
  refine HRI.out.mono ?_
  rintro e w8 ⟨rfl, b8⟩
  have W8 := andThen W7 (Nat.le_refl _) b8
  clear b8 W7 HRI
  have W9 : Below w.heap.size w (w8.alloc (.cells #[.int .i64 kd2, .int .i64 vw2, .int .i64 sq2, .int .i64 fr2, .string dg2, .string bd2, .string mc2] 35)) := W8.alloc W8.size _
  have C9 : Hid ((w8.alloc (.cells #[.int .i64 kd2, .int .i64 vw2, .int .i64 sq2, .int .i64 fr2, .string dg2, .string bd2, .string mc2] 35)).heap[w8.heap.size]? = some (.cells #[.int .i64 kd2, .int .i64 vw2, .int .i64 sq2, .int .i64 fr2, .string dg2, .string bd2, .string mc2] 35 (0, 0))) := blk_new _ _ _
  go_upto_region 10 with fail
  generalize w8.alloc (.cells #[.int .i64 kd2, .int .i64 vw2, .int .i64 sq2, .int .i64 fr2, .string dg2, .string bd2, .string mc2] 35) = w9 at W9 C9 ⊢
  generalize w8.heap.size = z at C9 ⊢
  clear W8
  have HRS : Hid (Calls Try.prog 16 #[.slice a' ys.length cap'] w9 fun e w' => e = .returned (.tuple #[.agg #[.int .i64 kd2, .int .i64 vw2, .int .i64 sq2, .int .i64 fr2, .string dg2, .string bd2, .string mc2], .int .i64 code]) ∧ Below w9.heap.size w9 w') := by
    have h := specReadMessage_any _ ys w9 (HG.out.below W9) (HL.out ()).2
    rw [HF.out] at h
    exact h
  go_wp2_with fail
  refine HRS.out.mono ?_
  rintro e w10 ⟨rfl, b10⟩
  have L9 := (Array.getElem?_eq_some_iff.1 C9.out).1
  have W10 := andThen W9 (Nat.le_refl _) b10
  have C10 : Hid (w10.heap[z]? = some (.cells #[.int .i64 kd2, .int .i64 vw2, .int .i64 sq2, .int .i64 fr2, .string dg2, .string bd2, .string mc2] 35 (0, 0))) := (b10.block _ L9).trans C9.out
  clear W9 C9 L9 HRS b10
  have L10 := (Array.getElem?_eq_some_iff.1 C10.out).1
  have W11 : Below w.heap.size w (w10.alloc (.cells #[.int .i64 kd2, .int .i64 vw2, .int .i64 sq2, .int .i64 fr2, .string dg2, .string bd2, .string mc2] 35)) := W10.alloc W10.size _
  have C11 : Hid ((w10.alloc (.cells #[.int .i64 kd2, .int .i64 vw2, .int .i64 sq2, .int .i64 fr2, .string dg2, .string bd2, .string mc2] 35)).heap[z]? = some (.cells #[.int .i64 kd2, .int .i64 vw2, .int .i64 sq2, .int .i64 fr2, .string dg2, .string bd2, .string mc2] 35 (0, 0))) := (Below.heap_alloc _ _ _ L10).trans C10.out
  go_upto_region 11 with fail
  generalize w10.alloc (.cells #[.int .i64 kd2, .int .i64 vw2, .int .i64 sq2, .int .i64 fr2, .string dg2, .string bd2, .string mc2] 35) = w11 at W11 C11 ⊢
  clear W10 C10 L10
  have hcc : (code != code) = false := by simp
  by_cases h0 : code = 0
  · subst h0
    obtain ⟨e1, e2⟩ := HOK.out rfl
    have HI2 : Hid (∀ W, Calls Try.prog 12 #[.agg #[.int .i64 kd2, .int .i64 vw2, .int .i64 sq2, .int .i64 fr2, .string dg2, .string bd2, .string mc2]] W fun e w' => ∃ v', e = .returned (.tuple #[v', .int .i64 0]) ∧ OwnB 5 w' W.heap.size v' ys ∧ Below W.heap.size W w') := fun W => by
      have h := implMessageBytes_any kd2 vw2 sq2 fr2 dg2 bd2 mc2 W
      unfold msgOut msgCode at h
      rw [e1, if_pos rfl, if_pos rfl, e2] at h
      exact h
    clear e1 e2 HOK HF
    have c0 := (blk_cell C11.out 0 (x := .int .i64 kd2) rfl).1
    have c1 := (blk_cell C11.out 1 (x := .int .i64 vw2) rfl).1
    have c2 := (blk_cell C11.out 2 (x := .int .i64 sq2) rfl).1
    have c3 := (blk_cell C11.out 3 (x := .int .i64 fr2) rfl).1
    have c4 := (blk_cell C11.out 4 (x := .string dg2) rfl).1
    have c5 := (blk_cell C11.out 5 (x := .string bd2) rfl).1
    have c6 := (blk_cell C11.out 6 (x := .string mc2) rfl).1
    go_wp2_with fail
    refine (HI2.out _).mono ?_
    rintro e w12 ⟨v12, rfl, o12, b12⟩
    have W12 := andThen W11 (Nat.le_refl _) b12
    have hc8 := run_convert_row (P := Try.prog) w12 w12.heap.size 33 5 9 Try.underlying33 Try.underlying5 Try.underlying9 v12 ys (RowU.of (own_rowB o12 GR.out))
    have hc9 := run_convert_row (P := Try.prog) w12 w12.heap.size 33 5 9 Try.underlying33 Try.underlying5 Try.underlying9 _ ys (RowU.of (HG.out.below W12))
    clear o12 b12 W11 C11 HI2 c0 c1 c2 c3 c4 c5 c6
    generalize strOfNums ys = sb at hc8 hc9
    have hsb : (sb.toList == sb.toList) = true := by simp
    go_wp2_with fail
    go_ret
    exact ⟨rfl, W12⟩
  · have h0' : (code != 0) = true := by simp [h0]
    go_wp2_with fail
    go_ret
    exact ⟨rfl, W11⟩

/-! ### THE ROW's STEP -/
set_option maxRecDepth 100000 in
theorem lifted (os : Os) (started : os.Started) (H : Type) (enc : TypeId × Value → H) :
    ReturnsInHanded {} Try.checked os 4 .any (Rows.fnMessagesSpec.pre6 enc Try.prog Try.f4 Rows.fnMessagesRow.domain false) (Rows.fnMessagesSpec.post enc Try.prog Try.f4 false true false false) := by
  refine returnsInHanded_of_change (C := Try.checked) own started (by kernel_rfl) Try.func4
    (ChangeSpec.witness6 (enc := enc) (C := Try.checked) false ⟨#[], #[.slice none 0 0, .slice none 0 0], []⟩ 8 (by kernel_rfl) (by kernel_rfl) (by kernel_rfl) (by kernel_rfl)) ?_
  intro W base args ds gs before hval0 hW hcnd _
  have hval : ∀ (j : Nat) t v, Try.f4.params[j]? = some t → args[j]? = some v → Value.okWide Try.prog W .any base t v := hval0
  have hW' := hW
  obtain ⟨p, q, hA0, hV, rfl, hfz, hnd⟩ := hW
  have hA : DataW.TrodAll enc Try.prog W 0 (fun _ => true) true Try.f4.params.toList args.toList ds p := hA0
  rw [Try.params4] at hA hval
  obtain ⟨v0, vs0, d0, ds0, p0, q0, hargs, rfl, rfl, h0, r0⟩ := trodAll_cons hA
  obtain ⟨v1, vs1, d1, ds1, p1, q1, rfl, rfl, rfl, h1, r1⟩ := trodAll_cons r0
  obtain ⟨rfl, rfl, rfl⟩ := trodAll_nil r1
  obtain rfl : args = #[v0, v1] := by cases args; simp_all
  obtain ⟨rfl, rfl⟩ := trodVars_none hV
  have k00 := h0
  have lt0 : ∀ x ∈ p0, x.block < W.heap.size := by obtain ⟨m, hm⟩ := k00; exact DataW.trod_lt m _ _ _ hm
  obtain ⟨xs0, w0⟩ := Op.open_bytes (hval 0 33 v0 rfl rfl) h0 (fun _ => rfl)
  have k10 := h1
  have lt1 : ∀ x ∈ p1, x.block < W.heap.size := by obtain ⟨m, hm⟩ := k10; exact DataW.trod_lt m _ _ _ hm
  obtain ⟨xs1, w1⟩ := Op.open_bytes (hval 1 33 v1 rfl rfl) h1 (fun _ => rfl)
  clear hA0 hval0
  refine (walk v0 xs0 W w0 v1 xs1 W w1).mono fun e W' ⟨he, bel⟩ => ?_
  subst he
  exact ⟨_, rfl, _, _, _, [], _, [], hW', trodAll_mk1 (shut_bool Try.underlying4 _), (trodAll_cons_mk (Below.trod laidOut (by kernel_rfl) (of_decide_eq_true (by kernel_rfl)) k00 bel lt0) (trodAll_cons_mk (Below.trod laidOut (by kernel_rfl) (of_decide_eq_true (by kernel_rfl)) k10 bel lt1) trodAll_mk0)), rfl, bel.frame _, fun h => by cases h⟩

theorem over : Rows.fnMessagesRow.holds Try.pinned (OpenSpec.ofChange Rows.fnMessagesSpec) :=
  OpenClaim.holds_of_wide 4 Try.f4 rfl rfl rfl rfl rfl rfl rfl ⟨rfl, rfl, rfl, rfl, rfl⟩ rfl rfl rfl rfl rfl (by kernel_rfl) Try.func4 (by kernel_rfl)
    (of_decide_eq_true (by kernel_rfl)) (by unfold Func.isWrapper; first | (rw [if_pos (by decide +kernel)]; kernel_rfl) | (rw [if_neg (by decide +kernel)]; exact ⟨rfl, rfl⟩))
    (fun os started H enc _ => lifted os started H enc)

end Go.Proofs.Ytdeologdmdimoaa.fnMessages
namespace Go.Proofs.Ytdeologdmdimoaa
/-- THE STATEMENT. -/
theorem fnMessages_holds : Rows.FnMessagesSaid := fnMessages.over
end Go.Proofs.Ytdeologdmdimoaa
