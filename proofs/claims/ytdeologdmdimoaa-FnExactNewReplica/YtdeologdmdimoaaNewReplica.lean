/-
  impl.NewReplica answers at every two numbers just what the specification's NewReplica answers, and its answer owns its memory.
  Conditions: none beyond the given row's own.
-/
import Derived.Test.YtdeologdmdimoaaNv
import Derived.WalkKit
import Derived.ProofKit
import Derived.OpenShut
import Derived.ShutString
import Derived.ChangeOld
import Derived.Below
namespace Go.Proofs.Ytdeologdmdimoaa.fnExactNewReplica
open Go.ChangeShapes Go.WideShapes Go.ChangeAt Go.RowKit
open Go.ChangeMaps (open_string shut_string)

theorem own : ownKnob Try.prog.godebug = none := by kernel_rfl
theorem laidOut : laidOutB Try.prog = true := by kernel_rfl

open Go.Proofs.Ytdeologdmdimoaa.Rg Go.Proofs.Ytdeologdmdimoaa.Nr
set_option maxRecDepth 100000 in
set_option maxHeartbeats 3200000 in
/-- THE WALK: both functions answer alike, and the answer owns its memory. -/
theorem walk (i0 : Int) (_z0 : (Lit.int .i64 i0).wf = true) (i1 : Int) (_z1 : (Lit.int .i64 i1).wf = true) (w : World) :
    Calls Try.prog 3 #[.int .i64 i0, .int .i64 i1] w fun e w' => e = .returned (.bool true) ∧ Below w.heap.size w w' := by
  clear _z0 _z1
  cases hok : okR i0 i1 with
  | true =>
    go_enter Try.func3, Try.ntmps3
    go_wp2_with fail
    refine (specNew_yes i0 i1 w hok).mono ?_
    rintro e w1 ⟨vs, vc, l1, m1, e1, f1, rfl, r1, r2, b1⟩
    obtain ⟨as8, cs8, rfl⟩ := RowG.slice r1
    obtain ⟨ac8, cc8, rfl⟩ := RowG.slice r2
    have R1 : Hid (RowG 5 E5 w1 (.slice as8 8 cs8) (List.replicate 8 ()) ∧ RowG 2 E2 w1 (.slice ac8 8 cc8) (List.replicate 8 ())) := ⟨r1, r2⟩
    clear r1 r2
    have W2 : Below w.heap.size w (w1.alloc (.cells #[.int .i64 i0, .int .i64 i1, .int .i64 0, .bool true, .slice as8 8 cs8, .slice ac8 8 cc8, .slice l1 0 e1, .slice m1 0 f1] 27)) := b1.alloc b1.size _
    have A2 : Hid ((w1.alloc (.cells #[.int .i64 i0, .int .i64 i1, .int .i64 0, .bool true, .slice as8 8 cs8, .slice ac8 8 cc8, .slice l1 0 e1, .slice m1 0 f1] 27)).heap[w1.heap.size]? = some (.cells #[.int .i64 i0, .int .i64 i1, .int .i64 0, .bool true, .slice as8 8 cs8, .slice ac8 8 cc8, .slice l1 0 e1, .slice m1 0 f1] 27 (0, 0))) := blk_new _ _ _
    have R2 : Hid (RowG 5 E5 (w1.alloc (.cells #[.int .i64 i0, .int .i64 i1, .int .i64 0, .bool true, .slice as8 8 cs8, .slice ac8 8 cc8, .slice l1 0 e1, .slice m1 0 f1] 27)) (.slice as8 8 cs8) (List.replicate 8 ()) ∧ RowG 2 E2 (w1.alloc (.cells #[.int .i64 i0, .int .i64 i1, .int .i64 0, .bool true, .slice as8 8 cs8, .slice ac8 8 cc8, .slice l1 0 e1, .slice m1 0 f1] 27)) (.slice ac8 8 cc8) (List.replicate 8 ())) := ⟨RowG.below stays5 R1.out.1 (bel_new _ _), RowG.below stays2 R1.out.2 (bel_new _ _)⟩
    go_upto_region 2 with fail
    generalize w1.alloc (.cells #[.int .i64 i0, .int .i64 i1, .int .i64 0, .bool true, .slice as8 8 cs8, .slice ac8 8 cc8, .slice l1 0 e1, .slice m1 0 f1] 27) = w2 at W2 A2 R2 ⊢
    generalize w1.heap.size = x at A2 ⊢
    clear b1 R1
    go_wp2_with fail
    refine (implNew_yes i0 i1 w2 hok).mono ?_
    rintro e w3 ⟨gs, gc, rfl, ls, lc, hne, ms3, mc3, b3⟩
    have B4 : Hid (Below w2.heap.size w2 (w3.alloc (.cells #[.int .i64 i0, .int .i64 i1, .int .i64 0, .bool true, .slice (some ⟨gs, 0, none⟩) 8 8, .slice (some ⟨gc, 0, none⟩) 8 8, .slice none 0 0, .slice none 0 0] 27))) := b3.alloc b3.size _
    have P4 : Hid ((w3.alloc (.cells #[.int .i64 i0, .int .i64 i1, .int .i64 0, .bool true, .slice (some ⟨gs, 0, none⟩) 8 8, .slice (some ⟨gc, 0, none⟩) 8 8, .slice none 0 0, .slice none 0 0] 27)).heap[w3.heap.size]? = some (.cells #[.int .i64 i0, .int .i64 i1, .int .i64 0, .bool true, .slice (some ⟨gs, 0, none⟩) 8 8, .slice (some ⟨gc, 0, none⟩) 8 8, .slice none 0 0, .slice none 0 0] 27 (0, 0))) := blk_new _ _ _
    have Y4 : Hid (w2.heap.size ≤ w3.heap.size) := b3.size
    have M4 : Hid (MS (w3.alloc (.cells #[.int .i64 i0, .int .i64 i1, .int .i64 0, .bool true, .slice (some ⟨gs, 0, none⟩) 8 8, .slice (some ⟨gc, 0, none⟩) 8 8, .slice none 0 0, .slice none 0 0] 27)) gs 8 (fun _ => (⟨#[]⟩, false, false)) ∧ MC (w3.alloc (.cells #[.int .i64 i0, .int .i64 i1, .int .i64 0, .bool true, .slice (some ⟨gs, 0, none⟩) 8 8, .slice (some ⟨gc, 0, none⟩) 8 8, .slice none 0 0, .slice none 0 0] 27)) gc 8 (fun _ => ⟨#[]⟩)) := ⟨ms3.below (bel_new _ _), mc3.below (bel_new _ _)⟩
    have N4 : Hid (w2.heap.size ≤ gs ∧ w2.heap.size ≤ gc ∧ gs ≠ gc ∧ gs ≠ w3.heap.size ∧ gc ≠ w3.heap.size) := ⟨ls, lc, hne, by have := ms3.lt; omega, by have := mc3.lt; omega⟩
    clear ms3 mc3 ls lc hne
    have LX : Hid (x < w2.heap.size) := (Array.getElem?_eq_some_iff.1 A2.out).1
    go_upto_region 3 with fail
    generalize w3.alloc (.cells #[.int .i64 i0, .int .i64 i1, .int .i64 0, .bool true, .slice (some ⟨gs, 0, none⟩) 8 8, .slice (some ⟨gc, 0, none⟩) 8 8, .slice none 0 0, .slice none 0 0] 27) = w4 at B4 P4 M4 ⊢
    generalize w3.heap.size = y at P4 Y4 N4 ⊢
    clear b3
    have s0 := (blk_cell ((B4.out.block _ LX.out).trans A2.out) 0 (x := .int .i64 i0) rfl).1
    have s1 := (blk_cell ((B4.out.block _ LX.out).trans A2.out) 1 (x := .int .i64 i1) rfl).1
    have s2 := (blk_cell ((B4.out.block _ LX.out).trans A2.out) 2 (x := .int .i64 0) rfl).1
    have s3 := (blk_cell ((B4.out.block _ LX.out).trans A2.out) 3 (x := .bool true) rfl).1
    have s4 := (blk_cell ((B4.out.block _ LX.out).trans A2.out) 4 (x := .slice as8 8 cs8) rfl).1
    have s5 := (blk_cell ((B4.out.block _ LX.out).trans A2.out) 5 (x := .slice ac8 8 cc8) rfl).1
    have s6 := (blk_cell ((B4.out.block _ LX.out).trans A2.out) 6 (x := .slice l1 0 e1) rfl).1
    have s7 := (blk_cell ((B4.out.block _ LX.out).trans A2.out) 7 (x := .slice m1 0 f1) rfl).1
    have p0 := (blk_cell P4.out 0 (x := .int .i64 i0) rfl).1
    have p1 := (blk_cell P4.out 1 (x := .int .i64 i1) rfl).1
    have p2 := (blk_cell P4.out 2 (x := .int .i64 0) rfl).1
    have p3 := (blk_cell P4.out 3 (x := .bool true) rfl).1
    have p4 := (blk_cell P4.out 4 (x := .slice (some ⟨gs, 0, none⟩) 8 8) rfl).1
    have p5 := (blk_cell P4.out 5 (x := .slice (some ⟨gc, 0, none⟩) 8 8) rfl).1
    have p6 := (blk_cell P4.out 6 (x := .slice none 0 0) rfl).1
    have p7 := (blk_cell P4.out 7 (x := .slice none 0 0) rfl).1
    have HE : Hid (∀ W, Below w2.heap.size w2 W → ∀ v1 v2 : Value, RowG 5 E5 W v1 (List.replicate 8 ()) → RowG 2 E2 W v2 (List.replicate 8 ()) → Calls Try.prog 8 #[.agg #[.int .i64 i0, .int .i64 i1, .int .i64 0, .bool true, v1, v2, .slice none 0 0, .slice none 0 0], .agg #[.int .i64 i0, .int .i64 i1, .int .i64 0, .bool true, .slice as8 8 cs8, .slice ac8 8 cc8, .slice l1 0 e1, .slice m1 0 f1]] W fun e w' => e = .returned (.bool true) ∧ Below W.heap.size W w') := fun W hW v1 v2 h1 h2 => eqRep i0 i1 true v1 v2 _ _ _ _ _ _ _ _ _ _ (List.replicate 8 ()) W h1 (RowG.below stays5 R2.out.1 hW) h2 (RowG.below stays2 R2.out.2 hW) (by decide)
    have HQ4 := HE.out w4 B4.out _ _ (MS.rowE M4.out.1) (MC.rowE M4.out.2)
    go_wp2_with fail
    refine HQ4.mono ?_
    rintro e w5 ⟨rfl, b5⟩
    have B5 : Hid (Below w2.heap.size w2 w5) := B4.out.trans (b5.mono B4.out.size)
    have L4 := (Array.getElem?_eq_some_iff.1 P4.out).1
    have P5 : Hid (w5.heap[y]? = some (.cells #[.int .i64 i0, .int .i64 i1, .int .i64 0, .bool true, .slice (some ⟨gs, 0, none⟩) 8 8, .slice (some ⟨gc, 0, none⟩) 8 8, .slice none 0 0, .slice none 0 0] 27 (0, 0))) := (b5.block _ L4).trans P4.out
    have M5 : Hid (MS w5 gs 8 (fun _ => (⟨#[]⟩, false, false)) ∧ MC w5 gc 8 (fun _ => ⟨#[]⟩)) := ⟨M4.out.1.below b5, M4.out.2.below b5⟩
    clear b5 B4 P4 HQ4 L4 M4 s0 s1 s2 s3 s4 s5 s6 s7 p0 p1 p2 p3 p4 p5 p6 p7
    have p0 := (blk_cell P5.out 0 (x := .int .i64 i0) rfl).1
    have p1 := (blk_cell P5.out 1 (x := .int .i64 i1) rfl).1
    have p2 := (blk_cell P5.out 2 (x := .int .i64 0) rfl).1
    have p3 := (blk_cell P5.out 3 (x := .bool true) rfl).1
    have p4 := (blk_cell P5.out 4 (x := .slice (some ⟨gs, 0, none⟩) 8 8) rfl).1
    have p5 := (blk_cell P5.out 5 (x := .slice (some ⟨gc, 0, none⟩) 8 8) rfl).1
    have p6 := (blk_cell P5.out 6 (x := .slice none 0 0) rfl).1
    have p7 := (blk_cell P5.out 7 (x := .slice none 0 0) rfl).1
    have HK := markRep i0 i1 gs gc _ _ w5 M5.out.1 M5.out.2 N4.out.2.2.1
    go_wp2_with fail
    refine HK.mono ?_
    rintro e w6 ⟨rfl, ms6, mc6, b6⟩
    have B6 : Hid (Below w2.heap.size w2 w6) := B5.out.trans (b6.1 w2.heap.size B5.out.size N4.out.1 N4.out.2.1)
    have L5 := (Array.getElem?_eq_some_iff.1 P5.out).1
    have P6 : Hid (w6.heap[y]? = some (.cells #[.int .i64 i0, .int .i64 i1, .int .i64 0, .bool true, .slice (some ⟨gs, 0, none⟩) 8 8, .slice (some ⟨gc, 0, none⟩) 8 8, .slice none 0 0, .slice none 0 0] 27 (0, 0))) := (b6.2 y L5 (fun e => N4.out.2.2.2.1 e.symm) (fun e => N4.out.2.2.2.2 e.symm)).trans P5.out
    have M6 : Hid ((∃ f', MS w6 gs 8 f' ∧ ∀ j, j < 8 → f' j = mf 1 j) ∧ ∃ h', MC w6 gc 8 h' ∧ ∀ j, j < 8 → h' j = mtext (25 + j)) := ⟨ms6, mc6⟩
    clear ms6 mc6 b6 B5 P5 M5 HK L5 p0 p1 p2 p3 p4 p5 p6 p7
    have p0 := (blk_cell P6.out 0 (x := .int .i64 i0) rfl).1
    have p1 := (blk_cell P6.out 1 (x := .int .i64 i1) rfl).1
    have p2 := (blk_cell P6.out 2 (x := .int .i64 0) rfl).1
    have p3 := (blk_cell P6.out 3 (x := .bool true) rfl).1
    have p4 := (blk_cell P6.out 4 (x := .slice (some ⟨gs, 0, none⟩) 8 8) rfl).1
    have p5 := (blk_cell P6.out 5 (x := .slice (some ⟨gc, 0, none⟩) 8 8) rfl).1
    have p6 := (blk_cell P6.out 6 (x := .slice none 0 0) rfl).1
    have p7 := (blk_cell P6.out 7 (x := .slice none 0 0) rfl).1
    have HH := heldRep i0 i1 gs gc w6 M6.out.1 M6.out.2
    go_wp2_with fail
    refine HH.mono ?_
    rintro e w7 ⟨rfl, b7⟩
    have B7 : Hid (Below w2.heap.size w2 w7) := B6.out.trans (b7.mono B6.out.size)
    have P7 : Hid (w7.heap[y]? = some (.cells #[.int .i64 i0, .int .i64 i1, .int .i64 0, .bool true, .slice (some ⟨gs, 0, none⟩) 8 8, .slice (some ⟨gc, 0, none⟩) 8 8, .slice none 0 0, .slice none 0 0] 27 (0, 0))) := (b7.block _ (Array.getElem?_eq_some_iff.1 P6.out).1).trans P6.out
    have M7 : Hid ((∃ f', MS w7 gs 8 f' ∧ ∀ j, j < 8 → f' j = mf 1 j) ∧ ∃ h', MC w7 gc 8 h' ∧ ∀ j, j < 8 → h' j = mtext (25 + j)) := by
      obtain ⟨⟨f', h1, h2⟩, h', h3, h4⟩ := M6.out
      exact ⟨⟨f', h1.below b7, h2⟩, h', h3.below b7, h4⟩
    clear b7 B6 P6 HH M6 p0 p1 p2 p3 p4 p5 p6 p7
    go_wp2_with fail
    refine (implNew_yes i0 i1 w7 hok).mono ?_
    rintro e w8 ⟨gs2, gc2, rfl, _, _, _, ms8, mc8, b8⟩
    have b9 : Below w7.heap.size w7 (w8.alloc (.cells #[.int .i64 i0, .int .i64 i1, .int .i64 0, .bool true, .slice (some ⟨gs2, 0, none⟩) 8 8, .slice (some ⟨gc2, 0, none⟩) 8 8, .slice none 0 0, .slice none 0 0] 27)) := b8.alloc b8.size _
    have B9 : Hid (Below w2.heap.size w2 (w8.alloc (.cells #[.int .i64 i0, .int .i64 i1, .int .i64 0, .bool true, .slice (some ⟨gs2, 0, none⟩) 8 8, .slice (some ⟨gc2, 0, none⟩) 8 8, .slice none 0 0, .slice none 0 0] 27))) := B7.out.trans (b9.mono B7.out.size)
    have Q9 : Hid ((w8.alloc (.cells #[.int .i64 i0, .int .i64 i1, .int .i64 0, .bool true, .slice (some ⟨gs2, 0, none⟩) 8 8, .slice (some ⟨gc2, 0, none⟩) 8 8, .slice none 0 0, .slice none 0 0] 27)).heap[w8.heap.size]? = some (.cells #[.int .i64 i0, .int .i64 i1, .int .i64 0, .bool true, .slice (some ⟨gs2, 0, none⟩) 8 8, .slice (some ⟨gc2, 0, none⟩) 8 8, .slice none 0 0, .slice none 0 0] 27 (0, 0))) := blk_new _ _ _
    have P9 : Hid ((w8.alloc (.cells #[.int .i64 i0, .int .i64 i1, .int .i64 0, .bool true, .slice (some ⟨gs2, 0, none⟩) 8 8, .slice (some ⟨gc2, 0, none⟩) 8 8, .slice none 0 0, .slice none 0 0] 27)).heap[y]? = some (.cells #[.int .i64 i0, .int .i64 i1, .int .i64 0, .bool true, .slice (some ⟨gs, 0, none⟩) 8 8, .slice (some ⟨gc, 0, none⟩) 8 8, .slice none 0 0, .slice none 0 0] 27 (0, 0))) := (b9.block _ (Array.getElem?_eq_some_iff.1 P7.out).1).trans P7.out
    have M9 : Hid (((∃ f', MS (w8.alloc (.cells #[.int .i64 i0, .int .i64 i1, .int .i64 0, .bool true, .slice (some ⟨gs2, 0, none⟩) 8 8, .slice (some ⟨gc2, 0, none⟩) 8 8, .slice none 0 0, .slice none 0 0] 27)) gs 8 f' ∧ ∀ j, j < 8 → f' j = mf 1 j) ∧ ∃ h', MC (w8.alloc (.cells #[.int .i64 i0, .int .i64 i1, .int .i64 0, .bool true, .slice (some ⟨gs2, 0, none⟩) 8 8, .slice (some ⟨gc2, 0, none⟩) 8 8, .slice none 0 0, .slice none 0 0] 27)) gc 8 h' ∧ ∀ j, j < 8 → h' j = mtext (25 + j)) ∧ MS (w8.alloc (.cells #[.int .i64 i0, .int .i64 i1, .int .i64 0, .bool true, .slice (some ⟨gs2, 0, none⟩) 8 8, .slice (some ⟨gc2, 0, none⟩) 8 8, .slice none 0 0, .slice none 0 0] 27)) gs2 8 (fun _ => (⟨#[]⟩, false, false)) ∧ MC (w8.alloc (.cells #[.int .i64 i0, .int .i64 i1, .int .i64 0, .bool true, .slice (some ⟨gs2, 0, none⟩) 8 8, .slice (some ⟨gc2, 0, none⟩) 8 8, .slice none 0 0, .slice none 0 0] 27)) gc2 8 (fun _ => ⟨#[]⟩)) := by
      obtain ⟨⟨f', h1, h2⟩, h', h3, h4⟩ := M7.out
      exact ⟨⟨⟨f', h1.below b9, h2⟩, h', h3.below b9, h4⟩, ms8.below (bel_new _ _), mc8.below (bel_new _ _)⟩
    clear ms8 mc8 M7
    clear b8 b9 B7 P7
    go_upto_region 14 with fail
    generalize w8.alloc (.cells #[.int .i64 i0, .int .i64 i1, .int .i64 0, .bool true, .slice (some ⟨gs2, 0, none⟩) 8 8, .slice (some ⟨gc2, 0, none⟩) 8 8, .slice none 0 0, .slice none 0 0] 27) = w9 at B9 Q9 P9 M9 ⊢
    generalize w8.heap.size = z at Q9 ⊢
    have s0 := (blk_cell ((B9.out.block _ LX.out).trans A2.out) 0 (x := .int .i64 i0) rfl).1
    have s1 := (blk_cell ((B9.out.block _ LX.out).trans A2.out) 1 (x := .int .i64 i1) rfl).1
    have s2 := (blk_cell ((B9.out.block _ LX.out).trans A2.out) 2 (x := .int .i64 0) rfl).1
    have s3 := (blk_cell ((B9.out.block _ LX.out).trans A2.out) 3 (x := .bool true) rfl).1
    have s4 := (blk_cell ((B9.out.block _ LX.out).trans A2.out) 4 (x := .slice as8 8 cs8) rfl).1
    have s5 := (blk_cell ((B9.out.block _ LX.out).trans A2.out) 5 (x := .slice ac8 8 cc8) rfl).1
    have s6 := (blk_cell ((B9.out.block _ LX.out).trans A2.out) 6 (x := .slice l1 0 e1) rfl).1
    have s7 := (blk_cell ((B9.out.block _ LX.out).trans A2.out) 7 (x := .slice m1 0 f1) rfl).1
    have p0 := (blk_cell Q9.out 0 (x := .int .i64 i0) rfl).1
    have p1 := (blk_cell Q9.out 1 (x := .int .i64 i1) rfl).1
    have p2 := (blk_cell Q9.out 2 (x := .int .i64 0) rfl).1
    have p3 := (blk_cell Q9.out 3 (x := .bool true) rfl).1
    have p4 := (blk_cell Q9.out 4 (x := .slice (some ⟨gs2, 0, none⟩) 8 8) rfl).1
    have p5 := (blk_cell Q9.out 5 (x := .slice (some ⟨gc2, 0, none⟩) 8 8) rfl).1
    have p6 := (blk_cell Q9.out 6 (x := .slice none 0 0) rfl).1
    have p7 := (blk_cell Q9.out 7 (x := .slice none 0 0) rfl).1
    have HQ9 := HE.out w9 B9.out _ _ (MS.rowE M9.out.2.1) (MC.rowE M9.out.2.2)
    go_wp2_with fail
    refine HQ9.mono ?_
    rintro e wa ⟨rfl, ba⟩
    have Ba : Hid (Below w2.heap.size w2 wa) := B9.out.trans (ba.mono B9.out.size)
    have Pa : Hid (wa.heap[y]? = some (.cells #[.int .i64 i0, .int .i64 i1, .int .i64 0, .bool true, .slice (some ⟨gs, 0, none⟩) 8 8, .slice (some ⟨gc, 0, none⟩) 8 8, .slice none 0 0, .slice none 0 0] 27 (0, 0))) := (ba.block _ (Array.getElem?_eq_some_iff.1 P9.out).1).trans P9.out
    have Ma : Hid ((∃ f', MS wa gs 8 f' ∧ ∀ j, j < 8 → f' j = mf 1 j) ∧ ∃ h', MC wa gc 8 h' ∧ ∀ j, j < 8 → h' j = mtext (25 + j)) := by
      obtain ⟨⟨f', h1, h2⟩, h', h3, h4⟩ := M9.out.1
      exact ⟨⟨f', h1.below ba, h2⟩, h', h3.below ba, h4⟩
    clear ba B9 P9 Q9 HQ9 HE M9 s0 s1 s2 s3 s4 s5 s6 s7 p0 p1 p2 p3 p4 p5 p6 p7
    have p0 := (blk_cell Pa.out 0 (x := .int .i64 i0) rfl).1
    have p1 := (blk_cell Pa.out 1 (x := .int .i64 i1) rfl).1
    have p2 := (blk_cell Pa.out 2 (x := .int .i64 0) rfl).1
    have p3 := (blk_cell Pa.out 3 (x := .bool true) rfl).1
    have p4 := (blk_cell Pa.out 4 (x := .slice (some ⟨gs, 0, none⟩) 8 8) rfl).1
    have p5 := (blk_cell Pa.out 5 (x := .slice (some ⟨gc, 0, none⟩) 8 8) rfl).1
    have p6 := (blk_cell Pa.out 6 (x := .slice none 0 0) rfl).1
    have p7 := (blk_cell Pa.out 7 (x := .slice none 0 0) rfl).1
    have HH := heldRep i0 i1 gs gc wa Ma.out.1 Ma.out.2
    go_wp2_with fail
    refine HH.mono ?_
    rintro e wb ⟨rfl, bb⟩
    have Bb : Below w.heap.size w wb := W2.trans ((Ba.out.trans (bb.mono Ba.out.size)).mono W2.size)
    clear bb Ba Pa HH Ma p0 p1 p2 p3 p4 p5 p6 p7
    go_wp2_with fail
    go_ret
    exact ⟨rfl, Bb⟩
  | false =>
    go_enter Try.func3, Try.ntmps3
    go_wp2_with fail
    refine (specNew_no i0 i1 w hok).mono ?_
    rintro e w1 ⟨rfl, b1⟩
    have W2 : Below w.heap.size w (w1.alloc (.cells #[.int .i64 0, .int .i64 0, .int .i64 0, .bool false, .slice none 0 0, .slice none 0 0, .slice none 0 0, .slice none 0 0] 27)) := b1.alloc b1.size _
    have A2 : Hid ((w1.alloc (.cells #[.int .i64 0, .int .i64 0, .int .i64 0, .bool false, .slice none 0 0, .slice none 0 0, .slice none 0 0, .slice none 0 0] 27)).heap[w1.heap.size]? = some (.cells #[.int .i64 0, .int .i64 0, .int .i64 0, .bool false, .slice none 0 0, .slice none 0 0, .slice none 0 0, .slice none 0 0] 27 (0, 0))) := blk_new _ _ _
    go_upto_region 2 with fail
    generalize w1.alloc (.cells #[.int .i64 0, .int .i64 0, .int .i64 0, .bool false, .slice none 0 0, .slice none 0 0, .slice none 0 0, .slice none 0 0] 27) = w2 at W2 A2 ⊢
    generalize w1.heap.size = x at A2 ⊢
    clear b1 
    go_wp2_with fail
    refine (implNew_no i0 i1 w2 hok).mono ?_
    rintro e w3 ⟨rfl, b3⟩
    have B4 : Hid (Below w2.heap.size w2 (w3.alloc (.cells #[.int .i64 0, .int .i64 0, .int .i64 0, .bool false, .slice none 0 0, .slice none 0 0, .slice none 0 0, .slice none 0 0] 27))) := b3.alloc b3.size _
    have P4 : Hid ((w3.alloc (.cells #[.int .i64 0, .int .i64 0, .int .i64 0, .bool false, .slice none 0 0, .slice none 0 0, .slice none 0 0, .slice none 0 0] 27)).heap[w3.heap.size]? = some (.cells #[.int .i64 0, .int .i64 0, .int .i64 0, .bool false, .slice none 0 0, .slice none 0 0, .slice none 0 0, .slice none 0 0] 27 (0, 0))) := blk_new _ _ _
    have Y4 : Hid (w2.heap.size ≤ w3.heap.size) := b3.size
    have LX : Hid (x < w2.heap.size) := (Array.getElem?_eq_some_iff.1 A2.out).1
    go_upto_region 3 with fail
    generalize w3.alloc (.cells #[.int .i64 0, .int .i64 0, .int .i64 0, .bool false, .slice none 0 0, .slice none 0 0, .slice none 0 0, .slice none 0 0] 27) = w4 at B4 P4 ⊢
    generalize w3.heap.size = y at P4 Y4 ⊢
    clear b3
    have s0 := (blk_cell ((B4.out.block _ LX.out).trans A2.out) 0 (x := .int .i64 0) rfl).1
    have s1 := (blk_cell ((B4.out.block _ LX.out).trans A2.out) 1 (x := .int .i64 0) rfl).1
    have s2 := (blk_cell ((B4.out.block _ LX.out).trans A2.out) 2 (x := .int .i64 0) rfl).1
    have s3 := (blk_cell ((B4.out.block _ LX.out).trans A2.out) 3 (x := .bool false) rfl).1
    have s4 := (blk_cell ((B4.out.block _ LX.out).trans A2.out) 4 (x := .slice none 0 0) rfl).1
    have s5 := (blk_cell ((B4.out.block _ LX.out).trans A2.out) 5 (x := .slice none 0 0) rfl).1
    have s6 := (blk_cell ((B4.out.block _ LX.out).trans A2.out) 6 (x := .slice none 0 0) rfl).1
    have s7 := (blk_cell ((B4.out.block _ LX.out).trans A2.out) 7 (x := .slice none 0 0) rfl).1
    have p0 := (blk_cell P4.out 0 (x := .int .i64 0) rfl).1
    have p1 := (blk_cell P4.out 1 (x := .int .i64 0) rfl).1
    have p2 := (blk_cell P4.out 2 (x := .int .i64 0) rfl).1
    have p3 := (blk_cell P4.out 3 (x := .bool false) rfl).1
    have p4 := (blk_cell P4.out 4 (x := .slice none 0 0) rfl).1
    have p5 := (blk_cell P4.out 5 (x := .slice none 0 0) rfl).1
    have p6 := (blk_cell P4.out 6 (x := .slice none 0 0) rfl).1
    have p7 := (blk_cell P4.out 7 (x := .slice none 0 0) rfl).1
    have HE : Hid (∀ W, Calls Try.prog 8 #[.agg #[.int .i64 0, .int .i64 0, .int .i64 0, .bool false, .slice none 0 0, .slice none 0 0, .slice none 0 0, .slice none 0 0], .agg #[.int .i64 0, .int .i64 0, .int .i64 0, .bool false, .slice none 0 0, .slice none 0 0, .slice none 0 0, .slice none 0 0]] W fun e w' => e = .returned (.bool true) ∧ Below W.heap.size W w') := fun W => eqRep 0 0 false _ _ _ _ none none none none 0 0 0 0 [] W (row_nil5 _) (row_nil5 _) (row_nil2 _) (row_nil2 _) (by decide)
    have HQ4 := HE.out w4
    go_wp2_with fail
    refine HQ4.mono ?_
    rintro e w5 ⟨rfl, b5⟩
    have B5 : Hid (Below w2.heap.size w2 w5) := B4.out.trans (b5.mono B4.out.size)
    have L4 := (Array.getElem?_eq_some_iff.1 P4.out).1
    have P5 : Hid (w5.heap[y]? = some (.cells #[.int .i64 0, .int .i64 0, .int .i64 0, .bool false, .slice none 0 0, .slice none 0 0, .slice none 0 0, .slice none 0 0] 27 (0, 0))) := (b5.block _ L4).trans P4.out
    clear b5 B4 P4 HQ4 L4  s0 s1 s2 s3 s4 s5 s6 s7 p0 p1 p2 p3 p4 p5 p6 p7
    have p0 := (blk_cell P5.out 0 (x := .int .i64 0) rfl).1
    have p1 := (blk_cell P5.out 1 (x := .int .i64 0) rfl).1
    have p2 := (blk_cell P5.out 2 (x := .int .i64 0) rfl).1
    have p3 := (blk_cell P5.out 3 (x := .bool false) rfl).1
    have p4 := (blk_cell P5.out 4 (x := .slice none 0 0) rfl).1
    have p5 := (blk_cell P5.out 5 (x := .slice none 0 0) rfl).1
    have p6 := (blk_cell P5.out 6 (x := .slice none 0 0) rfl).1
    have p7 := (blk_cell P5.out 7 (x := .slice none 0 0) rfl).1
    have HK := markZero w5
    go_wp2_with fail
    refine HK.mono ?_
    rintro e w6 ⟨rfl, b6⟩
    have B6 : Hid (Below w2.heap.size w2 w6) := B5.out.trans (b6.mono B5.out.size)
    have P6 : Hid (w6.heap[y]? = some (.cells #[.int .i64 0, .int .i64 0, .int .i64 0, .bool false, .slice none 0 0, .slice none 0 0, .slice none 0 0, .slice none 0 0] 27 (0, 0))) := (b6.block _ (Array.getElem?_eq_some_iff.1 P5.out).1).trans P5.out
    clear b6 B5 P5 HK p0 p1 p2 p3 p4 p5 p6 p7
    have p0 := (blk_cell P6.out 0 (x := .int .i64 0) rfl).1
    have p1 := (blk_cell P6.out 1 (x := .int .i64 0) rfl).1
    have p2 := (blk_cell P6.out 2 (x := .int .i64 0) rfl).1
    have p3 := (blk_cell P6.out 3 (x := .bool false) rfl).1
    have p4 := (blk_cell P6.out 4 (x := .slice none 0 0) rfl).1
    have p5 := (blk_cell P6.out 5 (x := .slice none 0 0) rfl).1
    have p6 := (blk_cell P6.out 6 (x := .slice none 0 0) rfl).1
    have p7 := (blk_cell P6.out 7 (x := .slice none 0 0) rfl).1
    have HH := heldZero w6
    go_wp2_with fail
    refine HH.mono ?_
    rintro e w7 ⟨rfl, b7⟩
    have B7 : Hid (Below w2.heap.size w2 w7) := B6.out.trans (b7.mono B6.out.size)
    have P7 : Hid (w7.heap[y]? = some (.cells #[.int .i64 0, .int .i64 0, .int .i64 0, .bool false, .slice none 0 0, .slice none 0 0, .slice none 0 0, .slice none 0 0] 27 (0, 0))) := (b7.block _ (Array.getElem?_eq_some_iff.1 P6.out).1).trans P6.out
    clear b7 B6 P6 HH  p0 p1 p2 p3 p4 p5 p6 p7
    go_wp2_with fail
    refine (implNew_no i0 i1 w7 hok).mono ?_
    rintro e w8 ⟨rfl, b8⟩
    have b9 : Below w7.heap.size w7 (w8.alloc (.cells #[.int .i64 0, .int .i64 0, .int .i64 0, .bool false, .slice none 0 0, .slice none 0 0, .slice none 0 0, .slice none 0 0] 27)) := b8.alloc b8.size _
    have B9 : Hid (Below w2.heap.size w2 (w8.alloc (.cells #[.int .i64 0, .int .i64 0, .int .i64 0, .bool false, .slice none 0 0, .slice none 0 0, .slice none 0 0, .slice none 0 0] 27))) := B7.out.trans (b9.mono B7.out.size)
    have Q9 : Hid ((w8.alloc (.cells #[.int .i64 0, .int .i64 0, .int .i64 0, .bool false, .slice none 0 0, .slice none 0 0, .slice none 0 0, .slice none 0 0] 27)).heap[w8.heap.size]? = some (.cells #[.int .i64 0, .int .i64 0, .int .i64 0, .bool false, .slice none 0 0, .slice none 0 0, .slice none 0 0, .slice none 0 0] 27 (0, 0))) := blk_new _ _ _
    have P9 : Hid ((w8.alloc (.cells #[.int .i64 0, .int .i64 0, .int .i64 0, .bool false, .slice none 0 0, .slice none 0 0, .slice none 0 0, .slice none 0 0] 27)).heap[y]? = some (.cells #[.int .i64 0, .int .i64 0, .int .i64 0, .bool false, .slice none 0 0, .slice none 0 0, .slice none 0 0, .slice none 0 0] 27 (0, 0))) := (b9.block _ (Array.getElem?_eq_some_iff.1 P7.out).1).trans P7.out
    clear b8 b9 B7 P7
    go_upto_region 14 with fail
    generalize w8.alloc (.cells #[.int .i64 0, .int .i64 0, .int .i64 0, .bool false, .slice none 0 0, .slice none 0 0, .slice none 0 0, .slice none 0 0] 27) = w9 at B9 Q9 P9 ⊢
    generalize w8.heap.size = z at Q9 ⊢
    have s0 := (blk_cell ((B9.out.block _ LX.out).trans A2.out) 0 (x := .int .i64 0) rfl).1
    have s1 := (blk_cell ((B9.out.block _ LX.out).trans A2.out) 1 (x := .int .i64 0) rfl).1
    have s2 := (blk_cell ((B9.out.block _ LX.out).trans A2.out) 2 (x := .int .i64 0) rfl).1
    have s3 := (blk_cell ((B9.out.block _ LX.out).trans A2.out) 3 (x := .bool false) rfl).1
    have s4 := (blk_cell ((B9.out.block _ LX.out).trans A2.out) 4 (x := .slice none 0 0) rfl).1
    have s5 := (blk_cell ((B9.out.block _ LX.out).trans A2.out) 5 (x := .slice none 0 0) rfl).1
    have s6 := (blk_cell ((B9.out.block _ LX.out).trans A2.out) 6 (x := .slice none 0 0) rfl).1
    have s7 := (blk_cell ((B9.out.block _ LX.out).trans A2.out) 7 (x := .slice none 0 0) rfl).1
    have p0 := (blk_cell Q9.out 0 (x := .int .i64 0) rfl).1
    have p1 := (blk_cell Q9.out 1 (x := .int .i64 0) rfl).1
    have p2 := (blk_cell Q9.out 2 (x := .int .i64 0) rfl).1
    have p3 := (blk_cell Q9.out 3 (x := .bool false) rfl).1
    have p4 := (blk_cell Q9.out 4 (x := .slice none 0 0) rfl).1
    have p5 := (blk_cell Q9.out 5 (x := .slice none 0 0) rfl).1
    have p6 := (blk_cell Q9.out 6 (x := .slice none 0 0) rfl).1
    have p7 := (blk_cell Q9.out 7 (x := .slice none 0 0) rfl).1
    have HQ9 := HE.out w9
    go_wp2_with fail
    refine HQ9.mono ?_
    rintro e wa ⟨rfl, ba⟩
    have Ba : Hid (Below w2.heap.size w2 wa) := B9.out.trans (ba.mono B9.out.size)
    have Pa : Hid (wa.heap[y]? = some (.cells #[.int .i64 0, .int .i64 0, .int .i64 0, .bool false, .slice none 0 0, .slice none 0 0, .slice none 0 0, .slice none 0 0] 27 (0, 0))) := (ba.block _ (Array.getElem?_eq_some_iff.1 P9.out).1).trans P9.out
    clear ba B9 P9 Q9 HQ9 HE  s0 s1 s2 s3 s4 s5 s6 s7 p0 p1 p2 p3 p4 p5 p6 p7
    have p0 := (blk_cell Pa.out 0 (x := .int .i64 0) rfl).1
    have p1 := (blk_cell Pa.out 1 (x := .int .i64 0) rfl).1
    have p2 := (blk_cell Pa.out 2 (x := .int .i64 0) rfl).1
    have p3 := (blk_cell Pa.out 3 (x := .bool false) rfl).1
    have p4 := (blk_cell Pa.out 4 (x := .slice none 0 0) rfl).1
    have p5 := (blk_cell Pa.out 5 (x := .slice none 0 0) rfl).1
    have p6 := (blk_cell Pa.out 6 (x := .slice none 0 0) rfl).1
    have p7 := (blk_cell Pa.out 7 (x := .slice none 0 0) rfl).1
    have HH := heldZero wa
    go_wp2_with fail
    refine HH.mono ?_
    rintro e wb ⟨rfl, bb⟩
    have Bb : Below w.heap.size w wb := W2.trans ((Ba.out.trans (bb.mono Ba.out.size)).mono W2.size)
    clear bb Ba Pa HH  p0 p1 p2 p3 p4 p5 p6 p7
    go_wp2_with fail
    go_ret
    exact ⟨rfl, Bb⟩

/-! ### THE ROW's STEP -/
set_option maxRecDepth 100000 in
theorem lifted (os : Os) (started : os.Started) (H : Type) (enc : TypeId × Value → H) :
    ReturnsInHanded {} Try.checked os 3 .any (Rows.fnExactNewReplicaSpec.pre6 enc Try.prog Try.f3 Rows.fnExactNewReplicaRow.domain false) (Rows.fnExactNewReplicaSpec.post enc Try.prog Try.f3 false true false false) := by
  refine returnsInHanded_of_change (C := Try.checked) own started (by kernel_rfl) Try.func3
    (ChangeSpec.witness6 (enc := enc) (C := Try.checked) false ⟨#[], #[.int .i64 0, .int .i64 0], []⟩ 8 (by kernel_rfl) (by kernel_rfl) (by kernel_rfl) (by kernel_rfl)) ?_
  intro W base args ds gs before hval0 hW hcnd _
  have hval : ∀ (j : Nat) t v, Try.f3.params[j]? = some t → args[j]? = some v → Value.okWide Try.prog W .any base t v := hval0
  have hW' := hW
  obtain ⟨p, q, hA0, hV, rfl, hfz, hnd⟩ := hW
  have hA : DataW.TrodAll enc Try.prog W 0 (fun _ => true) true Try.f3.params.toList args.toList ds p := hA0
  rw [Try.params3] at hA hval
  obtain ⟨v0, vs0, d0, ds0, p0, q0, hargs, rfl, rfl, h0, r0⟩ := trodAll_cons hA
  obtain ⟨v1, vs1, d1, ds1, p1, q1, rfl, rfl, rfl, h1, r1⟩ := trodAll_cons r0
  obtain ⟨rfl, rfl, rfl⟩ := trodAll_nil r1
  obtain rfl : args = #[v0, v1] := by cases args; simp_all
  obtain ⟨rfl, rfl⟩ := trodVars_none hV
  have k00 := h0
  have lt0 : ∀ x ∈ p0, x.block < W.heap.size := by obtain ⟨m, hm⟩ := k00; exact DataW.trod_lt m _ _ _ hm
  obtain ⟨i0, rfl, rfl, rfl, z0⟩ := open_int Try.underlying3 (hval 0 3 v0 rfl rfl) h0
  have k10 := h1
  have lt1 : ∀ x ∈ p1, x.block < W.heap.size := by obtain ⟨m, hm⟩ := k10; exact DataW.trod_lt m _ _ _ hm
  obtain ⟨i1, rfl, rfl, rfl, z1⟩ := open_int Try.underlying3 (hval 1 3 v1 rfl rfl) h1
  clear hA0 hval0
  refine (walk i0 z0 i1 z1 W).mono fun e W' ⟨he, bel⟩ => ?_
  subst he
  exact ⟨_, rfl, _, _, _, [], _, [], hW', trodAll_mk1 (shut_bool Try.underlying4 _), (trodAll_cons_mk (Below.trod laidOut (by kernel_rfl) (of_decide_eq_true (by kernel_rfl)) k00 bel lt0) (trodAll_cons_mk (Below.trod laidOut (by kernel_rfl) (of_decide_eq_true (by kernel_rfl)) k10 bel lt1) trodAll_mk0)), rfl, bel.frame _, fun h => by cases h⟩

theorem over : Rows.fnExactNewReplicaRow.holds Try.pinned (OpenSpec.ofChange Rows.fnExactNewReplicaSpec) :=
  OpenClaim.holds_of_wide 3 Try.f3 rfl rfl rfl rfl rfl rfl rfl ⟨rfl, rfl, rfl, rfl, rfl⟩ rfl rfl rfl rfl rfl (by kernel_rfl) Try.func3 (by kernel_rfl)
    (of_decide_eq_true (by kernel_rfl)) (by unfold Func.isWrapper; first | (rw [if_pos (by decide +kernel)]; kernel_rfl) | (rw [if_neg (by decide +kernel)]; exact ⟨rfl, rfl⟩))
    (fun os started H enc _ => lifted os started H enc)

end Go.Proofs.Ytdeologdmdimoaa.fnExactNewReplica
namespace Go.Proofs.Ytdeologdmdimoaa
/-- THE STATEMENT. -/
theorem fnExactNewReplica_holds : Rows.FnExactNewReplicaSaid := fnExactNewReplica.over
end Go.Proofs.Ytdeologdmdimoaa
