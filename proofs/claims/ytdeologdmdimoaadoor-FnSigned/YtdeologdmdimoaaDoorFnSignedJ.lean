/-
  What a node signs is signed, and both functions judge a changed message alike.
  Conditions: none beyond the given row's own; the package variable that it reads starts as the program's text lays it (the card ties it).
-/
import Derived.Test.YtdeologdmdimoaaDoorLa
import Derived.Test.YtdeologdmdimoaaDoorGw
import Derived.Test.YtdeologdmdimoaaDoorJFnSigned0
import Derived.Test.YtdeologdmdimoaaDoorJFnSigned3
import Derived.Test.YtdeologdmdimoaaDoorQc
import Derived.Test.YtdeologdmdimoaaDoorJFnSigned4
import Derived.WalkKit
namespace Go.Proofs.YtdeologdmdimoaaDoor.fnSigned
open Go.ChangeShapes Go.WideShapes Go.ChangeAt Go.RowKit
open Go.ChangeMaps (open_string shut_string)
open Go.Proofs.YtdeologdmdimoaaDoor.Hl (own laidOut rowed door_met)

open Go.Proofs.YtdeologdmdimoaaDoor.Sl Go.Proofs.YtdeologdmdimoaaDoor.By Go.Proofs.YtdeologdmdimoaaDoor.Ap Go.Proofs.YtdeologdmdimoaaDoor.Rq Go.Proofs.YtdeologdmdimoaaDoor.Rr Go.Proofs.YtdeologdmdimoaaDoor.Sh Go.Proofs.YtdeologdmdimoaaDoor.Gn Go.Proofs.YtdeologdmdimoaaDoor.La Go.Proofs.YtdeologdmdimoaaDoor.Ms Go.Proofs.YtdeologdmdimoaaDoor.Mp Go.Proofs.YtdeologdmdimoaaDoor.Si
open Go.Proofs.YtdeologdmdimoaaDoor.Rg (bel_new)
set_option maxRecDepth 100000 in
set_option maxHeartbeats 3200000 in
theorem walk (v0 : Value) (xs0 : List Int) {w : World} (r0 : RowB w v0 xs0) (v1 : Value) (xs1 : List Int) (r1 : RowB w v1 xs1) (hK : KTab w) (hp : 0 < w.heap.size) :
    Calls Tryd.prog 3 #[v0, v1] w fun e w' => e = .returned (.bool true) ∧ Below w.heap.size w w' := by
  have GK : Hid (KTab w ∧ 0 < w.heap.size) := ⟨hK, hp⟩
  have HR : Hid (RowB w v0 xs0 ∧ RowB w v1 xs1) := ⟨r0, r1⟩
  obtain ⟨a0, cA, rfl, _, _⟩ := r0
  obtain ⟨a1, cB, rfl, _, _⟩ := r1
  clear hK hp
  by_cases hb0 : (1048576 : Int) < (xs0.length : Int)
  · go_enter Tryd.func3, Tryd.ntmps3
    go_wp2
    go_ret
    exact ⟨rfl, Below.refl _ _⟩
  by_cases hb1 : (1048576 : Int) < (xs1.length : Int)
  · go_enter Tryd.func3, Tryd.ntmps3
    go_wp2
    go_ret
    exact ⟨rfl, Below.refl _ _⟩
  have HL : Hid (∀ _ : Unit, xs0.length ≤ 1048576 ∧ xs1.length ≤ 1048576) := fun _ => ⟨by omega, by omega⟩
  go_enter Tryd.func3, Tryd.ntmps3
  go_wp2_with fail
  refine (MessageOf_any _ xs0 w HR.out.1 (HL.out ()).1).mono ?_
  rintro e w1 ⟨kd, vw, sq, fr, dg, bd, mc, rfl, hq, b1⟩
  have HQ : Hid (msgB kd vw sq fr dg bd mc = true) := hq
  have W2 : Below w.heap.size w (w1.alloc (.cells #[.int .i64 kd, .int .i64 vw, .int .i64 sq, .int .i64 fr, .string dg, .string bd, .string mc] 24)) := b1.alloc b1.size _
  have C2 : Hid ((w1.alloc (.cells #[.int .i64 kd, .int .i64 vw, .int .i64 sq, .int .i64 fr, .string dg, .string bd, .string mc] 24)).heap[w1.heap.size]? = some (.cells #[.int .i64 kd, .int .i64 vw, .int .i64 sq, .int .i64 fr, .string dg, .string bd, .string mc] 24 (0, 0))) := blk_new _ _ _
  go_upto_region 4 with fail
  generalize w1.alloc (.cells #[.int .i64 kd, .int .i64 vw, .int .i64 sq, .int .i64 fr, .string dg, .string bd, .string mc] 24) = w2 at W2 C2 ⊢
  generalize w1.heap.size = x at C2 ⊢
  clear b1 hq
  go_wp2_with fail
  refine (atN_any _ xs1 0 4 _ (HR.out.2.below W2) (HL.out ()).2 (by decide) (by decide) (by decide)).mono ?_
  rintro e w3 ⟨rfl, b3⟩
  have hid := atN_lt xs1 0 4 (by decide)
  generalize atN xs1 0 4 = id at hid ⊢
  have W3 := W2.trans (b3.mono W2.size)
  have C3 : Hid (w3.heap[x]? = some (.cells #[.int .i64 kd, .int .i64 vw, .int .i64 sq, .int .i64 fr, .string dg, .string bd, .string mc] 24 (0, 0))) := (b3.block _ (Array.getElem?_eq_some_iff.1 C2.out).1).trans C2.out
  obtain ⟨e1, e2, e3⟩ := sgn_ok HQ.out hid
  obtain ⟨mk, HMK⟩ : ∃ mk, Hid (Si.mmk kd vw sq id dg bd = mk) := ⟨_, rfl⟩
  rw [HMK.out] at e2 e3
  unfold msgV at e2
  have HI : Hid (∀ W, Below w.heap.size w W → Calls Tryd.prog 7 #[.int .i64 (id : Int), .agg #[.int .i64 kd, .int .i64 vw, .int .i64 sq, .int .i64 fr, .string dg, .string bd, .string mc]] W fun e w' => e = .returned (.tuple #[.agg #[.int .i64 kd, .int .i64 vw, .int .i64 sq, .int .i64 (id : Int), .string dg, .string bd, .string mk], .int .i64 0]) ∧ Below W.heap.size W w') := fun W hW => by
    have h := implSignMessage_any (id : Int) kd vw sq fr dg bd mc W (GK.out.1.below hW GK.out.2) (Nat.lt_of_lt_of_le GK.out.2 hW.size)
    rw [e1, e2] at h
    unfold msgV at h
    exact h
  have HS : Hid (∀ W, Calls Tryd.prog 8 #[.int .i64 (id : Int), .agg #[.int .i64 kd, .int .i64 vw, .int .i64 sq, .int .i64 fr, .string dg, .string bd, .string mc]] W fun e w' => e = .returned (.tuple #[.agg #[.int .i64 kd, .int .i64 vw, .int .i64 sq, .int .i64 (id : Int), .string dg, .string bd, .string mk], .int .i64 0]) ∧ Below W.heap.size W w') := fun W => by
    have h := specSignMessage_any (id : Int) kd vw sq fr dg bd mc W
    rw [e1, e2] at h
    unfold msgV at h
    exact h
  have HT : Hid (∀ W, Below w.heap.size w W → Calls Tryd.prog 9 #[.int .i64 4, .agg #[.int .i64 kd, .int .i64 vw, .int .i64 sq, .int .i64 (id : Int), .string dg, .string bd, .string mk]] W fun e w' => e = .returned (.bool true) ∧ Below W.heap.size W w') := fun W hW => by
    have h := implMessageSigned_any 4 kd vw sq (id : Int) dg bd mk W (GK.out.1.below hW GK.out.2) (Nat.lt_of_lt_of_le GK.out.2 hW.size)
    rw [e3] at h
    unfold msgV at h
    exact h
  have HZ : Hid (∀ _ : Unit, -1000 ≤ vw ∧ vw ≤ 1000) := fun _ => by have := HQ.out; rw [msg_split] at this; simp only [Bool.and_eq_true] at this; have h2 : 0 ≤ vw ∧ vw ≤ 20 := of_decide_eq_true this.2.1; omega
  clear b3 W2 C2 e1 e2 e3 HQ HMK
  have c0 := (blk_cell C3.out 0 (x := .int .i64 kd) rfl).1
  have c1 := (blk_cell C3.out 1 (x := .int .i64 vw) rfl).1
  have c2 := (blk_cell C3.out 2 (x := .int .i64 sq) rfl).1
  have c3 := (blk_cell C3.out 3 (x := .int .i64 fr) rfl).1
  have c4 := (blk_cell C3.out 4 (x := .string dg) rfl).1
  have c5 := (blk_cell C3.out 5 (x := .string bd) rfl).1
  have c6 := (blk_cell C3.out 6 (x := .string mc) rfl).1
  go_wp2_with fail
  refine (HI.out _ W3).mono ?_
  rintro e w4 ⟨rfl, b4⟩
  have W4 := W3.trans (b4.mono W3.size)
  have C4 : Hid (w4.heap[x]? = some (.cells #[.int .i64 kd, .int .i64 vw, .int .i64 sq, .int .i64 fr, .string dg, .string bd, .string mc] 24 (0, 0))) := (b4.block _ (Array.getElem?_eq_some_iff.1 C3.out).1).trans C3.out
  have L4 := (Array.getElem?_eq_some_iff.1 C4.out).1
  have W5 : Below w.heap.size w (w4.alloc (.cells #[.int .i64 kd, .int .i64 vw, .int .i64 sq, .int .i64 (id : Int), .string dg, .string bd, .string mk] 24)) := W4.alloc W4.size _
  have C5 : Hid ((w4.alloc (.cells #[.int .i64 kd, .int .i64 vw, .int .i64 sq, .int .i64 (id : Int), .string dg, .string bd, .string mk] 24)).heap[x]? = some (.cells #[.int .i64 kd, .int .i64 vw, .int .i64 sq, .int .i64 fr, .string dg, .string bd, .string mc] 24 (0, 0))) := (Below.heap_alloc _ _ _ L4).trans C4.out
  have D5 : Hid ((w4.alloc (.cells #[.int .i64 kd, .int .i64 vw, .int .i64 sq, .int .i64 (id : Int), .string dg, .string bd, .string mk] 24)).heap[w4.heap.size]? = some (.cells #[.int .i64 kd, .int .i64 vw, .int .i64 sq, .int .i64 (id : Int), .string dg, .string bd, .string mk] 24 (0, 0))) := blk_new _ _ _
  clear b4 W3 C3 HI c0 c1 c2 c3 c4 c5 c6
  go_upto_region 6 with fail
  generalize w4.alloc (.cells #[.int .i64 kd, .int .i64 vw, .int .i64 sq, .int .i64 (id : Int), .string dg, .string bd, .string mk] 24) = w5 at W5 C5 D5 ⊢
  generalize w4.heap.size = y at D5 ⊢
  clear W4 C4 L4
  have c0 := (blk_cell C5.out 0 (x := .int .i64 kd) rfl).1
  have c1 := (blk_cell C5.out 1 (x := .int .i64 vw) rfl).1
  have c2 := (blk_cell C5.out 2 (x := .int .i64 sq) rfl).1
  have c3 := (blk_cell C5.out 3 (x := .int .i64 fr) rfl).1
  have c4 := (blk_cell C5.out 4 (x := .string dg) rfl).1
  have c5 := (blk_cell C5.out 5 (x := .string bd) rfl).1
  have c6 := (blk_cell C5.out 6 (x := .string mc) rfl).1
  go_wp2_with fail
  refine (HS.out _).mono ?_
  rintro e w6 ⟨rfl, b6⟩
  have W6 := W5.trans (b6.mono W5.size)
  have D6 : Hid (w6.heap[y]? = some (.cells #[.int .i64 kd, .int .i64 vw, .int .i64 sq, .int .i64 (id : Int), .string dg, .string bd, .string mk] 24 (0, 0))) := (b6.block _ (Array.getElem?_eq_some_iff.1 D5.out).1).trans D5.out
  have L6 := (Array.getElem?_eq_some_iff.1 D6.out).1
  have W7 : Below w.heap.size w (w6.alloc (.cells #[.int .i64 kd, .int .i64 vw, .int .i64 sq, .int .i64 (id : Int), .string dg, .string bd, .string mk] 24)) := W6.alloc W6.size _
  have D7 : Hid ((w6.alloc (.cells #[.int .i64 kd, .int .i64 vw, .int .i64 sq, .int .i64 (id : Int), .string dg, .string bd, .string mk] 24)).heap[y]? = some (.cells #[.int .i64 kd, .int .i64 vw, .int .i64 sq, .int .i64 (id : Int), .string dg, .string bd, .string mk] 24 (0, 0))) := (Below.heap_alloc _ _ _ L6).trans D6.out
  have E7 : Hid ((w6.alloc (.cells #[.int .i64 kd, .int .i64 vw, .int .i64 sq, .int .i64 (id : Int), .string dg, .string bd, .string mk] 24)).heap[w6.heap.size]? = some (.cells #[.int .i64 kd, .int .i64 vw, .int .i64 sq, .int .i64 (id : Int), .string dg, .string bd, .string mk] 24 (0, 0))) := blk_new _ _ _
  clear b6 W5 C5 D5 HS c0 c1 c2 c3 c4 c5 c6
  go_upto_region 7 with fail
  generalize w6.alloc (.cells #[.int .i64 kd, .int .i64 vw, .int .i64 sq, .int .i64 (id : Int), .string dg, .string bd, .string mk] 24) = w7 at W7 D7 E7 ⊢
  generalize w6.heap.size = z at E7 ⊢
  clear W6 D6 L6
  have c0 := (blk_cell D7.out 0 (x := .int .i64 kd) rfl).1
  have c1 := (blk_cell D7.out 1 (x := .int .i64 vw) rfl).1
  have c2 := (blk_cell D7.out 2 (x := .int .i64 sq) rfl).1
  have c3 := (blk_cell D7.out 3 (x := .int .i64 (id : Int)) rfl).1
  have c4 := (blk_cell D7.out 4 (x := .string dg) rfl).1
  have c5 := (blk_cell D7.out 5 (x := .string bd) rfl).1
  have c6 := (blk_cell D7.out 6 (x := .string mk) rfl).1
  have d0 := (blk_cell E7.out 0 (x := .int .i64 kd) rfl).1
  have d1 := (blk_cell E7.out 1 (x := .int .i64 vw) rfl).1
  have d2 := (blk_cell E7.out 2 (x := .int .i64 sq) rfl).1
  have d3 := (blk_cell E7.out 3 (x := .int .i64 (id : Int)) rfl).1
  have d4 := (blk_cell E7.out 4 (x := .string dg) rfl).1
  have d5 := (blk_cell E7.out 5 (x := .string bd) rfl).1
  have d6 := (blk_cell E7.out 6 (x := .string mk) rfl).1
  have hne := Wb.neqM kd vw sq (id : Int) dg bd mk
  have hgd := Wb.guardM
  have hii : ((id : Int) != (id : Int)) = false := by simp
  go_wp2_with fail
  refine (HT.out _ W7).mono ?_
  rintro e w8 ⟨rfl, b8⟩
  have W8 := W7.trans (b8.mono W7.size)
  have D8 : Hid (w8.heap[y]? = some (.cells #[.int .i64 kd, .int .i64 vw, .int .i64 sq, .int .i64 (id : Int), .string dg, .string bd, .string mk] 24 (0, 0))) := (b8.block _ (Array.getElem?_eq_some_iff.1 D7.out).1).trans D7.out
  have L8 := (Array.getElem?_eq_some_iff.1 D8.out).1
  have X8 := W8.size
  clear b8 W7 D7 E7 HT hne hgd hii c0 c1 c2 c3 c4 c5 c6 d0 d1 d2 d3 d4 d5 d6
  have W9 : Below w.heap.size w (w8.alloc (.cells #[.int .i64 kd, .int .i64 vw, .int .i64 sq, .int .i64 (id : Int), .string dg, .string bd, .string mk] 24)) := W8.alloc W8.size _
  have D9 : Hid ((w8.alloc (.cells #[.int .i64 kd, .int .i64 vw, .int .i64 sq, .int .i64 (id : Int), .string dg, .string bd, .string mk] 24)).heap[y]? = some (.cells #[.int .i64 kd, .int .i64 vw, .int .i64 sq, .int .i64 (id : Int), .string dg, .string bd, .string mk] 24 (0, 0))) := (Below.heap_alloc _ _ _ L8).trans D8.out
  have E9 : Hid ((w8.alloc (.cells #[.int .i64 kd, .int .i64 vw, .int .i64 sq, .int .i64 (id : Int), .string dg, .string bd, .string mk] 24)).heap[w8.heap.size]? = some (.cells #[.int .i64 kd, .int .i64 vw, .int .i64 sq, .int .i64 (id : Int), .string dg, .string bd, .string mk] 24 (0, 0))) := blk_new _ _ _
  have c0 := (blk_cell D8.out 0 (x := .int .i64 kd) rfl).1
  have c1 := (blk_cell D8.out 1 (x := .int .i64 vw) rfl).1
  have c2 := (blk_cell D8.out 2 (x := .int .i64 sq) rfl).1
  have c3 := (blk_cell D8.out 3 (x := .int .i64 (id : Int)) rfl).1
  have c4 := (blk_cell D8.out 4 (x := .string dg) rfl).1
  have c5 := (blk_cell D8.out 5 (x := .string bd) rfl).1
  have c6 := (blk_cell D8.out 6 (x := .string mk) rfl).1
  go_upto_region 10 with fail
  generalize w8.alloc (.cells #[.int .i64 kd, .int .i64 vw, .int .i64 sq, .int .i64 (id : Int), .string dg, .string bd, .string mk] 24) = w9 at W9 D9 E9 ⊢
  have hne0 : y ≠ w8.heap.size := by omega
  have HNE : Hid (y ≠ w8.heap.size) := hne0
  clear hne0
  generalize w8.heap.size = q at E9 X8 HNE ⊢
  clear W8 D8 L8 c0 c1 c2 c3 c4 c5 c6
  go_wp2_with fail
  refine (atN_any _ xs1 1 4 _ (HR.out.2.below W9) (HL.out ()).2 (by decide) (by decide) (by decide)).mono ?_
  rintro e w10 ⟨rfl, b10⟩
  have hj := atN_lt xs1 1 4 (by decide)
  generalize atN xs1 1 4 = j at hj ⊢
  have W10 := W9.trans (b10.mono W9.size)
  have D10 : Hid (w10.heap[y]? = some (.cells #[.int .i64 kd, .int .i64 vw, .int .i64 sq, .int .i64 (id : Int), .string dg, .string bd, .string mk] 24 (0, 0))) := (b10.block _ (Array.getElem?_eq_some_iff.1 D9.out).1).trans D9.out
  have E10 : Hid (w10.heap[q]? = some (.cells #[.int .i64 kd, .int .i64 vw, .int .i64 sq, .int .i64 (id : Int), .string dg, .string bd, .string mk] 24 (0, 0))) := (b10.block _ (Array.getElem?_eq_some_iff.1 E9.out).1).trans E9.out
  clear b10 W9 D9 E9
  rcases (by omega : j = 0 ∨ j = 1 ∨ j = 2 ∨ j = 3) with rfl | rfl | rfl | rfl
  · have hnz : ¬ (4 : Int) = 0 := by decide
    obtain ⟨yc, yf⟩ := blk_cell E10.out 3 (x := .int .i64 (id : Int)) rfl
    have W11 : Below w.heap.size w (w10.setCell ⟨q, 3, none⟩ (.int .i64 (((id : Int) + 1) % 4))) := Below.setCell W10 (p := ⟨q, 3, none⟩) X8 _
    have E11 : Hid ((w10.setCell ⟨q, 3, none⟩ (.int .i64 (((id : Int) + 1) % 4))).heap[q]? = some (.cells #[.int .i64 kd, .int .i64 vw, .int .i64 sq, .int .i64 (((id : Int) + 1) % 4), .string dg, .string bd, .string mk] 24 (0, 0))) := blk_set E10.out 3 _
    go_upto_region 19 with fail
    generalize (w10.setCell ⟨q, 3, none⟩ (.int .i64 (((id : Int) + 1) % 4))) = w11 at W11 E11 ⊢
    clear yc yf D10 E10 W10
    have c0 := (blk_cell E11.out 0 (x := .int .i64 kd) rfl).1
    have c1 := (blk_cell E11.out 1 (x := .int .i64 vw) rfl).1
    have c2 := (blk_cell E11.out 2 (x := .int .i64 sq) rfl).1
    have c3 := (blk_cell E11.out 3 (x := .int .i64 (((id : Int) + 1) % 4)) rfl).1
    have c4 := (blk_cell E11.out 4 (x := .string dg) rfl).1
    have c5 := (blk_cell E11.out 5 (x := .string bd) rfl).1
    have c6 := (blk_cell E11.out 6 (x := .string mk) rfl).1
    obtain ⟨X, hX, W, QI0, QO0⟩ := Qc.klass w11
    have QI : Hid (∀ w', Below w11.heap.size w11 w' → ∃ x, w' = W x) := QI0
    have QO : Hid (∀ x, Below w11.heap.size w11 (W x)) := QO0
    have QK : Hid (∀ x, Below w.heap.size w (W x)) := fun x => W11.trans ((QO0 x).mono W11.size)
    clear QI0 QO0
    have y0 := Qc.cell_all QO.out c0
    have y1 := Qc.cell_all QO.out c1
    have y2 := Qc.cell_all QO.out c2
    have y3 := Qc.cell_all QO.out c3
    have y4 := Qc.cell_all QO.out c4
    have y5 := Qc.cell_all QO.out c5
    have y6 := Qc.cell_all QO.out c6
    have SI : Hid (∀ x, Calls Tryd.prog 9 #[.int .i64 4, .agg #[.int .i64 kd, .int .i64 vw, .int .i64 sq, .int .i64 (((id : Int) + 1) % 4), .string dg, .string bd, .string mk]] (W x) fun e w' => e = .returned (.bool (gB 4 (kd) (vw) (sq) ((((id : Int) + 1) % 4)) (dg) (bd) (mk))) ∧ Below (W x).heap.size (W x) w') := fun x => implMessageSigned_any 4 (kd) (vw) (sq) ((((id : Int) + 1) % 4)) (dg) (bd) (mk) (W x) (GK.out.1.below (QK.out x) GK.out.2) (Nat.lt_of_lt_of_le GK.out.2 (QK.out x).size)
    have SS : Hid (∀ x, Calls Tryd.prog 11 #[.int .i64 4, .agg #[.int .i64 kd, .int .i64 vw, .int .i64 sq, .int .i64 (((id : Int) + 1) % 4), .string dg, .string bd, .string mk]] (W x) fun e w' => e = .returned (.bool (gB 4 (kd) (vw) (sq) ((((id : Int) + 1) % 4)) (dg) (bd) (mk))) ∧ Below (W x).heap.size (W x) w') := fun x => specMessageSigned_any 4 (kd) (vw) (sq) ((((id : Int) + 1) % 4)) (dg) (bd) (mk) (W x)
    generalize gB 4 (kd) (vw) (sq) ((((id : Int) + 1) % 4)) (dg) (bd) (mk) = gb at SI SS
    clear c0 c1 c2 c3 c4 c5 c6
    refine Qc.region_class (W := W) (by kernel_rfl) (by kernel_rfl) (QI.out _ Qc.from_drew) ?_
    repeat (go_big_quiet_step (first | (go_at_call 9; refine (SI.out _).mono ?_; rintro e w2 ⟨rfl, b2⟩; exact ⟨rfl, Qc.back QI.out QO.out b2⟩) | (go_at_call 11; refine (SS.out _).mono ?_; rintro e w2 ⟨rfl, b2⟩; exact ⟨rfl, Qc.back QI.out QO.out b2⟩)))
    refine wpQuiet_nil ?_
    rintro _ ⟨xq, rfl⟩
    have G2 : Below w.heap.size w (W xq) := QK.out xq
    generalize W xq = wq at G2 ⊢
    go_wp2_with fail
    go_ret
    exact ⟨by simp, G2⟩
  · have hv := HZ.out ()
    have d1 := (blk_cell D10.out 1 (x := .int .i64 vw) rfl).1
    obtain ⟨yc, yf⟩ := blk_cell E10.out 1 (x := .int .i64 vw) rfl
    have W11 : Below w.heap.size w (w10.setCell ⟨q, 1, none⟩ (.int .i64 (vw + 1))) := Below.setCell W10 (p := ⟨q, 1, none⟩) X8 _
    have E11 : Hid ((w10.setCell ⟨q, 1, none⟩ (.int .i64 (vw + 1))).heap[q]? = some (.cells #[.int .i64 kd, .int .i64 (vw + 1), .int .i64 sq, .int .i64 (id : Int), .string dg, .string bd, .string mk] 24 (0, 0))) := blk_set E10.out 1 _
    go_upto_region 19 with fail
    generalize (w10.setCell ⟨q, 1, none⟩ (.int .i64 (vw + 1))) = w11 at W11 E11 ⊢
    clear yc yf D10 E10 W10
    clear d1
    have c0 := (blk_cell E11.out 0 (x := .int .i64 kd) rfl).1
    have c1 := (blk_cell E11.out 1 (x := .int .i64 (vw + 1)) rfl).1
    have c2 := (blk_cell E11.out 2 (x := .int .i64 sq) rfl).1
    have c3 := (blk_cell E11.out 3 (x := .int .i64 (id : Int)) rfl).1
    have c4 := (blk_cell E11.out 4 (x := .string dg) rfl).1
    have c5 := (blk_cell E11.out 5 (x := .string bd) rfl).1
    have c6 := (blk_cell E11.out 6 (x := .string mk) rfl).1
    obtain ⟨X, hX, W, QI0, QO0⟩ := Qc.klass w11
    have QI : Hid (∀ w', Below w11.heap.size w11 w' → ∃ x, w' = W x) := QI0
    have QO : Hid (∀ x, Below w11.heap.size w11 (W x)) := QO0
    have QK : Hid (∀ x, Below w.heap.size w (W x)) := fun x => W11.trans ((QO0 x).mono W11.size)
    clear QI0 QO0
    have y0 := Qc.cell_all QO.out c0
    have y1 := Qc.cell_all QO.out c1
    have y2 := Qc.cell_all QO.out c2
    have y3 := Qc.cell_all QO.out c3
    have y4 := Qc.cell_all QO.out c4
    have y5 := Qc.cell_all QO.out c5
    have y6 := Qc.cell_all QO.out c6
    have SI : Hid (∀ x, Calls Tryd.prog 9 #[.int .i64 4, .agg #[.int .i64 kd, .int .i64 (vw + 1), .int .i64 sq, .int .i64 (id : Int), .string dg, .string bd, .string mk]] (W x) fun e w' => e = .returned (.bool (gB 4 (kd) ((vw + 1)) (sq) ((id : Int)) (dg) (bd) (mk))) ∧ Below (W x).heap.size (W x) w') := fun x => implMessageSigned_any 4 (kd) ((vw + 1)) (sq) ((id : Int)) (dg) (bd) (mk) (W x) (GK.out.1.below (QK.out x) GK.out.2) (Nat.lt_of_lt_of_le GK.out.2 (QK.out x).size)
    have SS : Hid (∀ x, Calls Tryd.prog 11 #[.int .i64 4, .agg #[.int .i64 kd, .int .i64 (vw + 1), .int .i64 sq, .int .i64 (id : Int), .string dg, .string bd, .string mk]] (W x) fun e w' => e = .returned (.bool (gB 4 (kd) ((vw + 1)) (sq) ((id : Int)) (dg) (bd) (mk))) ∧ Below (W x).heap.size (W x) w') := fun x => specMessageSigned_any 4 (kd) ((vw + 1)) (sq) ((id : Int)) (dg) (bd) (mk) (W x)
    generalize gB 4 (kd) ((vw + 1)) (sq) ((id : Int)) (dg) (bd) (mk) = gb at SI SS
    clear c0 c1 c2 c3 c4 c5 c6
    refine Qc.region_class (W := W) (by kernel_rfl) (by kernel_rfl) (QI.out _ Qc.from_drew) ?_
    repeat (go_big_quiet_step (first | (go_at_call 9; refine (SI.out _).mono ?_; rintro e w2 ⟨rfl, b2⟩; exact ⟨rfl, Qc.back QI.out QO.out b2⟩) | (go_at_call 11; refine (SS.out _).mono ?_; rintro e w2 ⟨rfl, b2⟩; exact ⟨rfl, Qc.back QI.out QO.out b2⟩)))
    refine wpQuiet_nil ?_
    rintro _ ⟨xq, rfl⟩
    have G2 : Below w.heap.size w (W xq) := QK.out xq
    generalize W xq = wq at G2 ⊢
    go_wp2_with fail
    go_ret
    exact ⟨by simp, G2⟩
  · clear HZ
    obtain ⟨yc, yf⟩ := blk_cell E10.out 6 (x := .string mk) rfl
    have W11 : Below w.heap.size w (w10.setCell ⟨q, 6, none⟩ (.string ⟨#[49, 50, 51, 52, 53, 54, 55, 56]⟩)) := Below.setCell W10 (p := ⟨q, 6, none⟩) X8 _
    have E11 : Hid ((w10.setCell ⟨q, 6, none⟩ (.string ⟨#[49, 50, 51, 52, 53, 54, 55, 56]⟩)).heap[q]? = some (.cells #[.int .i64 kd, .int .i64 vw, .int .i64 sq, .int .i64 (id : Int), .string dg, .string bd, .string ⟨#[49, 50, 51, 52, 53, 54, 55, 56]⟩] 24 (0, 0))) := blk_set E10.out 6 _
    go_upto_region 19 with fail
    generalize (w10.setCell ⟨q, 6, none⟩ (.string ⟨#[49, 50, 51, 52, 53, 54, 55, 56]⟩)) = w11 at W11 E11 ⊢
    clear yc yf D10 E10 W10
    have c0 := (blk_cell E11.out 0 (x := .int .i64 kd) rfl).1
    have c1 := (blk_cell E11.out 1 (x := .int .i64 vw) rfl).1
    have c2 := (blk_cell E11.out 2 (x := .int .i64 sq) rfl).1
    have c3 := (blk_cell E11.out 3 (x := .int .i64 (id : Int)) rfl).1
    have c4 := (blk_cell E11.out 4 (x := .string dg) rfl).1
    have c5 := (blk_cell E11.out 5 (x := .string bd) rfl).1
    have c6 := (blk_cell E11.out 6 (x := .string ⟨#[49, 50, 51, 52, 53, 54, 55, 56]⟩) rfl).1
    obtain ⟨X, hX, W, QI0, QO0⟩ := Qc.klass w11
    have QI : Hid (∀ w', Below w11.heap.size w11 w' → ∃ x, w' = W x) := QI0
    have QO : Hid (∀ x, Below w11.heap.size w11 (W x)) := QO0
    have QK : Hid (∀ x, Below w.heap.size w (W x)) := fun x => W11.trans ((QO0 x).mono W11.size)
    clear QI0 QO0
    have y0 := Qc.cell_all QO.out c0
    have y1 := Qc.cell_all QO.out c1
    have y2 := Qc.cell_all QO.out c2
    have y3 := Qc.cell_all QO.out c3
    have y4 := Qc.cell_all QO.out c4
    have y5 := Qc.cell_all QO.out c5
    have y6 := Qc.cell_all QO.out c6
    have SI : Hid (∀ x, Calls Tryd.prog 9 #[.int .i64 4, .agg #[.int .i64 kd, .int .i64 vw, .int .i64 sq, .int .i64 (id : Int), .string dg, .string bd, .string ⟨#[49, 50, 51, 52, 53, 54, 55, 56]⟩]] (W x) fun e w' => e = .returned (.bool (gB 4 (kd) (vw) (sq) ((id : Int)) (dg) (bd) (⟨#[49, 50, 51, 52, 53, 54, 55, 56]⟩))) ∧ Below (W x).heap.size (W x) w') := fun x => implMessageSigned_any 4 (kd) (vw) (sq) ((id : Int)) (dg) (bd) (⟨#[49, 50, 51, 52, 53, 54, 55, 56]⟩) (W x) (GK.out.1.below (QK.out x) GK.out.2) (Nat.lt_of_lt_of_le GK.out.2 (QK.out x).size)
    have SS : Hid (∀ x, Calls Tryd.prog 11 #[.int .i64 4, .agg #[.int .i64 kd, .int .i64 vw, .int .i64 sq, .int .i64 (id : Int), .string dg, .string bd, .string ⟨#[49, 50, 51, 52, 53, 54, 55, 56]⟩]] (W x) fun e w' => e = .returned (.bool (gB 4 (kd) (vw) (sq) ((id : Int)) (dg) (bd) (⟨#[49, 50, 51, 52, 53, 54, 55, 56]⟩))) ∧ Below (W x).heap.size (W x) w') := fun x => specMessageSigned_any 4 (kd) (vw) (sq) ((id : Int)) (dg) (bd) (⟨#[49, 50, 51, 52, 53, 54, 55, 56]⟩) (W x)
    generalize gB 4 (kd) (vw) (sq) ((id : Int)) (dg) (bd) (⟨#[49, 50, 51, 52, 53, 54, 55, 56]⟩) = gb at SI SS
    clear c0 c1 c2 c3 c4 c5 c6
    refine Qc.region_class (W := W) (by kernel_rfl) (by kernel_rfl) (QI.out _ Qc.from_drew) ?_
    repeat (go_big_quiet_step (first | (go_at_call 9; refine (SI.out _).mono ?_; rintro e w2 ⟨rfl, b2⟩; exact ⟨rfl, Qc.back QI.out QO.out b2⟩) | (go_at_call 11; refine (SS.out _).mono ?_; rintro e w2 ⟨rfl, b2⟩; exact ⟨rfl, Qc.back QI.out QO.out b2⟩)))
    refine wpQuiet_nil ?_
    rintro _ ⟨xq, rfl⟩
    have G2 : Below w.heap.size w (W xq) := QK.out xq
    generalize W xq = wq at G2 ⊢
    go_wp2_with fail
    go_ret
    exact ⟨by simp, G2⟩
  · have hln := (HL.out ()).2
    have hmin : ∃ m : Nat, Hid (m = min xs1.length 100) := ⟨_, rfl⟩
    obtain ⟨m, HM⟩ := hmin
    have hm1 : m ≤ xs1.length := by rw [HM.out]; omega
    have hr1 := HR.out.2.below W10
    have hru := row_take (RowU.of hr1) hm1
    have hrm := hru.row (Nat.le_refl _)
    have HH := implHash_any _ _ w10 hrm (GK.out.1.below W10 GK.out.2) (Nat.lt_of_lt_of_le GK.out.2 W10.size)
    have hcb : xs1.length ≤ cB := by
      obtain ⟨_, _, he, hcp, _, _⟩ := RowU.of hr1
      simp at he
      omega
    have hmn : min (xs1.length : Int) 100 = (m : Int) := by rw [HM.out]; omega
    have hm0 : (0 : Int) ≤ (m : Int) := by omega
    have hm2 : (m : Int) ≤ (cB : Int) := by omega
    generalize Sh.hashS (xs1.take m) = hh at HH
    clear hru hrm hr1
    go_wp2_with fail
    refine HH.mono ?_
    rintro e w12 ⟨rfl, b12⟩
    have W12 := W10.trans (b12.mono W10.size)
    have E12 : Hid (w12.heap[q]? = some (.cells #[.int .i64 kd, .int .i64 vw, .int .i64 sq, .int .i64 (id : Int), .string dg, .string bd, .string mk] 24 (0, 0))) := (b12.block _ (Array.getElem?_eq_some_iff.1 E10.out).1).trans E10.out
    clear b12
    obtain ⟨yc, yf⟩ := blk_cell E12.out 4 (x := .string dg) rfl
    have W11 : Below w.heap.size w (w12.setCell ⟨q, 4, none⟩ (.string hh)) := Below.setCell W12 (p := ⟨q, 4, none⟩) X8 _
    have E11 : Hid ((w12.setCell ⟨q, 4, none⟩ (.string hh)).heap[q]? = some (.cells #[.int .i64 kd, .int .i64 vw, .int .i64 sq, .int .i64 (id : Int), .string hh, .string bd, .string mk] 24 (0, 0))) := blk_set E12.out 4 _
    go_upto_region 19 with fail
    generalize (w12.setCell ⟨q, 4, none⟩ (.string hh)) = w11 at W11 E11 ⊢
    clear yc yf D10 E10 W10
    clear W12 E12
    have c0 := (blk_cell E11.out 0 (x := .int .i64 kd) rfl).1
    have c1 := (blk_cell E11.out 1 (x := .int .i64 vw) rfl).1
    have c2 := (blk_cell E11.out 2 (x := .int .i64 sq) rfl).1
    have c3 := (blk_cell E11.out 3 (x := .int .i64 (id : Int)) rfl).1
    have c4 := (blk_cell E11.out 4 (x := .string hh) rfl).1
    have c5 := (blk_cell E11.out 5 (x := .string bd) rfl).1
    have c6 := (blk_cell E11.out 6 (x := .string mk) rfl).1
    obtain ⟨X, hX, W, QI0, QO0⟩ := Qc.klass w11
    have QI : Hid (∀ w', Below w11.heap.size w11 w' → ∃ x, w' = W x) := QI0
    have QO : Hid (∀ x, Below w11.heap.size w11 (W x)) := QO0
    have QK : Hid (∀ x, Below w.heap.size w (W x)) := fun x => W11.trans ((QO0 x).mono W11.size)
    clear QI0 QO0
    have y0 := Qc.cell_all QO.out c0
    have y1 := Qc.cell_all QO.out c1
    have y2 := Qc.cell_all QO.out c2
    have y3 := Qc.cell_all QO.out c3
    have y4 := Qc.cell_all QO.out c4
    have y5 := Qc.cell_all QO.out c5
    have y6 := Qc.cell_all QO.out c6
    have SI : Hid (∀ x, Calls Tryd.prog 9 #[.int .i64 4, .agg #[.int .i64 kd, .int .i64 vw, .int .i64 sq, .int .i64 (id : Int), .string hh, .string bd, .string mk]] (W x) fun e w' => e = .returned (.bool (gB 4 (kd) (vw) (sq) ((id : Int)) (hh) (bd) (mk))) ∧ Below (W x).heap.size (W x) w') := fun x => implMessageSigned_any 4 (kd) (vw) (sq) ((id : Int)) (hh) (bd) (mk) (W x) (GK.out.1.below (QK.out x) GK.out.2) (Nat.lt_of_lt_of_le GK.out.2 (QK.out x).size)
    have SS : Hid (∀ x, Calls Tryd.prog 11 #[.int .i64 4, .agg #[.int .i64 kd, .int .i64 vw, .int .i64 sq, .int .i64 (id : Int), .string hh, .string bd, .string mk]] (W x) fun e w' => e = .returned (.bool (gB 4 (kd) (vw) (sq) ((id : Int)) (hh) (bd) (mk))) ∧ Below (W x).heap.size (W x) w') := fun x => specMessageSigned_any 4 (kd) (vw) (sq) ((id : Int)) (hh) (bd) (mk) (W x)
    generalize gB 4 (kd) (vw) (sq) ((id : Int)) (hh) (bd) (mk) = gb at SI SS
    clear c0 c1 c2 c3 c4 c5 c6
    refine Qc.region_class (W := W) (by kernel_rfl) (by kernel_rfl) (QI.out _ Qc.from_drew) ?_
    repeat (go_big_quiet_step (first | (go_at_call 9; refine (SI.out _).mono ?_; rintro e w2 ⟨rfl, b2⟩; exact ⟨rfl, Qc.back QI.out QO.out b2⟩) | (go_at_call 11; refine (SS.out _).mono ?_; rintro e w2 ⟨rfl, b2⟩; exact ⟨rfl, Qc.back QI.out QO.out b2⟩)))
    refine wpQuiet_nil ?_
    rintro _ ⟨xq, rfl⟩
    have G2 : Below w.heap.size w (W xq) := QK.out xq
    generalize W xq = wq at G2 ⊢
    go_wp2_with fail
    go_ret
    exact ⟨by simp, G2⟩

set_option maxRecDepth 100000 in
theorem lifted (os : Os) (started : os.Started) (H : Type) (enc : TypeId × Value → H) :
    ReturnsInHanded {} Tryd.checked os 3 .any (fun w args => (Rows.fnSignedSpec.pre enc Tryd.prog Tryd.f3 [] false w args ∧ laidMetH Tryd.prog Rows.fnSignedRow.laid w) ∧ sizedMet enc Tryd.prog Tryd.f3 (OpenSpec.ofChange Rows.fnSignedSpec) false w args)
      (Rows.fnSignedSpec.post enc Tryd.prog Tryd.f3 false true false false) := by
  refine returnsInHanded_of_change_and (C := Tryd.checked) (X := fun w _ => laidMetH Tryd.prog Rows.fnSignedRow.laid w) (fun _ _ _ hh h => h.of_heap hh) own started (by kernel_rfl) Tryd.func3
    (ChangeSpec.witness_shaped (enc := enc) (C := Tryd.checked) (os := os) (X := fun w _ => laidMetH Tryd.prog Rows.fnSignedRow.laid w) false (World.doorLaid Tryd.prog 400 os) #[.slice none 0 0, .slice none 0 0] 8 rfl (World.shaped_of_RefB (by kernel_rfl) (by kernel_rfl)) (by kernel_rfl) (by kernel_rfl) (by kernel_rfl) (door_met os _)) ?_
  intro W base args ds gs before hval0 hW _ _ hL _
  have hval : ∀ (j : Nat) t v, Tryd.f3.params[j]? = some t → args[j]? = some v → Value.okWide Tryd.prog W .any base t v := hval0
  have hW' := hW
  obtain ⟨p, q, hA0, hV0, rfl, hfz, hnd⟩ := hW
  have hA : DataW.TrodAll enc Tryd.prog W 0 (fun _ => true) true Tryd.f3.params.toList args.toList ds p := hA0
  have hV : DataW.TrodVars enc Tryd.prog W (fun _ => true) ["loop.example/g00292/impl.roundWords"] gs q := hV0
  rw [Tryd.params3] at hA hval
  obtain ⟨v0, vs0, d0, ds0, p0, q0, hargs, rfl, rfl, h0, r0⟩ := trodAll_cons hA
  obtain ⟨v1, vs1, d1, ds1, p1, q1, rfl, rfl, rfl, h1, r1⟩ := trodAll_cons r0
  obtain ⟨rfl, rfl, rfl⟩ := trodAll_nil r1
  obtain rfl : args = #[v0, v1] := by cases args; simp_all
  obtain ⟨_, _, _, _, dv, _, rfl, _⟩ := trodVars_one hV
  have k00 := h0
  have lt0 : ∀ x ∈ p0, x.block < W.heap.size := by obtain ⟨m, hm⟩ := k00; exact DataW.trod_lt m _ _ _ hm
  obtain ⟨xs0, w0⟩ := Op.open_bytes (hval 0 22 v0 rfl rfl) h0 (fun _ => rfl)
  have k10 := h1
  have lt1 : ∀ x ∈ p1, x.block < W.heap.size := by obtain ⟨m, hm⟩ := k10; exact DataW.trod_lt m _ _ _ hm
  obtain ⟨xs1, w1⟩ := Op.open_bytes (hval 1 22 v1 rfl rfl) h1 (fun _ => rfl)
  clear hA0 hval0 hV0
  have hT := Hl.tab_of hL
  refine (walk v0 xs0 w0 v1 xs1 w1 hT.1 hT.2).mono fun e W' ⟨he, bel⟩ => ?_
  subst he
  exact ⟨_, rfl, _, _, _, [], _, q, hW', trodAll_mk1 (shut_bool Tryd.underlying4 _), (trodAll_cons_mk (Below.trod laidOut (by kernel_rfl) (of_decide_eq_true (by kernel_rfl)) k00 bel lt0) (trodAll_cons_mk (Below.trod laidOut (by kernel_rfl) (of_decide_eq_true (by kernel_rfl)) k10 bel lt1) trodAll_mk0)), Below.trodVars laidOut bel rowed hV, bel.frame _, fun h => by cases h⟩

theorem said : Rows.FnSignedSaid :=
  OpenClaim.holds_of_wide 3 Tryd.f3 rfl rfl rfl rfl rfl rfl rfl ⟨rfl, rfl, rfl, rfl, rfl⟩ rfl rfl rfl rfl rfl (by kernel_rfl) Tryd.func3 (by kernel_rfl)
    (of_decide_eq_true (by kernel_rfl)) (by unfold Func.isWrapper; first | (rw [if_pos (by decide +kernel)]; kernel_rfl) | (rw [if_neg (by decide +kernel)]; exact ⟨rfl, rfl⟩))
    (fun os started H enc _ => lifted os started H enc)

/-- No parameter wants a stand-in; the program's own looks are off. -/
theorem plain (f : FuncId) (fn : Func) (hf : Tryd.pinned.checked.prog.funcNamed "loop.example/g00292/laws.FnSigned" = some f) (hfn : Tryd.pinned.checked.prog.funcs[f]? = some fn) :
    false = Tryd.pinned.checked.prog.looks [] ∧ ∀ (j : Nat) t, fn.params[j]? = some t → Tryd.pinned.checked.prog.wantsStandIn t = false := by
  obtain rfl : f = 3 := Option.some.inj ((show Tryd.prog.funcNamed "loop.example/g00292/laws.FnSigned" = some 3 by kernel_rfl).symm.trans hf) |>.symm
  obtain rfl : fn = Tryd.f3 := (Option.some.inj (Tryd.func3.symm.trans hfn)).symm
  refine ⟨by kernel_rfl, fun j t ht => ?_⟩
  rw [Tryd.params3] at ht
  have hm := Array.mem_of_getElem? ht
  have hl : t ∈ [22, 22] := by simpa using hm
  have hall : ∀ x ∈ [22, 22], Tryd.prog.wantsStandIn x = false := by
    intro x hx
    simp only [List.mem_cons, List.not_mem_nil, or_false] at hx
    rcases hx with rfl | rfl <;> kernel_rfl
  exact hall t hl
end Go.Proofs.YtdeologdmdimoaaDoor.fnSigned
namespace Go.Proofs.YtdeologdmdimoaaDoor
/-- THE STATEMENT: the card. -/
theorem fnSigned_holds : Rows.FnSignedCardSaid :=
  Claim7.holds_tied_plain_at .later [] _ _ _ _ fnSigned.said (fun _ h => by cases h) (by kernel_rfl) (fun _ h => by cases h) fnSigned_row_tie rfl ⟨rfl, rfl⟩ (by kernel_rfl) rfl fnSigned.plain (by kernel_rfl)
end Go.Proofs.YtdeologdmdimoaaDoor
