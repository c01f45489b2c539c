/-
  A drawn request and a drawn batch are read back from their bytes, and any bytes that are read as a batch are just those of what was read.
  Conditions: none beyond the given row's own.
-/
import Derived.Test.YtdeologdmdimoaaOpb
import Derived.Test.YtdeologdmdimoaaGb
import Derived.Test.YtdeologdmdimoaaGw
import Derived.Test.YtdeologdmdimoaaJFnRequests2
import Derived.Test.YtdeologdmdimoaaJFnRequests3
import Derived.WalkKit
import Derived.ProofKit
import Derived.OpenShut
import Derived.ShutString
import Derived.ChangeOld
import Derived.Below
namespace Go.Proofs.Ytdeologdmdimoaa.fnRequests
open Go.ChangeShapes Go.WideShapes Go.ChangeAt Go.RowKit
open Go.ChangeMaps (open_string shut_string)

theorem own : ownKnob Try.prog.godebug = none := by kernel_rfl
theorem laidOut : laidOutB Try.prog = true := by kernel_rfl

open Go.Proofs.Ytdeologdmdimoaa.Rq Go.Proofs.Ytdeologdmdimoaa.Rr Go.Proofs.Ytdeologdmdimoaa.Ap Go.Proofs.Ytdeologdmdimoaa.By Go.Proofs.Ytdeologdmdimoaa.Sl Go.Proofs.Ytdeologdmdimoaa.Tx Go.Proofs.Ytdeologdmdimoaa.Gn Go.Proofs.Ytdeologdmdimoaa.Pu Go.Proofs.Ytdeologdmdimoaa.Rp Go.Proofs.Ytdeologdmdimoaa.Mp Go.Proofs.Ytdeologdmdimoaa.Ms Go.Proofs.Ytdeologdmdimoaa.Of Go.Proofs.Ytdeologdmdimoaa.Om Go.Proofs.Ytdeologdmdimoaa.Gr Go.Proofs.Ytdeologdmdimoaa.Bo Go.Proofs.Ytdeologdmdimoaa.Bt Go.Proofs.Ytdeologdmdimoaa.Tkb Go.Proofs.Ytdeologdmdimoaa.Wb
open Go.Proofs.Ytdeologdmdimoaa.Rg (RowG RowG.slice bel_new)
set_option maxRecDepth 100000 in
set_option maxHeartbeats 3200000 in
theorem walk (v : Value) (xs : List Int) (w : World) (hrow : RowB w v xs) (u : Value) (ys : List Int) (_w : World) (grow : RowB w u ys) :
    Calls Try.prog 5 #[v, u] w fun e w' => e = .returned (.bool true) ∧ Below w.heap.size w w' := by
  have HR : Hid (RowB w v xs) := hrow
  have HG : Hid (RowB w u ys) := grow
  obtain ⟨a, cap, rfl, _, _⟩ := hrow
  obtain ⟨a', cap', rfl, _, gr⟩ := grow
  by_cases hbig : (1048576 : Int) < (xs.length : Int)
  · go_enter Try.func5, Try.ntmps5
    go_wp2
    go_ret
    exact ⟨rfl, Below.refl _ _⟩
  by_cases hbig2 : (1048576 : Int) < (ys.length : Int)
  · go_enter Try.func5, Try.ntmps5
    go_wp2
    go_ret
    exact ⟨rfl, Below.refl _ _⟩
  have HL : Hid (∀ _ : Unit, xs.length ≤ 1048576 ∧ ys.length ≤ 1048576) := fun _ => ⟨by omega, by omega⟩
  have GR : Hid (∀ z ∈ ys, 0 ≤ z ∧ z ≤ 255) := gr
  clear gr
  go_enter Try.func5, Try.ntmps5
  go_wp2_with fail
  refine (RequestOf_any _ xs _ HR.out (HL.out ()).1).mono ?_
  rintro e w1 ⟨c, st, k, l, n, rfl, hq, b1⟩
  obtain ⟨_, _, _, _, pn⟩ := req_parts hq
  have HQ : Hid (reqB c st k l n = true) := hq
  have HNS : Hid (n.size ≤ maxLen) := by show _ ≤ _; unfold maxLen; omega
  have HRB : Hid (readReq (reqBs c st k l n) = .tuple #[.agg #[.int .i64 c, .int .i64 st, .int .i64 k, .int .i64 l, .string n], .int .i64 0]) := readReq_back hq
  have HO : Hid (reqOut c st k l n = reqBs c st k l n ∧ reqCode c st k l n = 0) := by unfold reqOut reqCode; rw [hq]; exact ⟨rfl, rfl⟩
  have HLN : Hid ((reqBs c st k l n).length ≤ 1048576) := by show _ ≤ _; rw [reqBs_length]; omega
  have B1 : Below w.heap.size w w1 := b1
  clear b1 hq pn
  have HI : Hid (∀ W, Calls Try.prog 18 #[.agg #[.int .i64 c, .int .i64 st, .int .i64 k, .int .i64 l, .string n]] W fun e w' => ∃ v', e = .returned (.tuple #[v', .int .i64 0]) ∧ OwnB 5 w' W.heap.size v' (reqBs c st k l n) ∧ Below W.heap.size W w') := fun W => by
    have h := implRequestBytes_any c st k l n W HNS.out
    rw [HO.out.1, HO.out.2] at h
    exact h
  have HS : Hid (∀ W, Calls Try.prog 19 #[.agg #[.int .i64 c, .int .i64 st, .int .i64 k, .int .i64 l, .string n]] W fun e w' => ∃ v', e = .returned (.tuple #[v', .int .i64 0]) ∧ OwnB 5 w' W.heap.size v' (reqBs c st k l n) ∧ Below W.heap.size W w') := fun W => by
    have h := specRequestBytes_any c st k l n W HNS.out
    rw [HO.out.1, HO.out.2] at h
    exact h
  have HK : Hid (∀ W, Calls Try.prog 21 #[.agg #[.int .i64 c, .int .i64 st, .int .i64 k, .int .i64 l, .string n]] W fun e w' => e = .returned (.bool true) ∧ Below W.heap.size W w') := fun W => by
    have h := implRequestOK_any c st k l n W HNS.out
    rw [HQ.out] at h
    exact h
  have HRR : Hid (∀ W v, RowB W v (reqBs c st k l n) → Calls Try.prog 20 #[v] W fun e w' => e = .returned (.tuple #[.agg #[.int .i64 c, .int .i64 st, .int .i64 k, .int .i64 l, .string n], .int .i64 0]) ∧ Below W.heap.size W w') := fun W v hv => by
    have h := implReadRequest_any v _ W hv HLN.out
    rw [HRB.out] at h
    exact h
  have HRG : Hid (∀ z ∈ reqBs c st k l n, 0 ≤ z ∧ z ≤ 255) := reqBs_range c st k l n
  clear HO HLN HRB HQ HNS
  generalize reqBs c st k l n = bs at HI HS HRR HRG
  have W1 : Below w.heap.size w (w1.alloc (.cells #[.int .i64 c, .int .i64 st, .int .i64 k, .int .i64 l, .string n] 44)) := B1.alloc B1.size _
  have C1 : Hid ((w1.alloc (.cells #[.int .i64 c, .int .i64 st, .int .i64 k, .int .i64 l, .string n] 44)).heap[w1.heap.size]? = some (.cells #[.int .i64 c, .int .i64 st, .int .i64 k, .int .i64 l, .string n] 44 (0, 0))) := blk_new _ _ _
  have X1 := B1.size
  go_upto_region 4 with fail
  generalize w1.alloc (.cells #[.int .i64 c, .int .i64 st, .int .i64 k, .int .i64 l, .string n] 44) = w2 at W1 C1 ⊢
  generalize w1.heap.size = x at C1 X1 ⊢
  clear B1
  have c0 := (blk_cell C1.out 0 (x := .int .i64 c) rfl).1
  have c1 := (blk_cell C1.out 1 (x := .int .i64 st) rfl).1
  have c2 := (blk_cell C1.out 2 (x := .int .i64 k) rfl).1
  have c3 := (blk_cell C1.out 3 (x := .int .i64 l) rfl).1
  have c4 := (blk_cell C1.out 4 (x := .string n) rfl).1
  go_wp2_with fail
  refine (HI.out _).mono ?_
  rintro e w3 ⟨v3, rfl, o3, b3⟩
  have W3 := andThen W1 (Nat.le_refl _) b3
  have C3 : Hid (w3.heap[x]? = some (.cells #[.int .i64 c, .int .i64 st, .int .i64 k, .int .i64 l, .string n] 44 (0, 0))) := (b3.block _ (Array.getElem?_eq_some_iff.1 C1.out).1).trans C1.out
  have R3 : Hid (RowB w3 v3 bs) := own_rowB o3 HRG.out
  clear o3 b3 W1 C1 HI c0 c1 c2 c3 c4
  have c0 := (blk_cell C3.out 0 (x := .int .i64 c) rfl).1
  have c1 := (blk_cell C3.out 1 (x := .int .i64 st) rfl).1
  have c2 := (blk_cell C3.out 2 (x := .int .i64 k) rfl).1
  have c3 := (blk_cell C3.out 3 (x := .int .i64 l) rfl).1
  have c4 := (blk_cell C3.out 4 (x := .string n) rfl).1
  go_wp2_with fail
  refine (HS.out _).mono ?_
  rintro e w4 ⟨v4, rfl, o4, b4⟩
  have W4 := andThen W3 (Nat.le_refl _) b4
  have C4 : Hid (w4.heap[x]? = some (.cells #[.int .i64 c, .int .i64 st, .int .i64 k, .int .i64 l, .string n] 44 (0, 0))) := (b4.block _ (Array.getElem?_eq_some_iff.1 C3.out).1).trans C3.out
  have R4 : Hid (RowB w4 v3 bs) := R3.out.below b4
  have Q4 : Hid (RowB w4 v4 bs) := own_rowB o4 HRG.out
  clear o4 b4 W3 C3 R3 HS c0 c1 c2 c3 c4
  go_wp2_with fail
  refine (HRR.out _ _ R4.out).mono ?_
  rintro e w5 ⟨rfl, b5⟩
  have W5 := andThen W4 (Nat.le_refl _) b5
  have L5 := (Array.getElem?_eq_some_iff.1 C4.out).1
  have C5 : Hid (w5.heap[x]? = some (.cells #[.int .i64 c, .int .i64 st, .int .i64 k, .int .i64 l, .string n] 44 (0, 0))) := (b5.block _ L5).trans C4.out
  have R5 : Hid (RowB w5 v3 bs) := R4.out.below b5
  have Q5 : Hid (RowB w5 v4 bs) := Q4.out.below b5
  clear b5 W4 C4 R4 Q4 HRR L5
  have L6 := (Array.getElem?_eq_some_iff.1 C5.out).1
  have W6 : Below w.heap.size w (w5.alloc (.cells #[.int .i64 c, .int .i64 st, .int .i64 k, .int .i64 l, .string n] 44)) := W5.alloc W5.size _
  have C6 : Hid ((w5.alloc (.cells #[.int .i64 c, .int .i64 st, .int .i64 k, .int .i64 l, .string n] 44)).heap[x]? = some (.cells #[.int .i64 c, .int .i64 st, .int .i64 k, .int .i64 l, .string n] 44 (0, 0))) := (Below.heap_alloc _ _ _ L6).trans C5.out
  have D6 : Hid ((w5.alloc (.cells #[.int .i64 c, .int .i64 st, .int .i64 k, .int .i64 l, .string n] 44)).heap[w5.heap.size]? = some (.cells #[.int .i64 c, .int .i64 st, .int .i64 k, .int .i64 l, .string n] 44 (0, 0))) := blk_new _ _ _
  have R6 : Hid (RowB (w5.alloc (.cells #[.int .i64 c, .int .i64 st, .int .i64 k, .int .i64 l, .string n] 44)) v3 bs) := R5.out.below (bel_new _ _)
  have Q6 : Hid (RowB (w5.alloc (.cells #[.int .i64 c, .int .i64 st, .int .i64 k, .int .i64 l, .string n] 44)) v4 bs) := Q5.out.below (bel_new _ _)
  go_upto_region 7 with fail
  generalize w5.alloc (.cells #[.int .i64 c, .int .i64 st, .int .i64 k, .int .i64 l, .string n] 44) = w6 at W6 C6 D6 R6 Q6 ⊢
  generalize w5.heap.size = y at D6 ⊢
  clear W5 C5 R5 Q5 L6
  have hc3 := run_convert_row (P := Try.prog) w6 w6.heap.size 33 5 9 Try.underlying33 Try.underlying5 Try.underlying9 v3 bs (RowU.of R6.out)
  have hc4 := run_convert_row (P := Try.prog) w6 w6.heap.size 33 5 9 Try.underlying33 Try.underlying5 Try.underlying9 v4 bs (RowU.of Q6.out)
  generalize strOfNums bs = sb at hc3 hc4
  have hsb : (sb.toList != sb.toList) = false := by simp
  have c0 := (blk_cell C6.out 0 (x := .int .i64 c) rfl).1
  have c1 := (blk_cell C6.out 1 (x := .int .i64 st) rfl).1
  have c2 := (blk_cell C6.out 2 (x := .int .i64 k) rfl).1
  have c3 := (blk_cell C6.out 3 (x := .int .i64 l) rfl).1
  have c4 := (blk_cell C6.out 4 (x := .string n) rfl).1
  have d0 := (blk_cell D6.out 0 (x := .int .i64 c) rfl).1
  have d1 := (blk_cell D6.out 1 (x := .int .i64 st) rfl).1
  have d2 := (blk_cell D6.out 2 (x := .int .i64 k) rfl).1
  have d3 := (blk_cell D6.out 3 (x := .int .i64 l) rfl).1
  have d4 := (blk_cell D6.out 4 (x := .string n) rfl).1
  have hne := neqQ c st k l n
  have hgd := guardQ
  go_wp2_with fail
  refine (HK.out _).mono ?_
  rintro e w7 ⟨rfl, b7⟩
  have W7 := andThen W6 (Nat.le_refl _) b7
  clear b7 W6 C6 D6 R6 Q6 hc3 hc4 hsb c0 c1 c2 c3 c4 d0 d1 d2 d3 d4 hne hgd HK HRG
  go_wp2_with fail
  refine (BatchOf_any _ ys _ (HG.out.below W7) (HL.out ()).2).mono ?_
  rintro e w8 ⟨nl, bc, bst, bk, bl, bn, bv, rs, rfl, hbo, hbz, o8, b8⟩
  have W8 := andThen W7 (Nat.le_refl _) b8
  obtain ⟨u1, u2, u3⟩ := bat_use hbo hbz
  obtain ⟨t1, t2, t3⟩ := bat_back hbo hbz
  have HRS : Hid (rs.length ≤ 1048576 ∧ bn.size ≤ maxLen) := ⟨by omega, by unfold maxLen; omega⟩
  have HBO : Hid (batOut nl bc bst bk bl bn rs = batBs nl bc bst bk bl bn rs ∧ batCode nl bc bst bk bl bn rs = 0) := by unfold batOut batCode; rw [hbo]; exact ⟨rfl, rfl⟩
  have HBR : Hid (∀ z ∈ batBs nl bc bst bk bl bn rs, 0 ≤ z ∧ z ≤ 255) := batBs_range nl bc bst bk bl bn rs
  have HI : Hid (∀ W v, Row W v rs → Calls Try.prog 23 #[batV nl bc bst bk bl bn v] W fun e w' => ∃ v', e = .returned (.tuple #[v', .int .i64 0]) ∧ OwnB 5 w' W.heap.size v' (batBs nl bc bst bk bl bn rs) ∧ Below W.heap.size W w') := fun W v hv => by
    have h := implBatchBytes_any nl bc bst bk bl bn v rs W hv HRS.out.1 HRS.out.2
    rw [HBO.out.1, HBO.out.2] at h
    exact h
  have HS : Hid (∀ W v, Row W v rs → Calls Try.prog 24 #[batV nl bc bst bk bl bn v] W fun e w' => ∃ v', e = .returned (.tuple #[v', .int .i64 0]) ∧ OwnB 5 w' W.heap.size v' (batBs nl bc bst bk bl bn rs) ∧ Below W.heap.size W w') := fun W v hv => by
    have h := specBatchBytes_any nl bc bst bk bl bn v rs W hv HRS.out.1 HRS.out.2
    rw [HBO.out.1, HBO.out.2] at h
    exact h
  have HRR : Hid (∀ W v, RowB W v (batBs nl bc bst bk bl bn rs) → Calls Try.prog 25 #[v] W fun e w' => ∃ u, e = .returned (.tuple #[batV nl bc bst bk bl bn u, .int .i64 0]) ∧ OwnR w' W.heap.size u rs ∧ Below W.heap.size W w') := fun W v hv => by
    have h := implReadBatch_any v _ W hv (by omega)
    rw [t1, t2] at h
    exact h
  have R8 : Hid (Row w8 bv rs) := OwnR.row o8
  obtain ⟨ap, cp, rfl⟩ := RowG.slice (OwnR.row o8)
  clear b8 W7 hbo hbz o8 u1 u2 u3 t1 t2 t3 HBO
  generalize batBs nl bc bst bk bl bn rs = ds at HI HS HRR HBR
  have W9 : Below w.heap.size w (w8.alloc (.cells #[.bool nl, .int .i64 bc, .int .i64 bst, .int .i64 bk, .int .i64 bl, .string bn, .slice ap rs.length cp] 52)) := W8.alloc W8.size _
  have C9 : Hid ((w8.alloc (.cells #[.bool nl, .int .i64 bc, .int .i64 bst, .int .i64 bk, .int .i64 bl, .string bn, .slice ap rs.length cp] 52)).heap[w8.heap.size]? = some (.cells #[.bool nl, .int .i64 bc, .int .i64 bst, .int .i64 bk, .int .i64 bl, .string bn, .slice ap rs.length cp] 52 (0, 0))) := blk_new _ _ _
  have R9 : Hid (Row (w8.alloc (.cells #[.bool nl, .int .i64 bc, .int .i64 bst, .int .i64 bk, .int .i64 bl, .string bn, .slice ap rs.length cp] 52)) (.slice ap rs.length cp) rs) := R8.out.below (bel_new _ _)
  go_upto_region 10 with fail
  generalize w8.alloc (.cells #[.bool nl, .int .i64 bc, .int .i64 bst, .int .i64 bk, .int .i64 bl, .string bn, .slice ap rs.length cp] 52) = w9 at W9 C9 R9 ⊢
  generalize w8.heap.size = z at C9 ⊢
  clear W8 R8
  have c0 := (blk_cell C9.out 0 (x := .bool nl) rfl).1
  have c1 := (blk_cell C9.out 1 (x := .int .i64 bc) rfl).1
  have c2 := (blk_cell C9.out 2 (x := .int .i64 bst) rfl).1
  have c3 := (blk_cell C9.out 3 (x := .int .i64 bk) rfl).1
  have c4 := (blk_cell C9.out 4 (x := .int .i64 bl) rfl).1
  have c5 := (blk_cell C9.out 5 (x := .string bn) rfl).1
  have c6 := (blk_cell C9.out 6 (x := .slice ap rs.length cp) rfl).1
  unfold batV at HI HS HRR
  go_wp2_with fail
  refine (HI.out _ _ R9.out).mono ?_
  rintro e w10 ⟨v10, rfl, o10, b10⟩
  have W10 := andThen W9 (Nat.le_refl _) b10
  have C10 : Hid (w10.heap[z]? = some (.cells #[.bool nl, .int .i64 bc, .int .i64 bst, .int .i64 bk, .int .i64 bl, .string bn, .slice ap rs.length cp] 52 (0, 0))) := (b10.block _ (Array.getElem?_eq_some_iff.1 C9.out).1).trans C9.out
  have R10 : Hid (Row w10 (.slice ap rs.length cp) rs) := R9.out.below b10
  have P10 : Hid (RowB w10 v10 ds) := own_rowB o10 HBR.out
  clear o10 b10 W9 C9 R9 HI c0 c1 c2 c3 c4 c5 c6
  have c0 := (blk_cell C10.out 0 (x := .bool nl) rfl).1
  have c1 := (blk_cell C10.out 1 (x := .int .i64 bc) rfl).1
  have c2 := (blk_cell C10.out 2 (x := .int .i64 bst) rfl).1
  have c3 := (blk_cell C10.out 3 (x := .int .i64 bk) rfl).1
  have c4 := (blk_cell C10.out 4 (x := .int .i64 bl) rfl).1
  have c5 := (blk_cell C10.out 5 (x := .string bn) rfl).1
  have c6 := (blk_cell C10.out 6 (x := .slice ap rs.length cp) rfl).1
  go_wp2_with fail
  refine (HS.out _ _ R10.out).mono ?_
  rintro e w11 ⟨v11, rfl, o11, b11⟩
  have W11 := andThen W10 (Nat.le_refl _) b11
  have C11 : Hid (w11.heap[z]? = some (.cells #[.bool nl, .int .i64 bc, .int .i64 bst, .int .i64 bk, .int .i64 bl, .string bn, .slice ap rs.length cp] 52 (0, 0))) := (b11.block _ (Array.getElem?_eq_some_iff.1 C10.out).1).trans C10.out
  have R11 : Hid (Row w11 (.slice ap rs.length cp) rs) := R10.out.below b11
  have P11 : Hid (RowB w11 v10 ds) := P10.out.below b11
  have Q11 : Hid (RowB w11 v11 ds) := own_rowB o11 HBR.out
  clear o11 b11 W10 C10 R10 P10 HS c0 c1 c2 c3 c4 c5 c6
  go_wp2_with fail
  refine (HRR.out _ _ P11.out).mono ?_
  rintro e w12 ⟨u12, rfl, o12, b12⟩
  have W12 := andThen W11 (Nat.le_refl _) b12
  have C12 : Hid (w12.heap[z]? = some (.cells #[.bool nl, .int .i64 bc, .int .i64 bst, .int .i64 bk, .int .i64 bl, .string bn, .slice ap rs.length cp] 52 (0, 0))) := (b12.block _ (Array.getElem?_eq_some_iff.1 C11.out).1).trans C11.out
  have R12 : Hid (Row w12 (.slice ap rs.length cp) rs) := R11.out.below b12
  have P12 : Hid (RowB w12 v10 ds) := P11.out.below b12
  have Q12 : Hid (RowB w12 v11 ds) := Q11.out.below b12
  have S12 : Hid (Row w12 u12 rs) := OwnR.row o12
  obtain ⟨aq, cq, rfl⟩ := RowG.slice (OwnR.row o12)
  clear o12 b12 W11 C11 R11 P11 Q11 HRR
  have L12 := (Array.getElem?_eq_some_iff.1 C12.out).1
  have W13 : Below w.heap.size w (w12.alloc (.cells #[.bool nl, .int .i64 bc, .int .i64 bst, .int .i64 bk, .int .i64 bl, .string bn, .slice aq rs.length cq] 52)) := W12.alloc W12.size _
  have C13 : Hid ((w12.alloc (.cells #[.bool nl, .int .i64 bc, .int .i64 bst, .int .i64 bk, .int .i64 bl, .string bn, .slice aq rs.length cq] 52)).heap[z]? = some (.cells #[.bool nl, .int .i64 bc, .int .i64 bst, .int .i64 bk, .int .i64 bl, .string bn, .slice ap rs.length cp] 52 (0, 0))) := (Below.heap_alloc _ _ _ L12).trans C12.out
  have D13 : Hid ((w12.alloc (.cells #[.bool nl, .int .i64 bc, .int .i64 bst, .int .i64 bk, .int .i64 bl, .string bn, .slice aq rs.length cq] 52)).heap[w12.heap.size]? = some (.cells #[.bool nl, .int .i64 bc, .int .i64 bst, .int .i64 bk, .int .i64 bl, .string bn, .slice aq rs.length cq] 52 (0, 0))) := blk_new _ _ _
  have R13 : Hid (Row (w12.alloc (.cells #[.bool nl, .int .i64 bc, .int .i64 bst, .int .i64 bk, .int .i64 bl, .string bn, .slice aq rs.length cq] 52)) (.slice ap rs.length cp) rs) := R12.out.below (bel_new _ _)
  have S13 : Hid (Row (w12.alloc (.cells #[.bool nl, .int .i64 bc, .int .i64 bst, .int .i64 bk, .int .i64 bl, .string bn, .slice aq rs.length cq] 52)) (.slice aq rs.length cq) rs) := S12.out.below (bel_new _ _)
  have P13 : Hid (RowB (w12.alloc (.cells #[.bool nl, .int .i64 bc, .int .i64 bst, .int .i64 bk, .int .i64 bl, .string bn, .slice aq rs.length cq] 52)) v10 ds) := P12.out.below (bel_new _ _)
  have Q13 : Hid (RowB (w12.alloc (.cells #[.bool nl, .int .i64 bc, .int .i64 bst, .int .i64 bk, .int .i64 bl, .string bn, .slice aq rs.length cq] 52)) v11 ds) := Q12.out.below (bel_new _ _)
  go_upto_region 13 with fail
  generalize w12.alloc (.cells #[.bool nl, .int .i64 bc, .int .i64 bst, .int .i64 bk, .int .i64 bl, .string bn, .slice aq rs.length cq] 52) = w13 at W13 C13 D13 R13 S13 P13 Q13 ⊢
  generalize w12.heap.size = y2 at D13 ⊢
  clear W12 C12 R12 S12 P12 Q12 L12
  have hc3 := run_convert_row (P := Try.prog) w13 w13.heap.size 33 5 9 Try.underlying33 Try.underlying5 Try.underlying9 v10 ds (RowU.of P13.out)
  have hc4 := run_convert_row (P := Try.prog) w13 w13.heap.size 33 5 9 Try.underlying33 Try.underlying5 Try.underlying9 v11 ds (RowU.of Q13.out)
  generalize strOfNums ds = sb at hc3 hc4
  have hsb : (sb.toList != sb.toList) = false := by simp
  have c0 := (blk_cell C13.out 0 (x := .bool nl) rfl).1
  have c1 := (blk_cell C13.out 1 (x := .int .i64 bc) rfl).1
  have c2 := (blk_cell C13.out 2 (x := .int .i64 bst) rfl).1
  have c3 := (blk_cell C13.out 3 (x := .int .i64 bk) rfl).1
  have c4 := (blk_cell C13.out 4 (x := .int .i64 bl) rfl).1
  have c5 := (blk_cell C13.out 5 (x := .string bn) rfl).1
  have c6 := (blk_cell C13.out 6 (x := .slice ap rs.length cp) rfl).1
  have d0 := (blk_cell D13.out 0 (x := .bool nl) rfl).1
  have d1 := (blk_cell D13.out 1 (x := .int .i64 bc) rfl).1
  have d2 := (blk_cell D13.out 2 (x := .int .i64 bst) rfl).1
  have d3 := (blk_cell D13.out 3 (x := .int .i64 bk) rfl).1
  have d4 := (blk_cell D13.out 4 (x := .int .i64 bl) rfl).1
  have d5 := (blk_cell D13.out 5 (x := .string bn) rfl).1
  have d6 := (blk_cell D13.out 6 (x := .slice aq rs.length cq) rfl).1
  have HSM := sameBatch_same nl bc bst bk bl bn _ _ rs w13 S13.out R13.out HRS.out.1
  unfold batV at HSM
  go_wp2_with fail
  refine HSM.mono ?_
  rintro e w14 ⟨rfl, b14⟩
  have W14 := andThen W13 (Nat.le_refl _) b14
  clear b14 W13 C13 D13 R13 S13 P13 Q13 hc3 hc4 hsb c0 c1 c2 c3 c4 c5 c6 d0 d1 d2 d3 d4 d5 d6 HSM HRS HBR
  go_wp2_with fail
  refine (implReadBatch_any _ ys _ (HG.out.below W14) (HL.out ()).2).mono ?_
  rintro e w15 ⟨u15, rfl, o15, b15⟩
  have W15 := andThen W14 (Nat.le_refl _) b15
  have HAG : Hid (rbC ys = 0 → bOKx (rbX ys) = true ∧ batBs (rbX ys).nl (rbX ys).c (rbX ys).st (rbX ys).k (rbX ys).l (rbX ys).n (rbX ys).rs = ys) := bat_again GR.out
  have HSZ : Hid ((rbX ys).n.size ≤ maxLen ∧ (rbX ys).rs.length ≤ 255) := rbX_small ys GR.out (HL.out ()).2
  have R15 : Hid (Row w15 u15 (rbX ys).rs) := OwnR.row o15
  have HSR : Hid (∀ W, RowB W (.slice a' ys.length cap') ys → Calls Try.prog 27 #[.slice a' ys.length cap'] W fun e w' => ∃ u, e = .returned (.tuple #[bV (rbX ys) u, .int .i64 (rbC ys)]) ∧ OwnR w' W.heap.size u (rbX ys).rs ∧ Below W.heap.size W w') := fun W hW => specReadBatch_any _ ys W hW (HL.out ()).2
  clear b15 W14
  obtain ⟨code, HCD⟩ : ∃ code, Hid (rbC ys = code) := ⟨_, rfl⟩
  rw [HCD.out] at HAG HSR ⊢
  obtain ⟨X, HX⟩ : ∃ X, Hid (rbX ys = X) := ⟨_, rfl⟩
  rw [HX.out] at HAG HSZ R15 HSR o15 ⊢
  obtain ⟨n2, cc2, st2, k2, l2, nm2, rs2⟩ := X
  dsimp only [bV, bOKx] at HAG HSZ R15 HSR o15 ⊢
  clear HCD HX
  obtain ⟨ar, cr, rfl⟩ := RowG.slice R15.out
  clear o15
  unfold batV at HSR
  unfold batV
  have W16 : Below w.heap.size w (w15.alloc (.cells #[.bool n2, .int .i64 cc2, .int .i64 st2, .int .i64 k2, .int .i64 l2, .string nm2, .slice ar rs2.length cr] 52)) := W15.alloc W15.size _
  have C16 : Hid ((w15.alloc (.cells #[.bool n2, .int .i64 cc2, .int .i64 st2, .int .i64 k2, .int .i64 l2, .string nm2, .slice ar rs2.length cr] 52)).heap[w15.heap.size]? = some (.cells #[.bool n2, .int .i64 cc2, .int .i64 st2, .int .i64 k2, .int .i64 l2, .string nm2, .slice ar rs2.length cr] 52 (0, 0))) := blk_new _ _ _
  have R16 : Hid (Row (w15.alloc (.cells #[.bool n2, .int .i64 cc2, .int .i64 st2, .int .i64 k2, .int .i64 l2, .string nm2, .slice ar rs2.length cr] 52)) (.slice ar rs2.length cr) rs2) := R15.out.below (bel_new _ _)
  go_upto_region 16 with fail
  generalize w15.alloc (.cells #[.bool n2, .int .i64 cc2, .int .i64 st2, .int .i64 k2, .int .i64 l2, .string nm2, .slice ar rs2.length cr] 52) = w16 at W16 C16 R16 ⊢
  generalize w15.heap.size = z3 at C16 ⊢
  clear W15 R15
  go_wp2_with fail
  refine (HSR.out _ (HG.out.below W16)).mono ?_
  rintro e w17 ⟨u17, rfl, o17, b17⟩
  have W17 := andThen W16 (Nat.le_refl _) b17
  have C17 : Hid (w17.heap[z3]? = some (.cells #[.bool n2, .int .i64 cc2, .int .i64 st2, .int .i64 k2, .int .i64 l2, .string nm2, .slice ar rs2.length cr] 52 (0, 0))) := (b17.block _ (Array.getElem?_eq_some_iff.1 C16.out).1).trans C16.out
  have R17 : Hid (Row w17 (.slice ar rs2.length cr) rs2) := R16.out.below b17
  obtain ⟨ax2, cx2, rfl⟩ := RowG.slice (OwnR.row o17)
  clear b17 o17 W16 C16 R16 HSR
  have L17 := (Array.getElem?_eq_some_iff.1 C17.out).1
  have W18 : Below w.heap.size w (w17.alloc (.cells #[.bool n2, .int .i64 cc2, .int .i64 st2, .int .i64 k2, .int .i64 l2, .string nm2, .slice ax2 rs2.length cx2] 52)) := W17.alloc W17.size _
  have C18 : Hid ((w17.alloc (.cells #[.bool n2, .int .i64 cc2, .int .i64 st2, .int .i64 k2, .int .i64 l2, .string nm2, .slice ax2 rs2.length cx2] 52)).heap[z3]? = some (.cells #[.bool n2, .int .i64 cc2, .int .i64 st2, .int .i64 k2, .int .i64 l2, .string nm2, .slice ar rs2.length cr] 52 (0, 0))) := (Below.heap_alloc _ _ _ L17).trans C17.out
  have R18 : Hid (Row (w17.alloc (.cells #[.bool n2, .int .i64 cc2, .int .i64 st2, .int .i64 k2, .int .i64 l2, .string nm2, .slice ax2 rs2.length cx2] 52)) (.slice ar rs2.length cr) rs2) := R17.out.below (bel_new _ _)
  go_upto_region 17 with fail
  generalize w17.alloc (.cells #[.bool n2, .int .i64 cc2, .int .i64 st2, .int .i64 k2, .int .i64 l2, .string nm2, .slice ax2 rs2.length cx2] 52) = w18 at W18 C18 R18 ⊢
  clear W17 C17 R17 L17
  have hcc : (code != code) = false := by simp
  by_cases h0 : code = 0
  · subst h0
    obtain ⟨e1, e2⟩ := HAG.out rfl
    have HI2 : Hid (∀ W v, Row W v rs2 → Calls Try.prog 23 #[batV n2 cc2 st2 k2 l2 nm2 v] W fun e w' => ∃ v', e = .returned (.tuple #[v', .int .i64 0]) ∧ OwnB 5 w' W.heap.size v' ys ∧ Below W.heap.size W w') := fun W v hv => by
      have h := implBatchBytes_any n2 cc2 st2 k2 l2 nm2 v rs2 W hv (by have := HSZ.out.2; omega) HSZ.out.1
      unfold batOut batCode at h
      rw [e1, if_pos rfl, if_pos rfl, e2] at h
      exact h
    clear e1 e2 HAG HSZ
    unfold batV at HI2
    have c0 := (blk_cell C18.out 0 (x := .bool n2) rfl).1
    have c1 := (blk_cell C18.out 1 (x := .int .i64 cc2) rfl).1
    have c2 := (blk_cell C18.out 2 (x := .int .i64 st2) rfl).1
    have c3 := (blk_cell C18.out 3 (x := .int .i64 k2) rfl).1
    have c4 := (blk_cell C18.out 4 (x := .int .i64 l2) rfl).1
    have c5 := (blk_cell C18.out 5 (x := .string nm2) rfl).1
    have c6 := (blk_cell C18.out 6 (x := .slice ar rs2.length cr) rfl).1
    go_wp2_with fail
    refine (HI2.out _ _ R18.out).mono ?_
    rintro e w19 ⟨v19, rfl, o19, b19⟩
    have W19 := andThen W18 (Nat.le_refl _) b19
    have hc8 := run_convert_row (P := Try.prog) w19 w19.heap.size 33 5 9 Try.underlying33 Try.underlying5 Try.underlying9 v19 ys (RowU.of (own_rowB o19 GR.out))
    have hc9 := run_convert_row (P := Try.prog) w19 w19.heap.size 33 5 9 Try.underlying33 Try.underlying5 Try.underlying9 _ ys (RowU.of (HG.out.below W19))
    clear o19 b19 W18 C18 R18 HI2 c0 c1 c2 c3 c4 c5 c6
    generalize strOfNums ys = sb at hc8 hc9
    have hsb : (sb.toList == sb.toList) = true := by simp
    go_wp2_with fail
    go_ret
    exact ⟨rfl, W19⟩
  · have h0' : (code != 0) = true := by simp [h0]
    go_wp2_with fail
    go_ret
    exact ⟨rfl, W18⟩

/-! ### THE ROW's STEP -/
set_option maxRecDepth 100000 in
theorem lifted (os : Os) (started : os.Started) (H : Type) (enc : TypeId × Value → H) :
    ReturnsInHanded {} Try.checked os 5 .any (Rows.fnRequestsSpec.pre6 enc Try.prog Try.f5 Rows.fnRequestsRow.domain false) (Rows.fnRequestsSpec.post enc Try.prog Try.f5 false true false false) := by
  refine returnsInHanded_of_change (C := Try.checked) own started (by kernel_rfl) Try.func5
    (ChangeSpec.witness6 (enc := enc) (C := Try.checked) false ⟨#[], #[.slice none 0 0, .slice none 0 0], []⟩ 8 (by kernel_rfl) (by kernel_rfl) (by kernel_rfl) (by kernel_rfl)) ?_
  intro W base args ds gs before hval0 hW hcnd _
  have hval : ∀ (j : Nat) t v, Try.f5.params[j]? = some t → args[j]? = some v → Value.okWide Try.prog W .any base t v := hval0
  have hW' := hW
  obtain ⟨p, q, hA0, hV, rfl, hfz, hnd⟩ := hW
  have hA : DataW.TrodAll enc Try.prog W 0 (fun _ => true) true Try.f5.params.toList args.toList ds p := hA0
  rw [Try.params5] at hA hval
  obtain ⟨v0, vs0, d0, ds0, p0, q0, hargs, rfl, rfl, h0, r0⟩ := trodAll_cons hA
  obtain ⟨v1, vs1, d1, ds1, p1, q1, rfl, rfl, rfl, h1, r1⟩ := trodAll_cons r0
  obtain ⟨rfl, rfl, rfl⟩ := trodAll_nil r1
  obtain rfl : args = #[v0, v1] := by cases args; simp_all
  obtain ⟨rfl, rfl⟩ := trodVars_none hV
  have k00 := h0
  have lt0 : ∀ x ∈ p0, x.block < W.heap.size := by obtain ⟨m, hm⟩ := k00; exact DataW.trod_lt m _ _ _ hm
  obtain ⟨xs0, w0⟩ := Op.open_bytes (hval 0 33 v0 rfl rfl) h0 (fun _ => rfl)
  have k10 := h1
  have lt1 : ∀ x ∈ p1, x.block < W.heap.size := by obtain ⟨m, hm⟩ := k10; exact DataW.trod_lt m _ _ _ hm
  obtain ⟨xs1, w1⟩ := Op.open_bytes (hval 1 33 v1 rfl rfl) h1 (fun _ => rfl)
  clear hA0 hval0
  refine (walk v0 xs0 W w0 v1 xs1 W w1).mono fun e W' ⟨he, bel⟩ => ?_
  subst he
  exact ⟨_, rfl, _, _, _, [], _, [], hW', trodAll_mk1 (shut_bool Try.underlying4 _), (trodAll_cons_mk (Below.trod laidOut (by kernel_rfl) (of_decide_eq_true (by kernel_rfl)) k00 bel lt0) (trodAll_cons_mk (Below.trod laidOut (by kernel_rfl) (of_decide_eq_true (by kernel_rfl)) k10 bel lt1) trodAll_mk0)), rfl, bel.frame _, fun h => by cases h⟩

theorem over : Rows.fnRequestsRow.holds Try.pinned (OpenSpec.ofChange Rows.fnRequestsSpec) :=
  OpenClaim.holds_of_wide 5 Try.f5 rfl rfl rfl rfl rfl rfl rfl ⟨rfl, rfl, rfl, rfl, rfl⟩ rfl rfl rfl rfl rfl (by kernel_rfl) Try.func5 (by kernel_rfl)
    (of_decide_eq_true (by kernel_rfl)) (by unfold Func.isWrapper; first | (rw [if_pos (by decide +kernel)]; kernel_rfl) | (rw [if_neg (by decide +kernel)]; exact ⟨rfl, rfl⟩))
    (fun os started H enc _ => lifted os started H enc)

end Go.Proofs.Ytdeologdmdimoaa.fnRequests
namespace Go.Proofs.Ytdeologdmdimoaa
/-- THE STATEMENT. -/
theorem fnRequests_holds : Rows.FnRequestsSaid := fnRequests.over
end Go.Proofs.Ytdeologdmdimoaa
