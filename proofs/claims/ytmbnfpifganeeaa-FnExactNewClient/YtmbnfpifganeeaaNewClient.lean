/-
  NewClient answers as the specification does, for every number; its answer owns its memory.
  Conditions: none beyond the given row's own.
-/
import Derived.Test.YtmbnfpifganeeaaClr
import Derived.WalkKit
import Derived.ProofKit
import Derived.OpenShut
import Derived.ShutString
import Derived.ChangeOld
import Derived.Below
namespace Go.Proofs.Ytmbnfpifganeeaa.fnExactNewClient
open Go.ChangeShapes Go.WideShapes Go.ChangeAt Go.RowKit
open Go.ChangeMaps (open_string shut_string)

theorem own : ownKnob Try.prog.godebug = none := by kernel_rfl
theorem laidOut : laidOutB Try.prog = true := by kernel_rfl

open Go.Proofs.Ytmbnfpifganeeaa.Cl
open Go.Proofs.Ytmbnfpifganeeaa.Rg (bel_new)
set_option maxRecDepth 100000 in
set_option maxHeartbeats 1600000 in
/-- THE WALK: both functions answer alike, and the answer owns its memory. -/
theorem walk (i : Int) {q0 : Prop} (_z0 : q0) (w : World) :
    Calls Try.prog 3 #[.int .i64 i] w fun e w' => e = .returned (.bool true) ∧ Below w.heap.size w w' := by
  obtain ⟨d, HD⟩ : ∃ d, Hid (ncD i = d) := ⟨_, rfl⟩
  obtain ⟨kk, HKK⟩ : ∃ kk, Hid (ncC i = kk) := ⟨_, rfl⟩
  have HDL : Hid (d.re = [] ∧ d.ac = []) := by
    show _ ∧ _
    rw [← HD.out]
    unfold ncD
    split <;> exact ⟨rfl, rfl⟩
  have HSP : Hid (∀ W, Calls Try.prog 5 #[.int .i64 i] W fun e w' => ∃ o1 o2, e = .returned (.tuple #[.agg #[.int .i64 d.id, .int .i64 d.st, .bool d.bu, .int .i64 d.rc, .int .i64 d.rs, .int .i64 d.rk, .int .i64 d.rl, .string d.rn, .slice o1 0 0, .slice o2 0 0], .int .i64 kk]) ∧ Below W.heap.size W w') := fun W => by
    have h := specNewClient_any i W
    rw [HD.out, HKK.out] at h
    exact h
  have HIM : Hid (∀ W, Calls Try.prog 6 #[.int .i64 i] W fun e w' => e = .returned (.tuple #[.agg #[.int .i64 d.id, .int .i64 d.st, .bool d.bu, .int .i64 d.rc, .int .i64 d.rs, .int .i64 d.rk, .int .i64 d.rl, .string d.rn, .slice none 0 0, .slice none 0 0], .int .i64 kk]) ∧ Below W.heap.size W w') := fun W => by
    have h := implNewClient_any i W
    rw [HD.out, HKK.out] at h
    exact h
  have HEQ : Hid (∀ W o1 o2 p1 p2, Calls Try.prog 7 #[.agg #[.int .i64 d.id, .int .i64 d.st, .bool d.bu, .int .i64 d.rc, .int .i64 d.rs, .int .i64 d.rk, .int .i64 d.rl, .string d.rn, .slice o1 0 0, .slice o2 0 0], .agg #[.int .i64 d.id, .int .i64 d.st, .bool d.bu, .int .i64 d.rc, .int .i64 d.rs, .int .i64 d.rk, .int .i64 d.rl, .string d.rn, .slice p1 0 0, .slice p2 0 0]] W fun e w' => e = .returned (.bool true) ∧ Below W.heap.size W w') := fun W o1 o2 p1 p2 => eqC_same d _ _ _ _ W ⟨⟨o1, 0, by rw [HDL.out.1]; rfl, .inl HDL.out.1⟩, ⟨o2, 0, by rw [HDL.out.2]; rfl, .inl HDL.out.2⟩⟩ ⟨⟨p1, 0, by rw [HDL.out.1]; rfl, .inl HDL.out.1⟩, ⟨p2, 0, by rw [HDL.out.2]; rfl, .inl HDL.out.2⟩⟩ (by rw [HDL.out.1, HDL.out.2]; decide)
  have HMK : Hid (∀ W o1 o2, Calls Try.prog 8 #[.agg #[.int .i64 d.id, .int .i64 d.st, .bool d.bu, .int .i64 d.rc, .int .i64 d.rs, .int .i64 d.rk, .int .i64 d.rl, .string d.rn, .slice o1 0 0, .slice o2 0 0], .int .i64 1] W fun e w' => e = .returned (.int .i64 1) ∧ Below W.heap.size W w') := fun W o1 o2 => markClient_nil d o1 o2 W
  have HHK : Hid (∀ W o1 o2, Calls Try.prog 9 #[.agg #[.int .i64 d.id, .int .i64 d.st, .bool d.bu, .int .i64 d.rc, .int .i64 d.rs, .int .i64 d.rk, .int .i64 d.rl, .string d.rn, .slice o1 0 0, .slice o2 0 0], .int .i64 1] W fun e w' => e = .returned (.int .i64 1) ∧ Below W.heap.size W w') := fun W o1 o2 => heldClient_nil d o1 o2 W
  have hkk : (kk != kk) = false := by simp
  clear HD HKK HDL
  go_enter Try.func3, Try.ntmps3
  go_wp2_with fail
  refine (HSP.out _).mono ?_
  rintro e w1 ⟨o1, o2, rfl, b1⟩
  have A1 : Hid ((w1.alloc (.cells #[.int .i64 d.id, .int .i64 d.st, .bool d.bu, .int .i64 d.rc, .int .i64 d.rs, .int .i64 d.rk, .int .i64 d.rl, .string d.rn, .slice o1 0 0, .slice o2 0 0] 27)).heap[w1.heap.size]? = some (.cells #[.int .i64 d.id, .int .i64 d.st, .bool d.bu, .int .i64 d.rc, .int .i64 d.rs, .int .i64 d.rk, .int .i64 d.rl, .string d.rn, .slice o1 0 0, .slice o2 0 0] 27) ∧ Below w.heap.size w (w1.alloc (.cells #[.int .i64 d.id, .int .i64 d.st, .bool d.bu, .int .i64 d.rc, .int .i64 d.rs, .int .i64 d.rk, .int .i64 d.rl, .string d.rn, .slice o1 0 0, .slice o2 0 0] 27))) := ⟨heap_alloc_new _ _, b1.trans ((bel_new _ _).mono b1.size)⟩
  clear b1
  go_upto_region 2 with fail
  generalize w1.alloc (.cells #[.int .i64 d.id, .int .i64 d.st, .bool d.bu, .int .i64 d.rc, .int .i64 d.rs, .int .i64 d.rk, .int .i64 d.rl, .string d.rn, .slice o1 0 0, .slice o2 0 0] 27) = u1 at A1 ⊢
  generalize w1.heap.size = p1 at A1 ⊢
  go_wp2_with fail
  refine (HIM.out _).mono ?_
  rintro e w2 ⟨rfl, b2⟩
  have A2 : Hid ((w2.alloc (.cells #[.int .i64 d.id, .int .i64 d.st, .bool d.bu, .int .i64 d.rc, .int .i64 d.rs, .int .i64 d.rk, .int .i64 d.rl, .string d.rn, .slice none 0 0, .slice none 0 0] 27)).heap[w2.heap.size]? = some (.cells #[.int .i64 d.id, .int .i64 d.st, .bool d.bu, .int .i64 d.rc, .int .i64 d.rs, .int .i64 d.rk, .int .i64 d.rl, .string d.rn, .slice none 0 0, .slice none 0 0] 27) ∧ Below u1.heap.size u1 (w2.alloc (.cells #[.int .i64 d.id, .int .i64 d.st, .bool d.bu, .int .i64 d.rc, .int .i64 d.rs, .int .i64 d.rk, .int .i64 d.rl, .string d.rn, .slice none 0 0, .slice none 0 0] 27))) := ⟨heap_alloc_new _ _, b2.trans ((bel_new _ _).mono b2.size)⟩
  clear b2
  go_upto_region 3 with fail
  generalize w2.alloc (.cells #[.int .i64 d.id, .int .i64 d.st, .bool d.bu, .int .i64 d.rc, .int .i64 d.rs, .int .i64 d.rk, .int .i64 d.rl, .string d.rn, .slice none 0 0, .slice none 0 0] 27) = u2 at A2 ⊢
  generalize w2.heap.size = p2 at A2 ⊢
  have K1 : Hid (∀ W, Below u2.heap.size u2 W → (W.heap[p1]? = some (.cells #[.int .i64 d.id, .int .i64 d.st, .bool d.bu, .int .i64 d.rc, .int .i64 d.rs, .int .i64 d.rk, .int .i64 d.rl, .string d.rn, .slice o1 0 0, .slice o2 0 0] 27)) ∧ (W.heap[p2]? = some (.cells #[.int .i64 d.id, .int .i64 d.st, .bool d.bu, .int .i64 d.rc, .int .i64 d.rs, .int .i64 d.rk, .int .i64 d.rl, .string d.rn, .slice none 0 0, .slice none 0 0] 27)) ∧ Below w.heap.size w W) := fun W hW => by
    have b := A2.out.2.trans (hW.mono A2.out.2.size)
    exact ⟨(b.block _ (Array.getElem?_eq_some_iff.1 A1.out.1).1).trans A1.out.1, (hW.block _ (Array.getElem?_eq_some_iff.1 A2.out.1).1).trans A2.out.1, A1.out.2.trans (b.mono A1.out.2.size)⟩
  have Y := K1.out u2 (Below.refl _ _)
  have c0 := (Rg.blk_cell Y.1 0 (x := .int .i64 d.id) rfl).1
  have c1 := (Rg.blk_cell Y.1 1 (x := .int .i64 d.st) rfl).1
  have c2 := (Rg.blk_cell Y.1 2 (x := .bool d.bu) rfl).1
  have c3 := (Rg.blk_cell Y.1 3 (x := .int .i64 d.rc) rfl).1
  have c4 := (Rg.blk_cell Y.1 4 (x := .int .i64 d.rs) rfl).1
  have c5 := (Rg.blk_cell Y.1 5 (x := .int .i64 d.rk) rfl).1
  have c6 := (Rg.blk_cell Y.1 6 (x := .int .i64 d.rl) rfl).1
  have c7 := (Rg.blk_cell Y.1 7 (x := .string d.rn) rfl).1
  have c8 := (Rg.blk_cell Y.1 8 (x := .slice o1 0 0) rfl).1
  have c9 := (Rg.blk_cell Y.1 9 (x := .slice o2 0 0) rfl).1
  have e0 := (Rg.blk_cell Y.2.1 0 (x := .int .i64 d.id) rfl).1
  have e1 := (Rg.blk_cell Y.2.1 1 (x := .int .i64 d.st) rfl).1
  have e2 := (Rg.blk_cell Y.2.1 2 (x := .bool d.bu) rfl).1
  have e3 := (Rg.blk_cell Y.2.1 3 (x := .int .i64 d.rc) rfl).1
  have e4 := (Rg.blk_cell Y.2.1 4 (x := .int .i64 d.rs) rfl).1
  have e5 := (Rg.blk_cell Y.2.1 5 (x := .int .i64 d.rk) rfl).1
  have e6 := (Rg.blk_cell Y.2.1 6 (x := .int .i64 d.rl) rfl).1
  have e7 := (Rg.blk_cell Y.2.1 7 (x := .string d.rn) rfl).1
  have e8 := (Rg.blk_cell Y.2.1 8 (x := .slice none 0 0) rfl).1
  have e9 := (Rg.blk_cell Y.2.1 9 (x := .slice none 0 0) rfl).1
  clear Y
  go_wp2_with fail
  refine (HEQ.out _ _ _ _ _).mono ?_
  rintro e w3 ⟨rfl, b3⟩
  have B3 : Hid (Below u2.heap.size u2 w3) := b3
  clear b3 c0 c1 c2 c3 c4 c5 c6 c7 c8 c9 e0 e1 e2 e3 e4 e5 e6 e7 e8 e9
  have Y := K1.out _ B3.out
  have e0 := (Rg.blk_cell Y.2.1 0 (x := .int .i64 d.id) rfl).1
  have e1 := (Rg.blk_cell Y.2.1 1 (x := .int .i64 d.st) rfl).1
  have e2 := (Rg.blk_cell Y.2.1 2 (x := .bool d.bu) rfl).1
  have e3 := (Rg.blk_cell Y.2.1 3 (x := .int .i64 d.rc) rfl).1
  have e4 := (Rg.blk_cell Y.2.1 4 (x := .int .i64 d.rs) rfl).1
  have e5 := (Rg.blk_cell Y.2.1 5 (x := .int .i64 d.rk) rfl).1
  have e6 := (Rg.blk_cell Y.2.1 6 (x := .int .i64 d.rl) rfl).1
  have e7 := (Rg.blk_cell Y.2.1 7 (x := .string d.rn) rfl).1
  have e8 := (Rg.blk_cell Y.2.1 8 (x := .slice none 0 0) rfl).1
  have e9 := (Rg.blk_cell Y.2.1 9 (x := .slice none 0 0) rfl).1
  clear Y
  go_wp2_with fail
  refine (HMK.out _ _ _).mono ?_
  rintro e w4 ⟨rfl, b4⟩
  have B4 : Hid (Below u2.heap.size u2 w4) := B3.out.trans (b4.mono B3.out.size)
  clear b4 B3 e0 e1 e2 e3 e4 e5 e6 e7 e8 e9
  have Y := K1.out _ B4.out
  have e0 := (Rg.blk_cell Y.2.1 0 (x := .int .i64 d.id) rfl).1
  have e1 := (Rg.blk_cell Y.2.1 1 (x := .int .i64 d.st) rfl).1
  have e2 := (Rg.blk_cell Y.2.1 2 (x := .bool d.bu) rfl).1
  have e3 := (Rg.blk_cell Y.2.1 3 (x := .int .i64 d.rc) rfl).1
  have e4 := (Rg.blk_cell Y.2.1 4 (x := .int .i64 d.rs) rfl).1
  have e5 := (Rg.blk_cell Y.2.1 5 (x := .int .i64 d.rk) rfl).1
  have e6 := (Rg.blk_cell Y.2.1 6 (x := .int .i64 d.rl) rfl).1
  have e7 := (Rg.blk_cell Y.2.1 7 (x := .string d.rn) rfl).1
  have e8 := (Rg.blk_cell Y.2.1 8 (x := .slice none 0 0) rfl).1
  have e9 := (Rg.blk_cell Y.2.1 9 (x := .slice none 0 0) rfl).1
  clear Y
  go_wp2_with fail
  refine (HHK.out _ _ _).mono ?_
  rintro e w5 ⟨rfl, b5⟩
  have B5 : Hid (Below u2.heap.size u2 w5) := B4.out.trans (b5.mono B4.out.size)
  clear b5 B4 e0 e1 e2 e3 e4 e5 e6 e7 e8 e9
  go_wp2_with fail
  refine (HIM.out _).mono ?_
  rintro e w6 ⟨rfl, b6⟩
  have A6 : Hid ((w6.alloc (.cells #[.int .i64 d.id, .int .i64 d.st, .bool d.bu, .int .i64 d.rc, .int .i64 d.rs, .int .i64 d.rk, .int .i64 d.rl, .string d.rn, .slice none 0 0, .slice none 0 0] 27)).heap[w6.heap.size]? = some (.cells #[.int .i64 d.id, .int .i64 d.st, .bool d.bu, .int .i64 d.rc, .int .i64 d.rs, .int .i64 d.rk, .int .i64 d.rl, .string d.rn, .slice none 0 0, .slice none 0 0] 27) ∧ Below u2.heap.size u2 (w6.alloc (.cells #[.int .i64 d.id, .int .i64 d.st, .bool d.bu, .int .i64 d.rc, .int .i64 d.rs, .int .i64 d.rk, .int .i64 d.rl, .string d.rn, .slice none 0 0, .slice none 0 0] 27))) := ⟨heap_alloc_new _ _, (B5.out.trans (b6.mono B5.out.size)).trans ((bel_new _ _).mono (B5.out.trans (b6.mono B5.out.size)).size)⟩
  clear b6 B5
  go_upto_region 14 with fail
  generalize w6.alloc (.cells #[.int .i64 d.id, .int .i64 d.st, .bool d.bu, .int .i64 d.rc, .int .i64 d.rs, .int .i64 d.rk, .int .i64 d.rl, .string d.rn, .slice none 0 0, .slice none 0 0] 27) = u6 at A6 ⊢
  generalize w6.heap.size = p6 at A6 ⊢
  have Y := K1.out _ A6.out.2
  have c0 := (Rg.blk_cell Y.1 0 (x := .int .i64 d.id) rfl).1
  have c1 := (Rg.blk_cell Y.1 1 (x := .int .i64 d.st) rfl).1
  have c2 := (Rg.blk_cell Y.1 2 (x := .bool d.bu) rfl).1
  have c3 := (Rg.blk_cell Y.1 3 (x := .int .i64 d.rc) rfl).1
  have c4 := (Rg.blk_cell Y.1 4 (x := .int .i64 d.rs) rfl).1
  have c5 := (Rg.blk_cell Y.1 5 (x := .int .i64 d.rk) rfl).1
  have c6 := (Rg.blk_cell Y.1 6 (x := .int .i64 d.rl) rfl).1
  have c7 := (Rg.blk_cell Y.1 7 (x := .string d.rn) rfl).1
  have c8 := (Rg.blk_cell Y.1 8 (x := .slice o1 0 0) rfl).1
  have c9 := (Rg.blk_cell Y.1 9 (x := .slice o2 0 0) rfl).1
  clear Y
  have f0 := (Rg.blk_cell A6.out.1 0 (x := .int .i64 d.id) rfl).1
  have f1 := (Rg.blk_cell A6.out.1 1 (x := .int .i64 d.st) rfl).1
  have f2 := (Rg.blk_cell A6.out.1 2 (x := .bool d.bu) rfl).1
  have f3 := (Rg.blk_cell A6.out.1 3 (x := .int .i64 d.rc) rfl).1
  have f4 := (Rg.blk_cell A6.out.1 4 (x := .int .i64 d.rs) rfl).1
  have f5 := (Rg.blk_cell A6.out.1 5 (x := .int .i64 d.rk) rfl).1
  have f6 := (Rg.blk_cell A6.out.1 6 (x := .int .i64 d.rl) rfl).1
  have f7 := (Rg.blk_cell A6.out.1 7 (x := .string d.rn) rfl).1
  have f8 := (Rg.blk_cell A6.out.1 8 (x := .slice none 0 0) rfl).1
  have f9 := (Rg.blk_cell A6.out.1 9 (x := .slice none 0 0) rfl).1
  go_wp2_with fail
  refine (HEQ.out _ _ _ _ _).mono ?_
  rintro e w7 ⟨rfl, b7⟩
  have B7 : Hid (Below u2.heap.size u2 w7) := A6.out.2.trans (b7.mono A6.out.2.size)
  clear b7 c0 c1 c2 c3 c4 c5 c6 c7 c8 c9 f0 f1 f2 f3 f4 f5 f6 f7 f8 f9
  have Y := K1.out _ B7.out
  have e0 := (Rg.blk_cell Y.2.1 0 (x := .int .i64 d.id) rfl).1
  have e1 := (Rg.blk_cell Y.2.1 1 (x := .int .i64 d.st) rfl).1
  have e2 := (Rg.blk_cell Y.2.1 2 (x := .bool d.bu) rfl).1
  have e3 := (Rg.blk_cell Y.2.1 3 (x := .int .i64 d.rc) rfl).1
  have e4 := (Rg.blk_cell Y.2.1 4 (x := .int .i64 d.rs) rfl).1
  have e5 := (Rg.blk_cell Y.2.1 5 (x := .int .i64 d.rk) rfl).1
  have e6 := (Rg.blk_cell Y.2.1 6 (x := .int .i64 d.rl) rfl).1
  have e7 := (Rg.blk_cell Y.2.1 7 (x := .string d.rn) rfl).1
  have e8 := (Rg.blk_cell Y.2.1 8 (x := .slice none 0 0) rfl).1
  have e9 := (Rg.blk_cell Y.2.1 9 (x := .slice none 0 0) rfl).1
  clear Y
  go_wp2_with fail
  refine (HHK.out _ _ _).mono ?_
  rintro e w8 ⟨rfl, b8⟩
  have G8 : Hid (Below w.heap.size w w8) := (K1.out _ (B7.out.trans (b8.mono B7.out.size))).2.2
  clear b8 e0 e1 e2 e3 e4 e5 e6 e7 e8 e9
  go_wp2_with fail
  go_ret
  exact ⟨rfl, G8.out⟩

/-! ### THE ROW's STEP -/
set_option maxRecDepth 100000 in
theorem lifted (os : Os) (started : os.Started) (H : Type) (enc : TypeId × Value → H) :
    ReturnsInHanded {} Try.checked os 3 .any (Rows.fnExactNewClientSpec.pre6 enc Try.prog Try.f3 Rows.fnExactNewClientRow.domain false) (Rows.fnExactNewClientSpec.post enc Try.prog Try.f3 false true false false) := by
  refine returnsInHanded_of_change (C := Try.checked) own started (by kernel_rfl) Try.func3
    (ChangeSpec.witness6 (enc := enc) (C := Try.checked) false ⟨#[], #[.int .i64 0], []⟩ 8 (by kernel_rfl) (by kernel_rfl) (by kernel_rfl) (by kernel_rfl)) ?_
  intro W base args ds gs before hval0 hW hcnd _
  have hval : ∀ (j : Nat) t v, Try.f3.params[j]? = some t → args[j]? = some v → Value.okWide Try.prog W .any base t v := hval0
  have hW' := hW
  obtain ⟨p, q, hA0, hV, rfl, hfz, hnd⟩ := hW
  have hA : DataW.TrodAll enc Try.prog W 0 (fun _ => true) true Try.f3.params.toList args.toList ds p := hA0
  rw [Try.params3] at hA hval
  obtain ⟨v0, vs0, d0, ds0, p0, q0, hargs, rfl, rfl, h0, r0⟩ := trodAll_cons hA
  obtain ⟨rfl, rfl, rfl⟩ := trodAll_nil r0
  obtain rfl : args = #[v0] := by cases args; simp_all
  obtain ⟨rfl, rfl⟩ := trodVars_none hV
  have k00 := h0
  have lt0 : ∀ x ∈ p0, x.block < W.heap.size := by obtain ⟨m, hm⟩ := k00; exact DataW.trod_lt m _ _ _ hm
  obtain ⟨i0, rfl, rfl, rfl, z0⟩ := open_int Try.underlying3 (hval 0 3 v0 rfl rfl) h0
  clear hA0 hval0
  refine (walk i0 z0 W).mono fun e W' ⟨he, bel⟩ => ?_
  subst he
  exact ⟨_, rfl, _, _, _, [], _, [], hW', trodAll_mk1 (shut_bool Try.underlying4 _), (trodAll_cons_mk (Below.trod laidOut (by kernel_rfl) (of_decide_eq_true (by kernel_rfl)) k00 bel lt0) trodAll_mk0), rfl, bel.frame _, fun h => by cases h⟩

theorem over : Rows.fnExactNewClientRow.holds Try.pinned (OpenSpec.ofChange Rows.fnExactNewClientSpec) :=
  OpenClaim.holds_of_wide 3 Try.f3 rfl rfl rfl rfl rfl rfl rfl ⟨rfl, rfl, rfl, rfl, rfl⟩ rfl rfl rfl rfl rfl (by kernel_rfl) Try.func3 (by kernel_rfl)
    (of_decide_eq_true (by kernel_rfl)) (by unfold Func.isWrapper; first | (rw [if_pos (by decide +kernel)]; kernel_rfl) | (rw [if_neg (by decide +kernel)]; exact ⟨rfl, rfl⟩))
    (fun os started H enc _ => lifted os started H enc)

end Go.Proofs.Ytmbnfpifganeeaa.fnExactNewClient
namespace Go.Proofs.Ytmbnfpifganeeaa
/-- THE STATEMENT. -/
theorem fnExactNewClient_holds : Rows.FnExactNewClientSaid := fnExactNewClient.over
end Go.Proofs.Ytmbnfpifganeeaa
