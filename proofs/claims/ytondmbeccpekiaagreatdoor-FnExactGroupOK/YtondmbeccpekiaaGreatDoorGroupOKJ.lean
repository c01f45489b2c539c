/-
  impl.GroupOK answers at every group just what the specification's GroupOK answers.
  Conditions: none beyond the given row's own; the package variable that it reads starts as the program's text lays it (the card ties it).
-/
import Derived.Test.YtondmbeccpekiaaGreatDoorH42
import Derived.Test.YtondmbeccpekiaaGreatDoorH44
import Derived.Test.YtondmbeccpekiaaGreatDoorH45
import Derived.Test.YtondmbeccpekiaaGreatDoorH46
import Derived.Test.YtondmbeccpekiaaGreatDoorH47
import Derived.WalkKit
namespace Go.Proofs.YtondmbeccpekiaaGreatDoor.fnExactGroupOK
open Go.ChangeShapes Go.WideShapes Go.ChangeAt Go.RowKit
open Go.ChangeMaps (open_string shut_string)
open Go.Proofs.YtondmbeccpekiaaGreatDoor.Hl (own laidOut rowed door_met)

open Go.Proofs.YtondmbeccpekiaaGreatDoor.Sl Go.Proofs.YtondmbeccpekiaaGreatDoor.Sh Go.Proofs.YtondmbeccpekiaaGreatDoor.Rg Go.Proofs.YtondmbeccpekiaaGreatDoor.Gm Go.Proofs.YtondmbeccpekiaaGreatDoor.Yr Go.Proofs.YtondmbeccpekiaaGreatDoor.Zg
set_option maxRecDepth 100000 in
set_option maxHeartbeats 3200000 in
/-- THE WALK: both functions answer alike. -/
theorem walk (r : Gp) (vs vc vl vh : Value) (w : World) (hrow : GrpR w r vs vc vl vh) (hz : Zq maxLen r) (hK : KTab w) (hp : 0 < w.heap.size) :
    Calls Tryz.prog 3 #[gpV r vs vc vl vh] w fun e w' => e = .returned (.bool true) ∧ Below w.heap.size w w' := by
  have GK : Hid (∀ W, Below w.heap.size w W → KTab W ∧ 0 < W.heap.size) := fun W hW => ⟨hK.below hW hp, Nat.lt_of_lt_of_le hp hW.size⟩
  have HR : Hid (GrpR w r vs vc vl vh) := hrow
  have HM : Hid (Zq maxLen r) := hz
  clear hrow hz hK hp
  have HTO : Hid (Zq 1048576 r → ∀ W, GrpR W r vs vc vl vh → Calls Tryz.prog 9 #[gpV r vs vc vl vh] W fun e w' => ∃ us uc ul uh, e = .returned (gpV r us uc ul uh) ∧ GrpA W.heap.size w' r us uc ul uh ∧ Below W.heap.size W w') := fun hz W h => toGroup_any r vs vc vl vh W h hz
  have HSZ : Hid (∀ W, GrpR W r vs vc vl vh → Calls Tryz.prog 7 #[gpV r vs vc vl vh, .int .i64 1048576] W fun e w' => (∃ q : Int, e = .returned (.int .i64 q) ∧ (q = -1 ∨ ∃ p : Nat, q = p ∧ p ≤ 1048576 ∧ Zq 1048576 r)) ∧ Below W.heap.size W w') := fun W h => szGroup_any r vs vc vl vh W h HM.out
  have HEQ : Hid (Zq 1048576 r → ∀ W u1 u2 u3 u4 t1 t2 t3 t4, GrpR W r u1 u2 u3 u4 → GrpR W r t1 t2 t3 t4 → Calls Tryz.prog 11 #[gpV r u1 u2 u3 u4, gpV r t1 t2 t3 t4] W fun e w' => e = .returned (.bool true) ∧ Below W.heap.size W w') := fun hz W u1 u2 u3 u4 t1 t2 t3 t4 h g => eqGroup_same r u1 u2 u3 u4 t1 t2 t3 t4 W h g hz
  unfold gpV at HTO HSZ HEQ ⊢
  have HBX : Hid (Below w.heap.size w (w.alloc (.cells #[.int .i64 r.n, vs, vc, vl, vh] 27))) := bel_new _ _
  have HCX : Hid (∀ W, Below (w.alloc (.cells #[.int .i64 r.n, vs, vc, vl, vh] 27)).heap.size (w.alloc (.cells #[.int .i64 r.n, vs, vc, vl, vh] 27)) W → (W.cell? ⟨w.heap.size, 0, none⟩ = some (.int .i64 r.n) ∧ W.cell? ⟨w.heap.size, 1, none⟩ = some (vs) ∧ W.cell? ⟨w.heap.size, 2, none⟩ = some (vc) ∧ W.cell? ⟨w.heap.size, 3, none⟩ = some (vl) ∧ W.cell? ⟨w.heap.size, 4, none⟩ = some (vh)) ∧ GrpR W r vs vc vl vh ∧ Below w.heap.size w W) := fun W hW => by
    have h1 := (hW.block w.heap.size (by simp)).trans (heap_alloc_new w _)
    exact ⟨⟨(blk_cell h1 0 rfl).1, (blk_cell h1 1 rfl).1, (blk_cell h1 2 rfl).1, (blk_cell h1 3 rfl).1, (blk_cell h1 4 rfl).1⟩, (HR.out.below HBX.out).below hW, HBX.out.trans (hW.mono HBX.out.size)⟩
  go_enter Tryz.func3, Tryz.ntmps3
  go_upto_region 1 with fail
  generalize w.alloc (.cells #[.int .i64 r.n, vs, vc, vl, vh] 27) = wb at HCX HBX ⊢
  obtain ⟨⟨x0, x1, x2, x3, x4⟩, r1, _⟩ := HCX.out wb (Below.refl _ _)
  have HRB : Hid (GrpR wb r vs vc vl vh) := r1
  clear r1 HR
  go_wp2_with fail
  refine (HSZ.out _ HRB.out).mono ?_
  rintro e w1 ⟨⟨rr, rfl, hr⟩, b1⟩
  have B1 : Hid (Below wb.heap.size wb w1) := b1
  clear b1 x0 x1 x2 x3 x4
  rcases hr with rfl | ⟨q, rfl, _, hzr⟩
  · have HE : Hid (Below w.heap.size w w1) := (HCX.out w1 B1.out).2.2
    go_wp2_with fail
    go_ret
    exact ⟨rfl, HE.out⟩
  have hq' : ¬ (q : Int) < 0 := by omega
  have HT2 := HTO.out hzr
  have HE2 := HEQ.out hzr
  have HTO2 : Hid (∀ W, GrpR W r vs vc vl vh → Calls Tryz.prog 9 #[.agg #[.int .i64 r.n, vs, vc, vl, vh]] W fun e w' => ∃ us uc ul uh, e = .returned (.agg #[.int .i64 r.n, us, uc, ul, uh]) ∧ GrpA W.heap.size w' r us uc ul uh ∧ Below W.heap.size W w') := HT2
  have HEQ2 : Hid (∀ W u1 u2 u3 u4 t1 t2 t3 t4, GrpR W r u1 u2 u3 u4 → GrpR W r t1 t2 t3 t4 → Calls Tryz.prog 11 #[.agg #[.int .i64 r.n, u1, u2, u3, u4], .agg #[.int .i64 r.n, t1, t2, t3, t4]] W fun e w' => e = .returned (.bool true) ∧ Below W.heap.size W w') := HE2
  have HSP : Hid (∀ W u1 u2 u3 u4, GrpR W r u1 u2 u3 u4 → Calls Tryz.prog 8 #[.agg #[.int .i64 r.n, u1, u2, u3, u4]] W fun e w' => e = .returned (.bool (grpB r)) ∧ Below W.heap.size W w') := fun W u1 u2 u3 u4 h => specGroupOK_any r u1 u2 u3 u4 W h hzr
  have HIM : Hid (∀ W u1 u2 u3 u4, GrpR W r u1 u2 u3 u4 → Below w.heap.size w W → Calls Tryz.prog 10 #[.agg #[.int .i64 r.n, u1, u2, u3, u4]] W fun e w' => e = .returned (.bool (grpB r)) ∧ Below W.heap.size W w') := fun W u1 u2 u3 u4 h hW => implGroupOK_any r u1 u2 u3 u4 W h hzr (GK.out W hW).1 (GK.out W hW).2
  clear HTO HEQ HT2 HE2 hzr HSZ
  generalize grpB r = o at HSP HIM
  have hcc : (o != o) = false := by simp
  obtain ⟨⟨x0, x1, x2, x3, x4⟩, r1, _⟩ := HCX.out w1 B1.out
  have HRC : Hid (GrpR w1 r vs vc vl vh) := r1
  clear r1
  go_wp2_with fail
  refine (HTO2.out _ HRC.out).mono ?_
  rintro e w2 ⟨us, uc, ul, uh, rfl, ra, b2⟩
  have B2 : Hid (Below wb.heap.size wb w2) := B1.out.trans (b2.mono B1.out.size)
  have R2 : Hid (GrpR w2 r us uc ul uh) := ra.grp
  clear b2 ra HRC B1 x0 x1 x2 x3 x4
  go_wp2_with fail
  refine (HSP.out _ _ _ _ _ R2.out).mono ?_
  rintro e w3 ⟨rfl, b3⟩
  have B3 : Hid (Below wb.heap.size wb w3) := B2.out.trans (b3.mono B2.out.size)
  clear b3 R2 B2
  obtain ⟨⟨x0, x1, x2, x3, x4⟩, r1, _⟩ := HCX.out w3 B3.out
  have HRC : Hid (GrpR w3 r vs vc vl vh) := r1
  clear r1
  go_wp2_with fail
  refine (HTO2.out _ HRC.out).mono ?_
  rintro e w4 ⟨us, uc, ul, uh, rfl, ra, b4⟩
  have B4 : Hid (Below wb.heap.size wb w4) := B3.out.trans (b4.mono B3.out.size)
  have ra4 := ra.grp
  obtain ⟨a4, k4, rfl⟩ := RowG.slice ra.f
  obtain ⟨a5, k5, rfl⟩ := RowG.slice ra.r
  obtain ⟨a6, k6, rfl⟩ := RowG.slice ra.p
  obtain ⟨a7, k7, rfl⟩ := RowG.slice ra.s
  have R4 : Hid (GrpR w4 r (.slice a4 r.fa.length k4) (.slice a5 r.rs.length k5) (.slice a6 r.wi.length k6) (.slice a7 r.se.length k7)) := ra4
  clear b4 ra ra4 HRC x0 x1 x2 x3 x4
  have HD : Hid (∀ W, Below (w4.alloc (.cells #[.int .i64 r.n, .slice a4 r.fa.length k4, .slice a5 r.rs.length k5, .slice a6 r.wi.length k6, .slice a7 r.se.length k7] 34)).heap.size (w4.alloc (.cells #[.int .i64 r.n, .slice a4 r.fa.length k4, .slice a5 r.rs.length k5, .slice a6 r.wi.length k6, .slice a7 r.se.length k7] 34)) W → (W.cell? ⟨w4.heap.size, 0, none⟩ = some (.int .i64 r.n) ∧ W.cell? ⟨w4.heap.size, 1, none⟩ = some (.slice a4 r.fa.length k4) ∧ W.cell? ⟨w4.heap.size, 2, none⟩ = some (.slice a5 r.rs.length k5) ∧ W.cell? ⟨w4.heap.size, 3, none⟩ = some (.slice a6 r.wi.length k6) ∧ W.cell? ⟨w4.heap.size, 4, none⟩ = some (.slice a7 r.se.length k7)) ∧ GrpR W r (.slice a4 r.fa.length k4) (.slice a5 r.rs.length k5) (.slice a6 r.wi.length k6) (.slice a7 r.se.length k7) ∧ Below w4.heap.size w4 W) := fun W hW => by
    have h1 := (hW.block w4.heap.size (by simp)).trans (heap_alloc_new w4 _)
    exact ⟨⟨(blk_cell h1 0 rfl).1, (blk_cell h1 1 rfl).1, (blk_cell h1 2 rfl).1, (blk_cell h1 3 rfl).1, (blk_cell h1 4 rfl).1⟩, (R4.out.below (bel_new _ _)).below hW, (bel_new w4 _).trans (hW.mono (by simp))⟩
  go_upto_region 7 with fail
  generalize w4.alloc (.cells #[.int .i64 r.n, .slice a4 r.fa.length k4, .slice a5 r.rs.length k5, .slice a6 r.wi.length k6, .slice a7 r.se.length k7] 34) = wd at HD ⊢
  obtain ⟨⟨x0, x1, x2, x3, x4⟩, r1, hbd4⟩ := HD.out wd (Below.refl _ _)
  have RD : Hid (GrpR wd r (.slice a4 r.fa.length k4) (.slice a5 r.rs.length k5) (.slice a6 r.wi.length k6) (.slice a7 r.se.length k7)) := r1
  have B4D : Hid (Below w4.heap.size w4 wd) := hbd4
  have BWD : Hid (Below w.heap.size w wd) := (HCX.out _ (B4.out.trans (B4D.out.mono B4.out.size))).2.2
  clear r1 hbd4 R4
  go_wp2_with fail
  refine (HIM.out _ _ _ _ _ RD.out BWD.out).mono ?_
  rintro e w5 ⟨rfl, b5⟩
  have B6 : Hid (Below wd.heap.size wd w5) := b5
  clear b5 x0 x1 x2 x3 x4 RD
  go_upto_region 10 with fail
  have HSA : Hid (∀ W, Below w5.heap.size w5 W → ((W.cell? ⟨w.heap.size, 0, none⟩ = some (.int .i64 r.n) ∧ W.cell? ⟨w.heap.size, 1, none⟩ = some (vs) ∧ W.cell? ⟨w.heap.size, 2, none⟩ = some (vc) ∧ W.cell? ⟨w.heap.size, 3, none⟩ = some (vl) ∧ W.cell? ⟨w.heap.size, 4, none⟩ = some (vh)) ∧ (W.cell? ⟨w4.heap.size, 0, none⟩ = some (.int .i64 r.n) ∧ W.cell? ⟨w4.heap.size, 1, none⟩ = some (.slice a4 r.fa.length k4) ∧ W.cell? ⟨w4.heap.size, 2, none⟩ = some (.slice a5 r.rs.length k5) ∧ W.cell? ⟨w4.heap.size, 3, none⟩ = some (.slice a6 r.wi.length k6) ∧ W.cell? ⟨w4.heap.size, 4, none⟩ = some (.slice a7 r.se.length k7))) ∧ GrpR W r vs vc vl vh ∧ GrpR W r (.slice a4 r.fa.length k4) (.slice a5 r.rs.length k5) (.slice a6 r.wi.length k6) (.slice a7 r.se.length k7) ∧ Below w.heap.size w W) := fun W hW => by
    have hW2 := B6.out.trans (hW.mono B6.out.size)
    obtain ⟨k1, k2, k3⟩ := HD.out W hW2
    obtain ⟨j1, j2, j3⟩ := HCX.out W (B4.out.trans (k3.mono B4.out.size))
    exact ⟨⟨j1, k1⟩, j2, k2, j3⟩
  obtain ⟨⟨⟨x0, x1, x2, x3, x4⟩, ⟨y0, y1, y2, y3, y4⟩⟩, _, _, _⟩ := HSA.out w5 (Below.refl _ _)
  go_region_held (fun W => (W.cell? ⟨w.heap.size, 0, none⟩ = some (.int .i64 r.n) ∧ W.cell? ⟨w.heap.size, 1, none⟩ = some (vs) ∧ W.cell? ⟨w.heap.size, 2, none⟩ = some (vc) ∧ W.cell? ⟨w.heap.size, 3, none⟩ = some (vl) ∧ W.cell? ⟨w.heap.size, 4, none⟩ = some (vh)) ∧ (W.cell? ⟨w4.heap.size, 0, none⟩ = some (.int .i64 r.n) ∧ W.cell? ⟨w4.heap.size, 1, none⟩ = some (.slice a4 r.fa.length k4) ∧ W.cell? ⟨w4.heap.size, 2, none⟩ = some (.slice a5 r.rs.length k5) ∧ W.cell? ⟨w4.heap.size, 3, none⟩ = some (.slice a6 r.wi.length k6) ∧ W.cell? ⟨w4.heap.size, 4, none⟩ = some (.slice a7 r.se.length k7))) (first | exact (HSA.out _ Qc.from_drew).1 | exact (HSA.out _ B7.out).1 | exact (HSA.out _ B8.out).1)
    (first | (go_at_call 9; refine (HTO2.out _ (HSA.out _ Qc.from_drew).2.1).mono ?_; rintro e w7 ⟨us7, uc7, ul7, uh7, rfl, ra7, b7⟩; have B7 : Hid (Below w5.heap.size w5 w7) := Qc.from_drew.trans b7; have R7 : Hid (GrpR w7 r us7 uc7 ul7 uh7) := ra7.grp; clear ra7 b7) | (go_at_call 11; refine (HEQ2.out _ _ _ _ _ _ _ _ _ (HSA.out _ B7.out).2.2.1 R7.out).mono ?_; rintro e w8 ⟨rfl, b8⟩; have B8 : Hid (Below w5.heap.size w5 w8) := B7.out.trans (b8.mono B7.out.size); clear b8))
  have G8 : Hid (Below w.heap.size w w8) := (HSA.out w8 B8.out).2.2.2
  clear x0 x1 x2 x3 x4 y0 y1 y2 y3 y4 B7 R7 B8 HSA
  go_wp2_with fail
  go_ret
  exact ⟨rfl, G8.out⟩

set_option maxRecDepth 100000 in
theorem lifted (os : Os) (started : os.Started) (H : Type) (enc : TypeId × Value → H) :
    ReturnsInHanded {} Tryz.checked os 3 .any (fun w args => (Rows.fnExactGroupOKSpec.pre enc Tryz.prog Tryz.f3 [] false w args ∧ laidMetH Tryz.prog Rows.fnExactGroupOKRow.laid w) ∧ sizedMet enc Tryz.prog Tryz.f3 (OpenSpec.ofChange Rows.fnExactGroupOKSpec) false w args)
      (Rows.fnExactGroupOKSpec.post enc Tryz.prog Tryz.f3 false true false false) := by
  refine returnsInHanded_of_change_and (C := Tryz.checked) (X := fun w _ => laidMetH Tryz.prog Rows.fnExactGroupOKRow.laid w) (fun _ _ _ hh h => h.of_heap hh) own started (by kernel_rfl) Tryz.func3
    (ChangeSpec.witness_shaped (enc := enc) (C := Tryz.checked) (os := os) (X := fun w _ => laidMetH Tryz.prog Rows.fnExactGroupOKRow.laid w) false (World.doorLaid Tryz.prog 400 os) #[.agg #[.int .i64 0, .slice none 0 0, .slice none 0 0, .slice none 0 0, .slice none 0 0]] 8 rfl (World.shaped_of_RefB (by kernel_rfl) (by kernel_rfl)) (by kernel_rfl) (by kernel_rfl) (by kernel_rfl) (door_met os _)) ?_
  intro W base args ds gs before hval0 hW _ _ hL _
  have hval : ∀ (j : Nat) t v, Tryz.f3.params[j]? = some t → args[j]? = some v → Value.okWide Tryz.prog W .any base t v := hval0
  have hW' := hW
  obtain ⟨p, q, hA0, hV0, rfl, hfz, hnd⟩ := hW
  have hA : DataW.TrodAll enc Tryz.prog W 0 (fun _ => true) true Tryz.f3.params.toList args.toList ds p := hA0
  have hV : DataW.TrodVars enc Tryz.prog W (fun _ => true) ["loop.example/g00292/impl.roundWords"] gs q := hV0
  rw [Tryz.params3] at hA hval
  obtain ⟨v0, vs0, d0, ds0, p0, q0, hargs, rfl, rfl, h0, r0⟩ := trodAll_cons hA
  obtain ⟨rfl, rfl, rfl⟩ := trodAll_nil r0
  obtain rfl : args = #[v0] := by cases args; simp_all
  obtain ⟨_, _, _, _, dv, _, rfl, _⟩ := trodVars_one hV
  have k00 := h0
  have lt0 : ∀ x ∈ p0, x.block < W.heap.size := by obtain ⟨m, hm⟩ := k00; exact DataW.trod_lt m _ _ _ hm
  obtain ⟨rp0, us0, uc0, ul0, uh0, rfl, wr0, zr0⟩ := Op.open_group (hval 0 27 v0 rfl rfl) h0
  clear hA0 hval0 hV0
  have hT := Hl.tab_of hL
  refine (walk rp0 us0 uc0 ul0 uh0 W wr0 zr0 hT.1 hT.2).mono fun e W' ⟨he, bel⟩ => ?_
  subst he
  exact ⟨_, rfl, _, _, _, [], _, q, hW', trodAll_mk1 (shut_bool Tryz.underlying4 _), (trodAll_cons_mk (Below.trod laidOut (by kernel_rfl) (of_decide_eq_true (by kernel_rfl)) k00 bel lt0) trodAll_mk0), Below.trodVars laidOut bel rowed hV, bel.frame _, fun h => by cases h⟩

theorem said : Rows.FnExactGroupOKSaid :=
  OpenClaim.holds_of_wide 3 Tryz.f3 rfl rfl rfl rfl rfl rfl rfl ⟨rfl, rfl, rfl, rfl, rfl⟩ rfl rfl rfl rfl rfl (by kernel_rfl) Tryz.func3 (by kernel_rfl)
    (of_decide_eq_true (by kernel_rfl)) (by unfold Func.isWrapper; first | (rw [if_pos (by decide +kernel)]; kernel_rfl) | (rw [if_neg (by decide +kernel)]; exact ⟨rfl, rfl⟩))
    (fun os started H enc _ => lifted os started H enc)

/-- No parameter wants a stand-in; the program's own looks are off. -/
theorem plain (f : FuncId) (fn : Func) (hf : Tryz.pinned.checked.prog.funcNamed "loop.example/g00292/laws.FnExactGroupOK" = some f) (hfn : Tryz.pinned.checked.prog.funcs[f]? = some fn) :
    true = Tryz.pinned.checked.prog.looks [] ∧ ∀ (j : Nat) t, fn.params[j]? = some t → Tryz.pinned.checked.prog.wantsStandIn t = false := by
  obtain rfl : f = 3 := Option.some.inj ((show Tryz.prog.funcNamed "loop.example/g00292/laws.FnExactGroupOK" = some 3 by kernel_rfl).symm.trans hf) |>.symm
  obtain rfl : fn = Tryz.f3 := (Option.some.inj (Tryz.func3.symm.trans hfn)).symm
  refine ⟨by kernel_rfl, fun j t ht => ?_⟩
  rw [Tryz.params3] at ht
  have hm := Array.mem_of_getElem? ht
  have hl : t ∈ [27] := by simpa using hm
  have hall : ∀ x ∈ [27], Tryz.prog.wantsStandIn x = false := by
    intro x hx
    simp only [List.mem_cons, List.not_mem_nil, or_false] at hx
    rcases hx with rfl <;> kernel_rfl
  exact hall t hl
end Go.Proofs.YtondmbeccpekiaaGreatDoor.fnExactGroupOK
namespace Go.Proofs.YtondmbeccpekiaaGreatDoor
/-- THE STATEMENT: the card. -/
theorem fnExactGroupOK_holds : Rows.FnExactGroupOKCardSaid :=
  Claim7.holds_tied_plain_at .later [] _ _ _ _ fnExactGroupOK.said (fun _ h => by cases h) (by kernel_rfl) (fun _ h => by cases h) fnExactGroupOK_row_tie rfl ⟨rfl, rfl⟩ (by kernel_rfl) rfl fnExactGroupOK.plain (by kernel_rfl)
end Go.Proofs.YtondmbeccpekiaaGreatDoor
