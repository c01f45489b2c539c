/-
  MakeReply answers as the specification does, for all numbers and every answer.
  Conditions: none beyond the given row's own; the package variable that it reads starts as the program's text lays it (the card ties it).
-/
import Derived.Test.YtipoajjijalibaaDoorHashLaid
import Derived.Test.YtipoajjijalibaaDoorRyf
import Derived.Test.YtipoajjijalibaaDoorSlRow
import Derived.WalkKit
namespace Go.Proofs.YtipoajjijalibaaDoor.fnExactMakeReply
open Go.ChangeShapes Go.WideShapes Go.ChangeAt Go.RowKit
open Go.ChangeMaps (open_string shut_string)
open Go.Proofs.YtipoajjijalibaaDoor.Hl (own laidOut rowed door_met)

open Go.Proofs.YtipoajjijalibaaDoor.Gy (Re oneV Tz to1_any sz1_any eq1_same toA_any)
open Go.Proofs.YtipoajjijalibaaDoor.Ry
open Go.Proofs.YtipoajjijalibaaDoor.Rys (specReplyMac_any specMakeReply_any specReplyOK_any)
open Go.Proofs.YtipoajjijalibaaDoor.Sh (KTab KTab.below)
set_option maxRecDepth 100000 in
set_option maxHeartbeats 1600000 in
/-- THE WALK: both functions answer alike. -/
theorem walk (n : Int) {q0 : Prop} (_z0 : q0) (c : Int) {q1 : Prop} (_z1 : q1) (s : Int) {q2 : Prop} (_z2 : q2) (k t h e0 : Int) (w : World) (hK : KTab w) (hp : 0 < w.heap.size) :
    Calls Tryd.prog 5 #[.int .i64 n, .int .i64 c, .int .i64 s, .agg #[.int .i64 k, .int .i64 t, .int .i64 h, .int .i64 e0]] w fun e w' => e = .returned (.bool true) ∧ Below w.heap.size w w' := by
  have GK : Hid (KTab w ∧ 0 < w.heap.size) := ⟨hK, hp⟩
  have HKT : Hid (∀ W, Below w.heap.size w W → KTab W ∧ 0 < W.heap.size) := fun W hW => ⟨GK.out.1.below hW GK.out.2, Nat.lt_of_lt_of_le GK.out.2 hW.size⟩
  have HX : Hid (∀ W, Below (w.alloc (.cells #[.int .i64 k, .int .i64 t, .int .i64 h, .int .i64 e0] 39)).heap.size (w.alloc (.cells #[.int .i64 k, .int .i64 t, .int .i64 h, .int .i64 e0] 39)) W → (W.cell? ⟨w.heap.size, 0, none⟩ = some (.int .i64 k) ∧ W.cell? ⟨w.heap.size, 1, none⟩ = some (.int .i64 t) ∧ W.cell? ⟨w.heap.size, 2, none⟩ = some (.int .i64 h) ∧ W.cell? ⟨w.heap.size, 3, none⟩ = some (.int .i64 e0)) ∧ Below w.heap.size w W) := fun W hW => by
    have h1 := (hW.block w.heap.size (by simp)).trans (heap_alloc_new w _)
    exact ⟨⟨(Rg.blk_cell h1 0 rfl).1, (Rg.blk_cell h1 1 rfl).1, (Rg.blk_cell h1 2 rfl).1, (Rg.blk_cell h1 3 rfl).1⟩, (Rg.bel_new w _).trans (hW.mono (by simp))⟩
  have HTO : Hid (∀ W, Calls Tryd.prog 19 #[.agg #[.int .i64 k, .int .i64 t, .int .i64 h, .int .i64 e0]] W fun e w' => e = .returned (.agg #[.int .i64 k, .int .i64 t, .int .i64 h, .int .i64 e0]) ∧ Below W.heap.size W w') := fun W => toA_any k t h e0 W
  have HSP : Hid (∀ W, Calls Tryd.prog 11 #[.int .i64 n, .int .i64 c, .int .i64 s, .agg #[.int .i64 k, .int .i64 t, .int .i64 h, .int .i64 e0]] W fun e w' => e = .returned (.tuple #[oneV (mkR n c s k t h e0), .int .i64 (mkC n c s k t h e0)]) ∧ Below W.heap.size W w') := fun W => specMakeReply_any n c s k t h e0 W
  have HIM : Hid (∀ W, Below w.heap.size w W → Calls Tryd.prog 10 #[.int .i64 n, .int .i64 c, .int .i64 s, .agg #[.int .i64 k, .int .i64 t, .int .i64 h, .int .i64 e0]] W fun e w' => e = .returned (.tuple #[oneV (mkR n c s k t h e0), .int .i64 (mkC n c s k t h e0)]) ∧ Below W.heap.size W w') := fun W hW => implMakeReply_any n c s k t h e0 W (HKT.out W hW).1 (HKT.out W hW).2
  have HEQ0 : Hid (∀ W x, Calls Tryd.prog 20 #[oneV x, oneV x] W fun e w' => e = .returned (.bool true) ∧ Below W.heap.size W w') := fun W x => eq1_same x W
  clear hK hp GK HKT
  generalize mkR n c s k t h e0 = x at HSP HIM
  generalize mkC n c s k t h e0 = cc at HSP HIM
  have HEQ : Hid (∀ W, Calls Tryd.prog 20 #[oneV x, oneV x] W fun e w' => e = .returned (.bool true) ∧ Below W.heap.size W w') := fun W => HEQ0.out W x
  clear HEQ0
  have hcc : (cc != cc) = false := by simp
  unfold oneV at HSP HIM HEQ
  go_enter Tryd.func5, Tryd.ntmps5
  go_upto_region 1 with fail
  generalize w.alloc (.cells #[.int .i64 k, .int .i64 t, .int .i64 h, .int .i64 e0] 39) = wb at HX ⊢
  have B0 : Hid (Below wb.heap.size wb wb) := Below.refl _ _
  obtain ⟨⟨c0, c1, c2, c3⟩, _⟩ := HX.out _ B0.out
  go_wp2_with fail
  refine (HTO.out _).mono ?_
  rintro e w1 ⟨rfl, b1⟩
  have B1 : Hid (Below wb.heap.size wb w1) := B0.out.trans (b1.mono B0.out.size)
  clear b1 c0 c1 c2 c3
  go_wp2_with fail
  refine (HSP.out _).mono ?_
  rintro e w2 ⟨rfl, b2⟩
  have B2 : Hid (Below wb.heap.size wb w2) := B1.out.trans (b2.mono B1.out.size)
  clear b2
  have RB : Hid (∀ W, Below (w2.alloc (.cells #[.int .i64 x.nd, .int .i64 x.cl, .int .i64 x.st, .int .i64 x.kd, .int .i64 x.tk, .int .i64 x.hd, .int .i64 x.ex, .string x.mc] 30)).heap.size (w2.alloc (.cells #[.int .i64 x.nd, .int .i64 x.cl, .int .i64 x.st, .int .i64 x.kd, .int .i64 x.tk, .int .i64 x.hd, .int .i64 x.ex, .string x.mc] 30)) W → (W.cell? ⟨w2.heap.size, 0, none⟩ = some (.int .i64 x.nd) ∧ W.cell? ⟨w2.heap.size, 1, none⟩ = some (.int .i64 x.cl) ∧ W.cell? ⟨w2.heap.size, 2, none⟩ = some (.int .i64 x.st) ∧ W.cell? ⟨w2.heap.size, 3, none⟩ = some (.int .i64 x.kd) ∧ W.cell? ⟨w2.heap.size, 4, none⟩ = some (.int .i64 x.tk) ∧ W.cell? ⟨w2.heap.size, 5, none⟩ = some (.int .i64 x.hd) ∧ W.cell? ⟨w2.heap.size, 6, none⟩ = some (.int .i64 x.ex) ∧ W.cell? ⟨w2.heap.size, 7, none⟩ = some (.string x.mc)) ∧ Below wb.heap.size wb W) := fun W hW => by
    have h1 := (hW.block w2.heap.size (by simp)).trans (heap_alloc_new w2 _)
    exact ⟨⟨(Rg.blk_cell h1 0 rfl).1, (Rg.blk_cell h1 1 rfl).1, (Rg.blk_cell h1 2 rfl).1, (Rg.blk_cell h1 3 rfl).1, (Rg.blk_cell h1 4 rfl).1, (Rg.blk_cell h1 5 rfl).1, (Rg.blk_cell h1 6 rfl).1, (Rg.blk_cell h1 7 rfl).1⟩, B2.out.trans (((Rg.bel_new w2 _).trans (hW.mono (by simp))).mono B2.out.size)⟩
  go_upto_region 2 with fail
  generalize w2.alloc (.cells #[.int .i64 x.nd, .int .i64 x.cl, .int .i64 x.st, .int .i64 x.kd, .int .i64 x.tk, .int .i64 x.hd, .int .i64 x.ex, .string x.mc] 30) = wr at RB ⊢
  generalize w2.heap.size = br at RB ⊢
  obtain ⟨⟨c0, c1, c2, c3⟩, _⟩ := HX.out _ (RB.out _ (Below.refl _ _)).2
  go_wp2_with fail
  refine (HTO.out _).mono ?_
  rintro e w3 ⟨rfl, b3⟩
  have R3 : Hid (Below wr.heap.size wr w3) := b3
  clear b3 c0 c1 c2 c3
  go_wp2_with fail
  refine (HIM.out _ (HX.out _ (RB.out _ R3.out).2).2).mono ?_
  rintro e w4 ⟨rfl, b4⟩
  have R4 : Hid (Below wr.heap.size wr w4) := R3.out.trans (b4.mono R3.out.size)
  clear b4
  have R5 : Hid (Below wr.heap.size wr (w4.alloc (.cells #[.int .i64 x.nd, .int .i64 x.cl, .int .i64 x.st, .int .i64 x.kd, .int .i64 x.tk, .int .i64 x.hd, .int .i64 x.ex, .string x.mc] 30))) := R4.out.trans ((Rg.bel_new w4 _).mono R4.out.size)
  obtain ⟨⟨d0, d1, d2, d3, d4, d5, d6, d7⟩, _⟩ := RB.out _ R5.out
  go_wp2_with fail
  refine (HEQ.out _).mono ?_
  rintro e w5 ⟨rfl, b5⟩
  have G5 : Hid (Below w.heap.size w w5) := (HX.out _ (RB.out _ (R5.out.trans (b5.mono R5.out.size))).2).2
  clear b5 d0 d1 d2 d3 d4 d5 d6 d7
  go_wp2_with fail
  go_ret
  exact ⟨rfl, G5.out⟩

set_option maxRecDepth 100000 in
theorem lifted (os : Os) (started : os.Started) (H : Type) (enc : TypeId × Value → H) :
    ReturnsInHanded {} Tryd.checked os 5 .any (fun w args => (Rows.fnExactMakeReplySpec.pre enc Tryd.prog Tryd.f5 [] false w args ∧ laidMetH Tryd.prog Rows.fnExactMakeReplyRow.laid w) ∧ sizedMet enc Tryd.prog Tryd.f5 (OpenSpec.ofChange Rows.fnExactMakeReplySpec) false w args)
      (Rows.fnExactMakeReplySpec.post enc Tryd.prog Tryd.f5 false true false false) := by
  refine returnsInHanded_of_change_and (C := Tryd.checked) (X := fun w _ => laidMetH Tryd.prog Rows.fnExactMakeReplyRow.laid w) (fun _ _ _ hh h => h.of_heap hh) own started (by kernel_rfl) Tryd.func5
    (ChangeSpec.witness_shaped (enc := enc) (C := Tryd.checked) (os := os) (X := fun w _ => laidMetH Tryd.prog Rows.fnExactMakeReplyRow.laid w) false (World.doorLaid Tryd.prog 400 os) #[.int .i64 0, .int .i64 0, .int .i64 0, .agg #[.int .i64 0, .int .i64 0, .int .i64 0, .int .i64 0]] 8 rfl (World.shaped_of_RefB (by kernel_rfl) (by kernel_rfl)) (by kernel_rfl) (by kernel_rfl) (by kernel_rfl) (door_met os _)) ?_
  intro W base args ds gs before hval0 hW _ _ hL _
  have hval : ∀ (j : Nat) t v, Tryd.f5.params[j]? = some t → args[j]? = some v → Value.okWide Tryd.prog W .any base t v := hval0
  have hW' := hW
  obtain ⟨p, q, hA0, hV0, rfl, hfz, hnd⟩ := hW
  have hA : DataW.TrodAll enc Tryd.prog W 0 (fun _ => true) true Tryd.f5.params.toList args.toList ds p := hA0
  have hV : DataW.TrodVars enc Tryd.prog W (fun _ => true) ["loop.example/g00292/impl.roundWords"] gs q := hV0
  rw [Tryd.params5] at hA hval
  obtain ⟨v0, vs0, d0, ds0, p0, q0, hargs, rfl, rfl, h0, r0⟩ := trodAll_cons hA
  obtain ⟨v1, vs1, d1, ds1, p1, q1, rfl, rfl, rfl, h1, r1⟩ := trodAll_cons r0
  obtain ⟨v2, vs2, d2, ds2, p2, q2, rfl, rfl, rfl, h2, r2⟩ := trodAll_cons r1
  obtain ⟨v3, vs3, d3, ds3, p3, q3, rfl, rfl, rfl, h3, r3⟩ := trodAll_cons r2
  obtain ⟨rfl, rfl, rfl⟩ := trodAll_nil r3
  obtain rfl : args = #[v0, v1, v2, v3] := by cases args; simp_all
  obtain ⟨_, _, _, _, dv, _, rfl, _⟩ := trodVars_one hV
  have k00 := h0
  have lt0 : ∀ x ∈ p0, x.block < W.heap.size := by obtain ⟨m, hm⟩ := k00; exact DataW.trod_lt m _ _ _ hm
  obtain ⟨i0, rfl, rfl, rfl, z0⟩ := open_int Tryd.underlying3 (hval 0 3 v0 rfl rfl) h0
  have k10 := h1
  have lt1 : ∀ x ∈ p1, x.block < W.heap.size := by obtain ⟨m, hm⟩ := k10; exact DataW.trod_lt m _ _ _ hm
  obtain ⟨i1, rfl, rfl, rfl, z1⟩ := open_int Tryd.underlying3 (hval 1 3 v1 rfl rfl) h1
  have k20 := h2
  have lt2 : ∀ x ∈ p2, x.block < W.heap.size := by obtain ⟨m, hm⟩ := k20; exact DataW.trod_lt m _ _ _ hm
  obtain ⟨i2, rfl, rfl, rfl, z2⟩ := open_int Tryd.underlying3 (hval 2 3 v2 rfl rfl) h2
  have k30 := h3
  have lt3 : ∀ x ∈ p3, x.block < W.heap.size := by obtain ⟨m, hm⟩ := k30; exact DataW.trod_lt m _ _ _ hm
  obtain ⟨ak3, at3, ah3, ae3, rfl⟩ := Op.open_answer (hval 3 39 v3 rfl rfl) h3
  clear hA0 hval0 hV0
  have hT := Hl.tab_of hL
  refine (walk i0 z0 i1 z1 i2 z2 ak3 at3 ah3 ae3 W hT.1 hT.2).mono fun e W' ⟨he, bel⟩ => ?_
  subst he
  exact ⟨_, rfl, _, _, _, [], _, q, hW', trodAll_mk1 (shut_bool Tryd.underlying4 _), (trodAll_cons_mk (Below.trod laidOut (by kernel_rfl) (of_decide_eq_true (by kernel_rfl)) k00 bel lt0) (trodAll_cons_mk (Below.trod laidOut (by kernel_rfl) (of_decide_eq_true (by kernel_rfl)) k10 bel lt1) (trodAll_cons_mk (Below.trod laidOut (by kernel_rfl) (of_decide_eq_true (by kernel_rfl)) k20 bel lt2) (trodAll_cons_mk (Below.trod laidOut (by kernel_rfl) (of_decide_eq_true (by kernel_rfl)) k30 bel lt3) trodAll_mk0)))), Below.trodVars laidOut bel rowed hV, bel.frame _, fun h => by cases h⟩

theorem said : Rows.FnExactMakeReplySaid :=
  OpenClaim.holds_of_wide 5 Tryd.f5 rfl rfl rfl rfl rfl rfl rfl ⟨rfl, rfl, rfl, rfl, rfl⟩ rfl rfl rfl rfl rfl (by kernel_rfl) Tryd.func5 (by kernel_rfl)
    (of_decide_eq_true (by kernel_rfl)) (by unfold Func.isWrapper; first | (rw [if_pos (by decide +kernel)]; kernel_rfl) | (rw [if_neg (by decide +kernel)]; exact ⟨rfl, rfl⟩))
    (fun os started H enc _ => lifted os started H enc)

/-- No parameter wants a stand-in; the program's own looks are off. -/
theorem plain (f : FuncId) (fn : Func) (hf : Tryd.pinned.checked.prog.funcNamed "loop.example/g00292/laws.FnExactMakeReply" = some f) (hfn : Tryd.pinned.checked.prog.funcs[f]? = some fn) :
    false = Tryd.pinned.checked.prog.looks [] ∧ ∀ (j : Nat) t, fn.params[j]? = some t → Tryd.pinned.checked.prog.wantsStandIn t = false := by
  obtain rfl : f = 5 := Option.some.inj ((show Tryd.prog.funcNamed "loop.example/g00292/laws.FnExactMakeReply" = some 5 by kernel_rfl).symm.trans hf) |>.symm
  obtain rfl : fn = Tryd.f5 := (Option.some.inj (Tryd.func5.symm.trans hfn)).symm
  refine ⟨by kernel_rfl, fun j t ht => ?_⟩
  rw [Tryd.params5] at ht
  have hm := Array.mem_of_getElem? ht
  have hl : t ∈ [3, 3, 3, 39] := by simpa using hm
  have hall : ∀ x ∈ [3, 3, 3, 39], Tryd.prog.wantsStandIn x = false := by
    intro x hx
    simp only [List.mem_cons, List.not_mem_nil, or_false] at hx
    rcases hx with rfl | rfl | rfl | rfl <;> kernel_rfl
  exact hall t hl
end Go.Proofs.YtipoajjijalibaaDoor.fnExactMakeReply
namespace Go.Proofs.YtipoajjijalibaaDoor
/-- THE STATEMENT: the card. -/
theorem fnExactMakeReply_holds : Rows.FnExactMakeReplyCardSaid :=
  Claim7.holds_tied_plain_at .later [] _ _ _ _ fnExactMakeReply.said (fun _ h => by cases h) (by kernel_rfl) (fun _ h => by cases h) fnExactMakeReply_row_tie rfl ⟨rfl, rfl⟩ (by kernel_rfl) rfl fnExactMakeReply.plain (by kernel_rfl)
end Go.Proofs.YtipoajjijalibaaDoor
