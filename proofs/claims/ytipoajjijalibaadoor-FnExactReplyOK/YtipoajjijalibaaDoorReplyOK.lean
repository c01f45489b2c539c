/-
  ReplyOK answers as the specification does, for every number of nodes and every reply.
  Conditions: none beyond the given row's own; the package variable that it reads starts as the program's text lays it (the card ties it).
-/
import Derived.Test.YtipoajjijalibaaDoorHashLaid
import Derived.Test.YtipoajjijalibaaDoorRyf
import Derived.Test.YtipoajjijalibaaDoorSlRow
import Derived.WalkKit
namespace Go.Proofs.YtipoajjijalibaaDoor.fnExactReplyOK
open Go.ChangeShapes Go.WideShapes Go.ChangeAt Go.RowKit
open Go.ChangeMaps (open_string shut_string)
open Go.Proofs.YtipoajjijalibaaDoor.Hl (own laidOut rowed door_met)

open Go.Proofs.YtipoajjijalibaaDoor.Gy (Re oneV Tz to1_any sz1_any eq1_same toA_any)
open Go.Proofs.YtipoajjijalibaaDoor.Ry
open Go.Proofs.YtipoajjijalibaaDoor.Rys (specReplyMac_any specMakeReply_any specReplyOK_any)
open Go.Proofs.YtipoajjijalibaaDoor.Sh (KTab KTab.below)
set_option maxRecDepth 100000 in
set_option maxHeartbeats 1600000 in
/-- THE WALK: both functions answer alike. -/
theorem walk (n : Int) {q0 : Prop} (_z0 : q0) (x : Re) (hm : Tz maxLen x) (w : World) (hK : KTab w) (hp : 0 < w.heap.size) :
    Calls Tryd.prog 6 #[.int .i64 n, oneV x] w fun e w' => e = .returned (.bool true) ∧ Below w.heap.size w w' := by
  have GK : Hid (KTab w ∧ 0 < w.heap.size) := ⟨hK, hp⟩
  have HKT : Hid (∀ W, Below w.heap.size w W → KTab W ∧ 0 < W.heap.size) := fun W hW => ⟨GK.out.1.below hW GK.out.2, Nat.lt_of_lt_of_le GK.out.2 hW.size⟩
  have HX : Hid (∀ W, Below (w.alloc (.cells #[.int .i64 x.nd, .int .i64 x.cl, .int .i64 x.st, .int .i64 x.kd, .int .i64 x.tk, .int .i64 x.hd, .int .i64 x.ex, .string x.mc] 41)).heap.size (w.alloc (.cells #[.int .i64 x.nd, .int .i64 x.cl, .int .i64 x.st, .int .i64 x.kd, .int .i64 x.tk, .int .i64 x.hd, .int .i64 x.ex, .string x.mc] 41)) W → (W.cell? ⟨w.heap.size, 0, none⟩ = some (.int .i64 x.nd) ∧ W.cell? ⟨w.heap.size, 1, none⟩ = some (.int .i64 x.cl) ∧ W.cell? ⟨w.heap.size, 2, none⟩ = some (.int .i64 x.st) ∧ W.cell? ⟨w.heap.size, 3, none⟩ = some (.int .i64 x.kd) ∧ W.cell? ⟨w.heap.size, 4, none⟩ = some (.int .i64 x.tk) ∧ W.cell? ⟨w.heap.size, 5, none⟩ = some (.int .i64 x.hd) ∧ W.cell? ⟨w.heap.size, 6, none⟩ = some (.int .i64 x.ex) ∧ W.cell? ⟨w.heap.size, 7, none⟩ = some (.string x.mc)) ∧ Below w.heap.size w W) := fun W hW => by
    have h1 := (hW.block w.heap.size (by simp)).trans (heap_alloc_new w _)
    exact ⟨⟨(Rg.blk_cell h1 0 rfl).1, (Rg.blk_cell h1 1 rfl).1, (Rg.blk_cell h1 2 rfl).1, (Rg.blk_cell h1 3 rfl).1, (Rg.blk_cell h1 4 rfl).1, (Rg.blk_cell h1 5 rfl).1, (Rg.blk_cell h1 6 rfl).1, (Rg.blk_cell h1 7 rfl).1⟩, (Rg.bel_new w _).trans (hW.mono (by simp))⟩
  have HSZ : Hid (∀ W, Calls Tryd.prog 16 #[oneV x, .int .i64 (1048576 : Nat)] W fun e w' => (∃ r : Int, e = .returned (.int .i64 r) ∧ (r = -1 ∨ ∃ q : Nat, r = q ∧ q ≤ 1048576 ∧ Tz 1048576 x)) ∧ Below W.heap.size W w') := fun W => sz1_any x 1048576 W (by decide) hm
  have HTO : Hid (∀ W, Calls Tryd.prog 18 #[oneV x] W fun e w' => e = .returned (oneV x) ∧ Below W.heap.size W w') := fun W => to1_any x W
  have HSP : Hid (∀ W, Calls Tryd.prog 21 #[.int .i64 n, oneV x] W fun e w' => e = .returned (.bool (rokB n x)) ∧ Below W.heap.size W w') := fun W => specReplyOK_any n x W
  have HIM : Hid (∀ W, Below w.heap.size w W → Calls Tryd.prog 13 #[.int .i64 n, oneV x] W fun e w' => e = .returned (.bool (rokB n x)) ∧ Below W.heap.size W w') := fun W hW => implReplyOK_any n x W (HKT.out W hW).1 (HKT.out W hW).2
  clear hK hp hm GK HKT
  generalize rokB n x = o at HSP HIM
  have hne2 : (o != o) = false := by simp
  unfold oneV at HSZ HTO HSP HIM ⊢
  go_enter Tryd.func6, Tryd.ntmps6
  go_upto_region 1 with fail
  generalize w.alloc (.cells #[.int .i64 x.nd, .int .i64 x.cl, .int .i64 x.st, .int .i64 x.kd, .int .i64 x.tk, .int .i64 x.hd, .int .i64 x.ex, .string x.mc] 41) = wb at HX ⊢
  have B0 : Hid (Below wb.heap.size wb wb) := Below.refl _ _
  obtain ⟨⟨c0, c1, c2, c3, c4, c5, c6, c7⟩, _⟩ := HX.out _ B0.out
  go_wp2_with fail
  refine (HSZ.out _).mono ?_
  rintro e w1 ⟨⟨r, rfl, hr⟩, b1⟩
  have B1 : Hid (Below wb.heap.size wb w1) := B0.out.trans (b1.mono B0.out.size)
  clear b1 c0 c1 c2 c3 c4 c5 c6 c7
  rcases hr with rfl | ⟨q, rfl, _, _⟩
  · have G1 : Hid (Below w.heap.size w w1) := (HX.out _ B1.out).2
    clear HX
    go_wp2_with fail
    go_ret
    exact ⟨rfl, G1.out⟩
  have hq0 : ¬ (q : Int) < 0 := by omega
  obtain ⟨⟨c0, c1, c2, c3, c4, c5, c6, c7⟩, _⟩ := HX.out _ B1.out
  go_wp2_with fail
  refine (HTO.out _).mono ?_
  rintro e w2 ⟨rfl, b2⟩
  have B2 : Hid (Below wb.heap.size wb w2) := B1.out.trans (b2.mono B1.out.size)
  clear b2 c0 c1 c2 c3 c4 c5 c6 c7
  obtain ⟨⟨c0, c1, c2, c3, c4, c5, c6, c7⟩, _⟩ := HX.out _ B2.out
  go_wp2_with fail
  refine (HSP.out _).mono ?_
  rintro e w3 ⟨rfl, b3⟩
  have B3 : Hid (Below wb.heap.size wb w3) := B2.out.trans (b3.mono B2.out.size)
  clear b3 c0 c1 c2 c3 c4 c5 c6 c7
  obtain ⟨⟨c0, c1, c2, c3, c4, c5, c6, c7⟩, _⟩ := HX.out _ B3.out
  go_wp2_with fail
  refine (HTO.out _).mono ?_
  rintro e w4 ⟨rfl, b4⟩
  have B4 : Hid (Below wb.heap.size wb w4) := B3.out.trans (b4.mono B3.out.size)
  clear b4 c0 c1 c2 c3 c4 c5 c6 c7
  obtain ⟨⟨c0, c1, c2, c3, c4, c5, c6, c7⟩, _⟩ := HX.out _ B4.out
  go_wp2_with fail
  refine (HIM.out _ (HX.out _ B4.out).2).mono ?_
  rintro e w5 ⟨rfl, b5⟩
  have B5 : Hid (Below wb.heap.size wb w5) := B4.out.trans (b5.mono B4.out.size)
  clear b5 c0 c1 c2 c3 c4 c5 c6 c7
  have G5 : Hid (Below w.heap.size w w5) := (HX.out _ B5.out).2
  go_wp2_with fail
  go_ret
  exact ⟨rfl, G5.out⟩

set_option maxRecDepth 100000 in
theorem lifted (os : Os) (started : os.Started) (H : Type) (enc : TypeId × Value → H) :
    ReturnsInHanded {} Tryd.checked os 6 .any (fun w args => (Rows.fnExactReplyOKSpec.pre enc Tryd.prog Tryd.f6 [] false w args ∧ laidMetH Tryd.prog Rows.fnExactReplyOKRow.laid w) ∧ sizedMet enc Tryd.prog Tryd.f6 (OpenSpec.ofChange Rows.fnExactReplyOKSpec) false w args)
      (Rows.fnExactReplyOKSpec.post enc Tryd.prog Tryd.f6 false true false false) := by
  refine returnsInHanded_of_change_and (C := Tryd.checked) (X := fun w _ => laidMetH Tryd.prog Rows.fnExactReplyOKRow.laid w) (fun _ _ _ hh h => h.of_heap hh) own started (by kernel_rfl) Tryd.func6
    (ChangeSpec.witness_shaped (enc := enc) (C := Tryd.checked) (os := os) (X := fun w _ => laidMetH Tryd.prog Rows.fnExactReplyOKRow.laid w) false (World.doorLaid Tryd.prog 400 os) #[.int .i64 0, .agg #[.int .i64 0, .int .i64 0, .int .i64 0, .int .i64 0, .int .i64 0, .int .i64 0, .int .i64 0, .string ByteArray.empty]] 8 rfl (World.shaped_of_RefB (by kernel_rfl) (by kernel_rfl)) (by kernel_rfl) (by kernel_rfl) (by kernel_rfl) (door_met os _)) ?_
  intro W base args ds gs before hval0 hW _ _ hL _
  have hval : ∀ (j : Nat) t v, Tryd.f6.params[j]? = some t → args[j]? = some v → Value.okWide Tryd.prog W .any base t v := hval0
  have hW' := hW
  obtain ⟨p, q, hA0, hV0, rfl, hfz, hnd⟩ := hW
  have hA : DataW.TrodAll enc Tryd.prog W 0 (fun _ => true) true Tryd.f6.params.toList args.toList ds p := hA0
  have hV : DataW.TrodVars enc Tryd.prog W (fun _ => true) ["loop.example/g00292/impl.roundWords"] gs q := hV0
  rw [Tryd.params6] at hA hval
  obtain ⟨v0, vs0, d0, ds0, p0, q0, hargs, rfl, rfl, h0, r0⟩ := trodAll_cons hA
  obtain ⟨v1, vs1, d1, ds1, p1, q1, rfl, rfl, rfl, h1, r1⟩ := trodAll_cons r0
  obtain ⟨rfl, rfl, rfl⟩ := trodAll_nil r1
  obtain rfl : args = #[v0, v1] := by cases args; simp_all
  obtain ⟨_, _, _, _, dv, _, rfl, _⟩ := trodVars_one hV
  have k00 := h0
  have lt0 : ∀ x ∈ p0, x.block < W.heap.size := by obtain ⟨m, hm⟩ := k00; exact DataW.trod_lt m _ _ _ hm
  obtain ⟨i0, rfl, rfl, rfl, z0⟩ := open_int Tryd.underlying3 (hval 0 3 v0 rfl rfl) h0
  have k10 := h1
  have lt1 : ∀ x ∈ p1, x.block < W.heap.size := by obtain ⟨m, hm⟩ := k10; exact DataW.trod_lt m _ _ _ hm
  obtain ⟨x1, rfl, m1⟩ := Op.open_reply (hval 1 41 v1 rfl rfl) h1
  clear hA0 hval0 hV0
  have hT := Hl.tab_of hL
  refine (walk i0 z0 x1 m1 W hT.1 hT.2).mono fun e W' ⟨he, bel⟩ => ?_
  subst he
  exact ⟨_, rfl, _, _, _, [], _, q, hW', trodAll_mk1 (shut_bool Tryd.underlying4 _), (trodAll_cons_mk (Below.trod laidOut (by kernel_rfl) (of_decide_eq_true (by kernel_rfl)) k00 bel lt0) (trodAll_cons_mk (Below.trod laidOut (by kernel_rfl) (of_decide_eq_true (by kernel_rfl)) k10 bel lt1) trodAll_mk0)), Below.trodVars laidOut bel rowed hV, bel.frame _, fun h => by cases h⟩

theorem said : Rows.FnExactReplyOKSaid :=
  OpenClaim.holds_of_wide 6 Tryd.f6 rfl rfl rfl rfl rfl rfl rfl ⟨rfl, rfl, rfl, rfl, rfl⟩ rfl rfl rfl rfl rfl (by kernel_rfl) Tryd.func6 (by kernel_rfl)
    (of_decide_eq_true (by kernel_rfl)) (by unfold Func.isWrapper; first | (rw [if_pos (by decide +kernel)]; kernel_rfl) | (rw [if_neg (by decide +kernel)]; exact ⟨rfl, rfl⟩))
    (fun os started H enc _ => lifted os started H enc)

/-- No parameter wants a stand-in; the program's own looks are off. -/
theorem plain (f : FuncId) (fn : Func) (hf : Tryd.pinned.checked.prog.funcNamed "loop.example/g00292/laws.FnExactReplyOK" = some f) (hfn : Tryd.pinned.checked.prog.funcs[f]? = some fn) :
    false = Tryd.pinned.checked.prog.looks [] ∧ ∀ (j : Nat) t, fn.params[j]? = some t → Tryd.pinned.checked.prog.wantsStandIn t = false := by
  obtain rfl : f = 6 := Option.some.inj ((show Tryd.prog.funcNamed "loop.example/g00292/laws.FnExactReplyOK" = some 6 by kernel_rfl).symm.trans hf) |>.symm
  obtain rfl : fn = Tryd.f6 := (Option.some.inj (Tryd.func6.symm.trans hfn)).symm
  refine ⟨by kernel_rfl, fun j t ht => ?_⟩
  rw [Tryd.params6] at ht
  have hm := Array.mem_of_getElem? ht
  have hl : t ∈ [3, 41] := by simpa using hm
  have hall : ∀ x ∈ [3, 41], Tryd.prog.wantsStandIn x = false := by
    intro x hx
    simp only [List.mem_cons, List.not_mem_nil, or_false] at hx
    rcases hx with rfl | rfl <;> kernel_rfl
  exact hall t hl
end Go.Proofs.YtipoajjijalibaaDoor.fnExactReplyOK
namespace Go.Proofs.YtipoajjijalibaaDoor
/-- THE STATEMENT: the card. -/
theorem fnExactReplyOK_holds : Rows.FnExactReplyOKCardSaid :=
  Claim7.holds_tied_plain_at .later [] _ _ _ _ fnExactReplyOK.said (fun _ h => by cases h) (by kernel_rfl) (fun _ h => by cases h) fnExactReplyOK_row_tie rfl ⟨rfl, rfl⟩ (by kernel_rfl) rfl fnExactReplyOK.plain (by kernel_rfl)
end Go.Proofs.YtipoajjijalibaaDoor
