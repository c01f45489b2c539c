/-
  GrantText answers as the specification does, for every grant.
  Conditions: none beyond the given row's own; the library's tables that it reads start as the library's text lays them (the card ties them).
-/
import Derived.Test.YtimmeclclilpdaaDoorLtGrantText
import Derived.Test.YtimmeclclilpdaaDoorGre
import Derived.WalkKit
namespace Go.Proofs.YtimmeclclilpdaaDoor.fnExactGrantText
open Go.ChangeShapes Go.WideShapes Go.ChangeAt Go.RowKit
open Go.ChangeMaps (open_string shut_string)
open Go.Proofs.YtimmeclclilpdaaDoor.Hl (own laidOut door_met)

open Go.Proofs.YtimmeclclilpdaaDoor.Gr12
set_option maxRecDepth 100000 in
set_option maxHeartbeats 1600000 in
/-- THE WALK: both functions answer alike. -/
theorem walk (g : Gg) (z : g.nm.size ≤ maxLen) (w : World) (hT : PTab w) :
    Calls Tryd.prog 4 #[gV g] w fun e w' => e = .returned (.bool true) ∧ Below w.heap.size w w' := by
  have HX : Hid (∀ W, Below (w.alloc (.cells #[.string g.nm, .int .i64 g.hd, .int .i64 g.tk, .int .i64 g.ex] 34)).heap.size (w.alloc (.cells #[.string g.nm, .int .i64 g.hd, .int .i64 g.tk, .int .i64 g.ex] 34)) W → (W.cell? ⟨w.heap.size, 0, none⟩ = some (.string g.nm) ∧ W.cell? ⟨w.heap.size, 1, none⟩ = some (.int .i64 g.hd) ∧ W.cell? ⟨w.heap.size, 2, none⟩ = some (.int .i64 g.tk) ∧ W.cell? ⟨w.heap.size, 3, none⟩ = some (.int .i64 g.ex)) ∧ Below w.heap.size w W) := fun W hW => by
    have h1 := (hW.block w.heap.size (by simp)).trans (heap_alloc_new w _)
    exact ⟨⟨by simp [World.cell?, h1], by simp [World.cell?, h1], by simp [World.cell?, h1], by simp [World.cell?, h1]⟩, (bel1 w _).trans (hW.mono (by simp))⟩
  have HSZ : Hid (∀ W, Calls Tryd.prog 15 #[.agg #[.string g.nm, .int .i64 g.hd, .int .i64 g.tk, .int .i64 g.ex], .int .i64 (1048576 : Nat)] W fun e w' => (∃ r : Int, e = .returned (.int .i64 r) ∧ (r = -1 ∨ ∃ q : Nat, r = q ∧ q ≤ 1048576 ∧ g.nm.size ≤ 1048576)) ∧ Below W.heap.size W w') := fun W => szG_any g 1048576 W (by decide) z
  have HTO : Hid (∀ W, Calls Tryd.prog 16 #[.agg #[.string g.nm, .int .i64 g.hd, .int .i64 g.tk, .int .i64 g.ex]] W fun e w' => e = .returned (.agg #[.string g.nm, .int .i64 g.hd, .int .i64 g.tk, .int .i64 g.ex]) ∧ Below W.heap.size W w') := fun W => toG_any g W
  have HP : Hid (PTab w) := hT
  have HSP : Hid (∀ W, Calls Tryd.prog 11 #[.agg #[.string g.nm, .int .i64 g.hd, .int .i64 g.tk, .int .i64 g.ex]] W fun e w' => e = .returned (.tuple #[.string (gtS g), .int .i64 (gtC g)]) ∧ Below W.heap.size W w') := fun W => specGrantText_any g W z
  have HIM : Hid (∀ W, Below w.heap.size w W → Calls Tryd.prog 10 #[.agg #[.string g.nm, .int .i64 g.hd, .int .i64 g.tk, .int .i64 g.ex]] W fun e w' => e = .returned (.tuple #[.string (gtS g), .int .i64 (gtC g)]) ∧ Below W.heap.size W w') := fun W hW => implGrantText_any g W z (HP.out.below hW)
  clear z hT HP
  generalize gtS g = o at HSP HIM
  generalize gtC g = cc at HSP HIM
  have hne2 : (o.toList != o.toList) = false := by simp
  have hcc : (cc != cc) = false := by simp
  unfold gV
  go_enter Tryd.func4, Tryd.ntmps4
  go_upto_region 1 with fail
  generalize w.alloc (.cells #[.string g.nm, .int .i64 g.hd, .int .i64 g.tk, .int .i64 g.ex] 34) = wb at HX ⊢
  have B0 : Hid (Below wb.heap.size wb wb) := Below.refl _ _
  obtain ⟨⟨c0, c1, c2, c3⟩, _⟩ := HX.out _ B0.out
  go_wp2_with fail
  refine (HSZ.out _).mono ?_
  rintro e w1 ⟨⟨r, rfl, hr⟩, b1⟩
  have B1 : Hid (Below wb.heap.size wb w1) := B0.out.trans (b1.mono B0.out.size)
  clear b1 c0 c1 c2 c3
  rcases hr with rfl | ⟨q, rfl, _, _⟩
  · have G1 : Hid (Below w.heap.size w w1) := (HX.out _ B1.out).2
    clear HX
    go_wp2_with fail
    go_ret
    exact ⟨rfl, G1.out⟩
  have hq0 : ¬ (q : Int) < 0 := by omega
  obtain ⟨⟨c0, c1, c2, c3⟩, _⟩ := HX.out _ B1.out
  go_wp2_with fail
  refine (HTO.out _).mono ?_
  rintro e w2 ⟨rfl, b2⟩
  have B2 : Hid (Below wb.heap.size wb w2) := B1.out.trans (b2.mono B1.out.size)
  clear b2 c0 c1 c2 c3
  obtain ⟨⟨c0, c1, c2, c3⟩, _⟩ := HX.out _ B2.out
  go_wp2_with fail
  refine (HSP.out _).mono ?_
  rintro e w3 ⟨rfl, b3⟩
  have B3 : Hid (Below wb.heap.size wb w3) := B2.out.trans (b3.mono B2.out.size)
  clear b3 c0 c1 c2 c3
  obtain ⟨⟨c0, c1, c2, c3⟩, _⟩ := HX.out _ B3.out
  go_wp2_with fail
  refine (HTO.out _).mono ?_
  rintro e w4 ⟨rfl, b4⟩
  have B4 : Hid (Below wb.heap.size wb w4) := B3.out.trans (b4.mono B3.out.size)
  clear b4 c0 c1 c2 c3
  obtain ⟨⟨c0, c1, c2, c3⟩, _⟩ := HX.out _ B4.out
  go_wp2_with fail
  refine (HIM.out _ (HX.out _ B4.out).2).mono ?_
  rintro e w5 ⟨rfl, b5⟩
  have B5 : Hid (Below wb.heap.size wb w5) := B4.out.trans (b5.mono B4.out.size)
  clear b5 c0 c1 c2 c3
  have G5 : Hid (Below w.heap.size w w5) := (HX.out _ B5.out).2
  go_wp2_with fail
  go_ret
  exact ⟨rfl, G5.out⟩

set_option maxRecDepth 100000 in
theorem lifted (os : Os) (started : os.Started) (H : Type) (enc : TypeId × Value → H) :
    ReturnsInHanded {} Tryd.checked os 4 .any (fun w args => (Rows.fnExactGrantTextSpec.pre enc Tryd.prog Tryd.f4 [] false w args ∧ laidMetH Tryd.prog Rows.fnExactGrantTextRow.laid w) ∧ sizedMet enc Tryd.prog Tryd.f4 (OpenSpec.ofChange Rows.fnExactGrantTextSpec) false w args)
      (Rows.fnExactGrantTextSpec.post enc Tryd.prog Tryd.f4 false true false false) := by
  refine returnsInHanded_of_change_and (C := Tryd.checked) (X := fun w _ => laidMetH Tryd.prog Rows.fnExactGrantTextRow.laid w) (fun _ _ _ hh h => h.of_heap hh) own started (by kernel_rfl) Tryd.func4
    (ChangeSpec.witness_shaped (enc := enc) (C := Tryd.checked) (os := os) (X := fun w _ => laidMetH Tryd.prog Rows.fnExactGrantTextRow.laid w) false (World.doorLaid Tryd.prog 400 os) #[.agg #[.string ByteArray.empty, .int .i64 0, .int .i64 0, .int .i64 0]] 8 rfl (World.shaped_of_RefB (by kernel_rfl) (by kernel_rfl)) (by kernel_rfl) (by kernel_rfl) (by kernel_rfl) (door_met os _)) ?_
  intro W base args ds gs before hval0 hW _ _ hL _
  have hval : ∀ (j : Nat) t v, Tryd.f4.params[j]? = some t → args[j]? = some v → Value.okWide Tryd.prog W .any base t v := hval0
  have hW' := hW
  obtain ⟨p, q, hA0, hV0, rfl, hfz, hnd⟩ := hW
  have hA : DataW.TrodAll enc Tryd.prog W 0 (fun _ => true) true Tryd.f4.params.toList args.toList ds p := hA0
  have hV : DataW.TrodVars enc Tryd.prog W (fun _ => true) [] gs q := hV0
  rw [Tryd.params4] at hA hval
  obtain ⟨v0, vs0, d0, ds0, p0, q0, hargs, rfl, rfl, h0, r0⟩ := trodAll_cons hA
  obtain ⟨rfl, rfl, rfl⟩ := trodAll_nil r0
  obtain rfl : args = #[v0] := by cases args; simp_all
  obtain ⟨rfl, rfl⟩ := trodVars_none hV
  have k00 := h0
  have lt0 : ∀ x ∈ p0, x.block < W.heap.size := by obtain ⟨m, hm⟩ := k00; exact DataW.trod_lt m _ _ _ hm
  obtain ⟨g0, rfl, z0⟩ := Op.open_grant (hval 0 34 v0 rfl rfl) h0
  clear hA0 hval0 hV0
  have hT := Hl.tab_of hL
  refine (walk g0 z0 W hT).mono fun e W' ⟨he, bel⟩ => ?_
  subst he
  exact ⟨_, rfl, _, _, _, [], _, [], hW', trodAll_mk1 (shut_bool Tryd.underlying4 _), (trodAll_cons_mk (Below.trod laidOut (by kernel_rfl) (of_decide_eq_true (by kernel_rfl)) k00 bel lt0) trodAll_mk0), rfl, bel.frame _, fun h => by cases h⟩

theorem said : Rows.FnExactGrantTextSaid :=
  OpenClaim.holds_of_wide 4 Tryd.f4 rfl rfl rfl rfl rfl rfl rfl ⟨rfl, rfl, rfl, rfl, rfl⟩ rfl rfl rfl rfl rfl (by kernel_rfl) Tryd.func4 (by kernel_rfl)
    (of_decide_eq_true (by kernel_rfl)) (by unfold Func.isWrapper; first | (rw [if_pos (by decide +kernel)]; kernel_rfl) | (rw [if_neg (by decide +kernel)]; exact ⟨rfl, rfl⟩))
    (fun os started H enc _ => lifted os started H enc)

/-- No parameter wants a stand-in; the program's own looks are off. -/
theorem plain (f : FuncId) (fn : Func) (hf : Tryd.pinned.checked.prog.funcNamed "loop.example/g00292/laws.FnExactGrantText" = some f) (hfn : Tryd.pinned.checked.prog.funcs[f]? = some fn) :
    false = Tryd.pinned.checked.prog.looks [] ∧ ∀ (j : Nat) t, fn.params[j]? = some t → Tryd.pinned.checked.prog.wantsStandIn t = false := by
  obtain rfl : f = 4 := Option.some.inj ((show Tryd.prog.funcNamed "loop.example/g00292/laws.FnExactGrantText" = some 4 by kernel_rfl).symm.trans hf) |>.symm
  obtain rfl : fn = Tryd.f4 := (Option.some.inj (Tryd.func4.symm.trans hfn)).symm
  refine ⟨by kernel_rfl, fun j t ht => ?_⟩
  rw [Tryd.params4] at ht
  have hm := Array.mem_of_getElem? ht
  have hl : t ∈ [34] := by simpa using hm
  have hall : ∀ x ∈ [34], Tryd.prog.wantsStandIn x = false := by
    intro x hx
    simp only [List.mem_cons, List.not_mem_nil, or_false] at hx
    rcases hx with rfl <;> kernel_rfl
  exact hall t hl
end Go.Proofs.YtimmeclclilpdaaDoor.fnExactGrantText
namespace Go.Proofs.YtimmeclclilpdaaDoor
/-- THE STATEMENT: the card. -/
theorem fnExactGrantText_holds : Rows.FnExactGrantTextCardSaid :=
  Claim7.holds_tied_plain_at .later [] _ _ _ _ fnExactGrantText.said (fun _ h => by cases h) (by kernel_rfl) (fun _ h => by cases h) fnExactGrantText_row_tie rfl ⟨rfl, rfl⟩ (by kernel_rfl) rfl fnExactGrantText.plain (by kernel_rfl)
end Go.Proofs.YtimmeclclilpdaaDoor
