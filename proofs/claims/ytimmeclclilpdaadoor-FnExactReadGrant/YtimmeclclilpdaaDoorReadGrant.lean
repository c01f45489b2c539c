/-
  ReadGrant answers as the specification does, for every text.
  Conditions: none beyond the given row's own; the library's tables that it reads start as the library's text lays them (the card ties them).
-/
import Derived.Test.YtimmeclclilpdaaDoorLtReadGrant
import Derived.Test.YtimmeclclilpdaaDoorGrk
import Derived.WalkKit
namespace Go.Proofs.YtimmeclclilpdaaDoor.fnExactReadGrant
open Go.ChangeShapes Go.WideShapes Go.ChangeAt Go.RowKit
open Go.ChangeMaps (open_string shut_string)
open Go.Proofs.YtimmeclclilpdaaDoor.Hl (own laidOut door_met)

open Go.Proofs.YtimmeclclilpdaaDoor.Gr12
set_option maxRecDepth 100000 in
set_option maxHeartbeats 1600000 in
/-- THE WALK: both functions answer alike. -/
theorem walk (t : ByteArray) (_z : t.size ≤ maxLen) (w : World) (hT : PTab w ∧ STab w) :
    Calls Tryd.prog 5 #[.string t] w fun e w' => e = .returned (.bool true) ∧ Below w.heap.size w w' := by
  by_cases hl : (1048576 : Int) < (t.size : Int)
  · go_enter Tryd.func5, Tryd.ntmps5
    go_wp2
    go_ret
    exact ⟨rfl, Below.refl _ _⟩
  have HP : Hid (∀ W, Below w.heap.size w W → PTab W ∧ STab W) := fun W hW => ⟨hT.1.below hW, hT.2.below hW⟩
  have HSP : Hid (∀ W, Calls Tryd.prog 17 #[.string t] W fun e w' => e = .returned (.tuple #[gV (rdG t), .int .i64 (rdC t)]) ∧ Below W.heap.size W w') := fun W => specReadGrant_any t W (by omega)
  have HIM : Hid (∀ W, Below w.heap.size w W → Calls Tryd.prog 12 #[.string t] W fun e w' => e = .returned (.tuple #[gV (rdG t), .int .i64 (rdC t)]) ∧ Below W.heap.size W w') := fun W hW => implReadGrant_any t W (by omega) (HP.out W hW).1 (HP.out W hW).2
  clear hT HP _z
  generalize rdG t = g at HSP HIM
  generalize rdC t = cc at HSP HIM
  have HEQ : Hid (∀ W, Calls Tryd.prog 18 #[gV g, gV g] W fun e w' => e = .returned (.bool true) ∧ Below W.heap.size W w') := fun W => eqG_same g W
  have hcc : (cc != cc) = false := by simp
  unfold gV at HSP HIM HEQ
  go_enter Tryd.func5, Tryd.ntmps5
  go_wp2_with fail
  refine (HSP.out _).mono ?_
  rintro e w1 ⟨rfl, b1⟩
  have RB : Hid (∀ W, Below (w1.alloc (.cells #[.string g.nm, .int .i64 g.hd, .int .i64 g.tk, .int .i64 g.ex] 24)).heap.size (w1.alloc (.cells #[.string g.nm, .int .i64 g.hd, .int .i64 g.tk, .int .i64 g.ex] 24)) W → (W.cell? ⟨w1.heap.size, 0, none⟩ = some (.string g.nm) ∧ W.cell? ⟨w1.heap.size, 1, none⟩ = some (.int .i64 g.hd) ∧ W.cell? ⟨w1.heap.size, 2, none⟩ = some (.int .i64 g.tk) ∧ W.cell? ⟨w1.heap.size, 3, none⟩ = some (.int .i64 g.ex)) ∧ Below w.heap.size w W) := fun W hW => by
    have h1 := (hW.block w1.heap.size (by simp)).trans (heap_alloc_new w1 _)
    exact ⟨⟨by simp [World.cell?, h1], by simp [World.cell?, h1], by simp [World.cell?, h1], by simp [World.cell?, h1]⟩, b1.trans (((bel1 w1 _).trans (hW.mono (by simp))).mono b1.size)⟩
  clear b1
  go_upto_region 4 with fail
  generalize w1.alloc (.cells #[.string g.nm, .int .i64 g.hd, .int .i64 g.tk, .int .i64 g.ex] 24) = wr at RB ⊢
  generalize w1.heap.size = br at RB ⊢
  go_wp2_with fail
  refine (HIM.out _ (RB.out _ (Below.refl _ _)).2).mono ?_
  rintro e w2 ⟨rfl, b2⟩
  have R3 : Hid (Below wr.heap.size wr (w2.alloc (.cells #[.string g.nm, .int .i64 g.hd, .int .i64 g.tk, .int .i64 g.ex] 24))) := b2.trans ((bel1 w2 _).mono b2.size)
  clear b2
  obtain ⟨⟨c0, c1, c2, c3⟩, _⟩ := RB.out _ R3.out
  go_wp2_with fail
  refine (HEQ.out _).mono ?_
  rintro e w5 ⟨rfl, b5⟩
  have G5 : Hid (Below w.heap.size w w5) := (RB.out _ (R3.out.trans (b5.mono R3.out.size))).2
  clear b5 c0 c1 c2 c3
  go_wp2_with fail
  go_ret
  exact ⟨rfl, G5.out⟩

set_option maxRecDepth 100000 in
theorem lifted (os : Os) (started : os.Started) (H : Type) (enc : TypeId × Value → H) :
    ReturnsInHanded {} Tryd.checked os 5 .any (fun w args => (Rows.fnExactReadGrantSpec.pre enc Tryd.prog Tryd.f5 [] false w args ∧ laidMetH Tryd.prog Rows.fnExactReadGrantRow.laid w) ∧ sizedMet enc Tryd.prog Tryd.f5 (OpenSpec.ofChange Rows.fnExactReadGrantSpec) false w args)
      (Rows.fnExactReadGrantSpec.post enc Tryd.prog Tryd.f5 false true false false) := by
  refine returnsInHanded_of_change_and (C := Tryd.checked) (X := fun w _ => laidMetH Tryd.prog Rows.fnExactReadGrantRow.laid w) (fun _ _ _ hh h => h.of_heap hh) own started (by kernel_rfl) Tryd.func5
    (ChangeSpec.witness_shaped (enc := enc) (C := Tryd.checked) (os := os) (X := fun w _ => laidMetH Tryd.prog Rows.fnExactReadGrantRow.laid w) false (World.doorLaid Tryd.prog 400 os) #[.string ByteArray.empty] 8 rfl (World.shaped_of_RefB (by kernel_rfl) (by kernel_rfl)) (by kernel_rfl) (by kernel_rfl) (by kernel_rfl) (door_met os _)) ?_
  intro W base args ds gs before hval0 hW _ _ hL _
  have hval : ∀ (j : Nat) t v, Tryd.f5.params[j]? = some t → args[j]? = some v → Value.okWide Tryd.prog W .any base t v := hval0
  have hW' := hW
  obtain ⟨p, q, hA0, hV0, rfl, hfz, hnd⟩ := hW
  have hA : DataW.TrodAll enc Tryd.prog W 0 (fun _ => true) true Tryd.f5.params.toList args.toList ds p := hA0
  have hV : DataW.TrodVars enc Tryd.prog W (fun _ => true) [] gs q := hV0
  rw [Tryd.params5] at hA hval
  obtain ⟨v0, vs0, d0, ds0, p0, q0, hargs, rfl, rfl, h0, r0⟩ := trodAll_cons hA
  obtain ⟨rfl, rfl, rfl⟩ := trodAll_nil r0
  obtain rfl : args = #[v0] := by cases args; simp_all
  obtain ⟨rfl, rfl⟩ := trodVars_none hV
  have k00 := h0
  have lt0 : ∀ x ∈ p0, x.block < W.heap.size := by obtain ⟨m, hm⟩ := k00; exact DataW.trod_lt m _ _ _ hm
  obtain ⟨s0, rfl, rfl, rfl, z0⟩ := open_string Tryd.underlying9 (hval 0 9 v0 rfl rfl) h0
  clear hA0 hval0 hV0
  have hT := Hl.tab_of hL
  refine (walk s0 z0 W hT).mono fun e W' ⟨he, bel⟩ => ?_
  subst he
  exact ⟨_, rfl, _, _, _, [], _, [], hW', trodAll_mk1 (shut_bool Tryd.underlying4 _), (trodAll_cons_mk (Below.trod laidOut (by kernel_rfl) (of_decide_eq_true (by kernel_rfl)) k00 bel lt0) trodAll_mk0), rfl, bel.frame _, fun h => by cases h⟩

theorem said : Rows.FnExactReadGrantSaid :=
  OpenClaim.holds_of_wide 5 Tryd.f5 rfl rfl rfl rfl rfl rfl rfl ⟨rfl, rfl, rfl, rfl, rfl⟩ rfl rfl rfl rfl rfl (by kernel_rfl) Tryd.func5 (by kernel_rfl)
    (of_decide_eq_true (by kernel_rfl)) (by unfold Func.isWrapper; first | (rw [if_pos (by decide +kernel)]; kernel_rfl) | (rw [if_neg (by decide +kernel)]; exact ⟨rfl, rfl⟩))
    (fun os started H enc _ => lifted os started H enc)

/-- No parameter wants a stand-in; the program's own looks are off. -/
theorem plain (f : FuncId) (fn : Func) (hf : Tryd.pinned.checked.prog.funcNamed "loop.example/g00292/laws.FnExactReadGrant" = some f) (hfn : Tryd.pinned.checked.prog.funcs[f]? = some fn) :
    false = Tryd.pinned.checked.prog.looks [] ∧ ∀ (j : Nat) t, fn.params[j]? = some t → Tryd.pinned.checked.prog.wantsStandIn t = false := by
  obtain rfl : f = 5 := Option.some.inj ((show Tryd.prog.funcNamed "loop.example/g00292/laws.FnExactReadGrant" = some 5 by kernel_rfl).symm.trans hf) |>.symm
  obtain rfl : fn = Tryd.f5 := (Option.some.inj (Tryd.func5.symm.trans hfn)).symm
  refine ⟨by kernel_rfl, fun j t ht => ?_⟩
  rw [Tryd.params5] at ht
  have hm := Array.mem_of_getElem? ht
  have hl : t ∈ [9] := by simpa using hm
  have hall : ∀ x ∈ [9], Tryd.prog.wantsStandIn x = false := by
    intro x hx
    simp only [List.mem_cons, List.not_mem_nil, or_false] at hx
    rcases hx with rfl <;> kernel_rfl
  exact hall t hl
end Go.Proofs.YtimmeclclilpdaaDoor.fnExactReadGrant
namespace Go.Proofs.YtimmeclclilpdaaDoor
/-- THE STATEMENT: the card. -/
theorem fnExactReadGrant_holds : Rows.FnExactReadGrantCardSaid :=
  Claim7.holds_tied_plain_at .later [] _ _ _ _ fnExactReadGrant.said (fun _ h => by cases h) (by kernel_rfl) (fun _ h => by cases h) fnExactReadGrant_row_tie rfl ⟨rfl, rfl⟩ (by kernel_rfl) rfl fnExactReadGrant.plain (by kernel_rfl)
end Go.Proofs.YtimmeclclilpdaaDoor
