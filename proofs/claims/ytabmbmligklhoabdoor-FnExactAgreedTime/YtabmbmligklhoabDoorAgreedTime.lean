/-
  impl.AgreedTime answers at every time, every number of nodes and every list of readings just what the specification's AgreedTime answers, and leaves the list as it was.
  Conditions: none beyond the given row's own; the package variable that it reads starts as the program's text lays it (the card ties it).
-/
import Derived.Test.YtabmbmligklhoabDoorTa
import Derived.Test.YtabmbmligklhoabDoorHashLaid
import Derived.WalkKit
namespace Go.Proofs.YtabmbmligklhoabDoor.fnExactAgreedTime
open Go.ChangeShapes Go.WideShapes Go.ChangeAt Go.RowKit
open Go.ChangeMaps (open_string shut_string)
open Go.Proofs.YtabmbmligklhoabDoor.Hl (own laidOut rowed door_met)

open Go.Proofs.YtabmbmligklhoabDoor.Sl Go.Proofs.YtabmbmligklhoabDoor.By Go.Proofs.YtabmbmligklhoabDoor.Ap Go.Proofs.YtabmbmligklhoabDoor.Tx Go.Proofs.YtabmbmligklhoabDoor.Sh Go.Proofs.YtabmbmligklhoabDoor.Rw Go.Proofs.YtabmbmligklhoabDoor.Ti Go.Proofs.YtabmbmligklhoabDoor.Ts Go.Proofs.YtabmbmligklhoabDoor.Ta
set_option maxRecDepth 100000 in
set_option maxHeartbeats 1600000 in
/-- THE WALK: both functions answer alike. -/
theorem walk (i0 : Int) {q0 : Prop} (_z0 : q0) (i1 : Int) {q1 : Prop} (_z1 : q1) (v : Value) (rs : List Rd) (w : World) (h : RowR w v rs) (hl : rs.length ≤ maxLen) (hm : ∀ r ∈ rs, r.m.size ≤ maxLen) (hK : KTab w) (hp : 0 < w.heap.size) :
    Calls Tryd.prog 5 #[.int .i64 i0, .int .i64 i1, v] w fun e w' => e = .returned (.bool true) ∧ Below w.heap.size w w' := by
  have HR : Hid (RowR w v rs ∧ KTab w) := ⟨h, hK⟩
  clear h hK
  go_enter Tryd.func5, Tryd.ntmps5
  go_wp2_with fail
  refine (szReadingS_any v rs w HR.out.1 hm hl).mono ?_
  rintro e w1 ⟨⟨r, rfl, hr⟩, b1⟩
  have B1 : Hid (Below w.heap.size w w1) := b1
  clear b1 hm hl
  rcases hr with rfl | ⟨q, rfl, hl, _⟩
  · go_wp2_with fail
    go_ret
    exact ⟨rfl, B1.out⟩
  have hq : ¬ (q : Int) < 0 := by omega
  go_wp2_with fail
  refine (toReadingS_any v rs _ (HR.out.1.below B1.out) hl).mono ?_
  rintro e w2 ⟨v2, rfl, r2, b2⟩
  have B2 : Hid (Below w.heap.size w w2) := B1.out.trans (b2.mono B1.out.size)
  have R2 : Hid (RowR w2 v2 rs) := r2
  clear b2 r2 B1
  go_wp2_with fail
  refine (specAgreedTime_any i0 i1 v2 rs w2 R2.out hl).mono ?_
  rintro e w3 ⟨rfl, b3⟩
  have B3 : Hid (Below w.heap.size w w3) := B2.out.trans (b3.mono B2.out.size)
  clear b3 R2 B2
  obtain ⟨o, HO⟩ : ∃ o, Hid (aOut i0 i1 rs = o) := ⟨_, rfl⟩
  obtain ⟨c, HC⟩ : ∃ c, Hid (tCode i1 rs = c) := ⟨_, rfl⟩
  rw [HO.out, HC.out]
  go_wp2_with fail
  refine (toReadingS_any v rs _ (HR.out.1.below B3.out) hl).mono ?_
  rintro e w4 ⟨v4, rfl, r4, b4⟩
  have B4 : Hid (Below w.heap.size w w4) := B3.out.trans (b4.mono B3.out.size)
  have R4 : Hid (RowR w4 v4 rs) := r4
  clear b4 r4 B3
  go_wp2_with fail
  refine (implAgreedTime_any i0 i1 v4 rs w4 R4.out hl (HR.out.2.below B4.out hp) (Nat.lt_of_lt_of_le hp B4.out.size)).mono ?_
  rintro e w5 ⟨rfl, b5⟩
  have B5 : Hid (Below w.heap.size w w5) := B4.out.trans (b5.mono B4.out.size)
  have R5 : Hid (RowR w5 v4 rs) := R4.out.below b5
  clear b5 R4 B4
  rw [HO.out, HC.out]
  have e0 : (o != o) = false := by simp
  have e1 : (c != c) = false := by simp
  go_wp2_with fail
  refine (toReadingS_any v rs _ (HR.out.1.below B5.out) hl).mono ?_
  rintro e w6 ⟨v6, rfl, r6, b6⟩
  have B6 : Hid (Below w.heap.size w w6) := B5.out.trans (b6.mono B5.out.size)
  have R6 : Hid (RowR w6 v6 rs ∧ RowR w6 v4 rs) := ⟨r6, R5.out.below b6⟩
  clear b6 r6 B5 R5
  go_wp2_with fail
  refine (eqReadingS_same v4 v6 rs w6 R6.out.2 R6.out.1 hl).mono ?_
  rintro e w7 ⟨rfl, b7⟩
  have B7 : Hid (Below w.heap.size w w7) := B6.out.trans (b7.mono B6.out.size)
  clear b7
  go_wp2_with fail
  go_ret
  exact ⟨rfl, B7.out⟩

set_option maxRecDepth 100000 in
theorem lifted (os : Os) (started : os.Started) (H : Type) (enc : TypeId × Value → H) :
    ReturnsInHanded {} Tryd.checked os 5 .any (fun w args => (Rows.fnExactAgreedTimeSpec.pre enc Tryd.prog Tryd.f5 [] false w args ∧ laidMetH Tryd.prog Rows.fnExactAgreedTimeRow.laid w) ∧ sizedMet enc Tryd.prog Tryd.f5 (OpenSpec.ofChange Rows.fnExactAgreedTimeSpec) false w args)
      (Rows.fnExactAgreedTimeSpec.post enc Tryd.prog Tryd.f5 false true false false) := by
  refine returnsInHanded_of_change_and (C := Tryd.checked) (X := fun w _ => laidMetH Tryd.prog Rows.fnExactAgreedTimeRow.laid w) (fun _ _ _ hh h => h.of_heap hh) own started (by kernel_rfl) Tryd.func5
    (ChangeSpec.witness_shaped (enc := enc) (C := Tryd.checked) (os := os) (X := fun w _ => laidMetH Tryd.prog Rows.fnExactAgreedTimeRow.laid w) false (World.doorLaid Tryd.prog 400 os) #[.int .i64 0, .int .i64 0, .slice none 0 0] 8 rfl (World.shaped_of_RefB (by kernel_rfl) (by kernel_rfl)) (by kernel_rfl) (by kernel_rfl) (by kernel_rfl) (door_met os _)) ?_
  intro W base args ds gs before hval0 hW _ _ hL _
  have hval : ∀ (j : Nat) t v, Tryd.f5.params[j]? = some t → args[j]? = some v → Value.okWide Tryd.prog W .any base t v := hval0
  have hW' := hW
  obtain ⟨p, q, hA0, hV0, rfl, hfz, hnd⟩ := hW
  have hA : DataW.TrodAll enc Tryd.prog W 0 (fun _ => true) true Tryd.f5.params.toList args.toList ds p := hA0
  have hV : DataW.TrodVars enc Tryd.prog W (fun _ => true) ["loop.example/g00292/impl.roundWords"] gs q := hV0
  rw [Tryd.params5] at hA hval
  obtain ⟨v0, vs0, d0, ds0, p0, q0, hargs, rfl, rfl, h0, r0⟩ := trodAll_cons hA
  obtain ⟨v1, vs1, d1, ds1, p1, q1, rfl, rfl, rfl, h1, r1⟩ := trodAll_cons r0
  obtain ⟨v2, vs2, d2, ds2, p2, q2, rfl, rfl, rfl, h2, r2⟩ := trodAll_cons r1
  obtain ⟨rfl, rfl, rfl⟩ := trodAll_nil r2
  obtain rfl : args = #[v0, v1, v2] := by cases args; simp_all
  obtain ⟨_, _, _, _, dv, _, rfl, _⟩ := trodVars_one hV
  have k00 := h0
  have lt0 : ∀ x ∈ p0, x.block < W.heap.size := by obtain ⟨m, hm⟩ := k00; exact DataW.trod_lt m _ _ _ hm
  obtain ⟨i0, rfl, rfl, rfl, z0⟩ := open_int Tryd.underlying3 (hval 0 3 v0 rfl rfl) h0
  have k10 := h1
  have lt1 : ∀ x ∈ p1, x.block < W.heap.size := by obtain ⟨m, hm⟩ := k10; exact DataW.trod_lt m _ _ _ hm
  obtain ⟨i1, rfl, rfl, rfl, z1⟩ := open_int Tryd.underlying3 (hval 1 3 v1 rfl rfl) h1
  have k20 := h2
  have lt2 : ∀ x ∈ p2, x.block < W.heap.size := by obtain ⟨m, hm⟩ := k20; exact DataW.trod_lt m _ _ _ hm
  obtain ⟨rs2, w2, l2, m2⟩ := Op.open_reads (hval 2 37 v2 rfl rfl) h2
  clear hA0 hval0 hV0
  have hT := Hl.tab_of hL
  refine (walk i0 z0 i1 z1 v2 rs2 W w2 l2 m2 hT.1 hT.2).mono fun e W' ⟨he, bel⟩ => ?_
  subst he
  exact ⟨_, rfl, _, _, _, [], _, q, hW', trodAll_mk1 (shut_bool Tryd.underlying4 _), (trodAll_cons_mk (Below.trod laidOut (by kernel_rfl) (of_decide_eq_true (by kernel_rfl)) k00 bel lt0) (trodAll_cons_mk (Below.trod laidOut (by kernel_rfl) (of_decide_eq_true (by kernel_rfl)) k10 bel lt1) (trodAll_cons_mk (Below.trod laidOut (by kernel_rfl) (of_decide_eq_true (by kernel_rfl)) k20 bel lt2) trodAll_mk0))), Below.trodVars laidOut bel rowed hV, bel.frame _, fun h => by cases h⟩

theorem said : Rows.FnExactAgreedTimeSaid :=
  OpenClaim.holds_of_wide 5 Tryd.f5 rfl rfl rfl rfl rfl rfl rfl ⟨rfl, rfl, rfl, rfl, rfl⟩ rfl rfl rfl rfl rfl (by kernel_rfl) Tryd.func5 (by kernel_rfl)
    (of_decide_eq_true (by kernel_rfl)) (by unfold Func.isWrapper; first | (rw [if_pos (by decide +kernel)]; kernel_rfl) | (rw [if_neg (by decide +kernel)]; exact ⟨rfl, rfl⟩))
    (fun os started H enc _ => lifted os started H enc)

/-- No parameter wants a stand-in; the program's own looks are off. -/
theorem plain (f : FuncId) (fn : Func) (hf : Tryd.pinned.checked.prog.funcNamed "loop.example/g00292/laws.FnExactAgreedTime" = some f) (hfn : Tryd.pinned.checked.prog.funcs[f]? = some fn) :
    false = Tryd.pinned.checked.prog.looks [] ∧ ∀ (j : Nat) t, fn.params[j]? = some t → Tryd.pinned.checked.prog.wantsStandIn t = false := by
  obtain rfl : f = 5 := Option.some.inj ((show Tryd.prog.funcNamed "loop.example/g00292/laws.FnExactAgreedTime" = some 5 by kernel_rfl).symm.trans hf) |>.symm
  obtain rfl : fn = Tryd.f5 := (Option.some.inj (Tryd.func5.symm.trans hfn)).symm
  refine ⟨by kernel_rfl, fun j t ht => ?_⟩
  rw [Tryd.params5] at ht
  have hm := Array.mem_of_getElem? ht
  have hl : t ∈ [3, 3, 37] := by simpa using hm
  have hall : ∀ x ∈ [3, 3, 37], Tryd.prog.wantsStandIn x = false := by
    intro x hx
    simp only [List.mem_cons, List.not_mem_nil, or_false] at hx
    rcases hx with rfl | rfl | rfl <;> kernel_rfl
  exact hall t hl
end Go.Proofs.YtabmbmligklhoabDoor.fnExactAgreedTime
namespace Go.Proofs.YtabmbmligklhoabDoor
/-- THE STATEMENT: the card. -/
theorem fnExactAgreedTime_holds : Rows.FnExactAgreedTimeCardSaid :=
  Claim7.holds_tied_plain_at .later [] _ _ _ _ fnExactAgreedTime.said (fun _ h => by cases h) (by kernel_rfl) (fun _ h => by cases h) fnExactAgreedTime_row_tie rfl ⟨rfl, rfl⟩ (by kernel_rfl) rfl fnExactAgreedTime.plain (by kernel_rfl)
end Go.Proofs.YtabmbmligklhoabDoor
