/-
  impl.PlanOf answers at every number of nodes, view and list of messages just what the specification's PlanOf answers; it writes into no argument, and its answer owns its memory.
  Conditions: none beyond the given row's own; the package variable that it reads starts as the program's text lays it (the card ties it).
-/
import Derived.Test.YtddmdnljfnimbaaGreatDoorM27
import Derived.Test.YtddmdnljfnimbaaGreatDoorM20
import Derived.WalkKit
namespace Go.Proofs.YtddmdnljfnimbaaGreatDoor.fnExactPlanOf
open Go.ChangeShapes Go.WideShapes Go.ChangeAt Go.RowKit
open Go.ChangeMaps (open_string shut_string)
open Go.Proofs.YtddmdnljfnimbaaGreatDoor.Hl (own laidOut rowed door_met)

open Go.Proofs.YtddmdnljfnimbaaGreatDoor.Sl Go.Proofs.YtddmdnljfnimbaaGreatDoor.By Go.Proofs.YtddmdnljfnimbaaGreatDoor.Ap Go.Proofs.YtddmdnljfnimbaaGreatDoor.Sh Go.Proofs.YtddmdnljfnimbaaGreatDoor.Gm Go.Proofs.YtddmdnljfnimbaaGreatDoor.Wc Go.Proofs.YtddmdnljfnimbaaGreatDoor.Pl Go.Proofs.YtddmdnljfnimbaaGreatDoor.Mk
open Go.Proofs.YtddmdnljfnimbaaGreatDoor.Ty (RowT)
open Go.Proofs.YtddmdnljfnimbaaGreatDoor.Tl (OwnS OwnS.row)
open Go.Proofs.YtddmdnljfnimbaaGreatDoor.Rg (bel_new Wr Mid RowG.slice)
theorem mid_bel {B C : Nat} {w w' : World} (h : Mid B C w w') (hB : B ≤ w.heap.size) : Below B w w' := ⟨h.os, h.tape, h.output, h.size, fun k hk => h.block k (by omega) (.inl hk)⟩
set_option maxRecDepth 100000 in
set_option maxHeartbeats 3200000 in
/-- THE WALK: both functions answer alike; the list that was handed in is as it was, the answer owns its memory, behind another call too. -/
theorem walk (n : Int) {q0 : Prop} (_z0 : q0) (view : Int) {q1 : Prop} (_z1 : q1) (v : Value) (ms : List Mg) (w : World) (hrow : Row w v ms) (hlen : ms.length ≤ maxLen) (hm : ∀ x ∈ ms, Tz maxLen x) (hK : KTab w) (hp : 0 < w.heap.size) :
    Calls Tryz.prog 5 #[.int .i64 n, .int .i64 view, v] w fun e w' => e = .returned (.bool true) ∧ Below w.heap.size w w' := by
  have GK : Hid (∀ W, Below w.heap.size w W → KTab W ∧ 0 < W.heap.size) := fun W hW => ⟨hK.below hW hp, Nat.lt_of_lt_of_le hp hW.size⟩
  have HR : Hid (Row w v ms) := hrow
  have HSZ := szS_any v ms 1048576 w hrow hm hlen (Nat.le_refl _)
  obtain ⟨a, cap, hv⟩ := RowG.slice hrow
  clear hK hp hrow hlen hm
  subst hv
  go_enter Tryz.func5, Tryz.ntmps5
  go_wp2_with fail
  refine HSZ.mono ?_
  rintro e w1 ⟨⟨r, rfl, hr⟩, b1⟩
  rcases hr with rfl | ⟨q, rfl, hq1, hl, htz⟩
  · have HE : Hid (Below w.heap.size w w1) := b1
    clear HSZ b1
    go_wp2_with fail
    go_ret
    exact ⟨rfl, HE.out⟩
  have hqn : ¬ (q : Int) < 0 := by omega
  have HL : Hid (∀ _ : Unit, ms.length ≤ 1048576) := fun _ => hl
  have HBD : Hid (∀ x ∈ ms, x.bd.size ≤ 1048576) := fun x hx => (htz x hx).2.1
  have HTO : Hid (∀ W, Below w.heap.size w W → Calls Tryz.prog 20 #[.slice a ms.length cap] W fun e w' => ∃ g, e = .returned (.slice (some ⟨g, 0, none⟩) ms.length ms.length) ∧ W.heap.size ≤ g ∧ g < w'.heap.size ∧ (∀ i x, ms[i]? = some x → E1 w' g (i * 7) x) ∧ Below W.heap.size W w' ∧ Wr w' g (ms.length * 7)) := fun W hW => toS_any _ ms W (HR.out.below hW) hl
  have HSP0 := fun W u (h : Row W u ms) => specPlanOf_any n view u ms W h
  have HIM0 := fun W u (h : Row W u ms) (hW : Below w.heap.size w W) => implPlanOf_any n view u ms W h hl HBD.out (GK.out W hW).1 (GK.out W hW).2
  have hts := pl_len (n := n) (view := view) (ms := ms)
  generalize plL n view ms = ts at HSP0 HIM0 hts
  generalize plC n view ms = cd at HSP0 HIM0
  have HSP : Hid (∀ W u, Row W u ms → Calls Tryz.prog 19 #[.int .i64 n, .int .i64 view, u] W fun e w' => ∃ u, e = .returned (.tuple #[u, .int .i64 cd]) ∧ OwnS w' W.heap.size u ts ∧ Below W.heap.size W w') := HSP0
  have HIM : Hid (∀ W u, Row W u ms → Below w.heap.size w W → Calls Tryz.prog 21 #[.int .i64 n, .int .i64 view, u] W fun e w' => ∃ u, e = .returned (.tuple #[u, .int .i64 cd]) ∧ OwnS w' W.heap.size u ts ∧ Below W.heap.size W w') := HIM0
  have hcc : (cd != cd) = false := by simp
  have HTS : Hid (∀ _ : Unit, ts.length ≤ 8) := fun _ => hts
  obtain ⟨mk, HMK⟩ : ∃ mk : Nat, Hid (1 + ts.length = mk) := ⟨_, rfl⟩
  have hmk : ¬ ((mk : Int) < 0) := by omega
  have hmm : ((mk : Int) != (mk : Int)) = false := by simp
  have B1 : Hid (Below w.heap.size w w1) := b1
  clear HSP0 HIM0 hts hl htz HSZ b1 hq1 GK HBD
  go_wp2_with fail
  refine (HTO.out _ B1.out).mono ?_
  rintro e w2 ⟨g2, rfl, _, hg2, e2, b2, _⟩
  have R2 : Hid (Row w2 (.slice (some ⟨g2, 0, none⟩) ms.length ms.length) ms) := toS_row hg2 e2
  have B2 : Hid (Below w.heap.size w w2) := B1.out.trans (b2.mono B1.out.size)
  clear b2 e2 hg2 B1
  go_wp2_with fail
  refine (HSP.out _ _ R2.out).mono ?_
  rintro e w3 ⟨u3, rfl, o3, b3⟩
  have B3 : Hid (Below w.heap.size w w3) := B2.out.trans (b3.mono B2.out.size)
  have R3 : Hid (RowT w3 u3 ts) := OwnS.row o3
  clear b3 o3 B2 R2
  go_wp2_with fail
  refine (HTO.out _ B3.out).mono ?_
  rintro e w4 ⟨g4, rfl, hg0, hg1, e4, b4, tw4⟩
  have X4 : Hid (Row w4 (.slice (some ⟨g4, 0, none⟩) ms.length ms.length) ms) := toS_row hg1 e4
  have W4 : Hid (Wr w4 g4 (ms.length * 7) ∧ w3.heap.size ≤ g4 ∧ g4 < w4.heap.size) := ⟨tw4, hg0, hg1⟩
  have T4 : Hid (Below w3.heap.size w3 w4) := b4
  have B4 : Hid (Below w.heap.size w w4) := B3.out.trans (b4.mono B3.out.size)
  have S4 : Hid (w3.heap.size ≤ w4.heap.size ∧ w.heap.size ≤ w3.heap.size) := ⟨b4.size, B3.out.size⟩
  clear b4 e4 hg0 hg1 tw4 B3
  go_wp2_with fail
  refine (HIM.out _ _ X4.out B4.out).mono ?_
  rintro e w5 ⟨u5, rfl, o5, b5⟩
  have B5 : Hid (Below w.heap.size w w5) := B4.out.trans (b5.mono B4.out.size)
  have T5 : Hid (Below w3.heap.size w3 w5) := T4.out.trans (b5.mono T4.out.size)
  have R5 : Hid (Below w4.heap.size w4 w5) := b5
  have O5 : Hid (OwnS w5 w4.heap.size u5 ts) := o5
  clear b5 o5 B4 T4
  go_wp2_with fail
  refine (Ty.eqStringS_same _ _ ts _ (OwnS.row O5.out) (R3.out.below T5.out) (by have := HTS.out (); omega)).mono ?_
  rintro e w6 ⟨rfl, b6⟩
  have B6 : Hid (Below w.heap.size w w6) := B5.out.trans (b6.mono B5.out.size)
  have T6 : Hid (Below w3.heap.size w3 w6) := T5.out.trans (b6.mono T5.out.size)
  have R6 : Hid (Below w4.heap.size w4 w6) := R5.out.trans (b6.mono R5.out.size)
  have O6 : Hid (OwnS w6 w4.heap.size u5 ts) := ownS_below O5.out b6
  clear b6 B5 T5 R5 O5
  go_wp2_with fail
  refine (HTO.out _ B6.out).mono ?_
  rintro e w7 ⟨g7, rfl, _, hg7, e7, b7, _⟩
  have X7 : Hid (Row w7 (.slice (some ⟨g7, 0, none⟩) ms.length ms.length) ms) := toS_row hg7 e7
  have B7 : Hid (Below w.heap.size w w7) := B6.out.trans (b7.mono B6.out.size)
  have T7 : Hid (Below w3.heap.size w3 w7) := T6.out.trans (b7.mono T6.out.size)
  have R7 : Hid (Below w4.heap.size w4 w7) := R6.out.trans (b7.mono R6.out.size)
  have O7 : Hid (OwnS w7 w4.heap.size u5 ts) := ownS_below O6.out b7
  clear b7 B6 T6 R6 O6
  clear e7 hg7
  go_wp2_with fail
  refine (eqS_same _ _ ms _ (X4.out.below R7.out) X7.out (HL.out ())).mono ?_
  rintro e w8 ⟨rfl, b8⟩
  have B8 : Hid (Below w.heap.size w w8) := B7.out.trans (b8.mono B7.out.size)
  have T8 : Hid (Below w3.heap.size w3 w8) := T7.out.trans (b8.mono T7.out.size)
  have R8 : Hid (Below w4.heap.size w4 w8) := R7.out.trans (b8.mono R7.out.size)
  have O8 : Hid (OwnS w8 w4.heap.size u5 ts) := ownS_below O7.out b8
  clear b8 B7 T7 R7 O7
  clear X7
  go_wp2_with fail
  refine (markS_any g4 ms.length ms.length 1 w3.heap.size w4.heap.size w8 (W4.out.1.below R8.out) W4.out.2.1 W4.out.2.2 (HL.out ()) (by decide) (by decide)).mono ?_
  rintro e w9 ⟨r9, rfl, hr9, hr90, m9⟩
  have hrn : ¬ ((r9 : Int) < 0) := by omega
  have B9 : Hid (Below w.heap.size w w9) := B8.out.trans ((mid_bel m9 (Nat.le_trans S4.out.1 R8.out.size)).mono S4.out.2)
  have T9 : Hid (Below w3.heap.size w3 w9) := T8.out.trans (mid_bel m9 (Nat.le_trans S4.out.1 R8.out.size))
  have O9 : Hid (OwnS w9 w4.heap.size u5 ts) := ownS_kept O8.out fun g hg => m9.block g (ownS_lt O8.out g hg).2 (.inr (ownS_lt O8.out g hg).1)
  have Z9 : Hid (w4.heap.size ≤ w9.heap.size) := Nat.le_trans R8.out.size m9.size
  clear m9 hr9 hr90 B8 T8 O8 R8 X4 W4
  go_wp2_with fail
  refine (Ty.eqStringS_same _ _ ts _ (OwnS.row O9.out) (R3.out.below T9.out) (by have := HTS.out (); omega)).mono ?_
  rintro e wa ⟨rfl, ba⟩
  have BA : Hid (Below w.heap.size w wa) := B9.out.trans (ba.mono B9.out.size)
  have TA : Hid (Below w3.heap.size w3 wa) := T9.out.trans (ba.mono T9.out.size)
  have OA : Hid (OwnS wa w4.heap.size u5 ts) := ownS_below O9.out ba
  have ZA : Hid (w4.heap.size ≤ wa.heap.size) := Nat.le_trans Z9.out ba.size
  clear ba B9 T9 O9 Z9
  have HMS := markSt_any u5 ts w4.heap.size wa OA.out ZA.out (by have := HTS.out (); omega)
  rw [HMK.out] at HMS
  go_wp2_with fail
  refine HMS.mono ?_
  rintro e wb ⟨rfl, kb, bb⟩
  have BB : Hid (Below w.heap.size w wb) := BA.out.trans (bb.mono (Nat.le_trans S4.out.2 S4.out.1))
  have TB : Hid (Below w3.heap.size w3 wb) := TA.out.trans (bb.mono S4.out.1)
  have KB : Hid (RowT wb u5 (tmarks 1 ts.length)) := kb
  clear kb bb BA TA OA ZA HMS
  have HH : Hid (∀ W, RowT W u5 (tmarks 1 ts.length) → Calls Tryz.prog 26 #[u5, .int .i64 1] W fun e w' => e = .returned (.int .i64 (mk : Int)) ∧ Below W.heap.size W w') := fun W h => by
    have := Rl.heldStringS_any u5 ts.length 1 W h (by decide) (by decide) (by have := HTS.out (); omega)
    have e : ((1 : Nat) : Int) + (ts.length : Int) = (mk : Int) := by have := HMK.out; omega
    rw [e] at this
    exact this
  go_wp2_with fail
  refine (HH.out _ KB.out).mono ?_
  rintro e wc ⟨rfl, bc⟩
  have BC : Hid (Below w.heap.size w wc) := BB.out.trans (bc.mono BB.out.size)
  have TC : Hid (Below w3.heap.size w3 wc) := TB.out.trans (bc.mono TB.out.size)
  have KC : Hid (RowT wc u5 (tmarks 1 ts.length)) := KB.out.below bc
  clear bc BB TB KB
  go_wp2_with fail
  refine (HTO.out _ BC.out).mono ?_
  rintro e wd ⟨gd, rfl, _, hgd, ed, bd, _⟩
  have XD : Hid (Row wd (.slice (some ⟨gd, 0, none⟩) ms.length ms.length) ms) := toS_row hgd ed
  have BD : Hid (Below w.heap.size w wd) := BC.out.trans (bd.mono BC.out.size)
  have TD : Hid (Below w3.heap.size w3 wd) := TC.out.trans (bd.mono TC.out.size)
  have KD : Hid (RowT wd u5 (tmarks 1 ts.length)) := KC.out.below bd
  clear bd BC TC KC ed hgd
  go_wp2_with fail
  refine (HIM.out _ _ XD.out BD.out).mono ?_
  rintro e we ⟨ue, rfl, oe, be⟩
  have BE : Hid (Below w.heap.size w we) := BD.out.trans (be.mono BD.out.size)
  have TE : Hid (Below w3.heap.size w3 we) := TD.out.trans (be.mono TD.out.size)
  have KE : Hid (RowT we u5 (tmarks 1 ts.length)) := KD.out.below be
  have OE : Hid (RowT we ue ts) := OwnS.row oe
  clear be BD TD KD oe XD
  go_wp2_with fail
  refine (Ty.eqStringS_same _ _ ts _ OE.out (R3.out.below TE.out) (by have := HTS.out (); omega)).mono ?_
  rintro e wf ⟨rfl, bf⟩
  have BF : Hid (Below w.heap.size w wf) := BE.out.trans (bf.mono BE.out.size)
  have KF : Hid (RowT wf u5 (tmarks 1 ts.length)) := KE.out.below bf
  clear bf BE TE KE OE
  go_wp2_with fail
  refine (HH.out _ KF.out).mono ?_
  rintro e wg ⟨rfl, bg⟩
  have BG : Hid (Below w.heap.size w wg) := BF.out.trans (bg.mono BF.out.size)
  clear bg BF KF
  go_wp2_with fail
  go_ret
  exact ⟨rfl, BG.out⟩

set_option maxRecDepth 100000 in
theorem lifted (os : Os) (started : os.Started) (H : Type) (enc : TypeId × Value → H) :
    ReturnsInHanded {} Tryz.checked os 5 .any (fun w args => (Rows.fnExactPlanOfSpec.pre enc Tryz.prog Tryz.f5 [] false w args ∧ laidMetH Tryz.prog Rows.fnExactPlanOfRow.laid w) ∧ sizedMet enc Tryz.prog Tryz.f5 (OpenSpec.ofChange Rows.fnExactPlanOfSpec) false w args)
      (Rows.fnExactPlanOfSpec.post enc Tryz.prog Tryz.f5 false true false false) := by
  refine returnsInHanded_of_change_and (C := Tryz.checked) (X := fun w _ => laidMetH Tryz.prog Rows.fnExactPlanOfRow.laid w) (fun _ _ _ hh h => h.of_heap hh) own started (by kernel_rfl) Tryz.func5
    (ChangeSpec.witness_shaped (enc := enc) (C := Tryz.checked) (os := os) (X := fun w _ => laidMetH Tryz.prog Rows.fnExactPlanOfRow.laid w) false (World.doorLaid Tryz.prog 400 os) #[.int .i64 0, .int .i64 0, .slice none 0 0] 8 rfl (World.shaped_of_RefB (by kernel_rfl) (by kernel_rfl)) (by kernel_rfl) (by kernel_rfl) (by kernel_rfl) (door_met os _)) ?_
  intro W base args ds gs before hval0 hW _ _ hL _
  have hval : ∀ (j : Nat) t v, Tryz.f5.params[j]? = some t → args[j]? = some v → Value.okWide Tryz.prog W .any base t v := hval0
  have hW' := hW
  obtain ⟨p, q, hA0, hV0, rfl, hfz, hnd⟩ := hW
  have hA : DataW.TrodAll enc Tryz.prog W 0 (fun _ => true) true Tryz.f5.params.toList args.toList ds p := hA0
  have hV : DataW.TrodVars enc Tryz.prog W (fun _ => true) ["loop.example/g00292/impl.roundWords"] gs q := hV0
  rw [Tryz.params5] at hA hval
  obtain ⟨v0, vs0, d0, ds0, p0, q0, hargs, rfl, rfl, h0, r0⟩ := trodAll_cons hA
  obtain ⟨v1, vs1, d1, ds1, p1, q1, rfl, rfl, rfl, h1, r1⟩ := trodAll_cons r0
  obtain ⟨v2, vs2, d2, ds2, p2, q2, rfl, rfl, rfl, h2, r2⟩ := trodAll_cons r1
  obtain ⟨rfl, rfl, rfl⟩ := trodAll_nil r2
  obtain rfl : args = #[v0, v1, v2] := by cases args; simp_all
  obtain ⟨_, _, _, _, dv, _, rfl, _⟩ := trodVars_one hV
  have k00 := h0
  have lt0 : ∀ x ∈ p0, x.block < W.heap.size := by obtain ⟨m, hm⟩ := k00; exact DataW.trod_lt m _ _ _ hm
  obtain ⟨i0, rfl, rfl, rfl, z0⟩ := open_int Tryz.underlying3 (hval 0 3 v0 rfl rfl) h0
  have k10 := h1
  have lt1 : ∀ x ∈ p1, x.block < W.heap.size := by obtain ⟨m, hm⟩ := k10; exact DataW.trod_lt m _ _ _ hm
  obtain ⟨i1, rfl, rfl, rfl, z1⟩ := open_int Tryz.underlying3 (hval 1 3 v1 rfl rfl) h1
  have k20 := h2
  have lt2 : ∀ x ∈ p2, x.block < W.heap.size := by obtain ⟨m, hm⟩ := k20; exact DataW.trod_lt m _ _ _ hm
  obtain ⟨ms2, wm2, l2, m2⟩ := Op.open_msgs (hval 2 22 v2 rfl rfl) h2
  clear hA0 hval0 hV0
  have hT := Hl.tab_of hL
  refine (walk i0 z0 i1 z1 v2 ms2 W wm2 l2 m2 hT.1 hT.2).mono fun e W' ⟨he, bel⟩ => ?_
  subst he
  exact ⟨_, rfl, _, _, _, [], _, q, hW', trodAll_mk1 (shut_bool Tryz.underlying4 _), (trodAll_cons_mk (Below.trod laidOut (by kernel_rfl) (of_decide_eq_true (by kernel_rfl)) k00 bel lt0) (trodAll_cons_mk (Below.trod laidOut (by kernel_rfl) (of_decide_eq_true (by kernel_rfl)) k10 bel lt1) (trodAll_cons_mk (Below.trod laidOut (by kernel_rfl) (of_decide_eq_true (by kernel_rfl)) k20 bel lt2) trodAll_mk0))), Below.trodVars laidOut bel rowed hV, bel.frame _, fun h => by cases h⟩

theorem said : Rows.FnExactPlanOfSaid :=
  OpenClaim.holds_of_wide 5 Tryz.f5 rfl rfl rfl rfl rfl rfl rfl ⟨rfl, rfl, rfl, rfl, rfl⟩ rfl rfl rfl rfl rfl (by kernel_rfl) Tryz.func5 (by kernel_rfl)
    (of_decide_eq_true (by kernel_rfl)) (by unfold Func.isWrapper; first | (rw [if_pos (by decide +kernel)]; kernel_rfl) | (rw [if_neg (by decide +kernel)]; exact ⟨rfl, rfl⟩))
    (fun os started H enc _ => lifted os started H enc)

/-- No parameter wants a stand-in; the program's own looks are off. -/
theorem plain (f : FuncId) (fn : Func) (hf : Tryz.pinned.checked.prog.funcNamed "loop.example/g00292/laws.FnExactPlanOf" = some f) (hfn : Tryz.pinned.checked.prog.funcs[f]? = some fn) :
    true = Tryz.pinned.checked.prog.looks [] ∧ ∀ (j : Nat) t, fn.params[j]? = some t → Tryz.pinned.checked.prog.wantsStandIn t = false := by
  obtain rfl : f = 5 := Option.some.inj ((show Tryz.prog.funcNamed "loop.example/g00292/laws.FnExactPlanOf" = some 5 by kernel_rfl).symm.trans hf) |>.symm
  obtain rfl : fn = Tryz.f5 := (Option.some.inj (Tryz.func5.symm.trans hfn)).symm
  refine ⟨by kernel_rfl, fun j t ht => ?_⟩
  rw [Tryz.params5] at ht
  have hm := Array.mem_of_getElem? ht
  have hl : t ∈ [3, 3, 22] := by simpa using hm
  have hall : ∀ x ∈ [3, 3, 22], Tryz.prog.wantsStandIn x = false := by
    intro x hx
    simp only [List.mem_cons, List.not_mem_nil, or_false] at hx
    rcases hx with rfl | rfl | rfl <;> kernel_rfl
  exact hall t hl
end Go.Proofs.YtddmdnljfnimbaaGreatDoor.fnExactPlanOf
namespace Go.Proofs.YtddmdnljfnimbaaGreatDoor
/-- THE STATEMENT: the card. -/
theorem fnExactPlanOf_holds : Rows.FnExactPlanOfCardSaid :=
  Claim7.holds_tied_plain_at .later [] _ _ _ _ fnExactPlanOf.said (fun _ h => by cases h) (by kernel_rfl) (fun _ h => by cases h) fnExactPlanOf_row_tie rfl ⟨rfl, rfl⟩ (by kernel_rfl) rfl fnExactPlanOf.plain (by kernel_rfl)
end Go.Proofs.YtddmdnljfnimbaaGreatDoor
