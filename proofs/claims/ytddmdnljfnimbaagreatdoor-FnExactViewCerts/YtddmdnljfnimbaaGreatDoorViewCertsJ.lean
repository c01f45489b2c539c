/-
  impl.ViewCerts answers at every number of nodes and message just what the specification's ViewCerts answers, and its answer owns its memory.
  Conditions: none beyond the given row's own; the package variable that it reads starts as the program's text lays it (the card ties it).
-/
import Derived.Test.YtddmdnljfnimbaaGreatDoorM25
import Derived.Test.YtddmdnljfnimbaaGreatDoorM20
import Derived.WalkKit
namespace Go.Proofs.YtddmdnljfnimbaaGreatDoor.fnExactViewCerts
open Go.ChangeShapes Go.WideShapes Go.ChangeAt Go.RowKit
open Go.ChangeMaps (open_string shut_string)
open Go.Proofs.YtddmdnljfnimbaaGreatDoor.Hl (own laidOut rowed door_met)

open Go.Proofs.YtddmdnljfnimbaaGreatDoor.Sl Go.Proofs.YtddmdnljfnimbaaGreatDoor.By Go.Proofs.YtddmdnljfnimbaaGreatDoor.Ap Go.Proofs.YtddmdnljfnimbaaGreatDoor.Sh Go.Proofs.YtddmdnljfnimbaaGreatDoor.Rq Go.Proofs.YtddmdnljfnimbaaGreatDoor.Ms Go.Proofs.YtddmdnljfnimbaaGreatDoor.Gm Go.Proofs.YtddmdnljfnimbaaGreatDoor.Wc
open Go.Proofs.YtddmdnljfnimbaaGreatDoor.Rg (bel_new)
set_option maxRecDepth 100000 in
set_option maxHeartbeats 3200000 in
/-- THE WALK: both functions answer alike; the answer owns its memory, behind another call too. -/
theorem walk (n : Int) {q0 : Prop} (_z0 : q0) (kd vw sq fr : Int) (dg bd mc : ByteArray) (hd : dg.size ≤ maxLen) (hb : bd.size ≤ maxLen) (hm : mc.size ≤ maxLen) (w : World) (hK : KTab w) (hp : 0 < w.heap.size) :
    Calls Tryz.prog 4 #[.int .i64 n, msgV kd vw sq fr dg bd mc] w fun e w' => e = .returned (.bool true) ∧ Below w.heap.size w w' := by
  have GK : Hid (∀ W, Below w.heap.size w W → KTab W ∧ 0 < W.heap.size) := fun W hW => ⟨hK.below hW hp, Nat.lt_of_lt_of_le hp hW.size⟩
  clear hK hp
  by_cases hbig : (1048576 : Int) < ((dg.size + bd.size + mc.size : Nat) : Int)
  · have HL : lft 1048576 ((dg.size + bd.size + mc.size : Nat) : Int) = -1 := lft_no hbig
    go_enter Tryz.func4, Tryz.ntmps4
    unfold msgV
    go_wp2_with fail
    refine (szMessage_any kd vw sq fr dg bd mc _ hd hb hm).mono ?_
    rintro e w1 ⟨rfl, b1⟩
    have g1 := box_first b1
    clear b1
    rw [HL]
    go_wp2_with fail
    go_ret
    exact ⟨rfl, box_old g1⟩
  · obtain ⟨lf, HL, hlf⟩ : ∃ lf, Hid (lft 1048576 ((dg.size + bd.size + mc.size : Nat) : Int) = lf) ∧ 0 ≤ lf := ⟨_, rfl, by rw [lft_yes hbig]; omega⟩
    have hbz : bd.size ≤ 1048576 := by omega
    have HVS : Hid (∀ ps : List (Ct × Value), ps.map (·.1) = vcL n (⟨kd, vw, sq, fr, dg, bd, mc⟩ : Mg) → ps.length ≤ 8 ∧ ∀ p ∈ ps, p.1.ms.length ≤ 7) := fun ps h => vc_small h
    have HSP0 := fun W => specViewCerts_any n (⟨kd, vw, sq, fr, dg, bd, mc⟩ : Mg) W
    have HIM0 := fun W (hW : Below w.heap.size w W) => implViewCerts_any n (⟨kd, vw, sq, fr, dg, bd, mc⟩ : Mg) W hbz (GK.out W hW).1 (GK.out W hW).2
    generalize vcL n (⟨kd, vw, sq, fr, dg, bd, mc⟩ : Mg) = cl at HSP0 HIM0 HVS
    generalize vcC n (⟨kd, vw, sq, fr, dg, bd, mc⟩ : Mg) = cd at HSP0 HIM0
    have HSP : Hid (∀ W, Calls Tryz.prog 12 #[.int .i64 n, .agg #[.int .i64 kd, .int .i64 vw, .int .i64 sq, .int .i64 fr, .string dg, .string bd, .string mc]] W fun e w' => ∃ u, e = .returned (.tuple #[u, .int .i64 cd]) ∧ (∃ ps, ps.map (·.1) = cl ∧ OwnC w' W.heap.size u ps) ∧ Below W.heap.size W w') := HSP0
    have HIM : Hid (∀ W, Below w.heap.size w W → Calls Tryz.prog 14 #[.int .i64 n, .agg #[.int .i64 kd, .int .i64 vw, .int .i64 sq, .int .i64 fr, .string dg, .string bd, .string mc]] W fun e w' => ∃ u, e = .returned (.tuple #[u, .int .i64 cd]) ∧ (∃ ps, ps.map (·.1) = cl ∧ OwnC w' W.heap.size u ps) ∧ Below W.heap.size W w') := HIM0
    have hcc : (cd != cd) = false := by simp
    clear HSP0 HIM0 hbig hbz GK
    go_enter Tryz.func4, Tryz.ntmps4
    unfold msgV
    go_wp2_with fail
    refine (szMessage_any kd vw sq fr dg bd mc _ hd hb hm).mono ?_
    rintro e w1 ⟨rfl, b1⟩
    have g1 := box_first b1
    rw [HL.out]
    obtain ⟨q0, q1, q2, q3, q4, q5, q6⟩ := msg_box g1
    clear b1 hd hb hm
    go_wp2_with fail
    refine (toMessage_any kd vw sq fr dg bd mc _).mono ?_
    rintro e w2 ⟨rfl, b2⟩
    have g2 := box_next g1 b2
    clear b2 q0 q1 q2 q3 q4 q5 q6 g1
    unfold msgV
    go_wp2_with fail
    refine (HSP.out _).mono ?_
    rintro e w3 ⟨u3, rfl, ⟨ps3, m3, o3⟩, b3⟩
    have g3 := box_next g2 b3
    obtain ⟨q0, q1, q2, q3, q4, q5, q6⟩ := msg_box g3
    have O3 : Hid (OwnC w3 w2.heap.size u3 ps3 ∧ ps3.map (·.1) = cl) := ⟨o3, m3⟩
    have T3 : Hid ((∀ g, u3.ownBlock = some g → g < w3.heap.size) ∧ ∀ p ∈ ps3, ∀ g, p.2.ownBlock = some g → g < w3.heap.size) := ⟨fun g hg => (o3.lt g hg).2, fun p hp g hg => ((o3.mem p hp).lt g hg).2⟩
    have G3 : Hid (Below (w.heap.size + 1) (w.alloc (.cells #[.int .i64 kd, .int .i64 vw, .int .i64 sq, .int .i64 fr, .string dg, .string bd, .string mc] 34)) w3) := g3
    clear b3 g2 g3 o3 m3
    go_wp2_with fail
    refine (toMessage_any kd vw sq fr dg bd mc _).mono ?_
    rintro e w4 ⟨rfl, b4⟩
    have G4 : Hid (Below (w.heap.size + 1) (w.alloc (.cells #[.int .i64 kd, .int .i64 vw, .int .i64 sq, .int .i64 fr, .string dg, .string bd, .string mc] 34)) w4) := box_next G3.out b4
    have S4 : Hid (w3.heap.size ≤ w4.heap.size ∧ w.heap.size + 1 ≤ w4.heap.size) := ⟨b4.size, by have h1 := G4.out.size; rw [Rg.size_new] at h1; exact h1⟩
    have O4 : Hid (OwnC w4 w2.heap.size u3 ps3 ∧ ps3.map (·.1) = cl) := ⟨O3.out.1.below b4, O3.out.2⟩
    clear b4 q0 q1 q2 q3 q4 q5 q6 G3 O3
    unfold msgV
    go_wp2_with fail
    refine (HIM.out _ (box_old G4.out)).mono ?_
    rintro e w5 ⟨u5, rfl, ⟨ps5, m5, o5⟩, b5⟩
    have G5 : Hid (Below (w.heap.size + 1) (w.alloc (.cells #[.int .i64 kd, .int .i64 vw, .int .i64 sq, .int .i64 fr, .string dg, .string bd, .string mc] 34)) w5) := box_next G4.out b5
    have S5 : Hid (w4.heap.size ≤ w5.heap.size) := b5.size
    have O5 : Hid (OwnC w5 w2.heap.size u3 ps3 ∧ ps3.map (·.1) = cl) := ⟨O4.out.1.below b5, O4.out.2⟩
    have P5 : Hid (OwnC w5 w4.heap.size u5 ps5) := o5
    have M5 : Hid (ps5.map (·.1) = cl) := m5
    obtain ⟨hl8, hm7⟩ := HVS.out ps5 m5
    have HM7 : Hid (∀ p ∈ ps5, p.1.ms.length ≤ 7) := hm7
    have HKE : Hid (∀ _ : Unit, 1 ≤ kS ps5 ps5.length) := fun _ => (kS_le hm7 (Nat.le_refl _)).1
    clear b5 o5 m5 G4 O4 hm7
    go_wp2_with fail
    refine (eqCertS_same u5 u3 ps5 ps3 _ _ w5 P5.out O5.out.1 (M5.out.trans O5.out.2.symm) hl8 HM7.out).mono ?_
    rintro e w6 ⟨rfl, b6⟩
    have G6 : Hid (Below (w.heap.size + 1) (w.alloc (.cells #[.int .i64 kd, .int .i64 vw, .int .i64 sq, .int .i64 fr, .string dg, .string bd, .string mc] 34)) w6) := box_next G5.out b6
    have S6 : Hid (w4.heap.size ≤ w6.heap.size) := Nat.le_trans S5.out b6.size
    have O6 : Hid (OwnC w6 w2.heap.size u3 ps3 ∧ ps3.map (·.1) = cl) := ⟨O5.out.1.below b6, O5.out.2⟩
    have P6 : Hid (OwnC w6 w4.heap.size u5 ps5) := P5.out.below b6
    clear b6 G5 O5 P5 S5
    have HMK := markCertS_own u5 ps5 w4.heap.size w6 P6.out S6.out hl8 HM7.out
    obtain ⟨mk, HK⟩ : ∃ mk : Nat, Hid (kS ps5 ps5.length = mk) := ⟨_, rfl⟩
    have hmk : ¬ ((mk : Int) < 0) := by omega
    have hmm : ((mk : Int) != (mk : Int)) = false := by simp
    rw [HK.out] at HMK
    go_wp2_with fail
    refine HMK.mono ?_
    rintro e w7 ⟨rfl, h7, b7⟩
    have G7 : Hid (Below (w.heap.size + 1) (w.alloc (.cells #[.int .i64 kd, .int .i64 vw, .int .i64 sq, .int .i64 fr, .string dg, .string bd, .string mc] 34)) w7) := G6.out.trans (b7.mono S4.out.2)
    have O7 : Hid (OwnC w7 w2.heap.size u3 ps3 ∧ ps3.map (·.1) = cl) := ⟨O6.out.1.upto (fun g hg => Nat.lt_of_lt_of_le (T3.out.1 g hg) S4.out.1) (fun p hp g hg => Nat.lt_of_lt_of_le (T3.out.2 p hp g hg) S4.out.1) b7, O6.out.2⟩
    have H7 : Hid (HeldC w7 u5 ps5) := h7
    clear h7 b7 HMK G6 O6 P6 S6
    have HH7 := heldCertS_own u5 ps5 w7 H7.out hl8 HM7.out
    rw [HK.out] at HH7
    go_wp2_with fail
    refine HH7.mono ?_
    rintro e w8 ⟨rfl, b8⟩
    have g8 := box_next G7.out b8
    have G8 : Hid (Below (w.heap.size + 1) (w.alloc (.cells #[.int .i64 kd, .int .i64 vw, .int .i64 sq, .int .i64 fr, .string dg, .string bd, .string mc] 34)) w8) := g8
    obtain ⟨q0, q1, q2, q3, q4, q5, q6⟩ := msg_box g8
    have O8 : Hid (OwnC w8 w2.heap.size u3 ps3 ∧ ps3.map (·.1) = cl) := ⟨O7.out.1.below b8, O7.out.2⟩
    have H8 : Hid (HeldC w8 u5 ps5) := H7.out.below b8
    clear b8 g8 HH7 G7 O7 H7
    go_wp2_with fail
    refine (toMessage_any kd vw sq fr dg bd mc _).mono ?_
    rintro e w9 ⟨rfl, b9⟩
    have G9 : Hid (Below (w.heap.size + 1) (w.alloc (.cells #[.int .i64 kd, .int .i64 vw, .int .i64 sq, .int .i64 fr, .string dg, .string bd, .string mc] 34)) w9) := box_next G8.out b9
    have O9 : Hid (OwnC w9 w2.heap.size u3 ps3 ∧ ps3.map (·.1) = cl) := ⟨O8.out.1.below b9, O8.out.2⟩
    have H9 : Hid (HeldC w9 u5 ps5) := H8.out.below b9
    clear b9 q0 q1 q2 q3 q4 q5 q6 G8 O8 H8
    unfold msgV
    go_wp2_with fail
    refine (HIM.out _ (box_old G9.out)).mono ?_
    rintro e wa ⟨ua, rfl, ⟨psa, ma, oa⟩, ba⟩
    have GA : Hid (Below (w.heap.size + 1) (w.alloc (.cells #[.int .i64 kd, .int .i64 vw, .int .i64 sq, .int .i64 fr, .string dg, .string bd, .string mc] 34)) wa) := box_next G9.out ba
    have OA : Hid (OwnC wa w2.heap.size u3 ps3 ∧ ps3.map (·.1) = cl) := ⟨O9.out.1.below ba, O9.out.2⟩
    have HA : Hid (HeldC wa u5 ps5) := H9.out.below ba
    have PA : Hid (OwnC wa w9.heap.size ua psa ∧ psa.map (·.1) = cl) := ⟨oa, ma⟩
    have VA : Hid (psa.length ≤ 8 ∧ ∀ p ∈ psa, p.1.ms.length ≤ 7) := HVS.out psa ma
    clear ba oa ma G9 O9 H9
    go_wp2_with fail
    refine (eqCertS_same ua u3 psa ps3 _ _ wa PA.out.1 OA.out.1 (PA.out.2.trans OA.out.2.symm) VA.out.1 VA.out.2).mono ?_
    rintro e wb ⟨rfl, bb⟩
    have GB : Hid (Below (w.heap.size + 1) (w.alloc (.cells #[.int .i64 kd, .int .i64 vw, .int .i64 sq, .int .i64 fr, .string dg, .string bd, .string mc] 34)) wb) := box_next GA.out bb
    have HB : Hid (HeldC wb u5 ps5) := HA.out.below bb
    clear bb GA OA HA PA VA
    have HHB := heldCertS_own u5 ps5 wb HB.out hl8 HM7.out
    rw [HK.out] at HHB
    go_wp2_with fail
    refine HHB.mono ?_
    rintro e wc ⟨rfl, bc⟩
    have GC : Hid (Below w.heap.size w wc) := box_old (box_next GB.out bc)
    clear bc GB HB HHB
    go_wp2_with fail
    go_ret
    exact ⟨rfl, GC.out⟩

set_option maxRecDepth 100000 in
theorem lifted (os : Os) (started : os.Started) (H : Type) (enc : TypeId × Value → H) :
    ReturnsInHanded {} Tryz.checked os 4 .any (fun w args => (Rows.fnExactViewCertsSpec.pre enc Tryz.prog Tryz.f4 [] false w args ∧ laidMetH Tryz.prog Rows.fnExactViewCertsRow.laid w) ∧ sizedMet enc Tryz.prog Tryz.f4 (OpenSpec.ofChange Rows.fnExactViewCertsSpec) false w args)
      (Rows.fnExactViewCertsSpec.post enc Tryz.prog Tryz.f4 false true false false) := by
  refine returnsInHanded_of_change_and (C := Tryz.checked) (X := fun w _ => laidMetH Tryz.prog Rows.fnExactViewCertsRow.laid w) (fun _ _ _ hh h => h.of_heap hh) own started (by kernel_rfl) Tryz.func4
    (ChangeSpec.witness_shaped (enc := enc) (C := Tryz.checked) (os := os) (X := fun w _ => laidMetH Tryz.prog Rows.fnExactViewCertsRow.laid w) false (World.doorLaid Tryz.prog 400 os) #[.int .i64 0, .agg #[.int .i64 0, .int .i64 0, .int .i64 0, .int .i64 0, .string ByteArray.empty, .string ByteArray.empty, .string ByteArray.empty]] 8 rfl (World.shaped_of_RefB (by kernel_rfl) (by kernel_rfl)) (by kernel_rfl) (by kernel_rfl) (by kernel_rfl) (door_met os _)) ?_
  intro W base args ds gs before hval0 hW _ _ hL _
  have hval : ∀ (j : Nat) t v, Tryz.f4.params[j]? = some t → args[j]? = some v → Value.okWide Tryz.prog W .any base t v := hval0
  have hW' := hW
  obtain ⟨p, q, hA0, hV0, rfl, hfz, hnd⟩ := hW
  have hA : DataW.TrodAll enc Tryz.prog W 0 (fun _ => true) true Tryz.f4.params.toList args.toList ds p := hA0
  have hV : DataW.TrodVars enc Tryz.prog W (fun _ => true) ["loop.example/g00292/impl.roundWords"] gs q := hV0
  rw [Tryz.params4] at hA hval
  obtain ⟨v0, vs0, d0, ds0, p0, q0, hargs, rfl, rfl, h0, r0⟩ := trodAll_cons hA
  obtain ⟨v1, vs1, d1, ds1, p1, q1, rfl, rfl, rfl, h1, r1⟩ := trodAll_cons r0
  obtain ⟨rfl, rfl, rfl⟩ := trodAll_nil r1
  obtain rfl : args = #[v0, v1] := by cases args; simp_all
  obtain ⟨_, _, _, _, dv, _, rfl, _⟩ := trodVars_one hV
  have k00 := h0
  have lt0 : ∀ x ∈ p0, x.block < W.heap.size := by obtain ⟨m, hm⟩ := k00; exact DataW.trod_lt m _ _ _ hm
  obtain ⟨i0, rfl, rfl, rfl, z0⟩ := open_int Tryz.underlying3 (hval 0 3 v0 rfl rfl) h0
  have k10 := h1
  have lt1 : ∀ x ∈ p1, x.block < W.heap.size := by obtain ⟨m, hm⟩ := k10; exact DataW.trod_lt m _ _ _ hm
  obtain ⟨kd1, vw1, sq1, fr1, dg1, bd1, mc1, rfl, hd1, hb1, hm1⟩ := Op.open_msg (hval 1 34 v1 rfl rfl) h1
  clear hA0 hval0 hV0
  have hT := Hl.tab_of hL
  refine (walk i0 z0 kd1 vw1 sq1 fr1 dg1 bd1 mc1 hd1 hb1 hm1 W hT.1 hT.2).mono fun e W' ⟨he, bel⟩ => ?_
  subst he
  exact ⟨_, rfl, _, _, _, [], _, q, hW', trodAll_mk1 (shut_bool Tryz.underlying4 _), (trodAll_cons_mk (Below.trod laidOut (by kernel_rfl) (of_decide_eq_true (by kernel_rfl)) k00 bel lt0) (trodAll_cons_mk (Below.trod laidOut (by kernel_rfl) (of_decide_eq_true (by kernel_rfl)) k10 bel lt1) trodAll_mk0)), Below.trodVars laidOut bel rowed hV, bel.frame _, fun h => by cases h⟩

theorem said : Rows.FnExactViewCertsSaid :=
  OpenClaim.holds_of_wide 4 Tryz.f4 rfl rfl rfl rfl rfl rfl rfl ⟨rfl, rfl, rfl, rfl, rfl⟩ rfl rfl rfl rfl rfl (by kernel_rfl) Tryz.func4 (by kernel_rfl)
    (of_decide_eq_true (by kernel_rfl)) (by unfold Func.isWrapper; first | (rw [if_pos (by decide +kernel)]; kernel_rfl) | (rw [if_neg (by decide +kernel)]; exact ⟨rfl, rfl⟩))
    (fun os started H enc _ => lifted os started H enc)

/-- No parameter wants a stand-in; the program's own looks are off. -/
theorem plain (f : FuncId) (fn : Func) (hf : Tryz.pinned.checked.prog.funcNamed "loop.example/g00292/laws.FnExactViewCerts" = some f) (hfn : Tryz.pinned.checked.prog.funcs[f]? = some fn) :
    true = Tryz.pinned.checked.prog.looks [] ∧ ∀ (j : Nat) t, fn.params[j]? = some t → Tryz.pinned.checked.prog.wantsStandIn t = false := by
  obtain rfl : f = 4 := Option.some.inj ((show Tryz.prog.funcNamed "loop.example/g00292/laws.FnExactViewCerts" = some 4 by kernel_rfl).symm.trans hf) |>.symm
  obtain rfl : fn = Tryz.f4 := (Option.some.inj (Tryz.func4.symm.trans hfn)).symm
  refine ⟨by kernel_rfl, fun j t ht => ?_⟩
  rw [Tryz.params4] at ht
  have hm := Array.mem_of_getElem? ht
  have hl : t ∈ [3, 34] := by simpa using hm
  have hall : ∀ x ∈ [3, 34], Tryz.prog.wantsStandIn x = false := by
    intro x hx
    simp only [List.mem_cons, List.not_mem_nil, or_false] at hx
    rcases hx with rfl | rfl <;> kernel_rfl
  exact hall t hl
end Go.Proofs.YtddmdnljfnimbaaGreatDoor.fnExactViewCerts
namespace Go.Proofs.YtddmdnljfnimbaaGreatDoor
/-- THE STATEMENT: the card. -/
theorem fnExactViewCerts_holds : Rows.FnExactViewCertsCardSaid :=
  Claim7.holds_tied_plain_at .later [] _ _ _ _ fnExactViewCerts.said (fun _ h => by cases h) (by kernel_rfl) (fun _ h => by cases h) fnExactViewCerts_row_tie rfl ⟨rfl, rfl⟩ (by kernel_rfl) rfl fnExactViewCerts.plain (by kernel_rfl)
end Go.Proofs.YtddmdnljfnimbaaGreatDoor
