/-
  impl.CertOK answers at every number of nodes and certificate just what the specification's CertOK answers.
  Conditions: none beyond the given row's own; the package variable that it reads starts as the program's text lays it (the card ties it).
-/
import Derived.Test.YtddmdnljfnimbaaGreatDoorM18
import Derived.Test.YtddmdnljfnimbaaGreatDoorM20
import Derived.WalkKit
namespace Go.Proofs.YtddmdnljfnimbaaGreatDoor.fnExactCertOK
open Go.ChangeShapes Go.WideShapes Go.ChangeAt Go.RowKit
open Go.ChangeMaps (open_string shut_string)
open Go.Proofs.YtddmdnljfnimbaaGreatDoor.Hl (own laidOut rowed door_met)

open Go.Proofs.YtddmdnljfnimbaaGreatDoor.Sl Go.Proofs.YtddmdnljfnimbaaGreatDoor.Sh Go.Proofs.YtddmdnljfnimbaaGreatDoor.Rg Go.Proofs.YtddmdnljfnimbaaGreatDoor.Gm Go.Proofs.YtddmdnljfnimbaaGreatDoor.Cb Go.Proofs.YtddmdnljfnimbaaGreatDoor.Vt
set_option maxRecDepth 100000 in
set_option maxHeartbeats 1600000 in
/-- THE WALK: both functions answer alike. -/
theorem walk (n : Int) {q0 : Prop} (_z0 : q0) (bd : ByteArray) (vr : Value) (rs : List Mg) (w : World) (hrow : Row w vr rs) (hlen : rs.length ≤ maxLen) (hm : ∀ x ∈ rs, Tz maxLen x) (hn : bd.size ≤ maxLen) (hK : KTab w) (hp : 0 < w.heap.size) :
    Calls Tryz.prog 3 #[.int .i64 n, crtV bd vr] w fun e w' => e = .returned (.bool true) ∧ Below w.heap.size w w' := by
  have GK : Hid (∀ W, Below w.heap.size w W → KTab W ∧ 0 < W.heap.size) := fun W hW => ⟨hK.below hW hp, Nat.lt_of_lt_of_le hp hW.size⟩
  have HR : Hid (Row w vr rs) := hrow
  have HM : Hid ((∀ x ∈ rs, Tz maxLen x) ∧ rs.length ≤ maxLen) := ⟨hm, hlen⟩
  have HN : Hid (bd.size ≤ maxLen) := hn
  clear hrow hm hlen hn hK hp
  have HTO : Hid (∀ W, Row W vr rs → rs.length ≤ 1048576 → Calls Tryz.prog 8 #[crtV bd vr] W fun e w' => ∃ g, e = .returned (crtV bd (.slice (some ⟨g, 0, none⟩) rs.length rs.length)) ∧ W.heap.size ≤ g ∧ g < w'.heap.size ∧ (∀ i x, rs[i]? = some x → E1 w' g (i * 7) x) ∧ Below W.heap.size W w' ∧ Wr w' g (rs.length * 7)) := fun W h hl => Hc.to_any bd vr rs W h hl
  have HSZ : Hid (∀ W, Row W vr rs → Calls Tryz.prog 6 #[crtV bd vr, .int .i64 1048576] W fun e w' => (∃ r : Int, e = .returned (.int .i64 r) ∧ (r = -1 ∨ ∃ q : Nat, r = q ∧ bd.size ≤ 1048576 ∧ rs.length ≤ 1048576)) ∧ Below W.heap.size W w') := fun W h => (Hc.sz_any bd vr rs W h HM.out.1 HM.out.2 HN.out).mono fun e w' ⟨⟨r, h1, h2⟩, h3⟩ => ⟨⟨r, h1, h2.imp id fun ⟨q, a, b, c, _⟩ => ⟨q, a, b, c⟩⟩, h3⟩
  have HEQ : Hid (∀ W u v, Row W u rs → Row W v rs → rs.length ≤ 1048576 → Calls Tryz.prog 10 #[crtV bd u, crtV bd v] W fun e w' => e = .returned (.bool true) ∧ Below W.heap.size W w') := fun W u v h1 h2 h3 => Hc.eq_same bd u v rs W h1 h2 h3
  unfold crtV at HTO HSZ HEQ ⊢
  have HBX : Hid (Below w.heap.size w (w.alloc (.cells #[.string bd, vr] 24))) := bel_new _ _
  have HCX : Hid (∀ W, Below (w.alloc (.cells #[.string bd, vr] 24)).heap.size (w.alloc (.cells #[.string bd, vr] 24)) W → (W.cell? ⟨w.heap.size, 0, none⟩ = some (.string bd) ∧ W.cell? ⟨w.heap.size, 1, none⟩ = some vr) ∧ Row W vr rs ∧ Below w.heap.size w W) := fun W hW => by
    have h1 := (hW.block w.heap.size (by simp)).trans (heap_alloc_new w _)
    exact ⟨⟨(blk_cell h1 0 rfl).1, (blk_cell h1 1 rfl).1⟩, (HR.out.below HBX.out).below hW, HBX.out.trans (hW.mono HBX.out.size)⟩
  go_enter Tryz.func3, Tryz.ntmps3
  go_upto_region 1 with fail
  generalize w.alloc (.cells #[.string bd, vr] 24) = wb at HCX HBX ⊢
  obtain ⟨⟨x0, x1⟩, r1, _⟩ := HCX.out wb (Below.refl _ _)
  have HRB : Hid (Row wb vr rs) := r1
  clear r1 HR
  go_wp2_with fail
  refine (HSZ.out _ HRB.out).mono ?_
  rintro e w1 ⟨⟨r, rfl, hr⟩, b1⟩
  have B1 : Hid (Below wb.heap.size wb w1) := b1
  clear b1 x0 x1
  rcases hr with rfl | ⟨q, rfl, hb1, hl1⟩
  · have HE : Hid (Below w.heap.size w w1) := (HCX.out w1 B1.out).2.2
    go_wp2_with fail
    go_ret
    exact ⟨rfl, HE.out⟩
  have hq' : ¬ (q : Int) < 0 := by omega
  have HSP : Hid (∀ W u, Row W u rs → Calls Tryz.prog 7 #[.int .i64 n, .agg #[.string bd, u]] W fun e w' => e = .returned (.bool (crtB n bd rs)) ∧ Below W.heap.size W w') := fun W u h => specCertOK_any n bd u rs W h hl1
  have HIM : Hid (∀ W u, Row W u rs → Below w.heap.size w W → Calls Tryz.prog 9 #[.int .i64 n, .agg #[.string bd, u]] W fun e w' => e = .returned (.bool (crtB n bd rs)) ∧ Below W.heap.size W w') := fun W u h hW => implCertOK_any n bd u rs W h hl1 hb1 (GK.out W hW).1 (GK.out W hW).2
  generalize crtB n bd rs = o at HSP HIM
  have hcc : (o != o) = false := by simp
  obtain ⟨⟨x0, x1⟩, r1, _⟩ := HCX.out w1 B1.out
  have HRC : Hid (Row w1 vr rs) := r1
  clear r1
  go_wp2_with fail
  refine (HTO.out _ HRC.out hl1).mono ?_
  rintro e w2 ⟨g2, rfl, _, hg2, e2, b2, _⟩
  have B2 : Hid (Below wb.heap.size wb w2) := B1.out.trans (b2.mono B1.out.size)
  have R2 : Hid (Row w2 (.slice (some ⟨g2, 0, none⟩) rs.length rs.length) rs) := toS_row hg2 e2
  clear b2 e2 hg2 HRC B1 x0 x1
  go_wp2_with fail
  refine (HSP.out _ _ R2.out).mono ?_
  rintro e w3 ⟨rfl, b3⟩
  have B3 : Hid (Below wb.heap.size wb w3) := B2.out.trans (b3.mono B2.out.size)
  clear b3 R2 B2
  obtain ⟨⟨x0, x1⟩, r1, _⟩ := HCX.out w3 B3.out
  have HRC : Hid (Row w3 vr rs) := r1
  clear r1
  go_wp2_with fail
  refine (HTO.out _ HRC.out hl1).mono ?_
  rintro e w4 ⟨g, rfl, hg0, hg1, e4, b4, tw⟩
  have B4 : Hid (Below wb.heap.size wb w4) := B3.out.trans (b4.mono B3.out.size)
  have R4 : Hid (Row w4 (.slice (some ⟨g, 0, none⟩) rs.length rs.length) rs) := toS_row hg1 e4
  clear b4 e4 hg0 hg1 tw HRC x0 x1
  have HD : Hid (∀ W, Below (w4.alloc (.cells #[.string bd, .slice (some ⟨g, 0, none⟩) rs.length rs.length] 29)).heap.size (w4.alloc (.cells #[.string bd, .slice (some ⟨g, 0, none⟩) rs.length rs.length] 29)) W → (W.cell? ⟨w4.heap.size, 0, none⟩ = some (.string bd) ∧ W.cell? ⟨w4.heap.size, 1, none⟩ = some (.slice (some ⟨g, 0, none⟩) rs.length rs.length)) ∧ Row W (.slice (some ⟨g, 0, none⟩) rs.length rs.length) rs ∧ Below w4.heap.size w4 W) := fun W hW => by
    have h1 := (hW.block w4.heap.size (by simp)).trans (heap_alloc_new w4 _)
    exact ⟨⟨(blk_cell h1 0 rfl).1, (blk_cell h1 1 rfl).1⟩, (R4.out.below (bel_new _ _)).below hW, (bel_new w4 _).trans (hW.mono (by simp))⟩
  go_upto_region 7 with fail
  generalize w4.alloc (.cells #[.string bd, .slice (some ⟨g, 0, none⟩) rs.length rs.length] 29) = wd at HD ⊢
  obtain ⟨⟨x0, x1⟩, r1, hbd4⟩ := HD.out wd (Below.refl _ _)
  have RD : Hid (Row wd (.slice (some ⟨g, 0, none⟩) rs.length rs.length) rs) := r1
  have B4D : Hid (Below w4.heap.size w4 wd) := hbd4
  have BWD : Hid (Below w.heap.size w wd) := (HCX.out _ (B4.out.trans (B4D.out.mono B4.out.size))).2.2
  clear r1 hbd4 R4
  go_wp2_with fail
  refine (HIM.out _ _ RD.out BWD.out).mono ?_
  rintro e w5 ⟨rfl, b5⟩
  have B6 : Hid (Below wd.heap.size wd w5) := b5
  clear b5 x0 x1 RD
  go_upto_region 10 with fail
  have HSA : Hid (∀ W, Below w5.heap.size w5 W → ((W.cell? ⟨w.heap.size, 0, none⟩ = some (.string bd) ∧ W.cell? ⟨w.heap.size, 1, none⟩ = some vr) ∧ (W.cell? ⟨w4.heap.size, 0, none⟩ = some (.string bd) ∧ W.cell? ⟨w4.heap.size, 1, none⟩ = some (.slice (some ⟨g, 0, none⟩) rs.length rs.length))) ∧ Row W vr rs ∧ Row W (.slice (some ⟨g, 0, none⟩) rs.length rs.length) rs ∧ Below w.heap.size w W) := fun W hW => by
    have hW2 := B6.out.trans (hW.mono B6.out.size)
    obtain ⟨k1, k2, k3⟩ := HD.out W hW2
    obtain ⟨j1, j2, j3⟩ := HCX.out W (B4.out.trans (k3.mono B4.out.size))
    exact ⟨⟨j1, k1⟩, j2, k2, j3⟩
  obtain ⟨⟨⟨x0, x1⟩, ⟨y0, y1⟩⟩, _, _, _⟩ := HSA.out w5 (Below.refl _ _)
  go_region_held (fun W => (W.cell? ⟨w.heap.size, 0, none⟩ = some (.string bd) ∧ W.cell? ⟨w.heap.size, 1, none⟩ = some vr) ∧ (W.cell? ⟨w4.heap.size, 0, none⟩ = some (.string bd) ∧ W.cell? ⟨w4.heap.size, 1, none⟩ = some (.slice (some ⟨g, 0, none⟩) rs.length rs.length))) (first | exact (HSA.out _ Qc.from_drew).1 | exact (HSA.out _ B7.out).1 | exact (HSA.out _ B8.out).1)
    (first | (go_at_call 8; refine (HTO.out _ (HSA.out _ Qc.from_drew).2.1 hl1).mono ?_; rintro e w7 ⟨g7, rfl, _, hg7, e7, b7, _⟩; have B7 : Hid (Below w5.heap.size w5 w7) := Qc.from_drew.trans b7; have R7 : Hid (Row w7 (.slice (some ⟨g7, 0, none⟩) rs.length rs.length) rs) := toS_row hg7 e7; clear hg7 e7 b7) | (go_at_call 10; refine (HEQ.out _ _ _ (HSA.out _ B7.out).2.2.1 R7.out hl1).mono ?_; rintro e w8 ⟨rfl, b8⟩; have B8 : Hid (Below w5.heap.size w5 w8) := B7.out.trans (b8.mono B7.out.size); clear b8))
  have G8 : Hid (Below w.heap.size w w8) := (HSA.out w8 B8.out).2.2.2
  clear x0 x1 y0 y1 B7 R7 B8 HSA
  go_wp2_with fail
  go_ret
  exact ⟨rfl, G8.out⟩

set_option maxRecDepth 100000 in
theorem lifted (os : Os) (started : os.Started) (H : Type) (enc : TypeId × Value → H) :
    ReturnsInHanded {} Tryz.checked os 3 .any (fun w args => (Rows.fnExactCertOKSpec.pre enc Tryz.prog Tryz.f3 [] false w args ∧ laidMetH Tryz.prog Rows.fnExactCertOKRow.laid w) ∧ sizedMet enc Tryz.prog Tryz.f3 (OpenSpec.ofChange Rows.fnExactCertOKSpec) false w args)
      (Rows.fnExactCertOKSpec.post enc Tryz.prog Tryz.f3 false true false false) := by
  refine returnsInHanded_of_change_and (C := Tryz.checked) (X := fun w _ => laidMetH Tryz.prog Rows.fnExactCertOKRow.laid w) (fun _ _ _ hh h => h.of_heap hh) own started (by kernel_rfl) Tryz.func3
    (ChangeSpec.witness_shaped (enc := enc) (C := Tryz.checked) (os := os) (X := fun w _ => laidMetH Tryz.prog Rows.fnExactCertOKRow.laid w) false (World.doorLaid Tryz.prog 400 os) #[.int .i64 0, .agg #[.string ByteArray.empty, .slice none 0 0]] 8 rfl (World.shaped_of_RefB (by kernel_rfl) (by kernel_rfl)) (by kernel_rfl) (by kernel_rfl) (by kernel_rfl) (door_met os _)) ?_
  intro W base args ds gs before hval0 hW _ _ hL _
  have hval : ∀ (j : Nat) t v, Tryz.f3.params[j]? = some t → args[j]? = some v → Value.okWide Tryz.prog W .any base t v := hval0
  have hW' := hW
  obtain ⟨p, q, hA0, hV0, rfl, hfz, hnd⟩ := hW
  have hA : DataW.TrodAll enc Tryz.prog W 0 (fun _ => true) true Tryz.f3.params.toList args.toList ds p := hA0
  have hV : DataW.TrodVars enc Tryz.prog W (fun _ => true) ["loop.example/g00292/impl.roundWords"] gs q := hV0
  rw [Tryz.params3] at hA hval
  obtain ⟨v0, vs0, d0, ds0, p0, q0, hargs, rfl, rfl, h0, r0⟩ := trodAll_cons hA
  obtain ⟨v1, vs1, d1, ds1, p1, q1, rfl, rfl, rfl, h1, r1⟩ := trodAll_cons r0
  obtain ⟨rfl, rfl, rfl⟩ := trodAll_nil r1
  obtain rfl : args = #[v0, v1] := by cases args; simp_all
  obtain ⟨_, _, _, _, dv, _, rfl, _⟩ := trodVars_one hV
  have k00 := h0
  have lt0 : ∀ x ∈ p0, x.block < W.heap.size := by obtain ⟨m, hm⟩ := k00; exact DataW.trod_lt m _ _ _ hm
  obtain ⟨i0, rfl, rfl, rfl, z0⟩ := open_int Tryz.underlying3 (hval 0 3 v0 rfl rfl) h0
  have k10 := h1
  have lt1 : ∀ x ∈ p1, x.block < W.heap.size := by obtain ⟨m, hm⟩ := k10; exact DataW.trod_lt m _ _ _ hm
  obtain ⟨bd1, vr1, rs1, rfl, wr1, l1, m1, n1⟩ := Op.open_cert (hval 1 24 v1 rfl rfl) h1
  clear hA0 hval0 hV0
  have hT := Hl.tab_of hL
  refine (walk i0 z0 bd1 vr1 rs1 W wr1 l1 m1 n1 hT.1 hT.2).mono fun e W' ⟨he, bel⟩ => ?_
  subst he
  exact ⟨_, rfl, _, _, _, [], _, q, hW', trodAll_mk1 (shut_bool Tryz.underlying4 _), (trodAll_cons_mk (Below.trod laidOut (by kernel_rfl) (of_decide_eq_true (by kernel_rfl)) k00 bel lt0) (trodAll_cons_mk (Below.trod laidOut (by kernel_rfl) (of_decide_eq_true (by kernel_rfl)) k10 bel lt1) trodAll_mk0)), Below.trodVars laidOut bel rowed hV, bel.frame _, fun h => by cases h⟩

theorem said : Rows.FnExactCertOKSaid :=
  OpenClaim.holds_of_wide 3 Tryz.f3 rfl rfl rfl rfl rfl rfl rfl ⟨rfl, rfl, rfl, rfl, rfl⟩ rfl rfl rfl rfl rfl (by kernel_rfl) Tryz.func3 (by kernel_rfl)
    (of_decide_eq_true (by kernel_rfl)) (by unfold Func.isWrapper; first | (rw [if_pos (by decide +kernel)]; kernel_rfl) | (rw [if_neg (by decide +kernel)]; exact ⟨rfl, rfl⟩))
    (fun os started H enc _ => lifted os started H enc)

/-- No parameter wants a stand-in; the program's own looks are off. -/
theorem plain (f : FuncId) (fn : Func) (hf : Tryz.pinned.checked.prog.funcNamed "loop.example/g00292/laws.FnExactCertOK" = some f) (hfn : Tryz.pinned.checked.prog.funcs[f]? = some fn) :
    true = Tryz.pinned.checked.prog.looks [] ∧ ∀ (j : Nat) t, fn.params[j]? = some t → Tryz.pinned.checked.prog.wantsStandIn t = false := by
  obtain rfl : f = 3 := Option.some.inj ((show Tryz.prog.funcNamed "loop.example/g00292/laws.FnExactCertOK" = some 3 by kernel_rfl).symm.trans hf) |>.symm
  obtain rfl : fn = Tryz.f3 := (Option.some.inj (Tryz.func3.symm.trans hfn)).symm
  refine ⟨by kernel_rfl, fun j t ht => ?_⟩
  rw [Tryz.params3] at ht
  have hm := Array.mem_of_getElem? ht
  have hl : t ∈ [3, 24] := by simpa using hm
  have hall : ∀ x ∈ [3, 24], Tryz.prog.wantsStandIn x = false := by
    intro x hx
    simp only [List.mem_cons, List.not_mem_nil, or_false] at hx
    rcases hx with rfl | rfl <;> kernel_rfl
  exact hall t hl
end Go.Proofs.YtddmdnljfnimbaaGreatDoor.fnExactCertOK
namespace Go.Proofs.YtddmdnljfnimbaaGreatDoor
/-- THE STATEMENT: the card. -/
theorem fnExactCertOK_holds : Rows.FnExactCertOKCardSaid :=
  Claim7.holds_tied_plain_at .later [] _ _ _ _ fnExactCertOK.said (fun _ h => by cases h) (by kernel_rfl) (fun _ h => by cases h) fnExactCertOK_row_tie rfl ⟨rfl, rfl⟩ (by kernel_rfl) rfl fnExactCertOK.plain (by kernel_rfl)
end Go.Proofs.YtddmdnljfnimbaaGreatDoor
