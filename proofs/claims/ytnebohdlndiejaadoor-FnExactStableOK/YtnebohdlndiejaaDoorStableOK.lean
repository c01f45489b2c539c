/-
  impl.StableOK answers at every argument just what the specification's StableOK answers; it writes into no argument.
  Conditions: none beyond the given row's own; the package variable that it reads starts as the program's text lays it (the card ties it).
-/
import Derived.Test.YtnebohdlndiejaaDoorXd
import Derived.Test.YtnebohdlndiejaaDoorHashLaid
import Derived.WalkKit
namespace Go.Proofs.YtnebohdlndiejaaDoor.fnExactStableOK
open Go.ChangeShapes Go.WideShapes Go.ChangeAt Go.RowKit
open Go.ChangeMaps (open_string shut_string)
open Go.Proofs.YtnebohdlndiejaaDoor.Hl (own laidOut rowed door_met)

open Go.Proofs.YtnebohdlndiejaaDoor.Sl Go.Proofs.YtnebohdlndiejaaDoor.Xs
open Go.Proofs.YtnebohdlndiejaaDoor.Sh (KTab)
open Go.Proofs.YtnebohdlndiejaaDoor.Hs (stV)
open Go.Proofs.YtnebohdlndiejaaDoor.Gt (Vo)
theorem andThen {w w1 w2 : World} (b1 : Below w.heap.size w w1) (b2 : Below w1.heap.size w1 w2) : Below w.heap.size w w2 := b1.trans (b2.mono b1.size)
set_option maxRecDepth 100000 in
set_option maxHeartbeats 1600000 in
/-- THE WALK: both functions answer alike; the copy that was handed in is as it was. -/
theorem walk (n : Int) {q0 : Prop} (_z0 : q0) {w : World} (sq sz : Int) (rt : ByteArray) (vr : Value) (rs : List Vo) (h : Gt.Row w vr rs) (hl : rs.length ≤ maxLen) (hm : ∀ x ∈ rs, Gt.Tz maxLen x) (hn : rt.size ≤ maxLen) (hK : KTab w) (hp : 0 < w.heap.size) :
    Calls Tryd.prog 3 #[.int .i64 n, stV sq sz rt vr] w fun e w' => e = .returned (.bool true) ∧ Below w.heap.size w w' := by
  have GK : Hid (KTab w ∧ 0 < w.heap.size) := ⟨hK, hp⟩
  have HKT : Hid (∀ W, Below w.heap.size w W → KTab W ∧ 0 < W.heap.size) := fun W hW => ⟨GK.out.1.below hW GK.out.2, Nat.lt_of_lt_of_le GK.out.2 hW.size⟩
  obtain ⟨a, cap, rfl⟩ := Rg.RowG.slice h
  have HX : Hid (∀ W, Below (w.alloc (.cells #[.int .i64 sq, .int .i64 sz, .string rt, .slice a rs.length cap] 24)).heap.size (w.alloc (.cells #[.int .i64 sq, .int .i64 sz, .string rt, .slice a rs.length cap] 24)) W → (W.cell? ⟨w.heap.size, 0, none⟩ = some (.int .i64 sq) ∧ W.cell? ⟨w.heap.size, 1, none⟩ = some (.int .i64 sz) ∧ W.cell? ⟨w.heap.size, 2, none⟩ = some (.string rt) ∧ W.cell? ⟨w.heap.size, 3, none⟩ = some (.slice a rs.length cap)) ∧ Gt.Row W (.slice a rs.length cap) rs ∧ Below w.heap.size w W) := fun W hW => by
    have h1 := (hW.block w.heap.size (by simp)).trans (heap_alloc_new w _)
    have b := (Rg.bel_new w (.cells #[.int .i64 sq, .int .i64 sz, .string rt, .slice a rs.length cap] 24)).trans (hW.mono (by simp))
    exact ⟨⟨(Rg.blk_cell h1 0 rfl).1, (Rg.blk_cell h1 1 rfl).1, (Rg.blk_cell h1 2 rfl).1, (Rg.blk_cell h1 3 rfl).1⟩, h.below b, b⟩
  have HSZ : Hid (∀ W, Gt.Row W (.slice a rs.length cap) rs → Calls Tryd.prog 4 #[stV sq sz rt (.slice a rs.length cap), .int .i64 (1048576 : Nat)] W fun e w' => (∃ r : Int, e = .returned (.int .i64 r) ∧ (r = -1 ∨ ∃ q : Nat, r = q ∧ q ≤ 1048576 ∧ rt.size ≤ 1048576 ∧ rs.length ≤ 1048576 ∧ ∀ x ∈ rs, Gt.Tz 1048576 x)) ∧ Below W.heap.size W w') := fun W hW => Hs.sz_any sq sz rt 1048576 _ rs W hW hm hl hn (by decide)
  have HTO : Hid (∀ W, rs.length ≤ 1048576 → Gt.Row W (.slice a rs.length cap) rs → Calls Tryd.prog 6 #[stV sq sz rt (.slice a rs.length cap)] W fun e w' => ∃ g, e = .returned (stV sq sz rt (.slice (some ⟨g, 0, none⟩) rs.length rs.length)) ∧ Gt.Row w' (.slice (some ⟨g, 0, none⟩) rs.length rs.length) rs ∧ Below W.heap.size W w') := fun W hz hW => (Hs.to_any sq sz rt _ rs W hW hz).mono fun e w' ⟨g, h1, h2, h3, h4, h5, h6⟩ => ⟨g, h1, Gt.toS_row h3 h4, h5⟩
  clear h hK hp hl hm hn
  unfold stV at HSZ HTO ⊢
  go_enter Tryd.func3, Tryd.ntmps3
  go_upto_region 1 with fail
  generalize w.alloc (.cells #[.int .i64 sq, .int .i64 sz, .string rt, .slice a rs.length cap] 24) = wb at HX ⊢
  obtain ⟨⟨c0, c1, c2, c3⟩, r0, _⟩ := HX.out _ (Below.refl _ _)
  have R0 : Hid (Gt.Row wb (.slice a rs.length cap) rs) := r0
  clear r0
  go_wp2_with fail
  refine (HSZ.out _ R0.out).mono ?_
  rintro e w1 ⟨⟨r, rfl, hr⟩, b1⟩
  have B1 : Hid (Below wb.heap.size wb w1) := b1
  clear b1 R0 c0 c1 c2 c3 HSZ
  rcases hr with rfl | ⟨q, rfl, hq1, hq2, hq3, hq4⟩
  · obtain ⟨_, _, g1⟩ := HX.out _ B1.out
    have G1 : Hid (Below w.heap.size w w1) := g1
    clear g1 HX
    go_wp2_with fail
    go_ret
    exact ⟨rfl, G1.out⟩
  have hq0 : ¬ (q : Int) < 0 := by omega
  have HL : Hid (∀ _ : Unit, rs.length ≤ 1048576) := fun _ => hq3
  clear hq1 hq2 hq3 hq4
  obtain ⟨⟨c0, c1, c2, c3⟩, r1, _⟩ := HX.out _ B1.out
  have R1 : Hid (Gt.Row w1 (.slice a rs.length cap) rs) := r1
  clear r1
  go_wp2_with fail
  refine (HTO.out _ (HL.out ()) R1.out).mono ?_
  rintro e w2 ⟨g, rfl, t2, b2⟩
  have B2 : Hid (Below wb.heap.size wb w2) := B1.out.trans (b2.mono B1.out.size)
  have T2 : Hid (Gt.Row w2 (.slice (some ⟨g, 0, none⟩) rs.length rs.length) rs) := t2
  clear t2 b2 B1 R1 c0 c1 c2 c3 hq0
  have HSP := specStableOK_any n sq sz rt _ rs w2 T2.out (HL.out ())
  have HIM : Hid (∀ W u, Gt.Row W u rs → KTab W → 0 < W.heap.size → Calls Tryd.prog 7 #[.int .i64 n, stV sq sz rt u] W fun e w' => e = .returned (.bool (stB n sq sz rt rs)) ∧ Below W.heap.size W w') := fun W u hW h1 h2 => implStableOK_any n sq sz rt u rs W hW (HL.out ()) h1 h2
  unfold stV at HSP HIM
  generalize stB n sq sz rt rs = t at HSP HIM
  have htt : (t != t) = false := by simp
  obtain ⟨⟨c0, c1, c2, c3⟩, _⟩ := HX.out _ B2.out
  go_wp2_with fail
  refine HSP.mono ?_
  rintro e w3 ⟨rfl, b3⟩
  have B3 : Hid (Below wb.heap.size wb w3) := B2.out.trans (b3.mono B2.out.size)
  clear b3 B2 T2 c0 c1 c2 c3 HSP
  obtain ⟨⟨c0, c1, c2, c3⟩, r3, _⟩ := HX.out _ B3.out
  have R3 : Hid (Gt.Row w3 (.slice a rs.length cap) rs) := r3
  clear r3
  go_wp2_with fail
  refine (HTO.out _ (HL.out ()) R3.out).mono ?_
  rintro e w4 ⟨g4, rfl, t4, b4⟩
  have B4W : Hid (Below wb.heap.size wb w4) := B3.out.trans (b4.mono B3.out.size)
  have T4 : Hid (Gt.Row w4 (.slice (some ⟨g4, 0, none⟩) rs.length rs.length) rs) := t4
  clear t4 b4 B3 R3 c0 c1 c2 c3
  obtain ⟨⟨c0, c1, c2, c3⟩, _, g4w⟩ := HX.out _ B4W.out
  have G4 : Hid (Below w.heap.size w w4) := g4w
  clear g4w
  have HY : Hid (∀ W, Below (w4.alloc (.cells #[.int .i64 sq, .int .i64 sz, .string rt, .slice (some ⟨g4, 0, none⟩) rs.length rs.length] 29)).heap.size (w4.alloc (.cells #[.int .i64 sq, .int .i64 sz, .string rt, .slice (some ⟨g4, 0, none⟩) rs.length rs.length] 29)) W → (W.cell? ⟨w4.heap.size, 0, none⟩ = some (.int .i64 sq) ∧ W.cell? ⟨w4.heap.size, 1, none⟩ = some (.int .i64 sz) ∧ W.cell? ⟨w4.heap.size, 2, none⟩ = some (.string rt) ∧ W.cell? ⟨w4.heap.size, 3, none⟩ = some (.slice (some ⟨g4, 0, none⟩) rs.length rs.length)) ∧ Gt.Row W (.slice (some ⟨g4, 0, none⟩) rs.length rs.length) rs ∧ Below wb.heap.size wb W) := fun W hW => by
    have h1 := (hW.block w4.heap.size (by simp)).trans (heap_alloc_new w4 _)
    have b := (Rg.bel_new w4 (.cells #[.int .i64 sq, .int .i64 sz, .string rt, .slice (some ⟨g4, 0, none⟩) rs.length rs.length] 29)).trans (hW.mono (by simp))
    exact ⟨⟨(Rg.blk_cell h1 0 rfl).1, (Rg.blk_cell h1 1 rfl).1, (Rg.blk_cell h1 2 rfl).1, (Rg.blk_cell h1 3 rfl).1⟩, T4.out.below b, B4W.out.trans (b.mono B4W.out.size)⟩
  clear T4
  go_upto_region 7 with fail
  generalize w4.alloc (.cells #[.int .i64 sq, .int .i64 sz, .string rt, .slice (some ⟨g4, 0, none⟩) rs.length rs.length] 29) = wx at HY ⊢
  clear c0 c1 c2 c3
  obtain ⟨⟨d0, d1, d2, d3⟩, rx, bx⟩ := HY.out _ (Below.refl _ _)
  obtain ⟨_, _, gx⟩ := HX.out _ bx
  have RX : Hid (Gt.Row wx (.slice (some ⟨g4, 0, none⟩) rs.length rs.length) rs ∧ Below w.heap.size w wx) := ⟨rx, gx⟩
  clear rx bx gx
  go_wp2_with fail
  refine (HIM.out _ _ RX.out.1 (HKT.out _ RX.out.2).1 (HKT.out _ RX.out.2).2).mono ?_
  rintro e w5 ⟨rfl, b5⟩
  have B5 : Hid (Below wx.heap.size wx w5) := b5
  clear b5 d0 d1 d2 d3 RX HIM
  go_upto_region 10 with fail
  obtain ⟨⟨d0, d1, d2, d3⟩, r5, b5⟩ := HY.out _ B5.out
  obtain ⟨⟨c0, c1, c2, c3⟩, q5, _⟩ := HX.out _ b5
  have HTO5 : Hid (Calls Tryd.prog 6 #[.agg #[.int .i64 sq, .int .i64 sz, .string rt, .slice a rs.length cap]] w5.drew fun e w' => ∃ g, e = .returned (.agg #[.int .i64 sq, .int .i64 sz, .string rt, .slice (some ⟨g, 0, none⟩) rs.length rs.length]) ∧ (Gt.Row w' (.slice (some ⟨g, 0, none⟩) rs.length rs.length) rs ∧ Gt.Row w' (.slice (some ⟨g4, 0, none⟩) rs.length rs.length) rs) ∧ ((w'.cell? ⟨w4.heap.size, 0, none⟩ = some (.int .i64 sq) ∧ w'.cell? ⟨w4.heap.size, 1, none⟩ = some (.int .i64 sz) ∧ w'.cell? ⟨w4.heap.size, 2, none⟩ = some (.string rt) ∧ w'.cell? ⟨w4.heap.size, 3, none⟩ = some (.slice (some ⟨g4, 0, none⟩) rs.length rs.length))) ∧ Below w.heap.size w w') :=
    (HTO.out w5.drew (HL.out ()) (q5.below (Below.refl _ _).drew)).mono fun e w' ⟨g, h1, h2, h3⟩ => by
      have b' : Below wx.heap.size wx w' := B5.out.trans ((((Below.refl w5.heap.size w5).drew).trans h3).mono B5.out.size)
      obtain ⟨k1, k2, k3⟩ := HY.out _ b'
      exact ⟨g, h1, ⟨h2, k2⟩, k1, (HX.out _ k3).2.2⟩
  have HEQ : Hid (∀ W g, Gt.Row W (.slice (some ⟨g4, 0, none⟩) rs.length rs.length) rs → Gt.Row W (.slice (some ⟨g, 0, none⟩) rs.length rs.length) rs → Calls Tryd.prog 8 #[.agg #[.int .i64 sq, .int .i64 sz, .string rt, .slice (some ⟨g4, 0, none⟩) rs.length rs.length], .agg #[.int .i64 sq, .int .i64 sz, .string rt, .slice (some ⟨g, 0, none⟩) rs.length rs.length]] W fun e w' => e = .returned (.bool true) ∧ Below W.heap.size W w') := fun W g h1 h2 => Hs.eq_same sq sz rt _ _ rs W h1 h2 (HL.out ())
  clear r5 b5 q5 HTO HX HY B5 B4W G4 HKT GK HL
  go_region_law (first
    | (go_simp; go_at_call 6; (with_reducible refine HTO5.out.mono ?_); rintro e w6 ⟨g6, rfl, ⟨k1, k2⟩, ⟨f0, f1, f2, f3⟩, g66⟩; try go_simp)
    | (go_simp; go_at_call 8; (with_reducible refine (HEQ.out _ _ k2 k1).mono ?_); rintro e w7 ⟨rfl, b7⟩; try go_simp))
  all_goals
    have G7 : Hid (Below w.heap.size w w7) := andThen g66 b7
    clear b7 g66 k1 k2 f0 f1 f2 f3 d0 d1 d2 d3 c0 c1 c2 c3
    go_wp2_with fail
    go_ret
    exact ⟨rfl, G7.out⟩

set_option maxRecDepth 100000 in
theorem lifted (os : Os) (started : os.Started) (H : Type) (enc : TypeId × Value → H) :
    ReturnsInHanded {} Tryd.checked os 3 .any (fun w args => (Rows.fnExactStableOKSpec.pre enc Tryd.prog Tryd.f3 [] false w args ∧ laidMetH Tryd.prog Rows.fnExactStableOKRow.laid w) ∧ sizedMet enc Tryd.prog Tryd.f3 (OpenSpec.ofChange Rows.fnExactStableOKSpec) false w args)
      (Rows.fnExactStableOKSpec.post enc Tryd.prog Tryd.f3 false true false false) := by
  refine returnsInHanded_of_change_and (C := Tryd.checked) (X := fun w _ => laidMetH Tryd.prog Rows.fnExactStableOKRow.laid w) (fun _ _ _ hh h => h.of_heap hh) own started (by kernel_rfl) Tryd.func3
    (ChangeSpec.witness_shaped (enc := enc) (C := Tryd.checked) (os := os) (X := fun w _ => laidMetH Tryd.prog Rows.fnExactStableOKRow.laid w) false (World.doorLaid Tryd.prog 400 os) #[.int .i64 0, .agg #[.int .i64 0, .int .i64 0, .string ByteArray.empty, .slice none 0 0]] 8 rfl (World.shaped_of_RefB (by kernel_rfl) (by kernel_rfl)) (by kernel_rfl) (by kernel_rfl) (by kernel_rfl) (door_met os _)) ?_
  intro W base args ds gs before hval0 hW _ _ hL _
  have hval : ∀ (j : Nat) t v, Tryd.f3.params[j]? = some t → args[j]? = some v → Value.okWide Tryd.prog W .any base t v := hval0
  have hW' := hW
  obtain ⟨p, q, hA0, hV0, rfl, hfz, hnd⟩ := hW
  have hA : DataW.TrodAll enc Tryd.prog W 0 (fun _ => true) true Tryd.f3.params.toList args.toList ds p := hA0
  have hV : DataW.TrodVars enc Tryd.prog W (fun _ => true) ["loop.example/g00292/impl.roundWords"] gs q := hV0
  rw [Tryd.params3] at hA hval
  obtain ⟨v0, vs0, d0, ds0, p0, q0, hargs, rfl, rfl, h0, r0⟩ := trodAll_cons hA
  obtain ⟨v1, vs1, d1, ds1, p1, q1, rfl, rfl, rfl, h1, r1⟩ := trodAll_cons r0
  obtain ⟨rfl, rfl, rfl⟩ := trodAll_nil r1
  obtain rfl : args = #[v0, v1] := by cases args; simp_all
  obtain ⟨_, _, _, _, dv, _, rfl, _⟩ := trodVars_one hV
  have k00 := h0
  have lt0 : ∀ x ∈ p0, x.block < W.heap.size := by obtain ⟨m, hm⟩ := k00; exact DataW.trod_lt m _ _ _ hm
  obtain ⟨i0, rfl, rfl, rfl, z0⟩ := open_int Tryd.underlying3 (hval 0 3 v0 rfl rfl) h0
  have k10 := h1
  have lt1 : ∀ x ∈ p1, x.block < W.heap.size := by obtain ⟨m, hm⟩ := k10; exact DataW.trod_lt m _ _ _ hm
  obtain ⟨sq1, sz1, rt1, vr1, rs1, rfl, w1, l1, m1, n1⟩ := Op.open_stable (hval 1 24 v1 rfl rfl) h1
  clear hA0 hval0 hV0
  have hT := Hl.tab_of hL
  refine (walk i0 z0 sq1 sz1 rt1 vr1 rs1 w1 l1 m1 n1 hT.1 hT.2).mono fun e W' ⟨he, bel⟩ => ?_
  subst he
  exact ⟨_, rfl, _, _, _, [], _, q, hW', trodAll_mk1 (shut_bool Tryd.underlying4 _), (trodAll_cons_mk (Below.trod laidOut (by kernel_rfl) (of_decide_eq_true (by kernel_rfl)) k00 bel lt0) (trodAll_cons_mk (Below.trod laidOut (by kernel_rfl) (of_decide_eq_true (by kernel_rfl)) k10 bel lt1) trodAll_mk0)), Below.trodVars laidOut bel rowed hV, bel.frame _, fun h => by cases h⟩

theorem said : Rows.FnExactStableOKSaid :=
  OpenClaim.holds_of_wide 3 Tryd.f3 rfl rfl rfl rfl rfl rfl rfl ⟨rfl, rfl, rfl, rfl, rfl⟩ rfl rfl rfl rfl rfl (by kernel_rfl) Tryd.func3 (by kernel_rfl)
    (of_decide_eq_true (by kernel_rfl)) (by unfold Func.isWrapper; first | (rw [if_pos (by decide +kernel)]; kernel_rfl) | (rw [if_neg (by decide +kernel)]; exact ⟨rfl, rfl⟩))
    (fun os started H enc _ => lifted os started H enc)

/-- No parameter wants a stand-in; the program's own looks are off. -/
theorem plain (f : FuncId) (fn : Func) (hf : Tryd.pinned.checked.prog.funcNamed "loop.example/g00292/laws.FnExactStableOK" = some f) (hfn : Tryd.pinned.checked.prog.funcs[f]? = some fn) :
    false = Tryd.pinned.checked.prog.looks [] ∧ ∀ (j : Nat) t, fn.params[j]? = some t → Tryd.pinned.checked.prog.wantsStandIn t = false := by
  obtain rfl : f = 3 := Option.some.inj ((show Tryd.prog.funcNamed "loop.example/g00292/laws.FnExactStableOK" = some 3 by kernel_rfl).symm.trans hf) |>.symm
  obtain rfl : fn = Tryd.f3 := (Option.some.inj (Tryd.func3.symm.trans hfn)).symm
  refine ⟨by kernel_rfl, fun j t ht => ?_⟩
  rw [Tryd.params3] at ht
  have hm := Array.mem_of_getElem? ht
  have hl : t ∈ [3, 24] := by simpa using hm
  have hall : ∀ x ∈ [3, 24], Tryd.prog.wantsStandIn x = false := by
    intro x hx
    simp only [List.mem_cons, List.not_mem_nil, or_false] at hx
    rcases hx with rfl | rfl <;> kernel_rfl
  exact hall t hl
end Go.Proofs.YtnebohdlndiejaaDoor.fnExactStableOK
namespace Go.Proofs.YtnebohdlndiejaaDoor
/-- THE STATEMENT: the card. -/
theorem fnExactStableOK_holds : Rows.FnExactStableOKCardSaid :=
  Claim7.holds_tied_plain_at .later [] _ _ _ _ fnExactStableOK.said (fun _ h => by cases h) (by kernel_rfl) (fun _ h => by cases h) fnExactStableOK_row_tie rfl ⟨rfl, rfl⟩ (by kernel_rfl) rfl fnExactStableOK.plain (by kernel_rfl)
end Go.Proofs.YtnebohdlndiejaaDoor
