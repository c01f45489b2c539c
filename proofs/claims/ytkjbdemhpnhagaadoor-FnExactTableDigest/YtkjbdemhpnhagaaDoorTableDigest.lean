/-
  impl.TableDigest answers at every table just what the specification's TableDigest answers, and leaves the table as it was.
  Conditions: none beyond the given row's own; the package variable that it reads starts as the program's text lays it (the card ties it).
-/
import Derived.Test.YtkjbdemhpnhagaaDoorDg
import Derived.Test.YtkjbdemhpnhagaaDoorHashLaid
import Derived.WalkKit
import Derived.Deep.RegionHeld
namespace Go.Proofs.YtkjbdemhpnhagaaDoor.fnExactTableDigest
open Go.ChangeShapes Go.WideShapes Go.ChangeAt Go.RowKit
open Go.ChangeMaps (open_string shut_string)
open Go.Proofs.YtkjbdemhpnhagaaDoor.Hl (own laidOut rowed door_met)

open Go.Proofs.YtkjbdemhpnhagaaDoor.Sl Go.Proofs.YtkjbdemhpnhagaaDoor.Ap Go.Proofs.YtkjbdemhpnhagaaDoor.Tx Go.Proofs.YtkjbdemhpnhagaaDoor.Sh Go.Proofs.YtkjbdemhpnhagaaDoor.Tb Go.Proofs.YtkjbdemhpnhagaaDoor.Tw Go.Proofs.YtkjbdemhpnhagaaDoor.Rq Go.Proofs.YtkjbdemhpnhagaaDoor.Tp Go.Proofs.YtkjbdemhpnhagaaDoor.Tq Go.Proofs.YtkjbdemhpnhagaaDoor.Pt Go.Proofs.YtkjbdemhpnhagaaDoor.Dg
set_option maxRecDepth 100000 in
set_option maxHeartbeats 1600000 in
/-- THE WALK: both functions answer alike. -/
theorem walk (t : Tab) (vl vs : Value) (w : World) (hl : RowL w vl t.ls) (hs : RowS w vs t.ss) (y : t.ls.length ≤ maxLen) (z : t.ss.length ≤ maxLen) (m : ∀ x ∈ t.ls, LkZ x) (hK : KTab w) (hp : 0 < w.heap.size) :
    Calls Tryd.prog 3 #[tabV t.tm t.nx vl vs] w fun e w' => e = .returned (.bool true) ∧ Below w.heap.size w w' := by
  obtain ⟨tm, nx, ls, ss⟩ := t
  dsimp only at hl hs y z m ⊢
  have HR : Hid (RowL w vl ls ∧ RowS w vs ss) := ⟨hl, hs⟩
  have HM : Hid (∀ x ∈ ls, LkZ x) := m
  have HKT : Hid (KTab w) := hK
  clear hl hs m hK
  unfold tabV
  have HBX : Hid (Below w.heap.size w (w.alloc (.cells #[.int .i64 tm, .int .i64 nx, vl, vs] 25))) := bel_new _ _
  have HCX : Hid (∀ W, Below (w.alloc (.cells #[.int .i64 tm, .int .i64 nx, vl, vs] 25)).heap.size (w.alloc (.cells #[.int .i64 tm, .int .i64 nx, vl, vs] 25)) W → (W.cell? ⟨w.heap.size, 0, none⟩ = some (.int .i64 tm) ∧ W.cell? ⟨w.heap.size, 1, none⟩ = some (.int .i64 nx) ∧ W.cell? ⟨w.heap.size, 2, none⟩ = some vl ∧ W.cell? ⟨w.heap.size, 3, none⟩ = some vs) ∧ RowL W vl ls ∧ RowS W vs ss ∧ Below w.heap.size w W) := fun W hW => by
    have h1 := (hW.block w.heap.size (by simp)).trans (heap_alloc_new w _)
    exact ⟨⟨(blk_cell h1 0 rfl).1, (blk_cell h1 1 rfl).1, (blk_cell h1 2 rfl).1, (blk_cell h1 3 rfl).1⟩, (HR.out.1.below HBX.out).below hW, (HR.out.2.below HBX.out).below hW, HBX.out.trans (hW.mono HBX.out.size)⟩
  go_enter Tryd.func3, Tryd.ntmps3
  go_upto_region 1 with fail
  generalize w.alloc (.cells #[.int .i64 tm, .int .i64 nx, vl, vs] 25) = wb at HCX HBX ⊢
  obtain ⟨⟨x0, x1, x2, x3⟩, r1, r2, _⟩ := HCX.out wb (Below.refl _ _)
  have HRB : Hid (RowL wb vl ls ∧ RowS wb vs ss) := ⟨r1, r2⟩
  clear r1 r2 HR
  go_wp2_with fail
  refine (szTable_any tm nx vl vs ls ss _ HRB.out.1 HRB.out.2 HM.out y z).mono ?_
  rintro e w1 ⟨⟨r, rfl, hr⟩, b1⟩
  have B1 : Hid (Below wb.heap.size wb w1) := b1
  clear b1 x0 x1 x2 x3 y z HM
  rcases hr with rfl | ⟨hq, hl1, hl2, hl3⟩
  · have HE : Hid (Below w.heap.size w w1) := (HCX.out w1 B1.out).2.2.2
    go_wp2_with fail
    go_ret
    exact ⟨rfl, HE.out⟩
  have hq' : ¬ r < 0 := by omega
  have H3 : Hid (∀ x ∈ ls, x.n.size ≤ 1048576 ∧ x.ws.length ≤ 1048576) := hl3
  have H4 : Hid (∀ x ∈ ls, x.ws.length ≤ 1048576) := (show ∀ x ∈ ls, x.ws.length ≤ 1048576 from fun x hx => (hl3 x hx).2)
  clear hl3 hq
  obtain ⟨⟨x0, x1, x2, x3⟩, r1, r2, _⟩ := HCX.out w1 B1.out
  have HRC : Hid (RowL w1 vl ls ∧ RowS w1 vs ss) := ⟨r1, r2⟩
  clear r1 r2
  go_wp2_with fail
  refine (toTable_any tm nx vl vs ls ss _ HRC.out.1 HRC.out.2 hl1 hl2 H4.out).mono ?_
  rintro e w2 ⟨ul2, us2, rfl, c1, c2, b2⟩
  have B2 : Hid (Below wb.heap.size wb w2) := B1.out.trans (b2.mono B1.out.size)
  have R2 : Hid (RowL w2 ul2 ls ∧ RowS w2 us2 ss) := ⟨c1, c2⟩
  clear b2 c1 c2 HRC B1 x0 x1 x2 x3
  go_wp2_with fail
  refine (specTableDigest_any tm nx ul2 us2 ls ss w2 R2.out.1 R2.out.2 H3.out hl1 hl2).mono ?_
  rintro e w3 ⟨rfl, b3⟩
  have B3 : Hid (Below wb.heap.size wb w3) := B2.out.trans (b3.mono B2.out.size)
  obtain ⟨bb, HBB⟩ : ∃ bb, Hid (dgOut tm nx ls ss = bb) := ⟨_, rfl⟩
  obtain ⟨cc, HCC⟩ : ∃ cc, Hid (tbCode tm nx ls ss = cc) := ⟨_, rfl⟩
  rw [HBB.out, HCC.out]
  clear b3 R2 B2
  obtain ⟨⟨x0, x1, x2, x3⟩, r1, r2, _⟩ := HCX.out w3 B3.out
  have HRC : Hid (RowL w3 vl ls ∧ RowS w3 vs ss) := ⟨r1, r2⟩
  clear r1 r2
  go_wp2_with fail
  refine (toTable_any tm nx vl vs ls ss _ HRC.out.1 HRC.out.2 hl1 hl2 H4.out).mono ?_
  rintro e w4 ⟨ul4, us4, rfl, c1, c2, b4⟩
  have B4 : Hid (Below wb.heap.size wb w4) := B3.out.trans (b4.mono B3.out.size)
  have R4 : Hid (RowL w4 ul4 ls ∧ RowS w4 us4 ss) := ⟨c1, c2⟩
  clear b4 c1 c2 HRC B3 x0 x1 x2 x3
  obtain ⟨la, lc, rfl⟩ := RowG.slice R4.out.1
  obtain ⟨sa, sc, rfl⟩ := RowG.slice R4.out.2
  have HD : Hid (∀ W, Below (w4.alloc (.cells #[.int .i64 tm, .int .i64 nx, .slice la ls.length lc, .slice sa ss.length sc] 32)).heap.size (w4.alloc (.cells #[.int .i64 tm, .int .i64 nx, .slice la ls.length lc, .slice sa ss.length sc] 32)) W → (W.cell? ⟨w4.heap.size, 0, none⟩ = some (.int .i64 tm) ∧ W.cell? ⟨w4.heap.size, 1, none⟩ = some (.int .i64 nx) ∧ W.cell? ⟨w4.heap.size, 2, none⟩ = some (.slice la ls.length lc) ∧ W.cell? ⟨w4.heap.size, 3, none⟩ = some (.slice sa ss.length sc)) ∧ RowL W (.slice la ls.length lc) ls ∧ RowS W (.slice sa ss.length sc) ss ∧ Below wb.heap.size wb W) := fun W hW => by
    have h1 := (hW.block w4.heap.size (by simp)).trans (heap_alloc_new w4 _)
    exact ⟨⟨(blk_cell h1 0 rfl).1, (blk_cell h1 1 rfl).1, (blk_cell h1 2 rfl).1, (blk_cell h1 3 rfl).1⟩, (R4.out.1.below (bel_new _ _)).below hW, (R4.out.2.below (bel_new _ _)).below hW, B4.out.trans (((bel_new w4 _).mono B4.out.size).trans (hW.mono (Nat.le_trans B4.out.size (by simp))))⟩
  unfold tabV
  go_upto_region 7 with fail
  generalize w4.alloc (.cells #[.int .i64 tm, .int .i64 nx, .slice la ls.length lc, .slice sa ss.length sc] 32) = wd at HD ⊢
  obtain ⟨⟨x0, x1, x2, x3⟩, d1, d2, _⟩ := HD.out wd (Below.refl _ _)
  have HRD : Hid (RowL wd (.slice la ls.length lc) ls ∧ RowS wd (.slice sa ss.length sc) ss) := ⟨d1, d2⟩
  have HWD : Hid (Below w.heap.size w wd) := (HCX.out wd (HD.out wd (Below.refl _ _)).2.2.2).2.2.2
  clear d1 d2 R4
  go_wp2_with fail
  refine (implTableDigest_any tm nx _ _ ls ss _ HRD.out.1 HRD.out.2 H3.out hl1 hl2 (HKT.out.below HWD.out hp) (Nat.lt_of_lt_of_le hp HWD.out.size)).mono ?_
  rintro e w5 ⟨rfl, b5⟩
  have B5 : Hid (Below wd.heap.size wd w5) := b5
  clear b5
  rw [HBB.out, HCC.out]
  have hne : (bb.toList == bb.toList) = true := by simp
  have hne2 : (cc != cc) = false := by simp
  go_upto_region 10 with fail
  clear x0 x1 x2 x3
  have HSA : Hid (∀ W, Below w5.heap.size w5 W → ((W.cell? ⟨w.heap.size, 0, none⟩ = some (.int .i64 tm) ∧ W.cell? ⟨w.heap.size, 1, none⟩ = some (.int .i64 nx) ∧ W.cell? ⟨w.heap.size, 2, none⟩ = some vl ∧ W.cell? ⟨w.heap.size, 3, none⟩ = some vs) ∧ (W.cell? ⟨w4.heap.size, 0, none⟩ = some (.int .i64 tm) ∧ W.cell? ⟨w4.heap.size, 1, none⟩ = some (.int .i64 nx) ∧ W.cell? ⟨w4.heap.size, 2, none⟩ = some (.slice la ls.length lc) ∧ W.cell? ⟨w4.heap.size, 3, none⟩ = some (.slice sa ss.length sc))) ∧ (RowL W vl ls ∧ RowS W vs ss) ∧ (RowL W (.slice la ls.length lc) ls ∧ RowS W (.slice sa ss.length sc) ss) ∧ Below w.heap.size w W) := fun W hW => by
    have hW2 := B5.out.trans (hW.mono B5.out.size)
    obtain ⟨k1, k2, k3, k4⟩ := HD.out W hW2
    obtain ⟨j1, j2, j3, j4⟩ := HCX.out W k4
    exact ⟨⟨j1, k1⟩, ⟨j2, j3⟩, ⟨k2, k3⟩, j4⟩
  obtain ⟨⟨⟨x0, x1, x2, x3⟩, ⟨y0, y1, y2, y3⟩⟩, _, _, _⟩ := HSA.out w5 (Below.refl _ _)
  go_region_held (fun W => (W.cell? ⟨w.heap.size, 0, none⟩ = some (.int .i64 tm) ∧ W.cell? ⟨w.heap.size, 1, none⟩ = some (.int .i64 nx) ∧ W.cell? ⟨w.heap.size, 2, none⟩ = some vl ∧ W.cell? ⟨w.heap.size, 3, none⟩ = some vs) ∧ (W.cell? ⟨w4.heap.size, 0, none⟩ = some (.int .i64 tm) ∧ W.cell? ⟨w4.heap.size, 1, none⟩ = some (.int .i64 nx) ∧ W.cell? ⟨w4.heap.size, 2, none⟩ = some (.slice la ls.length lc) ∧ W.cell? ⟨w4.heap.size, 3, none⟩ = some (.slice sa ss.length sc))) (first | exact (HSA.out _ Qc.from_drew).1 | exact (HSA.out _ B7.out).1 | exact (HSA.out _ B8.out).1)
    (first | (go_at_call 6; refine (toTable_any tm nx vl vs ls ss _ (HSA.out _ Qc.from_drew).2.1.1 (HSA.out _ Qc.from_drew).2.1.2 hl1 hl2 H4.out).mono ?_; rintro e w7 ⟨ul7, us7, rfl, c1, c2, b7⟩; have B7 : Hid (Below w5.heap.size w5 w7) := Qc.from_drew.trans b7; have R7 : Hid (RowL w7 ul7 ls ∧ RowS w7 us7 ss) := ⟨c1, c2⟩; clear c1 c2 b7; unfold tabV) | (go_at_call 8; refine (eqTable_same tm nx _ _ _ _ ls ss _ (HSA.out _ B7.out).2.2.1.1 (HSA.out _ B7.out).2.2.1.2 R7.out.1 R7.out.2 hl1 hl2 H4.out).mono ?_; rintro e w8 ⟨rfl, b8⟩; have B8 : Hid (Below w5.heap.size w5 w8) := B7.out.trans (b8.mono B7.out.size); clear b8))
  all_goals
    have G8 : Hid (Below w.heap.size w w8) := (HSA.out _ B8.out).2.2.2
    clear x0 x1 x2 x3 y0 y1 y2 y3
    go_wp2_with fail
    go_ret
    exact ⟨rfl, G8.out⟩

set_option maxRecDepth 100000 in
theorem lifted (os : Os) (started : os.Started) (H : Type) (enc : TypeId × Value → H) :
    ReturnsInHanded {} Tryd.checked os 3 .any (fun w args => (Rows.fnExactTableDigestSpec.pre enc Tryd.prog Tryd.f3 [] false w args ∧ laidMetH Tryd.prog Rows.fnExactTableDigestRow.laid w) ∧ sizedMet enc Tryd.prog Tryd.f3 (OpenSpec.ofChange Rows.fnExactTableDigestSpec) false w args)
      (Rows.fnExactTableDigestSpec.post enc Tryd.prog Tryd.f3 false true false false) := by
  refine returnsInHanded_of_change_and (C := Tryd.checked) (X := fun w _ => laidMetH Tryd.prog Rows.fnExactTableDigestRow.laid w) (fun _ _ _ hh h => h.of_heap hh) own started (by kernel_rfl) Tryd.func3
    (ChangeSpec.witness_shaped (enc := enc) (C := Tryd.checked) (os := os) (X := fun w _ => laidMetH Tryd.prog Rows.fnExactTableDigestRow.laid w) false (World.doorLaid Tryd.prog 400 os) #[.agg #[.int .i64 0, .int .i64 0, .slice none 0 0, .slice none 0 0]] 8 rfl (World.shaped_of_RefB (by kernel_rfl) (by kernel_rfl)) (by kernel_rfl) (by kernel_rfl) (by kernel_rfl) (door_met os _)) ?_
  intro W base args ds gs before hval0 hW _ _ hL _
  have hval : ∀ (j : Nat) t v, Tryd.f3.params[j]? = some t → args[j]? = some v → Value.okWide Tryd.prog W .any base t v := hval0
  have hW' := hW
  obtain ⟨p, q, hA0, hV0, rfl, hfz, hnd⟩ := hW
  have hA : DataW.TrodAll enc Tryd.prog W 0 (fun _ => true) true Tryd.f3.params.toList args.toList ds p := hA0
  have hV : DataW.TrodVars enc Tryd.prog W (fun _ => true) ["loop.example/g00292/impl.roundWords"] gs q := hV0
  rw [Tryd.params3] at hA hval
  obtain ⟨v0, vs0, d0, ds0, p0, q0, hargs, rfl, rfl, h0, r0⟩ := trodAll_cons hA
  obtain ⟨rfl, rfl, rfl⟩ := trodAll_nil r0
  obtain rfl : args = #[v0] := by cases args; simp_all
  obtain ⟨_, _, _, _, dv, _, rfl, _⟩ := trodVars_one hV
  have k00 := h0
  have lt0 : ∀ x ∈ p0, x.block < W.heap.size := by obtain ⟨m, hm⟩ := k00; exact DataW.trod_lt m _ _ _ hm
  obtain ⟨t0, vl0, vs0, rfl, wl0, ws0, y0, z0, m0⟩ := Op.open_table (hval 0 25 v0 rfl rfl) h0
  clear hA0 hval0 hV0
  have hT := Hl.tab_of hL
  refine (walk t0 vl0 vs0 W wl0 ws0 y0 z0 m0 hT.1 hT.2).mono fun e W' ⟨he, bel⟩ => ?_
  subst he
  exact ⟨_, rfl, _, _, _, [], _, q, hW', trodAll_mk1 (shut_bool Tryd.underlying4 _), (trodAll_cons_mk (Below.trod laidOut (by kernel_rfl) (of_decide_eq_true (by kernel_rfl)) k00 bel lt0) trodAll_mk0), Below.trodVars laidOut bel rowed hV, bel.frame _, fun h => by cases h⟩

theorem said : Rows.FnExactTableDigestSaid :=
  OpenClaim.holds_of_wide 3 Tryd.f3 rfl rfl rfl rfl rfl rfl rfl ⟨rfl, rfl, rfl, rfl, rfl⟩ rfl rfl rfl rfl rfl (by kernel_rfl) Tryd.func3 (by kernel_rfl)
    (of_decide_eq_true (by kernel_rfl)) (by unfold Func.isWrapper; first | (rw [if_pos (by decide +kernel)]; kernel_rfl) | (rw [if_neg (by decide +kernel)]; exact ⟨rfl, rfl⟩))
    (fun os started H enc _ => lifted os started H enc)

/-- No parameter wants a stand-in; the program's own looks are off. -/
theorem plain (f : FuncId) (fn : Func) (hf : Tryd.pinned.checked.prog.funcNamed "loop.example/g00292/laws.FnExactTableDigest" = some f) (hfn : Tryd.pinned.checked.prog.funcs[f]? = some fn) :
    false = Tryd.pinned.checked.prog.looks [] ∧ ∀ (j : Nat) t, fn.params[j]? = some t → Tryd.pinned.checked.prog.wantsStandIn t = false := by
  obtain rfl : f = 3 := Option.some.inj ((show Tryd.prog.funcNamed "loop.example/g00292/laws.FnExactTableDigest" = some 3 by kernel_rfl).symm.trans hf) |>.symm
  obtain rfl : fn = Tryd.f3 := (Option.some.inj (Tryd.func3.symm.trans hfn)).symm
  refine ⟨by kernel_rfl, fun j t ht => ?_⟩
  rw [Tryd.params3] at ht
  have hm := Array.mem_of_getElem? ht
  have hl : t ∈ [25] := by simpa using hm
  have hall : ∀ x ∈ [25], Tryd.prog.wantsStandIn x = false := by
    intro x hx
    simp only [List.mem_cons, List.not_mem_nil, or_false] at hx
    rcases hx with rfl <;> kernel_rfl
  exact hall t hl
end Go.Proofs.YtkjbdemhpnhagaaDoor.fnExactTableDigest
namespace Go.Proofs.YtkjbdemhpnhagaaDoor
/-- THE STATEMENT: the card. -/
theorem fnExactTableDigest_holds : Rows.FnExactTableDigestCardSaid :=
  Claim7.holds_tied_plain_at .later [] _ _ _ _ fnExactTableDigest.said (fun _ h => by cases h) (by kernel_rfl) (fun _ h => by cases h) fnExactTableDigest_row_tie rfl ⟨rfl, rfl⟩ (by kernel_rfl) rfl fnExactTableDigest.plain (by kernel_rfl)
end Go.Proofs.YtkjbdemhpnhagaaDoor
