/-
  LaterGrant answers as the specification does, for any two grants.
  Conditions: none beyond the given row's own.
-/
import Derived.Test.YtimmeclclilpdaaGrc
import Derived.Test.YtimmeclclilpdaaQc
import Derived.WalkKit
import Derived.ProofKit
import Derived.OpenShut
import Derived.ShutString
import Derived.ChangeOld
import Derived.Below
namespace Go.Proofs.Ytimmeclclilpdaa.fnExactLaterGrant
open Go.ChangeShapes Go.WideShapes Go.ChangeAt Go.RowKit
open Go.ChangeMaps (open_string shut_string)

theorem own : ownKnob Try.prog.godebug = none := by kernel_rfl
theorem laidOut : laidOutB Try.prog = true := by kernel_rfl

open Go.Proofs.Ytimmeclclilpdaa.Gr12
set_option maxRecDepth 100000 in
set_option maxHeartbeats 3200000 in
/-- THE WALK: both functions answer alike. -/
theorem walk (a : Gg) (za : a.nm.size ≤ maxLen) (b : Gg) (zb : b.nm.size ≤ maxLen) (w : World) :
    Calls Try.prog 4 #[gV a, gV b] w fun e w' => e = .returned (.bool true) ∧ Below w.heap.size w w' := by
  have HX : Hid (∀ W, Below ((w.alloc (.cells #[.string a.nm, .int .i64 a.hd, .int .i64 a.tk, .int .i64 a.ex] 23)).alloc (.cells #[.string b.nm, .int .i64 b.hd, .int .i64 b.tk, .int .i64 b.ex] 23)).heap.size ((w.alloc (.cells #[.string a.nm, .int .i64 a.hd, .int .i64 a.tk, .int .i64 a.ex] 23)).alloc (.cells #[.string b.nm, .int .i64 b.hd, .int .i64 b.tk, .int .i64 b.ex] 23)) W → (W.cell? ⟨w.heap.size, 0, none⟩ = some (.string a.nm) ∧ W.cell? ⟨w.heap.size, 1, none⟩ = some (.int .i64 a.hd) ∧ W.cell? ⟨w.heap.size, 2, none⟩ = some (.int .i64 a.tk) ∧ W.cell? ⟨w.heap.size, 3, none⟩ = some (.int .i64 a.ex)) ∧ (W.cell? ⟨w.heap.size + 1, 0, none⟩ = some (.string b.nm) ∧ W.cell? ⟨w.heap.size + 1, 1, none⟩ = some (.int .i64 b.hd) ∧ W.cell? ⟨w.heap.size + 1, 2, none⟩ = some (.int .i64 b.tk) ∧ W.cell? ⟨w.heap.size + 1, 3, none⟩ = some (.int .i64 b.ex)) ∧ Below w.heap.size w W) := fun W hW => by
    have e1 : (w.alloc (.cells #[.string a.nm, .int .i64 a.hd, .int .i64 a.tk, .int .i64 a.ex] 23)).heap.size = w.heap.size + 1 := by simp
    have h1 := ((hW.block w.heap.size (by simp; omega)).trans ((bel1 (w.alloc (.cells #[.string a.nm, .int .i64 a.hd, .int .i64 a.tk, .int .i64 a.ex] 23)) (.cells #[.string b.nm, .int .i64 b.hd, .int .i64 b.tk, .int .i64 b.ex] 23)).block _ (by simp))).trans (heap_alloc_new w _)
    have h2 := (hW.block (w.heap.size + 1) (by simp)).trans (e1 ▸ heap_alloc_new (w.alloc (.cells #[.string a.nm, .int .i64 a.hd, .int .i64 a.tk, .int .i64 a.ex] 23)) (.cells #[.string b.nm, .int .i64 b.hd, .int .i64 b.tk, .int .i64 b.ex] 23))
    refine ⟨⟨?_, ?_, ?_, ?_⟩, ⟨?_, ?_, ?_, ?_⟩, ((bel1 w _).trans ((bel1 _ _).mono (bel1 w _).size)).trans (hW.mono (by simp; omega))⟩
    all_goals first | (simp [World.cell?, h1]; done) | (simp [World.cell?, h2]; done)
  have HSA : Hid (∀ W (l : Nat), l ≤ 1048576 → Calls Try.prog 5 #[.agg #[.string a.nm, .int .i64 a.hd, .int .i64 a.tk, .int .i64 a.ex], .int .i64 l] W fun e w' => (∃ r : Int, e = .returned (.int .i64 r) ∧ (r = -1 ∨ ∃ q : Nat, r = q ∧ q ≤ l ∧ a.nm.size ≤ l)) ∧ Below W.heap.size W w') := fun W l hl => szG_any a l W hl za
  have HSB : Hid (∀ W (l : Nat), l ≤ 1048576 → Calls Try.prog 5 #[.agg #[.string b.nm, .int .i64 b.hd, .int .i64 b.tk, .int .i64 b.ex], .int .i64 l] W fun e w' => (∃ r : Int, e = .returned (.int .i64 r) ∧ (r = -1 ∨ ∃ q : Nat, r = q ∧ q ≤ l ∧ b.nm.size ≤ l)) ∧ Below W.heap.size W w') := fun W l hl => szG_any b l W hl zb
  have HTA : Hid (∀ W, Calls Try.prog 7 #[.agg #[.string a.nm, .int .i64 a.hd, .int .i64 a.tk, .int .i64 a.ex]] W fun e w' => e = .returned (.agg #[.string a.nm, .int .i64 a.hd, .int .i64 a.tk, .int .i64 a.ex]) ∧ Below W.heap.size W w') := fun W => toG_any a W
  have HTB : Hid (∀ W, Calls Try.prog 7 #[.agg #[.string b.nm, .int .i64 b.hd, .int .i64 b.tk, .int .i64 b.ex]] W fun e w' => e = .returned (.agg #[.string b.nm, .int .i64 b.hd, .int .i64 b.tk, .int .i64 b.ex]) ∧ Below W.heap.size W w') := fun W => toG_any b W
  have HSP : Hid (∀ W, Calls Try.prog 9 #[.agg #[.string a.nm, .int .i64 a.hd, .int .i64 a.tk, .int .i64 a.ex], .agg #[.string b.nm, .int .i64 b.hd, .int .i64 b.tk, .int .i64 b.ex]] W fun e w' => e = .returned (.tuple #[.int .i64 (laV a b), .int .i64 (laC a b)]) ∧ Below W.heap.size W w') := fun W => specLaterGrant_any a b W za zb
  have HIM : Hid (∀ W, Calls Try.prog 10 #[.agg #[.string a.nm, .int .i64 a.hd, .int .i64 a.tk, .int .i64 a.ex], .agg #[.string b.nm, .int .i64 b.hd, .int .i64 b.tk, .int .i64 b.ex]] W fun e w' => e = .returned (.tuple #[.int .i64 (laV a b), .int .i64 (laC a b)]) ∧ Below W.heap.size W w') := fun W => implLaterGrant_any a b W za zb
  clear za zb
  generalize laV a b = o at HSP HIM
  generalize laC a b = cc at HSP HIM
  have hne2 : (o != o) = false := by simp
  have hcc : (cc != cc) = false := by simp
  unfold gV
  go_enter Try.func4, Try.ntmps4
  go_upto_region 1 with fail
  generalize ((w.alloc (.cells #[.string a.nm, .int .i64 a.hd, .int .i64 a.tk, .int .i64 a.ex] 23)).alloc (.cells #[.string b.nm, .int .i64 b.hd, .int .i64 b.tk, .int .i64 b.ex] 23)) = wb at HX ⊢
  have B0 : Hid (Below wb.heap.size wb wb) := Below.refl _ _
  obtain ⟨⟨c0, c1, c2, c3⟩, ⟨d0, d1, d2, d3⟩, _⟩ := HX.out _ B0.out
  go_wp2_with fail
  refine (HSA.out _ 1048576 (by decide)).mono ?_
  rintro e w1 ⟨⟨r, rfl, hr⟩, b1⟩
  have B1 : Hid (Below wb.heap.size wb w1) := b1
  clear b1 c0 c1 c2 c3 d0 d1 d2 d3
  rcases hr with rfl | ⟨q, rfl, hq, _⟩
  · have G1 : Hid (Below w.heap.size w w1) := (HX.out _ B1.out).2.2
    clear HX
    go_wp2_with fail
    go_ret
    exact ⟨rfl, G1.out⟩
  have hq0 : ¬ (q : Int) < 0 := by omega
  obtain ⟨⟨c0, c1, c2, c3⟩, ⟨d0, d1, d2, d3⟩, _⟩ := HX.out _ B1.out
  go_wp2_with fail
  refine (HSB.out _ q hq).mono ?_
  rintro e w2 ⟨⟨r, rfl, hr⟩, b2⟩
  have B2 : Hid (Below wb.heap.size wb w2) := B1.out.trans (b2.mono B1.out.size)
  clear b2 c0 c1 c2 c3 d0 d1 d2 d3 hq hq0
  rcases hr with rfl | ⟨q2, rfl, _, _⟩
  · have G1 : Hid (Below w.heap.size w w2) := (HX.out _ B2.out).2.2
    clear HX
    go_wp2_with fail
    go_ret
    exact ⟨rfl, G1.out⟩
  have hq0 : ¬ (q2 : Int) < 0 := by omega
  go_upto_region 8 with fail
  obtain ⟨X, hX, W, QI0, QO0⟩ := Qc.klass w2
  have QI : Hid (∀ w', Below w2.heap.size w2 w' → ∃ x, w' = W x) := QI0
  have QO : Hid (∀ x, Below w2.heap.size w2 (W x)) := QO0
  clear QI0 QO0
  obtain ⟨⟨c0, c1, c2, c3⟩, ⟨d0, d1, d2, d3⟩, _⟩ := HX.out _ B2.out
  have y0 := Qc.cell_all QO.out c0
  have y1 := Qc.cell_all QO.out c1
  have y2 := Qc.cell_all QO.out c2
  have y3 := Qc.cell_all QO.out c3
  have z0 := Qc.cell_all QO.out d0
  have z1 := Qc.cell_all QO.out d1
  have z2 := Qc.cell_all QO.out d2
  have z3 := Qc.cell_all QO.out d3
  clear c0 c1 c2 c3 d0 d1 d2 d3
  refine Qc.region_class (W := W) (by kernel_rfl) (by kernel_rfl) (QI.out _ Qc.from_drew) ?_
  repeat (go_big_quiet_step (first | (go_at_call 7; (first | (with_reducible refine (HTA.out _).mono ?_) | (with_reducible refine (HTB.out _).mono ?_)); rintro e w2 ⟨rfl, b2⟩; exact ⟨rfl, Qc.back QI.out QO.out b2⟩) | (go_at_call 9; refine (HSP.out _).mono ?_; rintro e w2 ⟨rfl, b2⟩; exact ⟨rfl, Qc.back QI.out QO.out b2⟩)))
  refine wpQuiet_nil ?_
  rintro _ ⟨xq, rfl⟩
  have B3 : Hid (Below wb.heap.size wb (W xq)) := B2.out.trans ((QO.out xq).mono B2.out.size)
  clear y0 y1 y2 y3 z0 z1 z2 z3 QO QI
  generalize W xq = w3 at B3 ⊢
  go_upto_region 9 with fail
  obtain ⟨X, hX, W, QI0, QO0⟩ := Qc.klass w3
  have QI : Hid (∀ w', Below w3.heap.size w3 w' → ∃ x, w' = W x) := QI0
  have QO : Hid (∀ x, Below w3.heap.size w3 (W x)) := QO0
  clear QI0 QO0
  obtain ⟨⟨c0, c1, c2, c3⟩, ⟨d0, d1, d2, d3⟩, _⟩ := HX.out _ B3.out
  have y0 := Qc.cell_all QO.out c0
  have y1 := Qc.cell_all QO.out c1
  have y2 := Qc.cell_all QO.out c2
  have y3 := Qc.cell_all QO.out c3
  have z0 := Qc.cell_all QO.out d0
  have z1 := Qc.cell_all QO.out d1
  have z2 := Qc.cell_all QO.out d2
  have z3 := Qc.cell_all QO.out d3
  clear c0 c1 c2 c3 d0 d1 d2 d3
  refine Qc.region_class (W := W) (by kernel_rfl) (by kernel_rfl) (QI.out _ Qc.from_drew) ?_
  repeat (go_big_quiet_step (first | (go_at_call 7; (first | (with_reducible refine (HTA.out _).mono ?_) | (with_reducible refine (HTB.out _).mono ?_)); rintro e w2 ⟨rfl, b2⟩; exact ⟨rfl, Qc.back QI.out QO.out b2⟩) | (go_at_call 10; refine (HIM.out _).mono ?_; rintro e w2 ⟨rfl, b2⟩; exact ⟨rfl, Qc.back QI.out QO.out b2⟩)))
  refine wpQuiet_nil ?_
  rintro _ ⟨xq, rfl⟩
  have B4 : Hid (Below wb.heap.size wb (W xq)) := B3.out.trans ((QO.out xq).mono B3.out.size)
  clear y0 y1 y2 y3 z0 z1 z2 z3 QO QI
  generalize W xq = w4 at B4 ⊢
  have G5 : Hid (Below w.heap.size w w4) := (HX.out _ B4.out).2.2
  go_wp2_with fail
  go_ret
  exact ⟨rfl, G5.out⟩

/-! ### THE ROW's STEP -/
set_option maxRecDepth 100000 in
theorem lifted (os : Os) (started : os.Started) (H : Type) (enc : TypeId × Value → H) :
    ReturnsInHanded {} Try.checked os 4 .any (Rows.fnExactLaterGrantSpec.pre6 enc Try.prog Try.f4 Rows.fnExactLaterGrantRow.domain false) (Rows.fnExactLaterGrantSpec.post enc Try.prog Try.f4 false true false false) := by
  refine returnsInHanded_of_change (C := Try.checked) own started (by kernel_rfl) Try.func4
    (ChangeSpec.witness6 (enc := enc) (C := Try.checked) false ⟨#[], #[.agg #[.string ByteArray.empty, .int .i64 0, .int .i64 0, .int .i64 0], .agg #[.string ByteArray.empty, .int .i64 0, .int .i64 0, .int .i64 0]], []⟩ 8 (by kernel_rfl) (by kernel_rfl) (by kernel_rfl) (by kernel_rfl)) ?_
  intro W base args ds gs before hval0 hW hcnd _
  have hval : ∀ (j : Nat) t v, Try.f4.params[j]? = some t → args[j]? = some v → Value.okWide Try.prog W .any base t v := hval0
  have hW' := hW
  obtain ⟨p, q, hA0, hV, rfl, hfz, hnd⟩ := hW
  have hA : DataW.TrodAll enc Try.prog W 0 (fun _ => true) true Try.f4.params.toList args.toList ds p := hA0
  rw [Try.params4] at hA hval
  obtain ⟨v0, vs0, d0, ds0, p0, q0, hargs, rfl, rfl, h0, r0⟩ := trodAll_cons hA
  obtain ⟨v1, vs1, d1, ds1, p1, q1, rfl, rfl, rfl, h1, r1⟩ := trodAll_cons r0
  obtain ⟨rfl, rfl, rfl⟩ := trodAll_nil r1
  obtain rfl : args = #[v0, v1] := by cases args; simp_all
  obtain ⟨rfl, rfl⟩ := trodVars_none hV
  have k00 := h0
  have lt0 : ∀ x ∈ p0, x.block < W.heap.size := by obtain ⟨m, hm⟩ := k00; exact DataW.trod_lt m _ _ _ hm
  obtain ⟨g0, rfl, z0⟩ := Op.open_grant (hval 0 23 v0 rfl rfl) h0
  have k10 := h1
  have lt1 : ∀ x ∈ p1, x.block < W.heap.size := by obtain ⟨m, hm⟩ := k10; exact DataW.trod_lt m _ _ _ hm
  obtain ⟨g1, rfl, z1⟩ := Op.open_grant (hval 1 23 v1 rfl rfl) h1
  clear hA0 hval0
  refine (walk g0 z0 g1 z1 W).mono fun e W' ⟨he, bel⟩ => ?_
  subst he
  exact ⟨_, rfl, _, _, _, [], _, [], hW', trodAll_mk1 (shut_bool Try.underlying4 _), (trodAll_cons_mk (Below.trod laidOut (by kernel_rfl) (of_decide_eq_true (by kernel_rfl)) k00 bel lt0) (trodAll_cons_mk (Below.trod laidOut (by kernel_rfl) (of_decide_eq_true (by kernel_rfl)) k10 bel lt1) trodAll_mk0)), rfl, bel.frame _, fun h => by cases h⟩

theorem over : Rows.fnExactLaterGrantRow.holds Try.pinned (OpenSpec.ofChange Rows.fnExactLaterGrantSpec) :=
  OpenClaim.holds_of_wide 4 Try.f4 rfl rfl rfl rfl rfl rfl rfl ⟨rfl, rfl, rfl, rfl, rfl⟩ rfl rfl rfl rfl rfl (by kernel_rfl) Try.func4 (by kernel_rfl)
    (of_decide_eq_true (by kernel_rfl)) (by unfold Func.isWrapper; first | (rw [if_pos (by decide +kernel)]; kernel_rfl) | (rw [if_neg (by decide +kernel)]; exact ⟨rfl, rfl⟩))
    (fun os started H enc _ => lifted os started H enc)

end Go.Proofs.Ytimmeclclilpdaa.fnExactLaterGrant
namespace Go.Proofs.Ytimmeclclilpdaa
/-- THE STATEMENT. -/
theorem fnExactLaterGrant_holds : Rows.FnExactLaterGrantSaid := fnExactLaterGrant.over
end Go.Proofs.Ytimmeclclilpdaa
