/-
  CountReplies answers as the specification does, for all numbers and every list of replies; it writes into no argument.
  Conditions: none beyond the given row's own; the package variable that it reads starts as the program's text lays it (the card ties it).
-/
import Derived.Test.YtipoajjijalibaaDoorHashLaid
import Derived.Test.YtipoajjijalibaaDoorRyk
import Derived.Test.YtipoajjijalibaaDoorRyo
import Derived.Test.YtipoajjijalibaaDoorSlRow
import Derived.WalkKit
namespace Go.Proofs.YtipoajjijalibaaDoor.fnExactCountReplies
open Go.ChangeShapes Go.WideShapes Go.ChangeAt Go.RowKit
open Go.ChangeMaps (open_string shut_string)
open Go.Proofs.YtipoajjijalibaaDoor.Hl (own laidOut rowed door_met)

open Go.Proofs.YtipoajjijalibaaDoor.Gy (Re Tz toS_any toS_row szS_any eqS_same eqA_same)
open Go.Proofs.YtipoajjijalibaaDoor.Rk (ccA ccC anV implCountReplies_any specCountReplies_any)
open Go.Proofs.YtipoajjijalibaaDoor.Sh (KTab KTab.below)
set_option maxRecDepth 100000 in
set_option maxHeartbeats 1600000 in
/-- THE WALK: both functions answer alike; the copy that was handed in is as it was. -/
theorem walk (n : Int) {q0 : Prop} (_z0 : q0) (c : Int) {q1 : Prop} (_z1 : q1) (s : Int) {q2 : Prop} (_z2 : q2) (v : Value) (L : List Re) (w : World) (h : Gy.Row w v L) (hl : L.length ≤ maxLen) (hm : ∀ x ∈ L, Tz maxLen x) (hK : KTab w) (hp : 0 < w.heap.size) :
    Calls Tryd.prog 7 #[.int .i64 n, .int .i64 c, .int .i64 s, v] w fun e w' => e = .returned (.bool true) ∧ Below w.heap.size w w' := by
  have HKT : Hid (∀ W, Below w.heap.size w W → KTab W ∧ 0 < W.heap.size) := fun W hW => ⟨hK.below hW hp, Nat.lt_of_lt_of_le hp hW.size⟩
  have HR : Hid (∀ W, Below w.heap.size w W → Gy.Row W v L) := fun W hW => h.below hW
  obtain ⟨a, cap, rfl⟩ := Rg.RowG.slice h
  have HSZ : Hid (∀ W, Gy.Row W (.slice a L.length cap) L → Calls Tryd.prog 22 #[.slice a L.length cap, .int .i64 (1048576 : Nat)] W fun e w' => (∃ r : Int, e = .returned (.int .i64 r) ∧ (r = -1 ∨ ∃ q : Nat, r = q ∧ q ≤ 1048576 ∧ L.length ≤ 1048576 ∧ ∀ x ∈ L, Tz 1048576 x)) ∧ Below W.heap.size W w') := fun W hW => szS_any _ L 1048576 W hW hm hl (by decide)
  have HTO : Hid (∀ W, L.length ≤ 1048576 → Gy.Row W (.slice a L.length cap) L → Calls Tryd.prog 23 #[.slice a L.length cap] W fun e w' => ∃ g, e = .returned (.slice (some ⟨g, 0, none⟩) L.length L.length) ∧ Gy.Row w' (.slice (some ⟨g, 0, none⟩) L.length L.length) L ∧ Below W.heap.size W w') := fun W hz hW => (toS_any _ L W hW hz).mono fun e w' ⟨g, h1, h2, h3, h4, h5, h6⟩ => ⟨g, h1, toS_row h3 h4, h5⟩
  clear h hK hp hl hm
  go_enter Tryd.func7, Tryd.ntmps7
  go_wp2_with fail
  refine (HSZ.out _ (HR.out _ (Below.refl _ _))).mono ?_
  rintro e w1 ⟨⟨r, rfl, hr⟩, b1⟩
  have B1 : Hid (Below w.heap.size w w1) := b1
  clear b1 HSZ
  rcases hr with rfl | ⟨q, rfl, _, hq3, _⟩
  · go_wp2_with fail
    go_ret
    exact ⟨rfl, B1.out⟩
  have hq0 : ¬ (q : Int) < 0 := by omega
  have HL : Hid (∀ _ : Unit, L.length ≤ 1048576) := fun _ => hq3
  clear hq3
  have HSP : Hid (∀ W u, Gy.Row W u L → Calls Tryd.prog 15 #[.int .i64 n, .int .i64 c, .int .i64 s, u] W fun e w' => e = .returned (.tuple #[anV (ccA n c s L), .int .i64 (ccC n c s L)]) ∧ Below W.heap.size W w') := fun W u hu => specCountReplies_any n c s u L W hu (HL.out ())
  have HIM : Hid (∀ W u, Gy.Row W u L → KTab W → 0 < W.heap.size → Calls Tryd.prog 14 #[.int .i64 n, .int .i64 c, .int .i64 s, u] W fun e w' => e = .returned (.tuple #[anV (ccA n c s L), .int .i64 (ccC n c s L)]) ∧ Below W.heap.size W w') := fun W u hu h1 h2 => implCountReplies_any n c s u L W hu (HL.out ()) h1 h2
  generalize ccA n c s L = A at HSP HIM
  generalize ccC n c s L = cc at HSP HIM
  have hcc : (cc != cc) = false := by simp
  have HEA : Hid (∀ W, Calls Tryd.prog 24 #[.agg #[.int .i64 A.1, .int .i64 A.2.1, .int .i64 A.2.2.1, .int .i64 A.2.2.2], .agg #[.int .i64 A.1, .int .i64 A.2.1, .int .i64 A.2.2.1, .int .i64 A.2.2.2]] W fun e w' => e = .returned (.bool true) ∧ Below W.heap.size W w') := fun W => eqA_same A.1 A.2.1 A.2.2.1 A.2.2.2 W
  unfold anV at HSP HIM
  go_wp2_with fail
  refine (HTO.out _ (HL.out ()) (HR.out _ B1.out)).mono ?_
  rintro e w2 ⟨g2, rfl, t2, b2⟩
  have B2 : Hid (Below w.heap.size w w2) := B1.out.trans (b2.mono B1.out.size)
  have T2 : Hid (Gy.Row w2 (.slice (some ⟨g2, 0, none⟩) L.length L.length) L) := t2
  clear b2 t2 B1
  go_wp2_with fail
  refine (HSP.out _ _ T2.out).mono ?_
  rintro e w3 ⟨rfl, b3⟩
  have B3 : Hid (Below w.heap.size w w3) := B2.out.trans (b3.mono B2.out.size)
  clear b3 T2 B2 HSP
  have RB : Hid (∀ W, Below (w3.alloc (.cells #[.int .i64 A.1, .int .i64 A.2.1, .int .i64 A.2.2.1, .int .i64 A.2.2.2] 26)).heap.size (w3.alloc (.cells #[.int .i64 A.1, .int .i64 A.2.1, .int .i64 A.2.2.1, .int .i64 A.2.2.2] 26)) W → (W.cell? ⟨w3.heap.size, 0, none⟩ = some (.int .i64 A.1) ∧ W.cell? ⟨w3.heap.size, 1, none⟩ = some (.int .i64 A.2.1) ∧ W.cell? ⟨w3.heap.size, 2, none⟩ = some (.int .i64 A.2.2.1) ∧ W.cell? ⟨w3.heap.size, 3, none⟩ = some (.int .i64 A.2.2.2)) ∧ Below w.heap.size w W) := fun W hW => by
    have h1 := (hW.block w3.heap.size (by simp)).trans (heap_alloc_new w3 _)
    exact ⟨⟨(Rg.blk_cell h1 0 rfl).1, (Rg.blk_cell h1 1 rfl).1, (Rg.blk_cell h1 2 rfl).1, (Rg.blk_cell h1 3 rfl).1⟩, B3.out.trans (((Rg.bel_new w3 _).trans (hW.mono (by simp))).mono B3.out.size)⟩
  go_upto_region 6 with fail
  generalize w3.alloc (.cells #[.int .i64 A.1, .int .i64 A.2.1, .int .i64 A.2.2.1, .int .i64 A.2.2.2] 26) = wr at RB ⊢
  generalize w3.heap.size = br at RB ⊢
  clear B3
  go_wp2_with fail
  refine (HTO.out _ (HL.out ()) (HR.out _ (RB.out _ (Below.refl _ _)).2)).mono ?_
  rintro e w4 ⟨g4, rfl, t4, b4⟩
  have T4 : Hid (Gy.Row w4 (.slice (some ⟨g4, 0, none⟩) L.length L.length) L ∧ Below wr.heap.size wr w4) := ⟨t4, b4⟩
  clear t4 b4
  go_wp2_with fail
  refine (HIM.out _ _ T4.out.1 (HKT.out _ (RB.out _ T4.out.2).2).1 (HKT.out _ (RB.out _ T4.out.2).2).2).mono ?_
  rintro e w5 ⟨rfl, b5⟩
  have R5 : Hid (Gy.Row (w5.alloc (.cells #[.int .i64 A.1, .int .i64 A.2.1, .int .i64 A.2.2.1, .int .i64 A.2.2.2] 26)) (.slice (some ⟨g4, 0, none⟩) L.length L.length) L ∧ Below wr.heap.size wr (w5.alloc (.cells #[.int .i64 A.1, .int .i64 A.2.1, .int .i64 A.2.2.1, .int .i64 A.2.2.2] 26))) := by
    have b := b5.trans ((Rg.bel_new w5 (.cells #[.int .i64 A.1, .int .i64 A.2.1, .int .i64 A.2.2.1, .int .i64 A.2.2.2] 26)).mono b5.size)
    exact ⟨T4.out.1.below b, T4.out.2.trans (b.mono T4.out.2.size)⟩
  clear b5 T4 HIM HKT
  obtain ⟨⟨c0, c1, c2, c3⟩, _⟩ := RB.out _ R5.out.2
  go_wp2_with fail
  refine (HEA.out _).mono ?_
  rintro e w6 ⟨rfl, b6⟩
  have R6 : Hid (Gy.Row w6 (.slice (some ⟨g4, 0, none⟩) L.length L.length) L ∧ Below w.heap.size w w6) := ⟨R5.out.1.below b6, (RB.out _ (R5.out.2.trans (b6.mono R5.out.2.size))).2⟩
  clear b6 R5 c0 c1 c2 c3
  go_wp2_with fail
  refine (HTO.out _ (HL.out ()) (HR.out _ R6.out.2)).mono ?_
  rintro e w7 ⟨g7, rfl, t7, b7⟩
  have R7 : Hid (Gy.Row w7 (.slice (some ⟨g7, 0, none⟩) L.length L.length) L ∧ Gy.Row w7 (.slice (some ⟨g4, 0, none⟩) L.length L.length) L ∧ Below w.heap.size w w7) := ⟨t7, R6.out.1.below b7, R6.out.2.trans (b7.mono R6.out.2.size)⟩
  clear t7 b7 R6
  go_wp2_with fail
  refine (eqS_same _ _ L w7 R7.out.2.1 R7.out.1 (HL.out ())).mono ?_
  rintro e w8 ⟨rfl, b8⟩
  have G8 : Hid (Below w.heap.size w w8) := R7.out.2.2.trans (b8.mono R7.out.2.2.size)
  clear b8
  go_wp2_with fail
  go_ret
  exact ⟨rfl, G8.out⟩

set_option maxRecDepth 100000 in
theorem lifted (os : Os) (started : os.Started) (H : Type) (enc : TypeId × Value → H) :
    ReturnsInHanded {} Tryd.checked os 7 .any (fun w args => (Rows.fnExactCountRepliesSpec.pre enc Tryd.prog Tryd.f7 [] false w args ∧ laidMetH Tryd.prog Rows.fnExactCountRepliesRow.laid w) ∧ sizedMet enc Tryd.prog Tryd.f7 (OpenSpec.ofChange Rows.fnExactCountRepliesSpec) false w args)
      (Rows.fnExactCountRepliesSpec.post enc Tryd.prog Tryd.f7 false true false false) := by
  refine returnsInHanded_of_change_and (C := Tryd.checked) (X := fun w _ => laidMetH Tryd.prog Rows.fnExactCountRepliesRow.laid w) (fun _ _ _ hh h => h.of_heap hh) own started (by kernel_rfl) Tryd.func7
    (ChangeSpec.witness_shaped (enc := enc) (C := Tryd.checked) (os := os) (X := fun w _ => laidMetH Tryd.prog Rows.fnExactCountRepliesRow.laid w) false (World.doorLaid Tryd.prog 400 os) #[.int .i64 0, .int .i64 0, .int .i64 0, .slice none 0 0] 8 rfl (World.shaped_of_RefB (by kernel_rfl) (by kernel_rfl)) (by kernel_rfl) (by kernel_rfl) (by kernel_rfl) (door_met os _)) ?_
  intro W base args ds gs before hval0 hW _ _ hL _
  have hval : ∀ (j : Nat) t v, Tryd.f7.params[j]? = some t → args[j]? = some v → Value.okWide Tryd.prog W .any base t v := hval0
  have hW' := hW
  obtain ⟨p, q, hA0, hV0, rfl, hfz, hnd⟩ := hW
  have hA : DataW.TrodAll enc Tryd.prog W 0 (fun _ => true) true Tryd.f7.params.toList args.toList ds p := hA0
  have hV : DataW.TrodVars enc Tryd.prog W (fun _ => true) ["loop.example/g00292/impl.roundWords"] gs q := hV0
  rw [Tryd.params7] at hA hval
  obtain ⟨v0, vs0, d0, ds0, p0, q0, hargs, rfl, rfl, h0, r0⟩ := trodAll_cons hA
  obtain ⟨v1, vs1, d1, ds1, p1, q1, rfl, rfl, rfl, h1, r1⟩ := trodAll_cons r0
  obtain ⟨v2, vs2, d2, ds2, p2, q2, rfl, rfl, rfl, h2, r2⟩ := trodAll_cons r1
  obtain ⟨v3, vs3, d3, ds3, p3, q3, rfl, rfl, rfl, h3, r3⟩ := trodAll_cons r2
  obtain ⟨rfl, rfl, rfl⟩ := trodAll_nil r3
  obtain rfl : args = #[v0, v1, v2, v3] := by cases args; simp_all
  obtain ⟨_, _, _, _, dv, _, rfl, _⟩ := trodVars_one hV
  have k00 := h0
  have lt0 : ∀ x ∈ p0, x.block < W.heap.size := by obtain ⟨m, hm⟩ := k00; exact DataW.trod_lt m _ _ _ hm
  obtain ⟨i0, rfl, rfl, rfl, z0⟩ := open_int Tryd.underlying3 (hval 0 3 v0 rfl rfl) h0
  have k10 := h1
  have lt1 : ∀ x ∈ p1, x.block < W.heap.size := by obtain ⟨m, hm⟩ := k10; exact DataW.trod_lt m _ _ _ hm
  obtain ⟨i1, rfl, rfl, rfl, z1⟩ := open_int Tryd.underlying3 (hval 1 3 v1 rfl rfl) h1
  have k20 := h2
  have lt2 : ∀ x ∈ p2, x.block < W.heap.size := by obtain ⟨m, hm⟩ := k20; exact DataW.trod_lt m _ _ _ hm
  obtain ⟨i2, rfl, rfl, rfl, z2⟩ := open_int Tryd.underlying3 (hval 2 3 v2 rfl rfl) h2
  have k30 := h3
  have lt3 : ∀ x ∈ p3, x.block < W.heap.size := by obtain ⟨m, hm⟩ := k30; exact DataW.trod_lt m _ _ _ hm
  obtain ⟨xs3, w3, l3, m3⟩ := Op.open_replies (hval 3 49 v3 rfl rfl) h3
  clear hA0 hval0 hV0
  have hT := Hl.tab_of hL
  refine (walk i0 z0 i1 z1 i2 z2 v3 xs3 W w3 l3 m3 hT.1 hT.2).mono fun e W' ⟨he, bel⟩ => ?_
  subst he
  exact ⟨_, rfl, _, _, _, [], _, q, hW', trodAll_mk1 (shut_bool Tryd.underlying4 _), (trodAll_cons_mk (Below.trod laidOut (by kernel_rfl) (of_decide_eq_true (by kernel_rfl)) k00 bel lt0) (trodAll_cons_mk (Below.trod laidOut (by kernel_rfl) (of_decide_eq_true (by kernel_rfl)) k10 bel lt1) (trodAll_cons_mk (Below.trod laidOut (by kernel_rfl) (of_decide_eq_true (by kernel_rfl)) k20 bel lt2) (trodAll_cons_mk (Below.trod laidOut (by kernel_rfl) (of_decide_eq_true (by kernel_rfl)) k30 bel lt3) trodAll_mk0)))), Below.trodVars laidOut bel rowed hV, bel.frame _, fun h => by cases h⟩

theorem said : Rows.FnExactCountRepliesSaid :=
  OpenClaim.holds_of_wide 7 Tryd.f7 rfl rfl rfl rfl rfl rfl rfl ⟨rfl, rfl, rfl, rfl, rfl⟩ rfl rfl rfl rfl rfl (by kernel_rfl) Tryd.func7 (by kernel_rfl)
    (of_decide_eq_true (by kernel_rfl)) (by unfold Func.isWrapper; first | (rw [if_pos (by decide +kernel)]; kernel_rfl) | (rw [if_neg (by decide +kernel)]; exact ⟨rfl, rfl⟩))
    (fun os started H enc _ => lifted os started H enc)

/-- No parameter wants a stand-in; the program's own looks are off. -/
theorem plain (f : FuncId) (fn : Func) (hf : Tryd.pinned.checked.prog.funcNamed "loop.example/g00292/laws.FnExactCountReplies" = some f) (hfn : Tryd.pinned.checked.prog.funcs[f]? = some fn) :
    false = Tryd.pinned.checked.prog.looks [] ∧ ∀ (j : Nat) t, fn.params[j]? = some t → Tryd.pinned.checked.prog.wantsStandIn t = false := by
  obtain rfl : f = 7 := Option.some.inj ((show Tryd.prog.funcNamed "loop.example/g00292/laws.FnExactCountReplies" = some 7 by kernel_rfl).symm.trans hf) |>.symm
  obtain rfl : fn = Tryd.f7 := (Option.some.inj (Tryd.func7.symm.trans hfn)).symm
  refine ⟨by kernel_rfl, fun j t ht => ?_⟩
  rw [Tryd.params7] at ht
  have hm := Array.mem_of_getElem? ht
  have hl : t ∈ [3, 3, 3, 49] := by simpa using hm
  have hall : ∀ x ∈ [3, 3, 3, 49], Tryd.prog.wantsStandIn x = false := by
    intro x hx
    simp only [List.mem_cons, List.not_mem_nil, or_false] at hx
    rcases hx with rfl | rfl | rfl | rfl <;> kernel_rfl
  exact hall t hl
end Go.Proofs.YtipoajjijalibaaDoor.fnExactCountReplies
namespace Go.Proofs.YtipoajjijalibaaDoor
/-- THE STATEMENT: the card. -/
theorem fnExactCountReplies_holds : Rows.FnExactCountRepliesCardSaid :=
  Claim7.holds_tied_plain_at .later [] _ _ _ _ fnExactCountReplies.said (fun _ h => by cases h) (by kernel_rfl) (fun _ h => by cases h) fnExactCountReplies_row_tie rfl ⟨rfl, rfl⟩ (by kernel_rfl) rfl fnExactCountReplies.plain (by kernel_rfl)
end Go.Proofs.YtipoajjijalibaaDoor
