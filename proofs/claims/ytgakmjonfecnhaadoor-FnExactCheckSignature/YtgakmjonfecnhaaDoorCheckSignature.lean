/-
  impl.CheckSignature answers at every argument just what the specification's CheckSignature answers, and writes nothing into its argument.
  Conditions: none beyond the given row's own; the package variable that it reads starts as the program's text lays it (the card ties it).
-/
import Derived.Test.YtgakmjonfecnhaaDoorCs3
import Derived.Test.YtgakmjonfecnhaaDoorCs5
import Derived.Test.YtgakmjonfecnhaaDoorSz
import Derived.Test.YtgakmjonfecnhaaDoorOc
import Derived.Test.YtgakmjonfecnhaaDoorHashLaid
import Derived.WalkKit
namespace Go.Proofs.YtgakmjonfecnhaaDoor.fnExactCheckSignature
open Go.ChangeShapes Go.WideShapes Go.ChangeAt Go.RowKit
open Go.ChangeMaps (open_string shut_string)
open Go.Proofs.YtgakmjonfecnhaaDoor.Hl (own laidOut rowed door_met)

open Go.Proofs.YtgakmjonfecnhaaDoor.Sl Go.Proofs.YtgakmjonfecnhaaDoor.By Go.Proofs.YtgakmjonfecnhaaDoor.Ap Go.Proofs.YtgakmjonfecnhaaDoor.Tx Go.Proofs.YtgakmjonfecnhaaDoor.Sh Go.Proofs.YtgakmjonfecnhaaDoor.Mk Go.Proofs.YtgakmjonfecnhaaDoor.Sg Go.Proofs.YtgakmjonfecnhaaDoor.Sq Go.Proofs.YtgakmjonfecnhaaDoor.Sz Go.Proofs.YtgakmjonfecnhaaDoor.Cs
set_option maxRecDepth 100000 in
set_option maxHeartbeats 1600000 in
/-- THE WALK: both functions answer alike; nothing that was handed in is written. -/
theorem walk (s0 : ByteArray) (_z0 : s0.size ≤ maxLen) (s1 : ByteArray) (_z1 : s1.size ≤ maxLen) (i2 : Int) (ua ub uc : Value) (ta tb tc : List ByteArray) {w : World} (z2 : (RowT w ua ta ∧ RowT w ub tb ∧ RowT w uc tc) ∧ (ta.length ≤ maxLen ∧ tb.length ≤ maxLen ∧ tc.length ≤ maxLen) ∧ (∀ t ∈ ta, t.size ≤ maxLen) ∧ (∀ t ∈ tb, t.size ≤ maxLen) ∧ ∀ t ∈ tc, t.size ≤ maxLen) (hK : KTab w) (hp : 0 < w.heap.size) :
    Calls Tryd.prog 4 #[.string s0, .string s1, .agg #[.int .i64 i2, ua, ub, uc]] w fun e w' => e = .returned (.bool true) ∧ Below w.heap.size w w' := by
  have GK : Hid (KTab w ∧ 0 < w.heap.size) := ⟨hK, hp⟩
  obtain ⟨a1, c1, e1⟩ := RowT.form z2.1.1
  obtain ⟨a2, c2, e2⟩ := RowT.form z2.1.2.1
  obtain ⟨a3, c3, e3⟩ := RowT.form z2.1.2.2
  subst e1 e2 e3
  have HR : Hid (RowT w (.slice a1 ta.length c1) ta ∧ RowT w (.slice a2 tb.length c2) tb ∧ RowT w (.slice a3 tc.length c3) tc) := z2.1
  have HZ : Hid ((ta.length ≤ maxLen ∧ tb.length ≤ maxLen ∧ tc.length ≤ maxLen) ∧ (∀ t ∈ ta, t.size ≤ maxLen) ∧ (∀ t ∈ tb, t.size ≤ maxLen) ∧ ∀ t ∈ tc, t.size ≤ maxLen) := z2.2
  have T0 : Hid (Below w.heap.size w (w.alloc (.cells #[.int .i64 i2, .slice a1 ta.length c1, .slice a2 tb.length c2, .slice a3 tc.length c3] 36)) ∧ (w.alloc (.cells #[.int .i64 i2, .slice a1 ta.length c1, .slice a2 tb.length c2, .slice a3 tc.length c3] 36)).heap.size = w.heap.size + 1) := ⟨bel_new _ _, size_new _ _⟩
  have HB : Hid (∀ W, Below (w.heap.size + 1) (w.alloc (.cells #[.int .i64 i2, .slice a1 ta.length c1, .slice a2 tb.length c2, .slice a3 tc.length c3] 36)) W → W.heap[w.heap.size]? = some (.cells #[.int .i64 i2, .slice a1 ta.length c1, .slice a2 tb.length c2, .slice a3 tc.length c3] 36 (0, 0)) ∧ Below w.heap.size w W ∧ w.heap.size + 1 ≤ W.heap.size) := fun W hW => by
    have hs := hW.size
    rw [size_new] at hs
    exact ⟨(hW.block _ (by omega)).trans (blk_new _ _ _), (bel_new w _).trans (hW.mono (by omega)), hs⟩
  clear hK hp z2
  by_cases hb0 : (1048576 : Int) < (s0.size : Int)
  · go_enter Tryd.func4, Tryd.ntmps4
    go_wp2
    go_ret
    exact ⟨rfl, T0.out.1⟩
  by_cases hb1 : (1048576 : Int) < (s1.size : Int)
  · go_enter Tryd.func4, Tryd.ntmps4
    go_wp2
    go_ret
    exact ⟨rfl, T0.out.1⟩
  go_enter Tryd.func4, Tryd.ntmps4
  go_wp2_with fail
  refine (szKeySignature_any i2 _ _ _ ta tb tc _ (HR.out.1.below T0.out.1) (HR.out.2.1.below T0.out.1) (HR.out.2.2.below T0.out.1) HZ.out.1.1 HZ.out.1.2.1 HZ.out.1.2.2 HZ.out.2.1 HZ.out.2.2.1 HZ.out.2.2.2).mono ?_
  rintro e w1 ⟨⟨m, rfl, hm⟩, b1⟩
  rw [T0.out.2] at b1
  have B1 : Hid (Below (w.heap.size + 1) (w.alloc (.cells #[.int .i64 i2, .slice a1 ta.length c1, .slice a2 tb.length c2, .slice a3 tc.length c3] 36)) w1) := b1
  have HM : Hid (¬ m < 0 → ta.length ≤ 1048576 ∧ tb.length ≤ 1048576 ∧ tc.length ≤ 1048576) := hm
  clear b1 hm
  by_cases hneg : m < 0
  · have g1 := (HB.out w1 B1.out).2.1
    go_wp2_with fail
    go_ret
    exact ⟨rfl, g1⟩
  have HL : Hid (ta.length ≤ 1048576 ∧ tb.length ≤ 1048576 ∧ tc.length ≤ 1048576) := HM.out hneg
  obtain ⟨X1, g1, t1⟩ := HB.out w1 B1.out
  have x0 := (blk_cell X1 0 (x := .int .i64 i2) rfl).1
  have x1 := (blk_cell X1 1 (x := .slice a1 ta.length c1) rfl).1
  have x2 := (blk_cell X1 2 (x := .slice a2 tb.length c2) rfl).1
  have x3 := (blk_cell X1 3 (x := .slice a3 tc.length c3) rfl).1
  clear X1 HM
  go_wp2_with fail
  refine (toKeySignature_any i2 _ _ _ ta tb tc w1 (HR.out.1.below (g1)) (HR.out.2.1.below (g1)) (HR.out.2.2.below (g1)) HL.out.1 HL.out.2.1 HL.out.2.2).mono ?_
  rintro e w2 ⟨va, vb, vc, rfl, va', vb', vc', b2⟩
  have B2 : Hid (Below (w.heap.size + 1) (w.alloc (.cells #[.int .i64 i2, .slice a1 ta.length c1, .slice a2 tb.length c2, .slice a3 tc.length c3] 36)) w2) := B1.out.trans (b2.mono t1)
  have R2 : Hid (RowT w2 va ta ∧ RowT w2 vb tb ∧ RowT w2 vc tc) := ⟨va', vb', vc'⟩
  clear b2 va' vb' vc' x0 x1 x2 x3 g1 t1
  go_wp2_with fail
  refine (specCheckSignature_any s0 s1 i2 va vb vc ta tb tc w2 R2.out.1 R2.out.2.1 R2.out.2.2 HZ.out.1.1 HZ.out.1.2.1 HZ.out.1.2.2 HZ.out.2.1 HZ.out.2.2.1 HZ.out.2.2.2).mono ?_
  rintro e w3 ⟨rfl, b3⟩
  obtain ⟨cd, HCD⟩ : ∃ cd, Hid (vC s0 s1 i2 ta tb tc = cd) := ⟨_, rfl⟩
  rw [HCD.out]
  have B3 : Hid (Below (w.heap.size + 1) (w.alloc (.cells #[.int .i64 i2, .slice a1 ta.length c1, .slice a2 tb.length c2, .slice a3 tc.length c3] 36)) w3) := B2.out.trans (b3.mono (HB.out w2 B2.out).2.2)
  clear b3
  obtain ⟨X1, g3, t3⟩ := HB.out w3 B3.out
  have x0 := (blk_cell X1 0 (x := .int .i64 i2) rfl).1
  have x1 := (blk_cell X1 1 (x := .slice a1 ta.length c1) rfl).1
  have x2 := (blk_cell X1 2 (x := .slice a2 tb.length c2) rfl).1
  have x3 := (blk_cell X1 3 (x := .slice a3 tc.length c3) rfl).1
  clear X1
  go_wp2_with fail
  refine (toKeySignature_any i2 _ _ _ ta tb tc w3 (HR.out.1.below (g3)) (HR.out.2.1.below (g3)) (HR.out.2.2.below (g3)) HL.out.1 HL.out.2.1 HL.out.2.2).mono ?_
  rintro e w4 ⟨ja, jb, jc, rfl, ja', jb', jc', b4⟩
  obtain ⟨x1', y1, e1⟩ := RowT.form ja'
  obtain ⟨x2', y2, e2⟩ := RowT.form jb'
  obtain ⟨x3', y3, e3⟩ := RowT.form jc'
  subst e1 e2 e3
  have B4 : Hid (Below (w.heap.size + 1) (w.alloc (.cells #[.int .i64 i2, .slice a1 ta.length c1, .slice a2 tb.length c2, .slice a3 tc.length c3] 36)) w4) := B3.out.trans (b4.mono t3)
  have R4 : Hid (RowT w4 (.slice x1' ta.length y1) ta ∧ RowT w4 (.slice x2' tb.length y2) tb ∧ RowT w4 (.slice x3' tc.length y3) tc) := ⟨ja', jb', jc'⟩
  have T4 : Hid (Below w4.heap.size w4 (w4.alloc (.cells #[.int .i64 i2, .slice x1' ta.length y1, .slice x2' tb.length y2, .slice x3' tc.length y3] 29)) ∧ (w4.alloc (.cells #[.int .i64 i2, .slice x1' ta.length y1, .slice x2' tb.length y2, .slice x3' tc.length y3] 29)).heap.size = w4.heap.size + 1 ∧ (w4.alloc (.cells #[.int .i64 i2, .slice x1' ta.length y1, .slice x2' tb.length y2, .slice x3' tc.length y3] 29)).heap[w4.heap.size]? = some (.cells #[.int .i64 i2, .slice x1' ta.length y1, .slice x2' tb.length y2, .slice x3' tc.length y3] 29 (0, 0))) := ⟨bel_new _ _, size_new _ _, blk_new _ _ _⟩
  have B4' : Hid (Below (w.heap.size + 1) (w.alloc (.cells #[.int .i64 i2, .slice a1 ta.length c1, .slice a2 tb.length c2, .slice a3 tc.length c3] 36)) (w4.alloc (.cells #[.int .i64 i2, .slice x1' ta.length y1, .slice x2' tb.length y2, .slice x3' tc.length y3] 29))) := B4.out.trans (T4.out.1.mono (HB.out w4 B4.out).2.2)
  clear b4 ja' jb' jc' x0 x1 x2 x3 g3 t3
  go_wp2_with fail
  refine (implCheckSignature_any s0 s1 i2 _ _ _ ta tb tc _ (R4.out.1.below T4.out.1) (R4.out.2.1.below T4.out.1) (R4.out.2.2.below T4.out.1) HZ.out.1.1 HZ.out.1.2.1 HZ.out.1.2.2 HZ.out.2.1 HZ.out.2.2.1 HZ.out.2.2.2 (GK.out.1.below (HB.out _ B4'.out).2.1 GK.out.2) (Nat.lt_of_lt_of_le GK.out.2 (HB.out _ B4'.out).2.1.size)).mono ?_
  rintro e w5 ⟨rfl, b5⟩
  rw [HCD.out]
  have b5' := b5
  rw [T4.out.2.1] at b5
  have B5 : Hid (Below (w.heap.size + 1) (w.alloc (.cells #[.int .i64 i2, .slice a1 ta.length c1, .slice a2 tb.length c2, .slice a3 tc.length c3] 36)) w5) := B4'.out.trans (b5.mono (by have := (HB.out w4 B4.out).2.2; omega))
  have Q5 : Hid (w5.heap[w4.heap.size]? = some (.cells #[.int .i64 i2, .slice x1' ta.length y1, .slice x2' tb.length y2, .slice x3' tc.length y3] 29 (0, 0)) ∧ w4.heap.size < w5.heap.size) := ⟨(b5.block _ (by omega)).trans T4.out.2.2, by have := b5.size; rw [T4.out.2.1] at this; omega⟩
  have R5 : Hid (RowT w5 (.slice x1' ta.length y1) ta ∧ RowT w5 (.slice x2' tb.length y2) tb ∧ RowT w5 (.slice x3' tc.length y3) tc) := ⟨(R4.out.1.below T4.out.1).below b5', (R4.out.2.1.below T4.out.1).below b5', (R4.out.2.2.below T4.out.1).below b5'⟩
  clear b5 b5'
  obtain ⟨X1, g5, t5⟩ := HB.out w5 B5.out
  have x0 := (blk_cell X1 0 (x := .int .i64 i2) rfl).1
  have x1 := (blk_cell X1 1 (x := .slice a1 ta.length c1) rfl).1
  have x2 := (blk_cell X1 2 (x := .slice a2 tb.length c2) rfl).1
  have x3 := (blk_cell X1 3 (x := .slice a3 tc.length c3) rfl).1
  have u0 := (blk_cell Q5.out.1 0 (x := .int .i64 i2) rfl).1
  have u1 := (blk_cell Q5.out.1 1 (x := .slice x1' ta.length y1) rfl).1
  have u2 := (blk_cell Q5.out.1 2 (x := .slice x2' tb.length y2) rfl).1
  have u3 := (blk_cell Q5.out.1 3 (x := .slice x3' tc.length y3) rfl).1
  clear X1
  have hcd : (cd != cd) = false := by simp
  have HTO : Hid (Calls Tryd.prog 22 #[.agg #[.int .i64 i2, .slice a1 ta.length c1, .slice a2 tb.length c2, .slice a3 tc.length c3]] w5.drew fun e w' => ∃ va vb vc, e = .returned (.agg #[.int .i64 i2, va, vb, vc]) ∧ RowT w' va ta ∧ RowT w' vb tb ∧ RowT w' vc tc ∧ Below w5.drew.heap.size w5.drew w') := (toKeySignature_any i2 _ _ _ ta tb tc w5.drew (HR.out.1.below (g5.drew)) (HR.out.2.1.below (g5.drew)) (HR.out.2.2.below (g5.drew)) HL.out.1 HL.out.2.1 HL.out.2.2)
  go_wp2_with fail
  go_region_law (first
    | (go_simp; go_at_call 22; refine HTO.out.mono ?_; rintro e w6 ⟨ka, kb, kc, rfl, ka', kb', kc', b6⟩; have g6 := (ordB rfl b6).1; have h6 := g5.trans (g6.mono g5.size); have R6 : RowT w6 (.slice x1' ta.length y1) ta ∧ RowT w6 (.slice x2' tb.length y2) tb ∧ RowT w6 (.slice x3' tc.length y3) tc := ⟨R5.out.1.below g6, R5.out.2.1.below g6, R5.out.2.2.below g6⟩; have n0 := (blk_cell ((g6.block _ Q5.out.2).trans Q5.out.1) 0 (x := .int .i64 i2) rfl).1; have n1 := (blk_cell ((g6.block _ Q5.out.2).trans Q5.out.1) 1 (x := .slice x1' ta.length y1) rfl).1; have n2 := (blk_cell ((g6.block _ Q5.out.2).trans Q5.out.1) 2 (x := .slice x2' tb.length y2) rfl).1; have n3 := (blk_cell ((g6.block _ Q5.out.2).trans Q5.out.1) 3 (x := .slice x3' tc.length y3) rfl).1; clear b6; try go_simp)
    | (go_simp; go_at_call 23; refine (eqSig_big i2 _ _ _ _ _ _ ta tb tc w6 R6.1 R6.2.1 R6.2.2 ka' kb' kc' HL.out.1 HL.out.2.1 HL.out.2.2).mono ?_; rintro e w7 ⟨rfl, b7⟩; have h7 := h6.trans (b7.mono h6.size); clear b7; try go_simp))
  all_goals
    go_wp2_with fail
    go_ret
    exact ⟨rfl, h7⟩

set_option maxRecDepth 100000 in
theorem lifted (os : Os) (started : os.Started) (H : Type) (enc : TypeId × Value → H) :
    ReturnsInHanded {} Tryd.checked os 4 .any (fun w args => (Rows.fnExactCheckSignatureSpec.pre enc Tryd.prog Tryd.f4 [] false w args ∧ laidMetH Tryd.prog Rows.fnExactCheckSignatureRow.laid w) ∧ sizedMet enc Tryd.prog Tryd.f4 (OpenSpec.ofChange Rows.fnExactCheckSignatureSpec) false w args)
      (Rows.fnExactCheckSignatureSpec.post enc Tryd.prog Tryd.f4 false true false false) := by
  refine returnsInHanded_of_change_and (C := Tryd.checked) (X := fun w _ => laidMetH Tryd.prog Rows.fnExactCheckSignatureRow.laid w) (fun _ _ _ hh h => h.of_heap hh) own started (by kernel_rfl) Tryd.func4
    (ChangeSpec.witness_shaped (enc := enc) (C := Tryd.checked) (os := os) (X := fun w _ => laidMetH Tryd.prog Rows.fnExactCheckSignatureRow.laid w) false (World.doorLaid Tryd.prog 400 os) #[.string ByteArray.empty, .string ByteArray.empty, .agg #[.int .i64 0, .slice none 0 0, .slice none 0 0, .slice none 0 0]] 8 rfl (World.shaped_of_RefB (by kernel_rfl) (by kernel_rfl)) (by kernel_rfl) (by kernel_rfl) (by kernel_rfl) (door_met os _)) ?_
  intro W base args ds gs before hval0 hW _ _ hL _
  have hval : ∀ (j : Nat) t v, Tryd.f4.params[j]? = some t → args[j]? = some v → Value.okWide Tryd.prog W .any base t v := hval0
  have hW' := hW
  obtain ⟨p, q, hA0, hV0, rfl, hfz, hnd⟩ := hW
  have hA : DataW.TrodAll enc Tryd.prog W 0 (fun _ => true) true Tryd.f4.params.toList args.toList ds p := hA0
  have hV : DataW.TrodVars enc Tryd.prog W (fun _ => true) ["loop.example/g00292/impl.roundWords"] gs q := hV0
  rw [Tryd.params4] at hA hval
  obtain ⟨v0, vs0, d0, ds0, p0, q0, hargs, rfl, rfl, h0, r0⟩ := trodAll_cons hA
  obtain ⟨v1, vs1, d1, ds1, p1, q1, rfl, rfl, rfl, h1, r1⟩ := trodAll_cons r0
  obtain ⟨v2, vs2, d2, ds2, p2, q2, rfl, rfl, rfl, h2, r2⟩ := trodAll_cons r1
  obtain ⟨rfl, rfl, rfl⟩ := trodAll_nil r2
  obtain rfl : args = #[v0, v1, v2] := by cases args; simp_all
  obtain ⟨_, _, _, _, dv, _, rfl, _⟩ := trodVars_one hV
  have k00 := h0
  have lt0 : ∀ x ∈ p0, x.block < W.heap.size := by obtain ⟨m, hm⟩ := k00; exact DataW.trod_lt m _ _ _ hm
  obtain ⟨s0, rfl, rfl, rfl, z0⟩ := open_string Tryd.underlying9 (hval 0 9 v0 rfl rfl) h0
  have k10 := h1
  have lt1 : ∀ x ∈ p1, x.block < W.heap.size := by obtain ⟨m, hm⟩ := k10; exact DataW.trod_lt m _ _ _ hm
  obtain ⟨s1, rfl, rfl, rfl, z1⟩ := open_string Tryd.underlying9 (hval 1 9 v1 rfl rfl) h1
  have k20 := h2
  have lt2 : ∀ x ∈ p2, x.block < W.heap.size := by obtain ⟨m, hm⟩ := k20; exact DataW.trod_lt m _ _ _ hm
  obtain ⟨i2, ua2, ub2, uc2, ta2, tb2, tc2, rfl, z2⟩ := Op.open_sig (hval 2 36 v2 rfl rfl) h2 (fun _ => rfl)
  clear hA0 hval0 hV0
  have hT := Hl.tab_of hL
  refine (walk s0 z0 s1 z1 i2 ua2 ub2 uc2 ta2 tb2 tc2 z2 hT.1 hT.2).mono fun e W' ⟨he, bel⟩ => ?_
  subst he
  exact ⟨_, rfl, _, _, _, [], _, q, hW', trodAll_mk1 (shut_bool Tryd.underlying4 _), (trodAll_cons_mk (Below.trod laidOut (by kernel_rfl) (of_decide_eq_true (by kernel_rfl)) k00 bel lt0) (trodAll_cons_mk (Below.trod laidOut (by kernel_rfl) (of_decide_eq_true (by kernel_rfl)) k10 bel lt1) (trodAll_cons_mk (Below.trod laidOut (by kernel_rfl) (of_decide_eq_true (by kernel_rfl)) k20 bel lt2) trodAll_mk0))), Below.trodVars laidOut bel rowed hV, bel.frame _, fun h => by cases h⟩

theorem said : Rows.FnExactCheckSignatureSaid :=
  OpenClaim.holds_of_wide 4 Tryd.f4 rfl rfl rfl rfl rfl rfl rfl ⟨rfl, rfl, rfl, rfl, rfl⟩ rfl rfl rfl rfl rfl (by kernel_rfl) Tryd.func4 (by kernel_rfl)
    (of_decide_eq_true (by kernel_rfl)) (by unfold Func.isWrapper; first | (rw [if_pos (by decide +kernel)]; kernel_rfl) | (rw [if_neg (by decide +kernel)]; exact ⟨rfl, rfl⟩))
    (fun os started H enc _ => lifted os started H enc)

/-- No parameter wants a stand-in; the program's own looks are off. -/
theorem plain (f : FuncId) (fn : Func) (hf : Tryd.pinned.checked.prog.funcNamed "loop.example/g00292/laws.FnExactCheckSignature" = some f) (hfn : Tryd.pinned.checked.prog.funcs[f]? = some fn) :
    false = Tryd.pinned.checked.prog.looks [] ∧ ∀ (j : Nat) t, fn.params[j]? = some t → Tryd.pinned.checked.prog.wantsStandIn t = false := by
  obtain rfl : f = 4 := Option.some.inj ((show Tryd.prog.funcNamed "loop.example/g00292/laws.FnExactCheckSignature" = some 4 by kernel_rfl).symm.trans hf) |>.symm
  obtain rfl : fn = Tryd.f4 := (Option.some.inj (Tryd.func4.symm.trans hfn)).symm
  refine ⟨by kernel_rfl, fun j t ht => ?_⟩
  rw [Tryd.params4] at ht
  have hm := Array.mem_of_getElem? ht
  have hl : t ∈ [9, 9, 36] := by simpa using hm
  have hall : ∀ x ∈ [9, 9, 36], Tryd.prog.wantsStandIn x = false := by
    intro x hx
    simp only [List.mem_cons, List.not_mem_nil, or_false] at hx
    rcases hx with rfl | rfl | rfl <;> kernel_rfl
  exact hall t hl
end Go.Proofs.YtgakmjonfecnhaaDoor.fnExactCheckSignature
namespace Go.Proofs.YtgakmjonfecnhaaDoor
/-- THE STATEMENT: the card. -/
theorem fnExactCheckSignature_holds : Rows.FnExactCheckSignatureCardSaid :=
  Claim7.holds_tied_plain_at .later [] _ _ _ _ fnExactCheckSignature.said (fun _ h => by cases h) (by kernel_rfl) (fun _ h => by cases h) fnExactCheckSignature_row_tie rfl ⟨rfl, rfl⟩ (by kernel_rfl) rfl fnExactCheckSignature.plain (by kernel_rfl)
end Go.Proofs.YtgakmjonfecnhaaDoor
