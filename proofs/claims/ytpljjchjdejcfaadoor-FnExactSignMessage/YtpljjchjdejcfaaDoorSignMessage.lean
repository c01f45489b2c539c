/-
  impl.SignMessage answers at every number and message just what the specification's SignMessage answers.
  Conditions: none beyond the given row's own; the package variable that it reads starts as the program's text lays it (the card ties it).
-/
import Derived.Test.YtpljjchjdejcfaaDoorSi3
import Derived.Test.YtpljjchjdejcfaaDoorOpm
import Derived.Test.YtpljjchjdejcfaaDoorHashLaid
import Derived.WalkKit
namespace Go.Proofs.YtpljjchjdejcfaaDoor.fnExactSignMessage
open Go.ChangeShapes Go.WideShapes Go.ChangeAt Go.RowKit
open Go.ChangeMaps (open_string shut_string)
open Go.Proofs.YtpljjchjdejcfaaDoor.Hl (own laidOut rowed door_met)

open Go.Proofs.YtpljjchjdejcfaaDoor.Sl Go.Proofs.YtpljjchjdejcfaaDoor.By Go.Proofs.YtpljjchjdejcfaaDoor.Ap Go.Proofs.YtpljjchjdejcfaaDoor.Sh Go.Proofs.YtpljjchjdejcfaaDoor.Ho Go.Proofs.YtpljjchjdejcfaaDoor.Rq Go.Proofs.YtpljjchjdejcfaaDoor.Ms Go.Proofs.YtpljjchjdejcfaaDoor.Mp Go.Proofs.YtpljjchjdejcfaaDoor.Si
open Go.Proofs.YtpljjchjdejcfaaDoor.Tx (blk_cell blk_set blk_far blk_new bel_new)
set_option maxRecDepth 100000 in
set_option maxHeartbeats 800000 in
/-- THE WALK: both functions answer alike. -/
theorem walk (n : Int) {q0 : Prop} (_z0 : q0) (kd vw sq fr : Int) (dg bd mc : ByteArray) (hd : dg.size ≤ maxLen) (hb : bd.size ≤ maxLen) (hm : mc.size ≤ maxLen) (w : World) (hK : KTab w) (hp : 0 < w.heap.size) :
    Calls Tryd.prog 4 #[.int .i64 n, msgV kd vw sq fr dg bd mc] w fun e w' => e = .returned (.bool true) ∧ Below w.heap.size w w' := by
  obtain ⟨ak, av, aq, af, ad, ab, am, hf⟩ : ∃ (ak av aq af : Int) (ad ab am : ByteArray), sV n kd vw sq dg bd = msgV ak av aq af ad ab am := by
    rcases s_cases n kd vw sq dg bd with ⟨_, _, h⟩ | ⟨_, _, _, h⟩ | ⟨i, rfl, _, _, _, _, h⟩ <;> exact ⟨_, _, _, _, _, _, _, h⟩
  have HS : Hid (sV n kd vw sq dg bd = .agg #[.int .i64 ak, .int .i64 av, .int .i64 aq, .int .i64 af, .string ad, .string ab, .string am]) := hf
  clear hf
  have GK : Hid (KTab w) := hK
  clear hK
  by_cases hbig : (1048576 : Int) < ((dg.size + bd.size + mc.size : Nat) : Int)
  · have HL : lft 1048576 ((dg.size + bd.size + mc.size : Nat) : Int) = -1 := lft_no hbig
    go_enter Tryd.func4, Tryd.ntmps4
    unfold msgV
    go_wp2_with fail
    refine (szMessage_any kd vw sq fr dg bd mc _ hd hb hm).mono ?_
    rintro e w1 ⟨rfl, b1⟩
    have g1 := box_first b1
    clear b1
    rw [HL]
    go_wp2_with fail
    go_ret
    exact ⟨rfl, box_old g1⟩
  · obtain ⟨lf, HL, hlf⟩ : ∃ lf, Hid (lft 1048576 ((dg.size + bd.size + mc.size : Nat) : Int) = lf) ∧ 0 ≤ lf := ⟨_, rfl, by rw [lft_yes hbig]; omega⟩
    go_enter Tryd.func4, Tryd.ntmps4
    unfold msgV
    go_wp2_with fail
    refine (szMessage_any kd vw sq fr dg bd mc _ hd hb hm).mono ?_
    rintro e w1 ⟨rfl, b1⟩
    have g1 := box_first b1
    rw [HL.out]
    obtain ⟨q0, q1, q2, q3, q4, q5, q6⟩ := msg_box g1
    clear b1
    go_wp2_with fail
    refine (toMessage_any kd vw sq fr dg bd mc _).mono ?_
    rintro e w2 ⟨rfl, b2⟩
    have g2 := box_next g1 b2
    clear b2 q0 q1 q2 q3 q4 q5 q6 g1
    go_wp2_with fail
    refine (specSignMessage_any n kd vw sq fr dg bd mc _).mono ?_
    rintro e w3 ⟨rfl, b3⟩
    rw [HS.out]
    have g3 := box_next g2 b3
    obtain ⟨q0, q1, q2, q3, q4, q5, q6⟩ := msg_box g3
    have B3 : Hid (Below w.heap.size w w3) := box_old g3
    have G3 : Hid (Below (w.heap.size + 1) (w.alloc (.cells #[.int .i64 kd, .int .i64 vw, .int .i64 sq, .int .i64 fr, .string dg, .string bd, .string mc] 26)) w3) := g3
    clear b3 g2 g3 q0 q1 q2 q3 q4 q5 q6
    obtain ⟨cd, HCD⟩ : ∃ cd, Hid (sCode n kd vw sq dg bd = cd) := ⟨_, rfl⟩
    rw [HCD.out]
    have X3 : Hid ((w3.alloc (.cells #[.int .i64 ak, .int .i64 av, .int .i64 aq, .int .i64 af, .string ad, .string ab, .string am] 28)).heap[w3.heap.size]? = some (.cells #[.int .i64 ak, .int .i64 av, .int .i64 aq, .int .i64 af, .string ad, .string ab, .string am] 28 (0, 0))) := heap_alloc_new w3 _
    have g4 := box_next G3.out (bel_new w3 (.cells #[.int .i64 ak, .int .i64 av, .int .i64 aq, .int .i64 af, .string ad, .string ab, .string am] 28))
    obtain ⟨q0, q1, q2, q3, q4, q5, q6⟩ := msg_box g4
    have G4 : Hid (Below (w.heap.size + 1) (w.alloc (.cells #[.int .i64 kd, .int .i64 vw, .int .i64 sq, .int .i64 fr, .string dg, .string bd, .string mc] 26)) (w3.alloc (.cells #[.int .i64 ak, .int .i64 av, .int .i64 aq, .int .i64 af, .string ad, .string ab, .string am] 28))) := g4
    clear g4 G3 B3
    go_upto_region 6 with fail
    obtain ⟨x3, HXX3⟩ : ∃ x3, Hid (w3.heap.size = x3) := ⟨_, rfl⟩
    rw [HXX3.out] at X3 ⊢
    generalize w3.alloc (.cells #[.int .i64 ak, .int .i64 av, .int .i64 aq, .int .i64 af, .string ad, .string ab, .string am] 28) = w4 at X3 G4 q0 q1 q2 q3 q4 q5 q6 ⊢
    go_wp2_with fail
    refine (toMessage_any kd vw sq fr dg bd mc _).mono ?_
    rintro e w5 ⟨rfl, b5⟩
    have x3l := (Array.getElem?_eq_some_iff.1 X3.out).1
    have X5 : Hid (w5.heap[x3]? = some (.cells #[.int .i64 ak, .int .i64 av, .int .i64 aq, .int .i64 af, .string ad, .string ab, .string am] 28 (0, 0))) := (b5.block _ x3l).trans X3.out
    have B5 : Hid (Below w.heap.size w w5) := box_old (box_next G4.out b5)
    clear b5 X3 G4 q0 q1 q2 q3 q4 q5 q6 x3l
    go_wp2_with fail
    refine (implSignMessage_any n kd vw sq fr dg bd mc _ (GK.out.below B5.out hp) (Nat.lt_of_lt_of_le hp B5.out.size)).mono ?_
    rintro e w6 ⟨rfl, b6⟩
    rw [HS.out, HCD.out]
    have x5l := (Array.getElem?_eq_some_iff.1 X5.out).1
    have X6 := (b6.block _ x5l).trans X5.out
    have s6 := (Array.getElem?_eq_some_iff.1 X6).1
    have X7 : Hid ((w6.alloc (.cells #[.int .i64 ak, .int .i64 av, .int .i64 aq, .int .i64 af, .string ad, .string ab, .string am] 28)).heap[x3]? = some (.cells #[.int .i64 ak, .int .i64 av, .int .i64 aq, .int .i64 af, .string ad, .string ab, .string am] 28 (0, 0))) := (Below.heap_alloc w6 _ _ s6).trans X6
    have Y7 : Hid ((w6.alloc (.cells #[.int .i64 ak, .int .i64 av, .int .i64 aq, .int .i64 af, .string ad, .string ab, .string am] 28)).heap[w6.heap.size]? = some (.cells #[.int .i64 ak, .int .i64 av, .int .i64 aq, .int .i64 af, .string ad, .string ab, .string am] 28 (0, 0))) := heap_alloc_new w6 _
    have B6 := B5.out.trans (b6.mono B5.out.size)
    have B7 : Hid (Below w.heap.size w (w6.alloc (.cells #[.int .i64 ak, .int .i64 av, .int .i64 aq, .int .i64 af, .string ad, .string ab, .string am] 28))) := B6.alloc B6.size _
    clear b6 X5 X6 x5l s6 B5 B6 GK
    go_upto_region 7 with fail
    obtain ⟨x6, HX6⟩ : ∃ x6, Hid (w6.heap.size = x6) := ⟨_, rfl⟩
    rw [HX6.out] at Y7 ⊢
    generalize w6.alloc (.cells #[.int .i64 ak, .int .i64 av, .int .i64 aq, .int .i64 af, .string ad, .string ab, .string am] 28) = w7 at X7 Y7 B7 ⊢
    have x0 := (blk_cell X7.out 0 (x := .int .i64 ak) rfl).1
    have x1 := (blk_cell X7.out 1 (x := .int .i64 av) rfl).1
    have x2 := (blk_cell X7.out 2 (x := .int .i64 aq) rfl).1
    have x3 := (blk_cell X7.out 3 (x := .int .i64 af) rfl).1
    have x4 := (blk_cell X7.out 4 (x := .string ad) rfl).1
    have x5 := (blk_cell X7.out 5 (x := .string ab) rfl).1
    have x6 := (blk_cell X7.out 6 (x := .string am) rfl).1
    have y0 := (blk_cell Y7.out 0 (x := .int .i64 ak) rfl).1
    have y1 := (blk_cell Y7.out 1 (x := .int .i64 av) rfl).1
    have y2 := (blk_cell Y7.out 2 (x := .int .i64 aq) rfl).1
    have y3 := (blk_cell Y7.out 3 (x := .int .i64 af) rfl).1
    have y4 := (blk_cell Y7.out 4 (x := .string ad) rfl).1
    have y5 := (blk_cell Y7.out 5 (x := .string ab) rfl).1
    have y6 := (blk_cell Y7.out 6 (x := .string am) rfl).1
    have hcc : (cd != cd) = false := by simp
    go_wp2_with fail
    refine (eqMessage_same ak av aq af ad ab am _).mono ?_
    rintro e w8 ⟨rfl, b8⟩
    have B8 : Hid (Below w.heap.size w w8) := B7.out.trans (b8.mono B7.out.size)
    clear b8 x0 x1 x2 x3 x4 x5 x6 y0 y1 y2 y3 y4 y5 y6
    go_wp2_with fail
    go_ret
    exact ⟨rfl, B8.out⟩

set_option maxRecDepth 100000 in
theorem lifted (os : Os) (started : os.Started) (H : Type) (enc : TypeId × Value → H) :
    ReturnsInHanded {} Tryd.checked os 4 .any (fun w args => (Rows.fnExactSignMessageSpec.pre enc Tryd.prog Tryd.f4 [] false w args ∧ laidMetH Tryd.prog Rows.fnExactSignMessageRow.laid w) ∧ sizedMet enc Tryd.prog Tryd.f4 (OpenSpec.ofChange Rows.fnExactSignMessageSpec) false w args)
      (Rows.fnExactSignMessageSpec.post enc Tryd.prog Tryd.f4 false true false false) := by
  refine returnsInHanded_of_change_and (C := Tryd.checked) (X := fun w _ => laidMetH Tryd.prog Rows.fnExactSignMessageRow.laid w) (fun _ _ _ hh h => h.of_heap hh) own started (by kernel_rfl) Tryd.func4
    (ChangeSpec.witness_shaped (enc := enc) (C := Tryd.checked) (os := os) (X := fun w _ => laidMetH Tryd.prog Rows.fnExactSignMessageRow.laid w) false (World.doorLaid Tryd.prog 400 os) #[.int .i64 0, .agg #[.int .i64 0, .int .i64 0, .int .i64 0, .int .i64 0, .string ByteArray.empty, .string ByteArray.empty, .string ByteArray.empty]] 8 rfl (World.shaped_of_RefB (by kernel_rfl) (by kernel_rfl)) (by kernel_rfl) (by kernel_rfl) (by kernel_rfl) (door_met os _)) ?_
  intro W base args ds gs before hval0 hW _ _ hL _
  have hval : ∀ (j : Nat) t v, Tryd.f4.params[j]? = some t → args[j]? = some v → Value.okWide Tryd.prog W .any base t v := hval0
  have hW' := hW
  obtain ⟨p, q, hA0, hV0, rfl, hfz, hnd⟩ := hW
  have hA : DataW.TrodAll enc Tryd.prog W 0 (fun _ => true) true Tryd.f4.params.toList args.toList ds p := hA0
  have hV : DataW.TrodVars enc Tryd.prog W (fun _ => true) ["loop.example/g00292/impl.roundWords"] gs q := hV0
  rw [Tryd.params4] at hA hval
  obtain ⟨v0, vs0, d0, ds0, p0, q0, hargs, rfl, rfl, h0, r0⟩ := trodAll_cons hA
  obtain ⟨v1, vs1, d1, ds1, p1, q1, rfl, rfl, rfl, h1, r1⟩ := trodAll_cons r0
  obtain ⟨rfl, rfl, rfl⟩ := trodAll_nil r1
  obtain rfl : args = #[v0, v1] := by cases args; simp_all
  obtain ⟨_, _, _, _, dv, _, rfl, _⟩ := trodVars_one hV
  have k00 := h0
  have lt0 : ∀ x ∈ p0, x.block < W.heap.size := by obtain ⟨m, hm⟩ := k00; exact DataW.trod_lt m _ _ _ hm
  obtain ⟨i0, rfl, rfl, rfl, z0⟩ := open_int Tryd.underlying3 (hval 0 3 v0 rfl rfl) h0
  have k10 := h1
  have lt1 : ∀ x ∈ p1, x.block < W.heap.size := by obtain ⟨m, hm⟩ := k10; exact DataW.trod_lt m _ _ _ hm
  obtain ⟨kd1, vw1, sq1, fr1, dg1, bd1, mc1, rfl, hd1, hb1, hm1⟩ := Op.open_msg (hval 1 26 v1 rfl rfl) h1
  clear hA0 hval0 hV0
  have hT := Hl.tab_of hL
  refine (walk i0 z0 kd1 vw1 sq1 fr1 dg1 bd1 mc1 hd1 hb1 hm1 W hT.1 hT.2).mono fun e W' ⟨he, bel⟩ => ?_
  subst he
  exact ⟨_, rfl, _, _, _, [], _, q, hW', trodAll_mk1 (shut_bool Tryd.underlying4 _), (trodAll_cons_mk (Below.trod laidOut (by kernel_rfl) (of_decide_eq_true (by kernel_rfl)) k00 bel lt0) (trodAll_cons_mk (Below.trod laidOut (by kernel_rfl) (of_decide_eq_true (by kernel_rfl)) k10 bel lt1) trodAll_mk0)), Below.trodVars laidOut bel rowed hV, bel.frame _, fun h => by cases h⟩

theorem said : Rows.FnExactSignMessageSaid :=
  OpenClaim.holds_of_wide 4 Tryd.f4 rfl rfl rfl rfl rfl rfl rfl ⟨rfl, rfl, rfl, rfl, rfl⟩ rfl rfl rfl rfl rfl (by kernel_rfl) Tryd.func4 (by kernel_rfl)
    (of_decide_eq_true (by kernel_rfl)) (by unfold Func.isWrapper; first | (rw [if_pos (by decide +kernel)]; kernel_rfl) | (rw [if_neg (by decide +kernel)]; exact ⟨rfl, rfl⟩))
    (fun os started H enc _ => lifted os started H enc)

/-- No parameter wants a stand-in; the program's own looks are off. -/
theorem plain (f : FuncId) (fn : Func) (hf : Tryd.pinned.checked.prog.funcNamed "loop.example/g00292/laws.FnExactSignMessage" = some f) (hfn : Tryd.pinned.checked.prog.funcs[f]? = some fn) :
    false = Tryd.pinned.checked.prog.looks [] ∧ ∀ (j : Nat) t, fn.params[j]? = some t → Tryd.pinned.checked.prog.wantsStandIn t = false := by
  obtain rfl : f = 4 := Option.some.inj ((show Tryd.prog.funcNamed "loop.example/g00292/laws.FnExactSignMessage" = some 4 by kernel_rfl).symm.trans hf) |>.symm
  obtain rfl : fn = Tryd.f4 := (Option.some.inj (Tryd.func4.symm.trans hfn)).symm
  refine ⟨by kernel_rfl, fun j t ht => ?_⟩
  rw [Tryd.params4] at ht
  have hm := Array.mem_of_getElem? ht
  have hl : t ∈ [3, 26] := by simpa using hm
  have hall : ∀ x ∈ [3, 26], Tryd.prog.wantsStandIn x = false := by
    intro x hx
    simp only [List.mem_cons, List.not_mem_nil, or_false] at hx
    rcases hx with rfl | rfl <;> kernel_rfl
  exact hall t hl
end Go.Proofs.YtpljjchjdejcfaaDoor.fnExactSignMessage
namespace Go.Proofs.YtpljjchjdejcfaaDoor
/-- THE STATEMENT: the card. -/
theorem fnExactSignMessage_holds : Rows.FnExactSignMessageCardSaid :=
  Claim7.holds_tied_plain_at .later [] _ _ _ _ fnExactSignMessage.said (fun _ h => by cases h) (by kernel_rfl) (fun _ h => by cases h) fnExactSignMessage_row_tie rfl ⟨rfl, rfl⟩ (by kernel_rfl) rfl fnExactSignMessage.plain (by kernel_rfl)
end Go.Proofs.YtpljjchjdejcfaaDoor
