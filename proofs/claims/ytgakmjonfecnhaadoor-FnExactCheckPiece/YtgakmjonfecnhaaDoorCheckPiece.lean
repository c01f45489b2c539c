/-
  impl.CheckPiece answers at every argument just what the specification's CheckPiece answers; it writes into no argument.
  Conditions: none beyond the given row's own; the package variable that it reads starts as the program's text lays it (the card ties it).
-/
import Derived.Test.YtgakmjonfecnhaaDoorOt
import Derived.Test.YtgakmjonfecnhaaDoorSv
import Derived.Test.YtgakmjonfecnhaaDoorPs9
import Derived.Test.YtgakmjonfecnhaaDoorHashLaid
import Derived.WalkKit
namespace Go.Proofs.YtgakmjonfecnhaaDoor.fnExactCheckPiece
open Go.ChangeShapes Go.WideShapes Go.ChangeAt Go.RowKit
open Go.ChangeMaps (open_string shut_string)
open Go.Proofs.YtgakmjonfecnhaaDoor.Hl (own laidOut rowed door_met)

open Go.Proofs.YtgakmjonfecnhaaDoor.Ap Go.Proofs.YtgakmjonfecnhaaDoor.By Go.Proofs.YtgakmjonfecnhaaDoor.Sl Go.Proofs.YtgakmjonfecnhaaDoor.Tx Go.Proofs.YtgakmjonfecnhaaDoor.Mk Go.Proofs.YtgakmjonfecnhaaDoor.Sv
open Go.Proofs.YtgakmjonfecnhaaDoor.Sh (KTab)
open Go.Proofs.YtgakmjonfecnhaaDoor.Py Go.Proofs.YtgakmjonfecnhaaDoor.Pf Go.Proofs.YtgakmjonfecnhaaDoor.Pw
set_option maxRecDepth 100000 in
set_option maxHeartbeats 1600000 in
/-- THE WALK: both functions answer alike; the copy that was handed in is as it was. -/
theorem walk {w : World} (root : ByteArray) (_hr : root.size ≤ maxLen) (piece : ByteArray) (_hpc : piece.size ≤ maxLen) (i : Int) {q1 : Prop} (_h1 : q1) (n : Int) {q2 : Prop} (_h2 : q2) (v : Value) (ts : List ByteArray) (hrow : RowT w v ts) (hl : ts.length ≤ maxLen) (hz : ∀ t ∈ ts, t.size ≤ maxLen) (hK : KTab w) (hp : 0 < w.heap.size) :
    Calls Tryd.prog 7 #[.string root, .string piece, .int .i64 i, .int .i64 n, v] w fun e w' => e = .returned (.bool true) ∧ Below w.heap.size w w' := by
  by_cases hb1 : (1048576 : Int) < (root.size : Int)
  · go_enter Tryd.func7, Tryd.ntmps7
    go_wp2
    go_ret
    exact ⟨rfl, Below.refl _ _⟩
  by_cases hb2 : (1048576 : Int) < (piece.size : Int)
  · go_enter Tryd.func7, Tryd.ntmps7
    go_wp2
    go_ret
    exact ⟨rfl, Below.refl _ _⟩
  have HR : Hid (RowT w v ts) := hrow
  have HSZ : Hid (Calls Tryd.prog 24 #[v, .int .i64 1048576] w fun e w' => e = .returned (.int .i64 (lfT 1048576 ts)) ∧ w = w') := szStringS_any v ts 1048576 w hrow hl hz (by decide) (by decide)
  have HLF := @lfT_neg ts
  have GK : Hid (KTab w ∧ 0 < w.heap.size) := ⟨hK, hp⟩
  obtain ⟨m, HM⟩ : ∃ m, Hid (lfT 1048576 ts = m) := ⟨_, rfl⟩
  rw [HM.out] at HSZ HLF
  clear hl hz hrow hK hp
  by_cases hbig : 1048576 < tot ts
  · have hm : m < 0 := HLF.2 hbig
    clear HLF hbig
    go_enter Tryd.func7, Tryd.ntmps7
    go_wp2_with fail
    refine HSZ.out.mono ?_
    rintro e w1 ⟨rfl, rfl⟩
    go_wp2_with fail
    go_ret
    exact ⟨rfl, Below.refl _ _⟩
  have hm : ¬ m < 0 := fun h => hbig (HLF.1 h)
  obtain ⟨hl, hs⟩ := each_small hbig
  have HT : Hid (∀ _ : Unit, ts.length ≤ 1048576) := fun _ => hl
  have HKT : Hid (∀ W, Below w.heap.size w W → KTab W ∧ 0 < W.heap.size) := fun W hW => ⟨GK.out.1.below hW GK.out.2, Nat.lt_of_lt_of_le GK.out.2 hW.size⟩
  obtain ⟨code, HC⟩ : ∃ code, Hid (ckC root piece i n ts = code) := ⟨_, rfl⟩
  have hcc : (code != code) = false := by simp
  clear hs hl hbig HLF
  go_enter Tryd.func7, Tryd.ntmps7
  go_wp2_with fail
  refine HSZ.out.mono ?_
  rintro e w0 ⟨rfl, rfl⟩
  go_wp2_with fail
  refine (toStringS_any _ ts _ HR.out (HT.out ())).mono ?_
  rintro e w1 ⟨v1, rfl, t1, b1⟩
  go_wp2_with fail
  refine (specCheckPiece_any root piece i n _ ts _ t1.row (HT.out ())).mono ?_
  rintro e w2 ⟨rfl, b2⟩
  rw [HC.out]
  have B2 := andThen b1 (Nat.le_refl _) b2
  clear t1 b1 b2 HSZ
  go_wp2_with fail
  refine (toStringS_any _ ts _ (HR.out.below B2) (HT.out ())).mono ?_
  rintro e w3 ⟨v3, rfl, t3, b3⟩
  have B3 := andThen B2 (Nat.le_refl _) b3
  have T3 : Hid (OwnT w3 w2.heap.size v3 ts) := t3
  clear t3 b3
  go_wp2_with fail
  refine (implCheckPiece_any root piece i n _ ts _ T3.out.row (HT.out ()) (HKT.out _ B3).1 (HKT.out _ B3).2).mono ?_
  rintro e w4 ⟨rfl, b4⟩
  rw [HC.out]
  have B4 := andThen B3 (Nat.le_refl _) b4
  have T4 : Hid (OwnT w4 w2.heap.size v3 ts) := T3.out.below b4
  clear b4 T3 B3
  go_wp2_with fail
  refine (toStringS_any _ ts _ (HR.out.below B4) (HT.out ())).mono ?_
  rintro e w6 ⟨v6, rfl, t6, b6⟩
  have B6 := andThen B4 (Nat.le_refl _) b6
  have T6 : Hid (OwnT w6 w2.heap.size v3 ts) := T4.out.below b6
  clear b6 T4 B4
  go_wp2_with fail
  refine (eqStringS_same _ _ ts _ T6.out.row t6.row (HT.out ())).mono ?_
  rintro e w7 ⟨rfl, b7⟩
  have B7 := andThen B6 (Nat.le_refl _) b7
  clear b7 t6 T6 B6
  go_wp2_with fail
  go_ret
  exact ⟨rfl, B7⟩

set_option maxRecDepth 100000 in
theorem lifted (os : Os) (started : os.Started) (H : Type) (enc : TypeId × Value → H) :
    ReturnsInHanded {} Tryd.checked os 7 .any (fun w args => (Rows.fnExactCheckPieceSpec.pre enc Tryd.prog Tryd.f7 [] false w args ∧ laidMetH Tryd.prog Rows.fnExactCheckPieceRow.laid w) ∧ sizedMet enc Tryd.prog Tryd.f7 (OpenSpec.ofChange Rows.fnExactCheckPieceSpec) false w args)
      (Rows.fnExactCheckPieceSpec.post enc Tryd.prog Tryd.f7 false true false false) := by
  refine returnsInHanded_of_change_and (C := Tryd.checked) (X := fun w _ => laidMetH Tryd.prog Rows.fnExactCheckPieceRow.laid w) (fun _ _ _ hh h => h.of_heap hh) own started (by kernel_rfl) Tryd.func7
    (ChangeSpec.witness_shaped (enc := enc) (C := Tryd.checked) (os := os) (X := fun w _ => laidMetH Tryd.prog Rows.fnExactCheckPieceRow.laid w) false (World.doorLaid Tryd.prog 400 os) #[.string ByteArray.empty, .string ByteArray.empty, .int .i64 0, .int .i64 0, .slice none 0 0] 8 rfl (World.shaped_of_RefB (by kernel_rfl) (by kernel_rfl)) (by kernel_rfl) (by kernel_rfl) (by kernel_rfl) (door_met os _)) ?_
  intro W base args ds gs before hval0 hW _ _ hL _
  have hval : ∀ (j : Nat) t v, Tryd.f7.params[j]? = some t → args[j]? = some v → Value.okWide Tryd.prog W .any base t v := hval0
  have hW' := hW
  obtain ⟨p, q, hA0, hV0, rfl, hfz, hnd⟩ := hW
  have hA : DataW.TrodAll enc Tryd.prog W 0 (fun _ => true) true Tryd.f7.params.toList args.toList ds p := hA0
  have hV : DataW.TrodVars enc Tryd.prog W (fun _ => true) ["loop.example/g00292/impl.roundWords"] gs q := hV0
  rw [Tryd.params7] at hA hval
  obtain ⟨v0, vs0, d0, ds0, p0, q0, hargs, rfl, rfl, h0, r0⟩ := trodAll_cons hA
  obtain ⟨v1, vs1, d1, ds1, p1, q1, rfl, rfl, rfl, h1, r1⟩ := trodAll_cons r0
  obtain ⟨v2, vs2, d2, ds2, p2, q2, rfl, rfl, rfl, h2, r2⟩ := trodAll_cons r1
  obtain ⟨v3, vs3, d3, ds3, p3, q3, rfl, rfl, rfl, h3, r3⟩ := trodAll_cons r2
  obtain ⟨v4, vs4, d4, ds4, p4, q4, rfl, rfl, rfl, h4, r4⟩ := trodAll_cons r3
  obtain ⟨rfl, rfl, rfl⟩ := trodAll_nil r4
  obtain rfl : args = #[v0, v1, v2, v3, v4] := by cases args; simp_all
  obtain ⟨_, _, _, _, dv, _, rfl, _⟩ := trodVars_one hV
  have k00 := h0
  have lt0 : ∀ x ∈ p0, x.block < W.heap.size := by obtain ⟨m, hm⟩ := k00; exact DataW.trod_lt m _ _ _ hm
  obtain ⟨s0, rfl, rfl, rfl, z0⟩ := open_string Tryd.underlying9 (hval 0 9 v0 rfl rfl) h0
  have k10 := h1
  have lt1 : ∀ x ∈ p1, x.block < W.heap.size := by obtain ⟨m, hm⟩ := k10; exact DataW.trod_lt m _ _ _ hm
  obtain ⟨s1, rfl, rfl, rfl, z1⟩ := open_string Tryd.underlying9 (hval 1 9 v1 rfl rfl) h1
  have k20 := h2
  have lt2 : ∀ x ∈ p2, x.block < W.heap.size := by obtain ⟨m, hm⟩ := k20; exact DataW.trod_lt m _ _ _ hm
  obtain ⟨i2, rfl, rfl, rfl, z2⟩ := open_int Tryd.underlying3 (hval 2 3 v2 rfl rfl) h2
  have k30 := h3
  have lt3 : ∀ x ∈ p3, x.block < W.heap.size := by obtain ⟨m, hm⟩ := k30; exact DataW.trod_lt m _ _ _ hm
  obtain ⟨i3, rfl, rfl, rfl, z3⟩ := open_int Tryd.underlying3 (hval 3 3 v3 rfl rfl) h3
  have k40 := h4
  have lt4 : ∀ x ∈ p4, x.block < W.heap.size := by obtain ⟨m, hm⟩ := k40; exact DataW.trod_lt m _ _ _ hm
  obtain ⟨ts4, w4, tl4, tz4⟩ := Op.open_strs (hval 4 27 v4 rfl rfl) h4 (fun _ => rfl)
  clear hA0 hval0 hV0
  have hT := Hl.tab_of hL
  refine (walk s0 z0 s1 z1 i2 z2 i3 z3 v4 ts4 w4 tl4 tz4 hT.1 hT.2).mono fun e W' ⟨he, bel⟩ => ?_
  subst he
  exact ⟨_, rfl, _, _, _, [], _, q, hW', trodAll_mk1 (shut_bool Tryd.underlying4 _), (trodAll_cons_mk (Below.trod laidOut (by kernel_rfl) (of_decide_eq_true (by kernel_rfl)) k00 bel lt0) (trodAll_cons_mk (Below.trod laidOut (by kernel_rfl) (of_decide_eq_true (by kernel_rfl)) k10 bel lt1) (trodAll_cons_mk (Below.trod laidOut (by kernel_rfl) (of_decide_eq_true (by kernel_rfl)) k20 bel lt2) (trodAll_cons_mk (Below.trod laidOut (by kernel_rfl) (of_decide_eq_true (by kernel_rfl)) k30 bel lt3) (trodAll_cons_mk (Below.trod laidOut (by kernel_rfl) (of_decide_eq_true (by kernel_rfl)) k40 bel lt4) trodAll_mk0))))), Below.trodVars laidOut bel rowed hV, bel.frame _, fun h => by cases h⟩

theorem said : Rows.FnExactCheckPieceSaid :=
  OpenClaim.holds_of_wide 7 Tryd.f7 rfl rfl rfl rfl rfl rfl rfl ⟨rfl, rfl, rfl, rfl, rfl⟩ rfl rfl rfl rfl rfl (by kernel_rfl) Tryd.func7 (by kernel_rfl)
    (of_decide_eq_true (by kernel_rfl)) (by unfold Func.isWrapper; first | (rw [if_pos (by decide +kernel)]; kernel_rfl) | (rw [if_neg (by decide +kernel)]; exact ⟨rfl, rfl⟩))
    (fun os started H enc _ => lifted os started H enc)

/-- No parameter wants a stand-in; the program's own looks are off. -/
theorem plain (f : FuncId) (fn : Func) (hf : Tryd.pinned.checked.prog.funcNamed "loop.example/g00292/laws.FnExactCheckPiece" = some f) (hfn : Tryd.pinned.checked.prog.funcs[f]? = some fn) :
    false = Tryd.pinned.checked.prog.looks [] ∧ ∀ (j : Nat) t, fn.params[j]? = some t → Tryd.pinned.checked.prog.wantsStandIn t = false := by
  obtain rfl : f = 7 := Option.some.inj ((show Tryd.prog.funcNamed "loop.example/g00292/laws.FnExactCheckPiece" = some 7 by kernel_rfl).symm.trans hf) |>.symm
  obtain rfl : fn = Tryd.f7 := (Option.some.inj (Tryd.func7.symm.trans hfn)).symm
  refine ⟨by kernel_rfl, fun j t ht => ?_⟩
  rw [Tryd.params7] at ht
  have hm := Array.mem_of_getElem? ht
  have hl : t ∈ [9, 9, 3, 3, 27] := by simpa using hm
  have hall : ∀ x ∈ [9, 9, 3, 3, 27], Tryd.prog.wantsStandIn x = false := by
    intro x hx
    simp only [List.mem_cons, List.not_mem_nil, or_false] at hx
    rcases hx with rfl | rfl | rfl | rfl | rfl <;> kernel_rfl
  exact hall t hl
end Go.Proofs.YtgakmjonfecnhaaDoor.fnExactCheckPiece
namespace Go.Proofs.YtgakmjonfecnhaaDoor
/-- THE STATEMENT: the card. -/
theorem fnExactCheckPiece_holds : Rows.FnExactCheckPieceCardSaid :=
  Claim7.holds_tied_plain_at .later [] _ _ _ _ fnExactCheckPiece.said (fun _ h => by cases h) (by kernel_rfl) (fun _ h => by cases h) fnExactCheckPiece_row_tie rfl ⟨rfl, rfl⟩ (by kernel_rfl) rfl fnExactCheckPiece.plain (by kernel_rfl)
end Go.Proofs.YtgakmjonfecnhaaDoor
