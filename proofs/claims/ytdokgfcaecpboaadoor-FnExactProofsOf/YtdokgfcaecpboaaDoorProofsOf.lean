/-
  impl.ProofsOf answers at every list of texts just what the specification's ProofsOf answers; it writes into no argument, and its answer owns its memory.
  Conditions: none beyond the given row's own; the package variable that it reads starts as the program's text lays it (the card ties it).
-/
import Derived.Test.YtdokgfcaecpboaaDoorOt
import Derived.Test.YtdokgfcaecpboaaDoorSv
import Derived.Test.YtdokgfcaecpboaaDoorXf
import Derived.Test.YtdokgfcaecpboaaDoorHashLaid
import Derived.WalkKit
namespace Go.Proofs.YtdokgfcaecpboaaDoor.fnExactProofsOf
open Go.ChangeShapes Go.WideShapes Go.ChangeAt Go.RowKit
open Go.ChangeMaps (open_string shut_string)
open Go.Proofs.YtdokgfcaecpboaaDoor.Hl (own laidOut rowed door_met)

open Go.Proofs.YtdokgfcaecpboaaDoor.Ap Go.Proofs.YtdokgfcaecpboaaDoor.By Go.Proofs.YtdokgfcaecpboaaDoor.Sl Go.Proofs.YtdokgfcaecpboaaDoor.Tx Go.Proofs.YtdokgfcaecpboaaDoor.Mk Go.Proofs.YtdokgfcaecpboaaDoor.Sv
open Go.Proofs.YtdokgfcaecpboaaDoor.Sh (KTab)
open Go.Proofs.YtdokgfcaecpboaaDoor.Py Go.Proofs.YtdokgfcaecpboaaDoor.Pf
set_option maxRecDepth 100000 in
set_option maxHeartbeats 3200000 in
/-- THE WALK: both functions answer alike; the copy that was handed in is as it was, the answer owns its memory, behind another call too. -/
theorem walk {w : World} (v : Value) (ts : List ByteArray) (hrow : RowT w v ts) (hl : ts.length ≤ maxLen) (hz : ∀ t ∈ ts, t.size ≤ maxLen) (hK : KTab w) (hp : 1 < w.heap.size) :
    Calls Tryd.prog 5 #[v] w fun e w' => e = .returned (.bool true) ∧ Below w.heap.size w w' := by
  have HR : Hid (RowT w v ts) := hrow
  have HSZ : Hid (Calls Tryd.prog 13 #[v, .int .i64 1048576] w fun e w' => e = .returned (.int .i64 (lfT 1048576 ts)) ∧ w = w') := szStringS_any v ts 1048576 w hrow hl hz (by decide) (by decide)
  have HLF := @lfT_neg ts
  have GK : Hid (KTab w ∧ 1 < w.heap.size) := ⟨hK, hp⟩
  obtain ⟨m, HM⟩ : ∃ m, Hid (lfT 1048576 ts = m) := ⟨_, rfl⟩
  rw [HM.out] at HSZ HLF
  clear hl hz hrow hK hp
  by_cases hbig : 1048576 < tot ts
  · have hm : m < 0 := HLF.2 hbig
    clear HLF hbig
    go_enter Tryd.func5, Tryd.ntmps5
    go_wp2_with fail
    refine HSZ.out.mono ?_
    rintro e w1 ⟨rfl, rfl⟩
    go_wp2_with fail
    go_ret
    exact ⟨rfl, Below.refl _ _⟩
  have hm : ¬ m < 0 := fun h => hbig (HLF.1 h)
  obtain ⟨hl, hs⟩ := each_small hbig
  have HT : Hid (∀ _ : Unit, ts.length ≤ 1048576) := fun _ => hl
  have HKT : Hid (∀ W, Below w.heap.size w W → KTab W ∧ 1 < W.heap.size) := fun W hW => ⟨GK.out.1.below hW GK.out.2, Nat.lt_of_lt_of_le GK.out.2 hW.size⟩
  have GZ0 := poL_small ts
  obtain ⟨xs, HX⟩ : ∃ xs, Hid (poL ts = xs) := ⟨_, rfl⟩
  obtain ⟨code, HC⟩ : ∃ code, Hid (pcC ts = code) := ⟨_, rfl⟩
  rw [HX.out] at GZ0
  have GZ : Hid (∀ _ : Unit, xs.length ≤ 64) := fun _ => GZ0
  have hcc : (code != code) = false := by simp
  have hml : ¬ ((1 : Int) + (xs.length : Int) < 0) := by omega
  have hmt : ¬ ((1 : Int) + (ts.length : Int) < 0) := by omega
  have hmm : (((1 : Int) + (xs.length : Int)) != (1 : Int) + (xs.length : Int)) = false := by simp
  have HNAT : Hid (((1 + xs.length : Nat) : Int) = (1 : Int) + (xs.length : Int)) := by show _ = _; omega
  clear hs hl hbig HLF GZ0
  go_enter Tryd.func5, Tryd.ntmps5
  go_wp2_with fail
  refine HSZ.out.mono ?_
  rintro e w0 ⟨rfl, rfl⟩
  go_wp2_with fail
  refine (toStringS_any _ ts _ HR.out (HT.out ())).mono ?_
  rintro e w1 ⟨v1, rfl, t1, b1⟩
  go_wp2_with fail
  refine (specProofsOf_any _ ts _ t1.row (HT.out ())).mono ?_
  rintro e w2 ⟨v2, rfl, o2, b2⟩
  rw [HX.out] at o2
  rw [HC.out]
  have B2 := andThen b1 (Nat.le_refl _) b2
  have R2 : Hid (RowT w2 v2 xs) := o2.row
  clear t1 b1 b2 o2 HSZ
  go_wp2_with fail
  refine (toStringS_any _ ts _ (HR.out.below B2) (HT.out ())).mono ?_
  rintro e w3 ⟨v3, rfl, t3, b3⟩
  have B3 := andThen B2 (Nat.le_refl _) b3
  have T3 : Hid (OwnT w3 w2.heap.size v3 ts) := t3
  have N3 : Hid (Below w2.heap.size w2 w3) := b3
  clear t3 b3
  go_wp2_with fail
  refine (implProofsOf_any _ ts _ T3.out.row (HT.out ()) (HKT.out _ B3).1 (HKT.out _ B3).2).mono ?_
  rintro e w4 ⟨v4, rfl, o4, b4⟩
  rw [HX.out] at o4
  rw [HC.out]
  have B4 := andThen B3 (Nat.le_refl _) b4
  have T4 : Hid (OwnT w4 w2.heap.size v3 ts) := T3.out.below b4
  have N4 : Hid (Below w2.heap.size w2 w4) := andThen N3.out (Nat.le_refl _) b4
  have O4 : Hid (OwnS w4 w3.heap.size v4 xs) := o4
  have L3 : Hid (∀ g, v3.ownBlock = some g → g < w3.heap.size) := fun g hg => (OwnT.lt T3.out g hg).2
  have S34 : Hid (w3.heap.size ≤ w4.heap.size) := b4.size
  have M3 : Hid (w.heap.size ≤ w3.heap.size ∧ w2.heap.size ≤ w3.heap.size) := ⟨B3.size, N3.out.size⟩
  clear b4 o4 T3 N3 B3
  go_wp2_with fail
  refine (eqStringS_same _ _ xs _ O4.out.row (R2.out.below N4.out) (by have := GZ.out (); omega)).mono ?_
  rintro e w5 ⟨rfl, b5⟩
  have B5 := andThen B4 (Nat.le_refl _) b5
  have T5 : Hid (OwnT w5 w2.heap.size v3 ts) := T4.out.below b5
  have N5 : Hid (Below w2.heap.size w2 w5) := andThen N4.out (Nat.le_refl _) b5
  have O5 : Hid (OwnS w5 w3.heap.size v4 xs) := OwnS.below O4.out b5
  have S35 : Hid (w3.heap.size ≤ w5.heap.size) := Nat.le_trans S34.out b5.size
  clear b5 T4 N4 O4 B4 S34
  go_wp2_with fail
  refine (toStringS_any _ ts _ (HR.out.below B5) (HT.out ())).mono ?_
  rintro e w6 ⟨v6, rfl, t6, b6⟩
  have B6 := andThen B5 (Nat.le_refl _) b6
  have T6 : Hid (OwnT w6 w2.heap.size v3 ts) := T5.out.below b6
  have N6 : Hid (Below w2.heap.size w2 w6) := andThen N5.out (Nat.le_refl _) b6
  have O6 : Hid (OwnS w6 w3.heap.size v4 xs) := OwnS.below O5.out b6
  have S36 : Hid (w3.heap.size ≤ w6.heap.size) := Nat.le_trans S35.out b6.size
  clear b6 T5 N5 O5 S35 B5
  go_wp2_with fail
  refine (eqStringS_same _ _ ts _ T6.out.row t6.row (HT.out ())).mono ?_
  rintro e w7 ⟨rfl, b7⟩
  have B7 := andThen B6 (Nat.le_refl _) b7
  have T7 : Hid (OwnT w7 w2.heap.size v3 ts) := T6.out.below b7
  have N7 : Hid (Below w2.heap.size w2 w7) := andThen N6.out (Nat.le_refl _) b7
  have O7 : Hid (OwnS w7 w3.heap.size v4 xs) := OwnS.below O6.out b7
  have S37 : Hid (w3.heap.size ≤ w7.heap.size) := Nat.le_trans S36.out b7.size
  clear b7 t6 T6 N6 O6 B6 S36
  go_wp2_with fail
  refine (markT_any _ ts 1 w2.heap.size _ T7.out (by decide) (by decide) (by have := HT.out (); omega)).mono ?_
  rintro e w8 ⟨rfl, k8⟩
  have b8 := kp_below (fun g hg => (OwnT.lt T7.out g hg).1) k8 N7.out.size
  have N8 : Hid (Below w2.heap.size w2 w8) := N7.out.trans b8
  have B8 : Below w.heap.size w w8 := B7.trans (b8.mono B2.size)
  have O8 : Hid (OwnS w8 w3.heap.size v4 xs) := ownS_kp O7.out k8 L3.out
  have S38 : Hid (w3.heap.size ≤ w8.heap.size) := Nat.le_trans S37.out k8.size
  clear k8 b8 T7 N7 O7 S37 B7 L3
  go_wp2_with fail
  refine (eqStringS_same _ _ xs _ O8.out.row (R2.out.below N8.out) (by have := GZ.out (); omega)).mono ?_
  rintro e w9 ⟨rfl, b9⟩
  have B9 := andThen B8 (Nat.le_refl _) b9
  have N9 : Hid (Below w2.heap.size w2 w9) := andThen N8.out (Nat.le_refl _) b9
  have O9 : Hid (OwnS w9 w3.heap.size v4 xs) := OwnS.below O8.out b9
  have S39 : Hid (w3.heap.size ≤ w9.heap.size) := Nat.le_trans S38.out b9.size
  clear b9 B8 N8 O8 S38
  have HMK : Hid (Calls Tryd.prog 18 #[v4, .int .i64 1] w9 fun e w' => e = .returned (.int .i64 ((1 : Int) + (xs.length : Int))) ∧ RowT w' v4 (tmarks 1 xs.length) ∧ Below w3.heap.size w9 w') := by
    refine (markOwn_any v4 xs 1 w3.heap.size xs.length w9 O9.out rfl (by decide) (by decide) (by have := GZ.out (); omega)).mono ?_
    rintro e w' ⟨rfl, h1, h2⟩
    exact ⟨by rw [HNAT.out], h1, kp_below (fun g hg => (World.ownsRow.lt O9.out g hg).1) h2 S39.out⟩
  go_wp2_with fail
  refine HMK.out.mono ?_
  rintro e w10 ⟨rfl, t10, b10⟩
  have B10 : Below w.heap.size w w10 := B9.trans (b10.mono M3.out.1)
  have r10 : Hid (RowT w10 v4 (tmarks 1 xs.length)) := t10
  have N10 : Hid (Below w2.heap.size w2 w10) := N9.out.trans (b10.mono M3.out.2)
  clear b10 t10 O9 N9 B9 S39 HMK
  go_wp2_with fail
  refine (heldStringS_any _ xs.length 1 _ r10.out (by decide) (by decide) (by have := GZ.out (); omega)).mono ?_
  rintro e w11 ⟨rfl, b11⟩
  have B11 := andThen B10 (Nat.le_refl _) b11
  have r11 : Hid (RowT w11 v4 (tmarks 1 xs.length)) := r10.out.below b11
  have N11 : Hid (Below w2.heap.size w2 w11) := andThen N10.out (Nat.le_refl _) b11
  clear b11 r10 N10 B10
  go_wp2_with fail
  refine (toStringS_any _ ts _ (HR.out.below B11) (HT.out ())).mono ?_
  rintro e w12 ⟨v12, rfl, t12, b12⟩
  have B12 := andThen B11 (Nat.le_refl _) b12
  go_wp2_with fail
  refine (implProofsOf_any _ ts _ t12.row (HT.out ()) (HKT.out _ B12).1 (HKT.out _ B12).2).mono ?_
  rintro e w13 ⟨v13, rfl, o13, b13⟩
  rw [HX.out] at o13
  rw [HC.out]
  have b1113 := andThen b12 (Nat.le_refl _) b13
  have B13 := andThen B11 (Nat.le_refl _) b1113
  have r13 : Hid (RowT w13 v4 (tmarks 1 xs.length)) := r11.out.below b1113
  have R13 : Hid (RowT w13 v2 xs) := R2.out.below (andThen N11.out (Nat.le_refl _) b1113)
  have P13 : Hid (RowT w13 v13 xs) := o13.row
  clear b12 b13 b1113 t12 o13 r11 N11 B11 B12
  go_wp2_with fail
  refine (eqStringS_same _ _ xs _ P13.out R13.out (by have := GZ.out (); omega)).mono ?_
  rintro e w14 ⟨rfl, b14⟩
  have B14 := andThen B13 (Nat.le_refl _) b14
  have r14 : Hid (RowT w14 v4 (tmarks 1 xs.length)) := r13.out.below b14
  clear b14 r13 R13 P13 B13
  go_wp2_with fail
  refine (heldStringS_any _ xs.length 1 _ r14.out (by decide) (by decide) (by have := GZ.out (); omega)).mono ?_
  rintro e w15 ⟨rfl, b15⟩
  have B15 := andThen B14 (Nat.le_refl _) b15
  clear b15 B14 r14
  go_wp2_with fail
  go_ret
  exact ⟨rfl, B15⟩

set_option maxRecDepth 100000 in
theorem lifted (os : Os) (started : os.Started) (H : Type) (enc : TypeId × Value → H) :
    ReturnsInHanded {} Tryd.checked os 5 .any (fun w args => (Rows.fnExactProofsOfSpec.pre enc Tryd.prog Tryd.f5 [] false w args ∧ laidMetH Tryd.prog Rows.fnExactProofsOfRow.laid w) ∧ sizedMet enc Tryd.prog Tryd.f5 (OpenSpec.ofChange Rows.fnExactProofsOfSpec) false w args)
      (Rows.fnExactProofsOfSpec.post enc Tryd.prog Tryd.f5 false true false false) := by
  refine returnsInHanded_of_change_and (C := Tryd.checked) (X := fun w _ => laidMetH Tryd.prog Rows.fnExactProofsOfRow.laid w) (fun _ _ _ hh h => h.of_heap hh) own started (by kernel_rfl) Tryd.func5
    (ChangeSpec.witness_shaped (enc := enc) (C := Tryd.checked) (os := os) (X := fun w _ => laidMetH Tryd.prog Rows.fnExactProofsOfRow.laid w) false (World.doorLaid Tryd.prog 400 os) #[.slice none 0 0] 8 rfl (World.shaped_of_RefB (by kernel_rfl) (by kernel_rfl)) (by kernel_rfl) (by kernel_rfl) (by kernel_rfl) (door_met os _)) ?_
  intro W base args ds gs before hval0 hW _ _ hL _
  have hval : ∀ (j : Nat) t v, Tryd.f5.params[j]? = some t → args[j]? = some v → Value.okWide Tryd.prog W .any base t v := hval0
  have hW' := hW
  obtain ⟨p, q, hA0, hV0, rfl, hfz, hnd⟩ := hW
  have hA : DataW.TrodAll enc Tryd.prog W 0 (fun _ => true) true Tryd.f5.params.toList args.toList ds p := hA0
  have hV : DataW.TrodVars enc Tryd.prog W (fun _ => true) ["loop.example/g00292/impl.roundWords"] gs q := hV0
  rw [Tryd.params5] at hA hval
  obtain ⟨v0, vs0, d0, ds0, p0, q0, hargs, rfl, rfl, h0, r0⟩ := trodAll_cons hA
  obtain ⟨rfl, rfl, rfl⟩ := trodAll_nil r0
  obtain rfl : args = #[v0] := by cases args; simp_all
  obtain ⟨_, _, _, _, dv, _, rfl, _⟩ := trodVars_one hV
  have k00 := h0
  have lt0 : ∀ x ∈ p0, x.block < W.heap.size := by obtain ⟨m, hm⟩ := k00; exact DataW.trod_lt m _ _ _ hm
  obtain ⟨ts0, w0, tl0, tz0⟩ := Op.open_strs (hval 0 36 v0 rfl rfl) h0 (fun _ => rfl)
  clear hA0 hval0 hV0
  have hT := Hl.tab_of hL
  refine (walk v0 ts0 w0 tl0 tz0 hT.1 hT.2).mono fun e W' ⟨he, bel⟩ => ?_
  subst he
  exact ⟨_, rfl, _, _, _, [], _, q, hW', trodAll_mk1 (shut_bool Tryd.underlying4 _), (trodAll_cons_mk (Below.trod laidOut (by kernel_rfl) (of_decide_eq_true (by kernel_rfl)) k00 bel lt0) trodAll_mk0), Below.trodVars laidOut bel rowed hV, bel.frame _, fun h => by cases h⟩

theorem said : Rows.FnExactProofsOfSaid :=
  OpenClaim.holds_of_wide 5 Tryd.f5 rfl rfl rfl rfl rfl rfl rfl ⟨rfl, rfl, rfl, rfl, rfl⟩ rfl rfl rfl rfl rfl (by kernel_rfl) Tryd.func5 (by kernel_rfl)
    (of_decide_eq_true (by kernel_rfl)) (by unfold Func.isWrapper; first | (rw [if_pos (by decide +kernel)]; kernel_rfl) | (rw [if_neg (by decide +kernel)]; exact ⟨rfl, rfl⟩))
    (fun os started H enc _ => lifted os started H enc)

/-- No parameter wants a stand-in; the program's own looks are off. -/
theorem plain (f : FuncId) (fn : Func) (hf : Tryd.pinned.checked.prog.funcNamed "loop.example/g00292/laws.FnExactProofsOf" = some f) (hfn : Tryd.pinned.checked.prog.funcs[f]? = some fn) :
    false = Tryd.pinned.checked.prog.looks [] ∧ ∀ (j : Nat) t, fn.params[j]? = some t → Tryd.pinned.checked.prog.wantsStandIn t = false := by
  obtain rfl : f = 5 := Option.some.inj ((show Tryd.prog.funcNamed "loop.example/g00292/laws.FnExactProofsOf" = some 5 by kernel_rfl).symm.trans hf) |>.symm
  obtain rfl : fn = Tryd.f5 := (Option.some.inj (Tryd.func5.symm.trans hfn)).symm
  refine ⟨by kernel_rfl, fun j t ht => ?_⟩
  rw [Tryd.params5] at ht
  have hm := Array.mem_of_getElem? ht
  have hl : t ∈ [36] := by simpa using hm
  have hall : ∀ x ∈ [36], Tryd.prog.wantsStandIn x = false := by
    intro x hx
    simp only [List.mem_cons, List.not_mem_nil, or_false] at hx
    rcases hx with rfl <;> kernel_rfl
  exact hall t hl
end Go.Proofs.YtdokgfcaecpboaaDoor.fnExactProofsOf
namespace Go.Proofs.YtdokgfcaecpboaaDoor
/-- THE STATEMENT: the card. -/
theorem fnExactProofsOf_holds : Rows.FnExactProofsOfCardSaid :=
  Claim7.holds_tied_plain_at .later [] _ _ _ _ fnExactProofsOf.said (fun _ h => by cases h) (by kernel_rfl) (fun _ h => by cases h) fnExactProofsOf_row_tie rfl ⟨rfl, rfl⟩ (by kernel_rfl) rfl fnExactProofsOf.plain (by kernel_rfl)
end Go.Proofs.YtdokgfcaecpboaaDoor
