/-
  impl.Hash answers at every []byte just what the specification's Hash answers, and writes nothing into it.
  Conditions: none beyond the given row's own; the package variable that it reads starts as the program's text lays it (the card ties it).
-/
import Derived.Test.YtcbhaafemepdhaaDoorShaF
import Derived.Test.YtcbhaafemepdhaaDoorHashLaid
import Derived.Test.YtcbhaafemepdhaaDoorSlRow
namespace Go.Proofs.YtcbhaafemepdhaaDoor.fnExactHash
open Go.ChangeShapes Go.WideShapes Go.ChangeAt Go.RowKit
open Go.ChangeMaps (open_string shut_string)
open Go.Proofs.YtcbhaafemepdhaaDoor.Hl (own laidOut rowed door_met)

open Go.Proofs.YtcbhaafemepdhaaDoor.Sl Go.Proofs.YtcbhaafemepdhaaDoor.Sh

set_option maxRecDepth 100000 in
set_option maxHeartbeats 400000 in
/-- THE WALK: both functions answer the SHA-256 of the bytes; the copy that was handed in is as it was; nothing that was there is written. -/
theorem walk (a0 : Option Addr) (len0 cap0 : Nat) (z0 : List Int) (w : World) (w0 : IsRow .u8 w a0 len0 cap0 z0) (hK : KTab w) (hp : 1 < w.heap.size) :
    Calls Tryd.prog 6 #[.slice a0 len0 cap0] w fun e w' => e = .returned (.bool true) ∧ Below w.heap.size w w' := by
  obtain ⟨xs, hlen, hrow⟩ := rowB_of w0
  have HR : Hid (RowB w (.slice a0 len0 cap0) xs) := hrow
  have GK : Hid (KTab w) := hK
  clear hrow w0 hK
  by_cases hbig : (1048576 : Int) < (len0 : Int)
  · go_enter Tryd.func6, Tryd.ntmps6
    go_wp2
    go_ret
    exact ⟨rfl, Below.refl _ _⟩
  · have hl : xs.length ≤ 1048576 := by omega
    clear hlen
    go_enter Tryd.func6, Tryd.ntmps6
    go_wp2_with fail
    refine (toByteS_any _ xs _ HR.out hl).mono ?_
    rintro e w1 ⟨v1, rfl, r1, b1⟩
    go_wp2_with fail
    refine (specHash_any _ xs _ r1).mono ?_
    rintro e w1' ⟨rfl, b1'⟩
    have b11 := b1.trans (b1'.mono b1.size)
    clear r1 b1 b1'
    go_wp2_with fail
    refine (toByteS_any _ xs _ (HR.out.below b11) hl).mono ?_
    rintro e w2 ⟨v2, rfl, r2, b2⟩
    have b12 := b11.trans (b2.mono b11.size)
    have R2 : Hid (RowB w2 v2 xs) := r2
    clear r2 b2 b11
    go_wp2_with fail
    refine (implHash_any _ xs _ R2.out (GK.out.below b12 hp) (Nat.lt_of_lt_of_le hp b12.size)).mono ?_
    rintro e w3 ⟨rfl, b3⟩
    have b13 := b12.trans (b3.mono b12.size)
    have R3 : Hid (RowB w3 v2 xs) := R2.out.below b3
    clear b3 b12 R2
    generalize hashS xs = s
    go_wp2_with fail
    refine (toByteS_any _ xs _ (HR.out.below b13) hl).mono ?_
    rintro e w4 ⟨v4, rfl, r4, b4⟩
    have b14 := b13.trans (b4.mono b13.size)
    go_wp2_with fail
    refine (eqByteS_same _ _ xs _ (R3.out.below b4) r4 hl).mono ?_
    rintro e w5 ⟨rfl, b5⟩
    have b15 := b14.trans (b5.mono b14.size)
    clear r4 b4 b5 b13 b14
    go_wp2_with fail
    go_ret
    exact ⟨rfl, b15⟩

set_option maxRecDepth 100000 in
theorem lifted (os : Os) (started : os.Started) (H : Type) (enc : TypeId × Value → H) :
    ReturnsInHanded {} Tryd.checked os 6 .any (fun w args => (Rows.fnExactHashSpec.pre enc Tryd.prog Tryd.f6 [] false w args ∧ laidMetH Tryd.prog Rows.fnExactHashRow.laid w) ∧ sizedMet enc Tryd.prog Tryd.f6 (OpenSpec.ofChange Rows.fnExactHashSpec) false w args)
      (Rows.fnExactHashSpec.post enc Tryd.prog Tryd.f6 false true false false) := by
  refine returnsInHanded_of_change_and (C := Tryd.checked) (X := fun w _ => laidMetH Tryd.prog Rows.fnExactHashRow.laid w) (fun _ _ _ hh h => h.of_heap hh) own started (by kernel_rfl) Tryd.func6
    (ChangeSpec.witness_shaped (enc := enc) (C := Tryd.checked) (os := os) (X := fun w _ => laidMetH Tryd.prog Rows.fnExactHashRow.laid w) false (World.doorLaid Tryd.prog 400 os) #[.slice none 0 0] 8 rfl (World.shaped_of_RefB (by kernel_rfl) (by kernel_rfl)) (by kernel_rfl) (by kernel_rfl) (by kernel_rfl) (door_met os _)) ?_
  intro W base args ds gs before hval0 hW _ _ hL _
  have hval : ∀ (j : Nat) t v, Tryd.f6.params[j]? = some t → args[j]? = some v → Value.okWide Tryd.prog W .any base t v := hval0
  have hW' := hW
  obtain ⟨p, q, hA0, hV0, rfl, hfz, hnd⟩ := hW
  have hA : DataW.TrodAll enc Tryd.prog W 0 (fun _ => true) true Tryd.f6.params.toList args.toList ds p := hA0
  have hV : DataW.TrodVars enc Tryd.prog W (fun _ => true) ["loop.example/g00292/impl.roundWords"] gs q := hV0
  rw [Tryd.params6] at hA hval
  obtain ⟨v0, vs0, d0, ds0, p0, q0, hargs, rfl, rfl, h0, r0⟩ := trodAll_cons hA
  obtain ⟨rfl, rfl, rfl⟩ := trodAll_nil r0
  obtain rfl : args = #[v0] := by cases args; simp_all
  obtain ⟨_, _, _, _, dv, _, rfl, _⟩ := trodVars_one hV
  obtain ⟨a0, len0, cap0, rfl⟩ := okWide_slice Tryd.underlying22 (hval 0 22 v0 rfl rfl)
  have k0 := h0
  have lt0 : ∀ x ∈ p0, x.block < W.heap.size := by obtain ⟨m, hm⟩ := k0; exact DataW.trod_lt m _ _ _ hm
  obtain ⟨z0, w0⟩ : ∃ zs, Sl.IsRow .u8 W a0 len0 cap0 zs := by
    obtain ⟨fuel, hf⟩ := h0
    rcases open_ints Tryd.underlying22 Tryd.underlying5 (by kernel_rfl) hf with ⟨hcs, _⟩ | ⟨x, l, c, zs, hcs, _, hl, hm, hz, _, hcell, hwz⟩
    · simp [Value.cells] at hcs
      obtain ⟨rfl, rfl, rfl⟩ := hcs
      exact ⟨[], .inl ⟨rfl, rfl, rfl, rfl⟩⟩
    · simp [Value.cells] at hcs
      obtain ⟨rfl, rfl, rfl⟩ := hcs
      exact ⟨zs, .inr ⟨_, rfl, hl, hm, by simpa using hz, hcell, hwz⟩⟩
  clear hA0 hval0 hV0
  have hT := Hl.tab_of hL
  refine (walk a0 len0 cap0 z0 W w0 hT.1 hT.2).mono fun e W' ⟨he, bel⟩ => ?_
  subst he
  exact ⟨_, rfl, _, _, _, [], _, q, hW', trodAll_mk1 (shut_bool Tryd.underlying4 _), trodAll_cons_mk (Below.trod laidOut (by kernel_rfl) (of_decide_eq_true (by kernel_rfl)) k0 bel lt0) trodAll_mk0, Below.trodVars laidOut bel rowed hV, bel.frame _, fun h => by cases h⟩

theorem said : Rows.FnExactHashSaid :=
  OpenClaim.holds_of_wide 6 Tryd.f6 rfl rfl rfl rfl rfl rfl rfl ⟨rfl, rfl, rfl, rfl, rfl⟩ rfl rfl rfl rfl rfl (by kernel_rfl) Tryd.func6 (by kernel_rfl)
    (of_decide_eq_true (by kernel_rfl)) (by unfold Func.isWrapper; first | (rw [if_pos (by decide +kernel)]; kernel_rfl) | (rw [if_neg (by decide +kernel)]; exact ⟨rfl, rfl⟩))
    (fun os started H enc _ => lifted os started H enc)

/-- No parameter wants a stand-in; the program's own looks are off. -/
theorem plain (f : FuncId) (fn : Func) (hf : Tryd.pinned.checked.prog.funcNamed "loop.example/g00292/laws.FnExactHash" = some f) (hfn : Tryd.pinned.checked.prog.funcs[f]? = some fn) :
    false = Tryd.pinned.checked.prog.looks [] ∧ ∀ (j : Nat) t, fn.params[j]? = some t → Tryd.pinned.checked.prog.wantsStandIn t = false := by
  obtain rfl : f = 6 := Option.some.inj ((show Tryd.prog.funcNamed "loop.example/g00292/laws.FnExactHash" = some 6 by kernel_rfl).symm.trans hf) |>.symm
  obtain rfl : fn = Tryd.f6 := (Option.some.inj (Tryd.func6.symm.trans hfn)).symm
  refine ⟨by kernel_rfl, fun j t ht => ?_⟩
  rw [Tryd.params6] at ht
  obtain rfl : t = 22 := by simpa using Array.mem_of_getElem? ht
  exact (show Tryd.prog.wantsStandIn 22 = false by kernel_rfl)
end Go.Proofs.YtcbhaafemepdhaaDoor.fnExactHash
namespace Go.Proofs.YtcbhaafemepdhaaDoor
/-- THE STATEMENT: the card. -/
theorem fnExactHash_holds : Rows.FnExactHashCardSaid :=
  Claim7.holds_tied_plain_at .later [] _ _ _ _ fnExactHash.said (fun _ h => by cases h) (by kernel_rfl) (fun _ h => by cases h) fnExactHash_row_tie rfl ⟨rfl, rfl⟩ (by kernel_rfl) rfl fnExactHash.plain (by kernel_rfl)
end Go.Proofs.YtcbhaafemepdhaaDoor
