/-
  A hash is written as 64 digits and read back, its bits make it up again, and the Check32 functions of the program and of the specification agree, at every []byte.
  Conditions: none beyond the given row's own; the package variable that it reads starts as the program's text lays it (the card ties it).
-/
import Derived.Test.YtjggfholjdplbabDoorShaF
import Derived.Test.YtjggfholjdplbabDoorHashLaid
import Derived.Test.YtjggfholjdplbabDoorSlRow
import Derived.Test.YtjggfholjdplbabDoorFh
import Derived.Test.YtjggfholjdplbabDoorCrc
namespace Go.Proofs.YtjggfholjdplbabDoor.fnHash
open Go.ChangeShapes Go.WideShapes Go.ChangeAt Go.RowKit
open Go.ChangeMaps (open_string shut_string)
open Go.Proofs.YtjggfholjdplbabDoor.Hl (own laidOut rowed door_met)

open Go.Proofs.YtjggfholjdplbabDoor.Sl Go.Proofs.YtjggfholjdplbabDoor.Sh Go.Proofs.YtjggfholjdplbabDoor.Fh

theorem empty_hash (xs : List Int) (h : 65536 < xs.length) : hashS xs = ⟨#[]⟩ := if_pos h
set_option maxRecDepth 100000 in
set_option maxHeartbeats 1600000 in
/-- THE WALK: a hash is written and read back, and its bits make it up again; nothing that was there is written. -/
theorem walk (a0 : Option Addr) (len0 cap0 : Nat) (z0 : List Int) (w : World) (w0 : IsRow .u8 w a0 len0 cap0 z0) (hK : KTab w) (hp : 0 < w.heap.size) :
    Calls Tryd.prog 3 #[.slice a0 len0 cap0] w fun e w' => e = .returned (.bool true) ∧ Below w.heap.size w w' := by
  obtain ⟨xs, hlen, hrow⟩ := rowB_of w0
  have HR : Hid (RowB w (.slice a0 len0 cap0) xs) := hrow
  have GK : Hid (KTab w) := hK
  clear hrow w0 hK
  by_cases hbig : (1048576 : Int) < (len0 : Int)
  · go_enter Tryd.func3, Tryd.ntmps3
    go_wp2
    go_ret
    exact ⟨rfl, Below.refl _ _⟩
  by_cases hmid : (65536 : Int) < (len0 : Int)
  · have HE := empty_hash xs (by omega)
    go_enter Tryd.func3, Tryd.ntmps3
    go_wp2_with fail
    refine (implHash_any _ xs _ HR.out GK.out hp).mono ?_
    rintro e w1 ⟨rfl, b1⟩
    rw [HE]
    clear HE
    go_wp2_with fail
    go_ret
    exact ⟨rfl, b1⟩
  have hl : xs.length ≤ 65536 := by omega
  have hS := hash_size xs hl
  obtain ⟨s, HE⟩ : ∃ s, Hid (hashS xs = s) := ⟨_, rfl⟩
  have HS : Hid (s.size = 32) := by show s.size = 32; rw [← HE.out]; exact hS
  have HT : Hid ((text s).size = 64) := text_size s HS.out
  have HA : Hid (Rd.answer (text s) = .tuple #[.string s, .int .i64 0]) := answer_text s HS.out
  have HG : Hid ((signs s).size = 256) := signs_size s HS.out
  have hs1 : ((s.size : Int) != 32) = false := by rw [HS.out]; rfl
  have ht1 : (((text s).size : Int) != 64) = false := by rw [HT.out]; rfl
  have hg1 : (((signs s).size : Int) != 256) = false := by rw [HG.out]; rfl
  clear hlen hS
  go_enter Tryd.func3, Tryd.ntmps3
  go_wp2_with fail
  refine (implHash_any _ xs _ HR.out GK.out hp).mono ?_
  rintro e w1 ⟨rfl, b1⟩
  rw [HE.out]
  go_wp2_with fail
  refine (Hx.implHashText_yes s _ HS.out).mono ?_
  rintro e w2 ⟨rfl, b2⟩
  have b12 := b1.trans (b2.mono b1.size)
  clear b1 b2
  rw [show strOfNums (Hx.hexTo s 32) = text s from rfl]
  go_wp2_with fail
  refine (Rd.implReadHash_yes (text s) _ HT.out).mono ?_
  rintro e w3 ⟨rfl, b3⟩
  have b13 := b12.trans (b3.mono b12.size)
  clear b12 b3
  rw [HA.out]
  go_wp2_with fail
  refine (specHash_any _ xs _ (HR.out.below b13)).mono ?_
  rintro e w4 ⟨rfl, b4⟩
  have b14 := b13.trans (b4.mono b13.size)
  clear b13 b4
  rw [HE.out]
  go_wp2_with fail
  refine (Bt.implHashBits_yes s _ HS.out).mono ?_
  rintro e w5 ⟨rfl, b5⟩
  have b15 := b14.trans (b5.mono b14.size)
  clear b14 b5
  rw [show strOfNums (Bt.bitsTo s 32) = signs s from rfl]
  go_wp2_with fail
  go_loopw [10, 11, 12] (fun i _ _ wr => ∃ j : Nat, j ≤ 32 ∧ i = .int .i64 j ∧ w5 = wr) (fun i _ _ _ => 32 - (intOf i).toNat)
  case atStart => exact ⟨0, by omega, rfl, rfl⟩
  case round =>
    obtain ⟨j, hj, rfl, rfl⟩ := hrel
    by_cases hlt : j < 32
    · have hjs : j < s.size := by rw [HS.out]; exact hlt
      have hb := (s[j]'hjs).toNat_lt
      have hz := bv_zero (s[j]'hjs).toNat hb
      have Z : Hid (bv (s[j]'hjs).toNat 0 = 0) := hz
      clear hz
      go_wp2_with fail
      go_loopw [11, 12] (fun n k wr => ∃ m : Nat, m ≤ 8 ∧ k = .int .i64 m ∧ n = .int .i64 (bv (s[j]'hjs).toNat m) ∧ w5 = wr) (fun _ k _ => 8 - (intOf k).toNat)
      case atStart => exact ⟨0, by omega, rfl, by rw [Z.out], rfl⟩
      case round =>
        obtain ⟨m, hm, rfl, rfl, rfl⟩ := hrel
        by_cases hm8 : m < 8
        · have hidx : 8 * j + m < (signs s).size := by rw [HG.out]; omega
          have hc := signs_at s HS.out j m hjs hm8 hidx
          have hn := bv_succ (s[j]'hjs).toNat m hm8 _ hc
          have hr := bv_range (s[j]'hjs).toNat m hb
          have hr2 := bv_range (s[j]'hjs).toNat (m + 1) hb
          have q0 : (0 : Int) ≤ 8 * (j : Int) + (m : Int) := by omega
          have q1 : 8 * (j : Int) + (m : Int) < ((signs s).size : Int) := by omega
          have HN : Hid _ := hn
          clear hc hn
          generalize bv (s[j]'hjs).toNat m = x at hr HN
          go_wp2_with fail
          exact ⟨⟨m + 1, by omega, by go_num, by rw [← HN.out], trivial⟩, by simp [intOf]; omega⟩
        · obtain rfl : m = 8 := by omega
          have hall := bv_all (s[j]'hjs).toNat
          have q0 : (0 : Int) ≤ (j : Int) := by omega
          have q1 : (j : Int) < (s.size : Int) := by omega
          rw [hall]
          go_wp2_with fail
          exact ⟨⟨j + 1, by omega, by go_num, trivial⟩, by simp [intOf]; omega⟩
    · obtain rfl : j = 32 := by omega
      go_wp2_with fail
      refine (Cr.implCheck32_any _ xs _ (HR.out.below b15) (by omega)).mono ?_
      rintro e w6 ⟨rfl, rfl⟩
      go_wp2_with fail
      refine (Cr.specCheck32_any _ xs _ (HR.out.below b15) (by omega)).mono ?_
      rintro e w7 ⟨rfl, rfl⟩
      go_wp2_with fail
      go_ret
      exact ⟨rfl, b15⟩

set_option maxRecDepth 100000 in
theorem lifted (os : Os) (started : os.Started) (H : Type) (enc : TypeId × Value → H) :
    ReturnsInHanded {} Tryd.checked os 3 .any (fun w args => (Rows.fnHashSpec.pre enc Tryd.prog Tryd.f3 [] false w args ∧ laidMetH Tryd.prog Rows.fnHashRow.laid w) ∧ sizedMet enc Tryd.prog Tryd.f3 (OpenSpec.ofChange Rows.fnHashSpec) false w args)
      (Rows.fnHashSpec.post enc Tryd.prog Tryd.f3 false true false false) := by
  refine returnsInHanded_of_change_and (C := Tryd.checked) (X := fun w _ => laidMetH Tryd.prog Rows.fnHashRow.laid w) (fun _ _ _ hh h => h.of_heap hh) own started (by kernel_rfl) Tryd.func3
    (ChangeSpec.witness_shaped (enc := enc) (C := Tryd.checked) (os := os) (X := fun w _ => laidMetH Tryd.prog Rows.fnHashRow.laid w) false (World.doorLaid Tryd.prog 400 os) #[.slice none 0 0] 8 rfl (World.shaped_of_RefB (by kernel_rfl) (by kernel_rfl)) (by kernel_rfl) (by kernel_rfl) (by kernel_rfl) (door_met os _)) ?_
  intro W base args ds gs before hval0 hW _ _ hL _
  have hval : ∀ (j : Nat) t v, Tryd.f3.params[j]? = some t → args[j]? = some v → Value.okWide Tryd.prog W .any base t v := hval0
  have hW' := hW
  obtain ⟨p, q, hA0, hV0, rfl, hfz, hnd⟩ := hW
  have hA : DataW.TrodAll enc Tryd.prog W 0 (fun _ => true) true Tryd.f3.params.toList args.toList ds p := hA0
  have hV : DataW.TrodVars enc Tryd.prog W (fun _ => true) ["loop.example/g00292/impl.roundWords"] gs q := hV0
  rw [Tryd.params3] at hA hval
  obtain ⟨v0, vs0, d0, ds0, p0, q0, hargs, rfl, rfl, h0, r0⟩ := trodAll_cons hA
  obtain ⟨rfl, rfl, rfl⟩ := trodAll_nil r0
  obtain rfl : args = #[v0] := by cases args; simp_all
  obtain ⟨_, _, _, _, dv, _, rfl, _⟩ := trodVars_one hV
  obtain ⟨a0, len0, cap0, rfl⟩ := okWide_slice Tryd.underlying22 (hval 0 22 v0 rfl rfl)
  have k0 := h0
  have lt0 : ∀ x ∈ p0, x.block < W.heap.size := by obtain ⟨m, hm⟩ := k0; exact DataW.trod_lt m _ _ _ hm
  obtain ⟨z0, w0⟩ : ∃ zs, Sl.IsRow .u8 W a0 len0 cap0 zs := by
    obtain ⟨fuel, hf⟩ := h0
    rcases open_ints Tryd.underlying22 Tryd.underlying5 (by kernel_rfl) hf with ⟨hcs, _⟩ | ⟨x, l, c, zs, hcs, _, hl, hm, hz, _, hcell, hwz⟩
    · simp [Value.cells] at hcs
      obtain ⟨rfl, rfl, rfl⟩ := hcs
      exact ⟨[], .inl ⟨rfl, rfl, rfl, rfl⟩⟩
    · simp [Value.cells] at hcs
      obtain ⟨rfl, rfl, rfl⟩ := hcs
      exact ⟨zs, .inr ⟨_, rfl, hl, hm, by simpa using hz, hcell, hwz⟩⟩
  clear hA0 hval0 hV0
  have hT := Hl.tab_of hL
  refine (walk a0 len0 cap0 z0 W w0 hT.1 hT.2).mono fun e W' ⟨he, bel⟩ => ?_
  subst he
  exact ⟨_, rfl, _, _, _, [], _, q, hW', trodAll_mk1 (shut_bool Tryd.underlying4 _), trodAll_cons_mk (Below.trod laidOut (by kernel_rfl) (of_decide_eq_true (by kernel_rfl)) k0 bel lt0) trodAll_mk0, Below.trodVars laidOut bel rowed hV, bel.frame _, fun h => by cases h⟩

theorem said : Rows.FnHashSaid :=
  OpenClaim.holds_of_wide 3 Tryd.f3 rfl rfl rfl rfl rfl rfl rfl ⟨rfl, rfl, rfl, rfl, rfl⟩ rfl rfl rfl rfl rfl (by kernel_rfl) Tryd.func3 (by kernel_rfl)
    (of_decide_eq_true (by kernel_rfl)) (by unfold Func.isWrapper; first | (rw [if_pos (by decide +kernel)]; kernel_rfl) | (rw [if_neg (by decide +kernel)]; exact ⟨rfl, rfl⟩))
    (fun os started H enc _ => lifted os started H enc)

/-- No parameter wants a stand-in; the program's own looks are off. -/
theorem plain (f : FuncId) (fn : Func) (hf : Tryd.pinned.checked.prog.funcNamed "loop.example/g00292/laws.FnHash" = some f) (hfn : Tryd.pinned.checked.prog.funcs[f]? = some fn) :
    false = Tryd.pinned.checked.prog.looks [] ∧ ∀ (j : Nat) t, fn.params[j]? = some t → Tryd.pinned.checked.prog.wantsStandIn t = false := by
  obtain rfl : f = 3 := Option.some.inj ((show Tryd.prog.funcNamed "loop.example/g00292/laws.FnHash" = some 3 by kernel_rfl).symm.trans hf) |>.symm
  obtain rfl : fn = Tryd.f3 := (Option.some.inj (Tryd.func3.symm.trans hfn)).symm
  refine ⟨by kernel_rfl, fun j t ht => ?_⟩
  rw [Tryd.params3] at ht
  obtain rfl : t = 22 := by simpa using Array.mem_of_getElem? ht
  exact (show Tryd.prog.wantsStandIn 22 = false by kernel_rfl)
end Go.Proofs.YtjggfholjdplbabDoor.fnHash
namespace Go.Proofs.YtjggfholjdplbabDoor
/-- THE STATEMENT: the card. -/
theorem fnHash_holds : Rows.FnHashCardSaid :=
  Claim7.holds_tied_plain_at .later [] _ _ _ _ fnHash.said (fun _ h => by cases h) (by kernel_rfl) (fun _ h => by cases h) fnHash_row_tie rfl ⟨rfl, rfl⟩ (by kernel_rfl) rfl fnHash.plain (by kernel_rfl)
end Go.Proofs.YtjggfholjdplbabDoor
