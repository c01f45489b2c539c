/-
  A median is one of the numbers, and less than half of them are below it, less than half above, at every code.
  Conditions: none beyond the given row's own.
-/
import Derived.Test.YtgbdmclpnkaihaaMi
import Derived.Test.YtgbdmclpnkaihaaLa
import Derived.Test.YtgbdmclpnkaihaaHi
import Derived.Test.YtgbdmclpnkaihaaCn
import Derived.Test.YtgbdmclpnkaihaaAi
import Derived.Test.YtgbdmclpnkaihaaOpc
import Derived.WalkKit
import Derived.ProofKit
import Derived.OpenShut
import Derived.ShutString
import Derived.ChangeOld
import Derived.Below
namespace Go.Proofs.Ytgbdmclpnkaihaa.fnMedian
open Go.ChangeShapes Go.WideShapes Go.ChangeAt Go.RowKit
open Go.ChangeMaps (open_string shut_string)

theorem own : ownKnob Try.prog.godebug = none := by kernel_rfl
theorem laidOut : laidOutB Try.prog = true := by kernel_rfl

open Go.Proofs.Ytgbdmclpnkaihaa.Sl Go.Proofs.Ytgbdmclpnkaihaa.Is Go.Proofs.Ytgbdmclpnkaihaa.So Go.Proofs.Ytgbdmclpnkaihaa.Md Go.Proofs.Ytgbdmclpnkaihaa.Mi Go.Proofs.Ytgbdmclpnkaihaa.La Go.Proofs.Ytgbdmclpnkaihaa.Hi Go.Proofs.Ytgbdmclpnkaihaa.Cn
/-- The numbers that the law draws. -/
def lst (xs : List Int) (k : Nat) : List Int := (List.range k).map fun i => (atN xs (i + 1) 100 : Int) - 50
theorem lst_length (xs : List Int) (k : Nat) : (lst xs k).length = k := by simp [lst]
theorem lst_step (xs : List Int) (k : Nat) : lst xs (k + 1) = lst xs k ++ [(atN xs (k + 1) 100 : Int) - 50] := by simp [lst, List.range_succ]
theorem lst_range (xs : List Int) (k : Nat) : ∀ x ∈ lst xs k, -9223372036854775808 ≤ x ∧ x ≤ 9223372036854775807 := by
  intro x hx
  unfold lst at hx
  obtain ⟨i, _, rfl⟩ := List.mem_map.1 hx
  have := atN_lt xs (i + 1) 100 (by decide)
  omega
set_option maxRecDepth 100000 in
set_option maxHeartbeats 1600000 in
/-- THE WALK: the law holds at every code. -/
theorem walk (v0 : Value) (xs : List Int) (w : World) (h0 : RowB w v0 xs) :
    Calls Try.prog 3 #[v0] w fun e w' => e = .returned (.bool true) ∧ Below w.heap.size w w' := by
  have G0 : Hid (RowB w v0 xs) := h0
  obtain ⟨a, cap, rfl, _⟩ := h0
  by_cases hb0 : (1048576 : Int) < (xs.length : Int)
  · go_enter Try.func3, Try.ntmps3
    go_wp2
    go_ret
    exact ⟨rfl, Below.refl _ _⟩
  have HL : Hid (xs.length ≤ 1048576) := by show _ ≤ _; omega
  obtain ⟨i0, hi0, hz0, hz1, hz2⟩ := info_parts info3
  have hb1 : ¬ (1048576 : Int) < (xs.length : Int) := hb0
  clear hb0
  obtain ⟨n, HN, hn⟩ : ∃ n, Hid (atN xs 0 20 = n) ∧ n < 20 := ⟨_, rfl, atN_lt xs 0 20 (by decide)⟩
  go_enter Try.func3, Try.ntmps3
  go_wp2_with fail
  go_loopw [3, 4] (fun u i wr => ∃ k : Nat, k ≤ 2 * n + 1 ∧ i = .int .i64 k ∧ Hid (OwnI wr w.heap.size u (lst xs k) ∧ Below w.heap.size w wr ∧ u ≠ .slice none 0 0)) (fun _ i _ => 2 * n + 1 - (intOf i).toNat)
  case atStart => exact ⟨0, by omega, rfl, ⟨OwnI.made w _ (Nat.le_refl _), bel_new w _, by simp⟩⟩
  case round =>
    obtain ⟨k, hk, rfl, HR⟩ := hrel
    go_wp2_with fail
    refine (atN_any _ xs 0 20 wr (G0.out.below HR.out.2.1) HL.out (by decide) (by decide) (by decide)).mono ?_
    rintro e w1 ⟨rfl, b1⟩
    have HR1 : Hid (OwnI w1 w.heap.size u3 (lst xs k) ∧ Below w.heap.size w w1 ∧ u3 ≠ .slice none 0 0) := ⟨OwnI.below HR.out.1 b1, HR.out.2.1.trans (b1.mono HR.out.2.1.size), HR.out.2.2⟩
    rw [HN.out]
    clear b1 HR
    by_cases hlt : k < 2 * n + 1
    · have hlt' : (k : Int) < 2 * (n : Int) + 1 := by omega
      go_wp2_with fail
      refine (atN_any _ xs (k + 1) 100 w1 (G0.out.below HR1.out.2.1) HL.out (by omega) (by decide) (by decide)).mono ?_
      rintro e w2 ⟨rfl, b2⟩
      have HR2 : Hid (OwnI w2 w.heap.size u3 (lst xs k) ∧ Below w.heap.size w w2) := ⟨OwnI.below HR1.out.1 b2, HR1.out.2.1.trans (b2.mono HR1.out.2.1.size)⟩
      have HS : Hid (lst xs (k + 1) = lst xs k ++ [(atN xs (k + 1) 100 : Int) - 50]) := lst_step xs k
      have hat := atN_lt xs (k + 1) 100 (by decide)
      clear b2 HR1
      generalize atN xs (k + 1) 100 = q at HS hat
      go_wp2_with (at_builtin; go_must (refine list_int1 (by rfl) _ _ 23 (by rfl) i0 Try.underlying23 hi0 hz0 hz1 hz2 w.heap.size w w2 _ (lst xs k) ((q : Int) - 50) (by rfl) HR2.out.1 HR2.out.2 HR2.out.2.size (by rfl) (by rw [lst_length]; omega) ?_; intro v3 w3 o3 b3 hne3))
      rw [← HS.out] at o3
      exact ⟨⟨k + 1, by omega, by go_num, ⟨o3, b3, hne3⟩⟩, by simp [intOf]; omega⟩
    · obtain rfl : k = 2 * n + 1 := by omega
      have hlt' : ¬ ((2 * n + 1 : Nat) : Int) < 2 * (n : Int) + 1 := by omega
      obtain ⟨g, cp, rfl⟩ := OwnI.some HR1.out.1 HR1.out.2.2
      have HM := median (lst xs (2 * n + 1)) (by rw [lst_length]; omega)
      have HRI : Hid (RowI w1 (.slice (some ⟨g, 0, none⟩) (lst xs (2 * n + 1)).length cp) (lst xs (2 * n + 1))) := HR1.out.1.row (lst_range xs _)
      have HB1 : Hid (Below w.heap.size w w1) := HR1.out.2.1
      have hll := lst_length xs (2 * n + 1)
      have HLL : Hid ((lst xs (2 * n + 1)).length ≤ 39) := by show _ ≤ _; omega
      have HC : Hid (mCode (lst xs (2 * n + 1)) = 0 ∧ mOut (lst xs (2 * n + 1)) = nth (ms (lst xs (2 * n + 1))) ((lst xs (2 * n + 1)).length / 2)) := by
        rcases m_cases (lst xs (2 * n + 1)) with ⟨h, _⟩ | ⟨_, h, _⟩ | ⟨_, _, h, _⟩ | ⟨_, _, h1, h2⟩
        · omega
        · omega
        · omega
        · exact ⟨h1, h2⟩
      rw [← HC.out.2] at HM
      have HMM : Hid (mOut (lst xs (2 * n + 1)) ∈ lst xs (2 * n + 1) ∧ 2 * lo (lst xs (2 * n + 1)) (mOut (lst xs (2 * n + 1))) (lst xs (2 * n + 1)).length < (lst xs (2 * n + 1)).length ∧ 2 * hi (lst xs (2 * n + 1)) (mOut (lst xs (2 * n + 1))) (lst xs (2 * n + 1)).length < (lst xs (2 * n + 1)).length) := HM
      have HC2 : Hid (mCode (lst xs (2 * n + 1)) = 0) := HC.out.1
      clear HR1 HM HC hll
      generalize lst xs (2 * n + 1) = l at HRI HMM HC2 HLL
      go_wp2_with fail
      refine (implMedianOf_any _ l w1 HRI.out (by have := HLL.out; omega)).mono ?_
      rintro e w2 ⟨rfl, b2⟩
      rw [HC2.out]
      have HB2 : Hid (Below w.heap.size w w2 ∧ RowI w2 (.slice (some ⟨g, 0, none⟩) l.length cp) l) := ⟨HB1.out.trans (b2.mono HB1.out.size), HRI.out.below b2⟩
      clear b2 HRI HB1
      go_wp2_with fail
      refine (specMedianOf_any _ l w2 HB2.out.2 (by have := HLL.out; omega)).mono ?_
      rintro e w3 ⟨rfl, b3⟩
      rw [HC2.out]
      have HB3 : Hid (Below w.heap.size w w3 ∧ RowI w3 (.slice (some ⟨g, 0, none⟩) l.length cp) l) := ⟨HB2.out.1.trans (b3.mono HB2.out.1.size), HB2.out.2.below b3⟩
      clear b3 HB2
      generalize mOut l = m at HMM
      go_wp2_with fail
      go_loopw [9, 10, 11] (fun x y i wr => ∃ k : Nat, k ≤ l.length ∧ i = .int .i64 k ∧ x = .int .i64 (lo l m k : Nat) ∧ y = .int .i64 (hi l m k : Nat) ∧ wr = w3) (fun _ _ i _ => l.length - (intOf i).toNat)
      case atStart => exact ⟨0, by omega, rfl, by simp [lo], by simp [hi], rfl⟩
      case round =>
        obtain ⟨k, hk, rfl, rfl, rfl, rfl⟩ := hrel
        by_cases hkl : k < l.length
        · obtain ⟨a', cap', he, hc, _⟩ := HB3.out.2
          rcases hc with hc | ⟨b, off, rfl, _, _, hcell⟩
          · exact absurd hkl (by rw [hc]; simp)
          cases he
          have hc1 := hcell k hkl
          rw [Nat.zero_add] at hc1
          have s1 := lo_step (m := m) hkl
          have s2 := hi_step (m := m) hkl
          have l1 := lo_le l m k
          have l2 := hi_le l m k
          have l3 : l.length ≤ 39 := HLL.out
          have HSS : Hid (lo l m (k + 1) = lo l m k + (if nth l k < m then 1 else 0) ∧ hi l m (k + 1) = hi l m k + (if m < nth l k then 1 else 0)) := ⟨s1, s2⟩
          clear hcell s1 s2
          by_cases e1 : nth l k < m
          · have e2 : ¬ m < nth l k := by omega
            rw [if_pos e1, if_neg e2] at HSS
            go_wp2_with fail
            exact ⟨⟨k + 1, by omega, by go_num, by rw [HSS.out.1]; simp, by rw [HSS.out.2]; simp, trivial⟩, by simp [intOf]; omega⟩
          · by_cases e2 : m < nth l k
            · rw [if_neg e1, if_pos e2] at HSS
              go_wp2_with fail
              exact ⟨⟨k + 1, by omega, by go_num, by rw [HSS.out.1]; simp, by rw [HSS.out.2]; simp, trivial⟩, by simp [intOf]; omega⟩
            · rw [if_neg e1, if_neg e2] at HSS
              go_wp2_with fail
              exact ⟨⟨k + 1, by omega, by go_num, by rw [HSS.out.1]; simp, by rw [HSS.out.2]; simp, trivial⟩, by simp [intOf]; omega⟩
        · obtain rfl : k = l.length := by omega
          have f1 : (2 : Int) * (lo l m l.length : Nat) < (l.length : Int) := by have := HMM.out.2.1; omega
          have f2 : (2 : Int) * (hi l m l.length : Nat) < (l.length : Int) := by have := HMM.out.2.2; omega
          have l3 : l.length ≤ 39 := HLL.out
          have l1 := lo_le l m l.length
          have l2 := hi_le l m l.length
          generalize lo l m l.length = p at f1 l1
          generalize hi l m l.length = q at f2 l2
          go_wp2_with fail
          refine (hasInt_any _ l m wr HB3.out.2 (by have := HLL.out; omega)).mono ?_
          rintro e w4 ⟨rfl, b4⟩
          rw [decide_eq_true HMM.out.1]
          have HB4 : Hid (Below w.heap.size w w4) := HB3.out.1.trans (b4.mono HB3.out.1.size)
          clear b4
          go_wp2_with fail
          go_ret
          exact ⟨rfl, HB4.out⟩

/-! ### THE ROW's STEP -/
set_option maxRecDepth 100000 in
theorem lifted (os : Os) (started : os.Started) (H : Type) (enc : TypeId × Value → H) :
    ReturnsInHanded {} Try.checked os 3 .any (Rows.fnMedianSpec.pre6 enc Try.prog Try.f3 Rows.fnMedianRow.domain false) (Rows.fnMedianSpec.post enc Try.prog Try.f3 false true false false) := by
  refine returnsInHanded_of_change (C := Try.checked) own started (by kernel_rfl) Try.func3
    (ChangeSpec.witness6 (enc := enc) (C := Try.checked) false ⟨#[], #[.slice none 0 0], []⟩ 8 (by kernel_rfl) (by kernel_rfl) (by kernel_rfl) (by kernel_rfl)) ?_
  intro W base args ds gs before hval0 hW hcnd _
  have hval : ∀ (j : Nat) t v, Try.f3.params[j]? = some t → args[j]? = some v → Value.okWide Try.prog W .any base t v := hval0
  have hW' := hW
  obtain ⟨p, q, hA0, hV, rfl, hfz, hnd⟩ := hW
  have hA : DataW.TrodAll enc Try.prog W 0 (fun _ => true) true Try.f3.params.toList args.toList ds p := hA0
  rw [Try.params3] at hA hval
  obtain ⟨v0, vs0, d0, ds0, p0, q0, hargs, rfl, rfl, h0, r0⟩ := trodAll_cons hA
  obtain ⟨rfl, rfl, rfl⟩ := trodAll_nil r0
  obtain rfl : args = #[v0] := by cases args; simp_all
  obtain ⟨rfl, rfl⟩ := trodVars_none hV
  have k00 := h0
  have lt0 : ∀ x ∈ p0, x.block < W.heap.size := by obtain ⟨m, hm⟩ := k00; exact DataW.trod_lt m _ _ _ hm
  obtain ⟨xs0, w0⟩ := Op.open_bytes (hval 0 22 v0 rfl rfl) h0 (fun _ => rfl)
  clear hA0 hval0
  refine (walk v0 xs0 W w0).mono fun e W' ⟨he, bel⟩ => ?_
  subst he
  exact ⟨_, rfl, _, _, _, [], _, [], hW', trodAll_mk1 (shut_bool Try.underlying4 _), (trodAll_cons_mk (Below.trod laidOut (by kernel_rfl) (of_decide_eq_true (by kernel_rfl)) k00 bel lt0) trodAll_mk0), rfl, bel.frame _, fun h => by cases h⟩

theorem over : Rows.fnMedianRow.holds Try.pinned (OpenSpec.ofChange Rows.fnMedianSpec) :=
  OpenClaim.holds_of_wide 3 Try.f3 rfl rfl rfl rfl rfl rfl rfl ⟨rfl, rfl, rfl, rfl, rfl⟩ rfl rfl rfl rfl rfl (by kernel_rfl) Try.func3 (by kernel_rfl)
    (of_decide_eq_true (by kernel_rfl)) (by unfold Func.isWrapper; first | (rw [if_pos (by decide +kernel)]; kernel_rfl) | (rw [if_neg (by decide +kernel)]; exact ⟨rfl, rfl⟩))
    (fun os started H enc _ => lifted os started H enc)

end Go.Proofs.Ytgbdmclpnkaihaa.fnMedian
namespace Go.Proofs.Ytgbdmclpnkaihaa
/-- THE STATEMENT. -/
theorem fnMedian_holds : Rows.FnMedianSaid := fnMedian.over
end Go.Proofs.Ytgbdmclpnkaihaa
