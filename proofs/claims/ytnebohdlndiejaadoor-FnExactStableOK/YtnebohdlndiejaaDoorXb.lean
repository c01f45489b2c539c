/- Nodes that rise: a quorum of them. -/
import Derived.Test.YtnebohdlndiejaaDoorQm
import Derived.Test.YtnebohdlndiejaaDoorRg
import Derived.Test.YtnebohdlndiejaaDoorIs
import Derived.Lib.BitFns
import Derived.Lib.Strings
import Derived.Lib.Slices
import Derived.Lib.Small
import Derived.Lib.Walk
namespace Go.Proofs.YtnebohdlndiejaaDoor.Xq
open Go.RowKit Go.Proofs.YtnebohdlndiejaaDoor.Tm
open Go.Proofs.YtnebohdlndiejaaDoor.Qm (qOut inB)

noncomputable def bOf (p : Prop) : Bool := @decide p (Classical.propDecidable p)
theorem bOf_true {p : Prop} (h : p) : bOf p = true := by unfold bOf; simp [h]
theorem bOf_false {p : Prop} (h : ¬ p) : bOf p = false := by unfold bOf; simp [h]
theorem bOf_iff {p : Prop} : bOf p = true ↔ p := by unfold bOf; simp
theorem bOf_eq {p : Prop} {b : Bool} (h : b = true ↔ p) : b = bOf p := by
  cases b with
  | true => exact (bOf_true (h.1 rfl)).symm
  | false => exact (bOf_false (fun hp => by have := h.2 hp; cases this)).symm
/-- A number is one of n nodes. -/
def okN (id n : Int) : Bool := decide (fCode n = 0) && inB id 0 (n - 1)
def isV (n x : Int) : Bool := okN x n
def frn (x : Int) : Nat := x.toNat
theorem f_small {n : Int} (h : fCode n = 0) : 1 ≤ n ∧ n ≤ 7 := by
  rcases f_cases n with rfl | rfl | rfl | ⟨_, _, _, _, hd⟩
  · decide
  · decide
  · decide
  · rw [hd] at h; cases h
theorem f_four {n : Int} (h : ¬ fCode n = 0) : fCode n = 4 := by
  rcases f_cases n with rfl | rfl | rfl | ⟨_, _, _, _, hd⟩
  · exact absurd rfl h
  · exact absurd rfl h
  · exact absurd rfl h
  · exact hd
theorem okN_iff {n x : Int} : okN x n = true ↔ fCode n = 0 ∧ 0 ≤ x ∧ x ≤ n - 1 := by
  unfold okN inB; simp
theorem isV_frn {n : Int} {x : Int} (h : isV n x = true) : x = (frn x : Int) ∧ frn x < 7 := by
  obtain ⟨h1, h2, h3⟩ := okN_iff.1 h
  have := f_small h1
  unfold frn
  omega
/-- The set of the first k, as bits. -/
def msk (ms : List Int) : Nat → Nat
  | 0 => 0
  | k + 1 => msk ms k ||| 2 ^ frn (ms.getD k default)
theorem msk_step {ms : List Int} {k : Nat} {x : Int} (h : ms[k]? = some x) : msk ms (k + 1) = msk ms k ||| 2 ^ frn x := by
  show msk ms k ||| 2 ^ frn (ms.getD k default) = _
  rw [List.getD_eq_getElem?_getD, h]; rfl
theorem or_add {h i : Nat} (hh : h < 2 ^ i) : h ||| 2 ^ i = 2 ^ i + h := by
  have := Nat.two_pow_add_eq_or_of_lt hh 1
  simp at this
  rw [this, Nat.or_comm]
theorem pop_step : ∀ h : Fin 128, ∀ i : Fin 7, h.val < 2 ^ i.val → Lib.onesCount (h.val ||| 2 ^ i.val) = Lib.onesCount h.val + 1 := by decide +kernel
theorem pop_zero : Lib.onesCount 0 = 0 := by decide +kernel
/-- The first k are votes, each behind all those ahead of it. -/
def GoodTo (n : Int) (ms : List Int) (k : Nat) : Prop := ∀ j x, j < k → ms[j]? = some x → isV n x = true ∧ msk ms j < 2 ^ frn x
def Rise (ms : List Int) (k : Nat) : Prop := ∀ j x y, j + 1 < k → ms[j]? = some x → ms[j + 1]? = some y → x < y
theorem GoodTo.zero (n : Int) (ms : List Int) : GoodTo n ms 0 := fun j x h => by omega
theorem GoodTo.succ {n : Int} {ms : List Int} {k : Nat} {x : Int} (h : GoodTo n ms k) (hx : ms[k]? = some x) (h1 : isV n x = true) (h2 : msk ms k < 2 ^ frn x) : GoodTo n ms (k + 1) := fun j y hj hy => by
  by_cases e : j = k
  · subst e; rw [hx] at hy; cases hy; exact ⟨h1, h2⟩
  · exact h j y (by omega) hy
theorem GoodTo.less {n : Int} {ms : List Int} {k m : Nat} (h : GoodTo n ms k) (hm : m ≤ k) : GoodTo n ms m := fun j y hj hy => h j y (by omega) hy
theorem pow_le7 {i : Nat} (h : i < 7) : 2 ^ i + 2 ^ i ≤ 128 := by
  have : ∀ i : Fin 7, 2 ^ i.val + 2 ^ i.val ≤ 128 := by decide
  exact this ⟨i, h⟩
theorem good_msk {n : Int} {ms : List Int} : ∀ {k : Nat}, GoodTo n ms k → k ≤ ms.length → msk ms k < 128 ∧ Lib.onesCount (msk ms k) = k ∧ ∀ i, i ≤ 7 → ((∀ j x, j < k → ms[j]? = some x → frn x < i) ↔ msk ms k < 2 ^ i)
  | 0, _, _ => ⟨by show (0 : Nat) < 128; decide, pop_zero, fun i _ => ⟨fun _ => Nat.two_pow_pos i, fun _ j x h => by omega⟩⟩
  | k + 1, h, hk => by
    obtain ⟨x, hx⟩ := Rg.get_at (show k < ms.length by omega)
    obtain ⟨h1, h2, h3⟩ := good_msk (h.less (Nat.le_succ k)) (by omega)
    obtain ⟨g1, g2⟩ := h k x (by omega) hx
    obtain ⟨_, g3⟩ := isV_frn g1
    rw [msk_step hx]
    have e := or_add g2
    have p := pow_le7 g3
    refine ⟨by omega, ?_, fun i hi => ?_⟩
    · have := pop_step ⟨msk ms k, h1⟩ ⟨frn x, g3⟩ g2
      simp only at this
      rw [this, h2]
    · rw [e]
      constructor
      · intro hh
        have hf := hh k x (by omega) hx
        have : 2 ^ (frn x + 1) ≤ 2 ^ i := Nat.pow_le_pow_right (by decide) hf
        rw [Nat.pow_succ] at this
        omega
      · intro hh j y hj hy
        have hfi : frn x < i := by
          refine Nat.lt_of_not_le fun hle => ?_
          have : 2 ^ i ≤ 2 ^ frn x := Nat.pow_le_pow_right (by decide) hle
          omega
        by_cases ej : j = k
        · subst ej; rw [hx] at hy; cases hy; exact hfi
        · exact Nat.lt_trans ((h3 (frn x) (by omega)).2 g2 j y (by omega) hy) hfi
theorem good_all {n : Int} {ms : List Int} : ∀ {k : Nat}, k ≤ ms.length → (GoodTo n ms k ↔ (∀ j x, j < k → ms[j]? = some x → isV n x = true) ∧ Rise ms k)
  | 0, _ => ⟨fun _ => ⟨fun j x h => by omega, fun j x y h => by omega⟩, fun _ => GoodTo.zero n ms⟩
  | k + 1, hk => by
    obtain ⟨x, hx⟩ := Rg.get_at (show k < ms.length by omega)
    have ih := good_all (n := n) (ms := ms) (show k ≤ ms.length by omega)
    constructor
    · intro h
      obtain ⟨a1, a2⟩ := ih.1 (h.less (Nat.le_succ k))
      refine ⟨fun j y hj hy => (h j y hj hy).1, fun j y z hj hy hz => ?_⟩
      by_cases ej : j + 1 = k
      · subst ej
        rw [hx] at hz; cases hz
        obtain ⟨g1, g2⟩ := h (j + 1) x (by omega) hx
        have g0 := (h j y (by omega) hy).1
        have := ((good_msk (h.less (Nat.le_succ (j + 1))) (by omega)).2.2 (frn x) (by have := (isV_frn g1).2; omega)).2 g2 j y (by omega) hy
        rw [(isV_frn g0).1, (isV_frn g1).1]
        omega
      · exact a2 j y z (by omega) hy hz
    · rintro ⟨a1, a2⟩
      have h := ih.2 ⟨fun j y hj hy => a1 j y (by omega) hy, fun j y z hj hy hz => a2 j y z (by omega) hy hz⟩
      refine h.succ hx (a1 k x (by omega) hx) ?_
      obtain ⟨_, _, h3⟩ := good_msk h (by omega)
      have g1 := a1 k x (by omega) hx
      refine (h3 (frn x) (by have := (isV_frn g1).2; omega)).1 fun j y hj hy => ?_
      by_cases ek : k = 0
      · omega
      obtain ⟨m, rfl⟩ : ∃ m, k = m + 1 := ⟨k - 1, by omega⟩
      obtain ⟨z, hz⟩ := Rg.get_at (show m < ms.length by omega)
      have hzx := a2 m z x (by omega) hz hx
      have gz := a1 m z (by omega) hz
      have hzx' : frn z < frn x := by rw [(isV_frn gz).1, (isV_frn g1).1] at hzx; omega
      by_cases ej : j = m
      · subst ej; rw [hz] at hy; cases hy; exact hzx'
      · have hp := (h m z (by omega) hz).2
        have := ((good_msk (h.less (Nat.le_succ m)) (by omega)).2.2 (frn z) (by have := (isV_frn gz).2; omega)).2 hp j y (by omega) hy
        omega
/-- Just a quorum of votes of different nodes, rising. -/
noncomputable def qvB (n : Int) (ms : List Int) : Bool := bOf (GoodTo n ms ms.length) && (decide (fCode n = 0) && decide ((Lib.onesCount (msk ms ms.length) : Int) = qOut n))
theorem qv_not {n : Int} {ms : List Int} {k : Nat} {x : Int} (hx : ms[k]? = some x) (h : ¬ (isV n x = true ∧ msk ms k < 2 ^ frn x)) : qvB n ms = false := by
  unfold qvB
  rw [bOf_false (fun hg => h (hg k x (Rg.lt_at hx) hx))]; rfl
theorem qv_end {n : Int} {ms : List Int} (h : GoodTo n ms ms.length) : qvB n ms = (decide (fCode n = 0) && decide ((Lib.onesCount (msk ms ms.length) : Int) = qOut n)) := by
  unfold qvB; rw [bOf_true h]; rfl
theorem qv_iff {n : Int} {ms : List Int} : qvB n ms = true ↔ fCode n = 0 ∧ (ms.length : Int) = qOut n ∧ (∀ x ∈ ms, isV n x = true) ∧ Rise ms ms.length := by
  unfold qvB
  rw [Bool.and_eq_true, Bool.and_eq_true, bOf_iff, decide_eq_true_eq, decide_eq_true_eq]
  constructor
  · rintro ⟨h1, h2, h3⟩
    rw [(good_msk h1 (Nat.le_refl _)).2.1] at h3
    obtain ⟨a1, a2⟩ := (good_all (Nat.le_refl _)).1 h1
    refine ⟨h2, h3, fun x hx => ?_, a2⟩
    obtain ⟨j, hj, e⟩ := List.getElem_of_mem hx
    exact a1 j x hj (by rw [List.getElem?_eq_getElem hj, e])
  · rintro ⟨h1, h2, h3, h4⟩
    have hg : GoodTo n ms ms.length := (good_all (Nat.le_refl _)).2 ⟨fun j x hj hx => h3 x (List.mem_of_getElem? hx), h4⟩
    refine ⟨hg, h1, ?_⟩
    rw [(good_msk hg (Nat.le_refl _)).2.1]
    exact h2
theorem ret_b {a b : Bool} (h : a = b) : Ending.returned (.bool a) = .returned (.bool b) := by rw [h]
theorem ret_v {a b : Value} (h : a = b) : Ending.returned a = .returned b := by rw [h]
theorem ones_int (x : Int) (w : World) (h0 : 0 ≤ x) (h1 : x ≤ 255) : Calls Tryd.prog 36 #[.int .u8 x] w fun e w' => e = .returned (.int .i64 (Lib.onesCount x.toNat)) ∧ w' = w := by
  have e : wrap64 (Lib.pop8 x) = (Lib.onesCount x.toNat : Int) := by unfold wrap64; exact Lib.pop8_int x h0 h1
  rw [← e]
  clear e
  go_enter Tryd.func36, Tryd.ntmps36
  go_wp2
  go_ret
  exact ⟨rfl, rfl⟩
theorem ones_any (h : Nat) (w : World) (hh : h < 128) : Calls Tryd.prog 36 #[.int .u8 h] w fun e w' => e = .returned (.int .i64 (Lib.onesCount h)) ∧ w = w' :=
  (ones_int h w (by omega) (by omega)).mono fun e w' he => ⟨by rw [he.1, Int.toNat_natCast], he.2.symm⟩
theorem shr_lt : ∀ h : Fin 128, ∀ i : Fin 7, ((h.val / 2 ^ i.val == 0) = decide (h.val < 2 ^ i.val)) := by decide +kernel
set_option maxRecDepth 100000 in
theorem allBelow_any (h i : Nat) (w : World) (hh : h < 128) (hi : i < 7) : Calls Tryd.prog 33 #[.int .u8 h, .int .i64 i] w fun e w' => e = .returned (.bool (decide (h < 2 ^ i))) ∧ w = w' := by
  have hk : ∀ i : Nat, i < 7 → i = 0 ∨ i = 1 ∨ i = 2 ∨ i = 3 ∨ i = 4 ∨ i = 5 ∨ i = 6 := fun i h => by omega
  have hs := shr_lt ⟨h, hh⟩ ⟨i, hi⟩
  simp only at hs
  rw [← hs]
  clear hs
  rcases hk i hi with rfl | rfl | rfl | rfl | rfl | rfl | rfl
  all_goals
    go_enter Tryd.func33, Tryd.ntmps33
    go_wp2_with fail
    go_ret
    refine ⟨ret_b ?_, rfl⟩
    rw [Bool.eq_iff_iff, beq_iff_eq, beq_iff_eq]
    simp only [Nat.reducePow]
    omega
theorem with_or : ∀ h : Fin 128, ∀ i : Fin 7, bits .or .u8 (h.val : Int) ((2 ^ i.val : Nat) : Int) = ((h.val ||| 2 ^ i.val : Nat) : Int) := by decide +kernel
set_option maxRecDepth 100000 in
theorem with_any (h i : Nat) (w : World) (hh : h < 128) (hi : i < 7) : Calls Tryd.prog 34 #[.int .u8 h, .int .i64 i] w fun e w' => e = .returned (.int .u8 ((h ||| 2 ^ i : Nat) : Int)) ∧ w = w' := by
  have hk : ∀ i : Nat, i < 7 → i = 0 ∨ i = 1 ∨ i = 2 ∨ i = 3 ∨ i = 4 ∨ i = 5 ∨ i = 6 := fun i h => by omega
  rcases hk i hi with rfl | rfl | rfl | rfl | rfl | rfl | rfl
  all_goals
    go_enter Tryd.func34, Tryd.ntmps34
    go_wp2_with fail
    go_ret
    refine ⟨ret_v ?_, rfl⟩
    exact congrArg (Value.int .u8) (with_or ⟨h, hh⟩ ⟨_, hi⟩)
theorem isQuorum_any (h : Nat) (n : Int) (w : World) (hh : h < 128) : Calls Tryd.prog 26 #[.int .u8 h, .int .i64 n] w fun e w' => e = .returned (.bool (decide (fCode n = 0) && decide ((Lib.onesCount h : Int) = qOut n))) ∧ w = w' := by
  have HO := ones_any h w hh
  have HQ := Qm.implQuorumOf_any n w
  by_cases hf : fCode n = 0
  · rw [hf] at HQ ⊢
    generalize (Lib.onesCount h : Int) = oc at HO ⊢
    generalize qOut n = q at HQ ⊢
    go_enter Tryd.func26, Tryd.ntmps26
    go_wp2_with fail
    refine HQ.mono ?_
    rintro e w1 ⟨rfl, rfl⟩
    go_wp2_with fail
    refine HO.mono ?_
    rintro e w1 ⟨rfl, rfl⟩
    go_wp2_with fail
    go_ret
    exact ⟨ret_b (by rw [Bool.eq_iff_iff, beq_iff_eq, Bool.and_eq_true, decide_eq_true_eq, decide_eq_true_eq]; simp), rfl⟩
  · have hf' : (fCode n == 0) = false := by simp [hf]
    rw [decide_eq_false hf]
    generalize fCode n = fc at HQ hf hf'
    generalize qOut n = q at HQ
    go_enter Tryd.func26, Tryd.ntmps26
    go_wp2_with fail
    refine HQ.mono ?_
    rintro e w1 ⟨rfl, rfl⟩
    go_wp2_with fail
    go_ret
    exact ⟨ret_b (by simp), rfl⟩
set_option maxRecDepth 100000 in
set_option maxHeartbeats 1600000 in
theorem isNode_any (id n : Int) (w : World) : Calls Tryd.prog 32 #[.int .i64 n, .int .i64 id] w fun e w' => e = .returned (.bool (okN id n)) ∧ w = w' := by
  by_cases h : fCode n = 0
  · have hb := f_small h
    have HO : Hid (okN id n = inB id 0 (n - 1)) := by show _ = _; unfold okN; rw [decide_eq_true h]; rfl
    rw [HO.out]
    have HF := implFaultsOf_any n w
    rw [h] at HF
    clear h
    go_enter Tryd.func32, Tryd.ntmps32
    go_wp2_with fail
    refine HF.mono ?_
    rintro e w1 ⟨rfl, hw⟩
    rw [hw]
    clear hw
    go_wp2_with fail
    refine (Qm.within_any id 0 (n - 1) w).mono ?_
    rintro e w2 ⟨rfl, rfl⟩
    go_wp2_with fail
    go_ret
    exact ⟨by simp, rfl⟩
  · have HO : Hid (okN id n = false) := by show _ = _; unfold okN; rw [decide_eq_false h]; rfl
    rw [HO.out]
    have h4 : fCode n = 4 := f_four h
    have HF := implFaultsOf_any n w
    rw [h4] at HF
    clear h h4
    go_enter Tryd.func32, Tryd.ntmps32
    go_wp2_with fail
    refine HF.mono ?_
    rintro e w1 ⟨rfl, hw⟩
    rw [hw]
    clear hw
    go_wp2_with fail
    go_ret
    exact ⟨rfl, rfl⟩
end Go.Proofs.YtnebohdlndiejaaDoor.Xq
