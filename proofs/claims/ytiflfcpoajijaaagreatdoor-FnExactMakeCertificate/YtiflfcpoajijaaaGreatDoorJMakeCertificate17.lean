/- Texts put together: Tm, Qm, Xb, Xcr. -/
import Derived.Test.YtiflfcpoajijaaaGreatDoorRows
import Derived.WalkKit
import Derived.ProofKit
import Derived.WalkSpells
import Derived.Below
import Derived.Laws.NewBlocks
import Derived.Test.YtiflfcpoajijaaaGreatDoorRg
import Derived.Test.YtiflfcpoajijaaaGreatDoorIs
import Derived.Lib.BitFns
import Derived.Lib.Strings
import Derived.Lib.Slices
import Derived.Lib.Small
import Derived.Lib.Walk
import Derived.Maps.AppendAt
/- FaultsOf and AddTime, of the program and of the specification. -/
namespace Go.Proofs.YtiflfcpoajijaaaGreatDoor.Tm
open Go.RowKit

/-- What FaultsOf answers. -/
def fOut (n : Int) : Int := if n = 1 then 0 else if n = 4 then 1 else if n = 7 then 2 else 0
def fCode (n : Int) : Int := if n = 1 ∨ n = 4 ∨ n = 7 then 0 else 4
/-- What AddTime answers. -/
def adT (a b : Int) : Int := min (max a 0 + max b 0) 9223372036854775807
theorem ret_i {a b : Int} (h : a = b) : Ending.returned (.int .i64 a) = .returned (.int .i64 b) := by rw [h]
theorem ret_ii {a b c d : Int} (h : a = c ∧ b = d) : Ending.returned (.tuple #[.int .i64 a, .int .i64 b]) = .returned (.tuple #[.int .i64 c, .int .i64 d]) := by rw [h.1, h.2]
theorem f_cases (n : Int) : n = 1 ∨ n = 4 ∨ n = 7 ∨ (n ≠ 1 ∧ n ≠ 4 ∧ n ≠ 7 ∧ fOut n = 0 ∧ fCode n = 4) := by
  by_cases h1 : n = 1
  · exact .inl h1
  by_cases h2 : n = 4
  · exact .inr (.inl h2)
  by_cases h3 : n = 7
  · exact .inr (.inr (.inl h3))
  refine .inr (.inr (.inr ⟨h1, h2, h3, ?_, ?_⟩))
  · unfold fOut; rw [if_neg h1, if_neg h2, if_neg h3]
  · unfold fCode; rw [if_neg (by omega)]
set_option maxRecDepth 100000 in
set_option maxHeartbeats 400000 in
theorem implFaultsOf_any (n : Int) (w : World) : Calls Tryz.prog 56 #[.int .i64 n] w fun e w' => e = .returned (.tuple #[.int .i64 (fOut n), .int .i64 (fCode n)]) ∧ w' = w := by
  rcases f_cases n with rfl | rfl | rfl | ⟨h1, h2, h3, e1, e2⟩
  · go_enter Tryz.func56, Tryz.ntmps56
    go_wp2
    go_ret2
    exact ⟨ret_ii ⟨by decide, by decide⟩, rfl⟩
  · go_enter Tryz.func56, Tryz.ntmps56
    go_wp2
    go_ret2
    exact ⟨ret_ii ⟨by decide, by decide⟩, rfl⟩
  · go_enter Tryz.func56, Tryz.ntmps56
    go_wp2
    go_ret2
    exact ⟨ret_ii ⟨by decide, by decide⟩, rfl⟩
  · have HE : Hid (fOut n = 0 ∧ fCode n = 4) := ⟨e1, e2⟩
    have b1 : (n == 1) = false := by simpa using h1
    have b2 : (n == 4) = false := by simpa using h2
    have b3 : (n == 7) = false := by simpa using h3
    clear h1 h2 h3 e1 e2
    go_enter Tryz.func56, Tryz.ntmps56
    go_wp2
    go_ret2
    exact ⟨ret_ii ⟨HE.out.1.symm, HE.out.2.symm⟩, rfl⟩
end Go.Proofs.YtiflfcpoajijaaaGreatDoor.Tm

/- QuorumOf and PrimaryOf, of the program and of the specification. -/
namespace Go.Proofs.YtiflfcpoajijaaaGreatDoor.Qm
open Go.RowKit Go.Proofs.YtiflfcpoajijaaaGreatDoor.Tm

/-- What QuorumOf and PrimaryOf answer. -/
def qOut (n : Int) : Int := if n = 1 then 1 else if n = 4 then 3 else if n = 7 then 5 else 0
def pOut (v n : Int) : Int := if fCode n = 0 ∧ 0 ≤ v ∧ v ≤ 20 then v % n else 0
def pCode (v n : Int) : Int := if fCode n = 0 ∧ 0 ≤ v ∧ v ≤ 20 then 0 else 4
def inB (x a b : Int) : Bool := decide (a ≤ x ∧ x ≤ b)
theorem ret_bool {a b : Bool} (h : a = b) : Ending.returned (.bool a) = .returned (.bool b) := by rw [h]
theorem within_any (x a b : Int) (w : World) :
    Calls Tryz.prog 62 #[.int .i64 x, .int .i64 a, .int .i64 b] w fun e w' => e = .returned (.bool (inB x a b)) ∧ w = w' := by
  by_cases h1 : a ≤ x
  · by_cases h2 : x ≤ b
    all_goals
      go_enter Tryz.func62, Tryz.ntmps62
      go_wp2
      go_ret
      exact ⟨ret_bool (by unfold inB; rw [Bool.eq_iff_iff]; simp; try omega), rfl⟩
  · go_enter Tryz.func62, Tryz.ntmps62
    go_wp2
    go_ret
    exact ⟨ret_bool (by unfold inB; rw [Bool.eq_iff_iff]; simp; try omega), rfl⟩
theorem l01In_any (x a b : Int) (w : World) :
    Calls Tryz.prog 44 #[.int .i64 x, .int .i64 a, .int .i64 b] w fun e w' => e = .returned (.bool (inB x a b)) ∧ w = w' := by
  by_cases h1 : a ≤ x
  · by_cases h2 : x ≤ b
    all_goals
      go_enter Tryz.func44, Tryz.ntmps44
      go_wp2
      go_ret
      exact ⟨ret_bool (by unfold inB; rw [Bool.eq_iff_iff]; simp; try omega), rfl⟩
  · go_enter Tryz.func44, Tryz.ntmps44
    go_wp2
    go_ret
    exact ⟨ret_bool (by unfold inB; rw [Bool.eq_iff_iff]; simp; try omega), rfl⟩
theorem q_none {n : Int} (h1 : n ≠ 1) (h2 : n ≠ 4) (h3 : n ≠ 7) : qOut n = 0 := by unfold qOut; rw [if_neg h1, if_neg h2, if_neg h3]
set_option maxRecDepth 100000 in
set_option maxHeartbeats 400000 in
theorem l04Nodes_any (n : Int) (w : World) : Calls Tryz.prog 39 #[.int .i64 n] w fun e w' => e = .returned (.bool (decide (fCode n = 0))) ∧ w = w' := by
  rcases f_cases n with rfl | rfl | rfl | ⟨h1, h2, h3, _, hc⟩
  · go_enter Tryz.func39, Tryz.ntmps39
    go_wp2_with fail
    go_ret
    exact ⟨rfl, rfl⟩
  · go_enter Tryz.func39, Tryz.ntmps39
    go_wp2_with fail
    go_ret
    exact ⟨rfl, rfl⟩
  · go_enter Tryz.func39, Tryz.ntmps39
    go_wp2_with fail
    go_ret
    exact ⟨rfl, rfl⟩
  · have HC : Hid (fCode n = 4) := hc
    clear hc
    go_enter Tryz.func39, Tryz.ntmps39
    go_wp2_with fail
    go_ret
    exact ⟨by rw [HC.out]; simp [h1, h2, h3], rfl⟩
theorem p_none {v n : Int} (h : ¬ (fCode n = 0 ∧ 0 ≤ v ∧ v ≤ 20)) : pOut v n = 0 ∧ pCode v n = 4 := by unfold pOut pCode; rw [if_neg h, if_neg h]; exact ⟨rfl, rfl⟩
theorem p_some {v n : Int} (h : fCode n = 0 ∧ 0 ≤ v ∧ v ≤ 20) : pOut v n = v % n ∧ pCode v n = 0 := by unfold pOut pCode; rw [if_pos h, if_pos h]; exact ⟨rfl, rfl⟩
end Go.Proofs.YtiflfcpoajijaaaGreatDoor.Qm

/- Nodes that rise: a quorum of them. -/
namespace Go.Proofs.YtiflfcpoajijaaaGreatDoor.Xq
open Go.RowKit Go.Proofs.YtiflfcpoajijaaaGreatDoor.Tm
open Go.Proofs.YtiflfcpoajijaaaGreatDoor.Qm (qOut inB)

noncomputable def bOf (p : Prop) : Bool := @decide p (Classical.propDecidable p)
theorem bOf_true {p : Prop} (h : p) : bOf p = true := by unfold bOf; simp [h]
theorem bOf_false {p : Prop} (h : ¬ p) : bOf p = false := by unfold bOf; simp [h]
theorem bOf_iff {p : Prop} : bOf p = true ↔ p := by unfold bOf; simp
theorem bOf_eq {p : Prop} {b : Bool} (h : b = true ↔ p) : b = bOf p := by
  cases b with
  | true => exact (bOf_true (h.1 rfl)).symm
  | false => exact (bOf_false (fun hp => by have := h.2 hp; cases this)).symm
/-- A number is one of n nodes. -/
def okN (id n : Int) : Bool := decide (fCode n = 0) && inB id 0 (n - 1)
def isV (n x : Int) : Bool := okN x n
def frn (x : Int) : Nat := x.toNat
theorem f_small {n : Int} (h : fCode n = 0) : 1 ≤ n ∧ n ≤ 7 := by
  rcases f_cases n with rfl | rfl | rfl | ⟨_, _, _, _, hd⟩
  · decide
  · decide
  · decide
  · rw [hd] at h; cases h
theorem f_four {n : Int} (h : ¬ fCode n = 0) : fCode n = 4 := by
  rcases f_cases n with rfl | rfl | rfl | ⟨_, _, _, _, hd⟩
  · exact absurd rfl h
  · exact absurd rfl h
  · exact absurd rfl h
  · exact hd
theorem okN_iff {n x : Int} : okN x n = true ↔ fCode n = 0 ∧ 0 ≤ x ∧ x ≤ n - 1 := by
  unfold okN inB; simp
theorem isV_frn {n : Int} {x : Int} (h : isV n x = true) : x = (frn x : Int) ∧ frn x < 7 := by
  obtain ⟨h1, h2, h3⟩ := okN_iff.1 h
  have := f_small h1
  unfold frn
  omega
/-- The set of the first k, as bits. -/
def msk (ms : List Int) : Nat → Nat
  | 0 => 0
  | k + 1 => msk ms k ||| 2 ^ frn (ms.getD k default)
theorem msk_step {ms : List Int} {k : Nat} {x : Int} (h : ms[k]? = some x) : msk ms (k + 1) = msk ms k ||| 2 ^ frn x := by
  show msk ms k ||| 2 ^ frn (ms.getD k default) = _
  rw [List.getD_eq_getElem?_getD, h]; rfl
theorem or_add {h i : Nat} (hh : h < 2 ^ i) : h ||| 2 ^ i = 2 ^ i + h := by
  have := Nat.two_pow_add_eq_or_of_lt hh 1
  simp at this
  rw [this, Nat.or_comm]
theorem pop_step : ∀ h : Fin 128, ∀ i : Fin 7, h.val < 2 ^ i.val → Lib.onesCount (h.val ||| 2 ^ i.val) = Lib.onesCount h.val + 1 := by decide +kernel
theorem pop_zero : Lib.onesCount 0 = 0 := by decide +kernel
/-- The first k are votes, each behind all those ahead of it. -/
def GoodTo (n : Int) (ms : List Int) (k : Nat) : Prop := ∀ j x, j < k → ms[j]? = some x → isV n x = true ∧ msk ms j < 2 ^ frn x
def Rise (ms : List Int) (k : Nat) : Prop := ∀ j x y, j + 1 < k → ms[j]? = some x → ms[j + 1]? = some y → x < y
theorem GoodTo.zero (n : Int) (ms : List Int) : GoodTo n ms 0 := fun j x h => by omega
theorem GoodTo.succ {n : Int} {ms : List Int} {k : Nat} {x : Int} (h : GoodTo n ms k) (hx : ms[k]? = some x) (h1 : isV n x = true) (h2 : msk ms k < 2 ^ frn x) : GoodTo n ms (k + 1) := fun j y hj hy => by
  by_cases e : j = k
  · subst e; rw [hx] at hy; cases hy; exact ⟨h1, h2⟩
  · exact h j y (by omega) hy
theorem GoodTo.less {n : Int} {ms : List Int} {k m : Nat} (h : GoodTo n ms k) (hm : m ≤ k) : GoodTo n ms m := fun j y hj hy => h j y (by omega) hy
theorem pow_le7 {i : Nat} (h : i < 7) : 2 ^ i + 2 ^ i ≤ 128 := by
  have : ∀ i : Fin 7, 2 ^ i.val + 2 ^ i.val ≤ 128 := by decide
  exact this ⟨i, h⟩
theorem good_msk {n : Int} {ms : List Int} : ∀ {k : Nat}, GoodTo n ms k → k ≤ ms.length → msk ms k < 128 ∧ Lib.onesCount (msk ms k) = k ∧ ∀ i, i ≤ 7 → ((∀ j x, j < k → ms[j]? = some x → frn x < i) ↔ msk ms k < 2 ^ i)
  | 0, _, _ => ⟨by show (0 : Nat) < 128; decide, pop_zero, fun i _ => ⟨fun _ => Nat.two_pow_pos i, fun _ j x h => by omega⟩⟩
  | k + 1, h, hk => by
    obtain ⟨x, hx⟩ := Rg.get_at (show k < ms.length by omega)
    obtain ⟨h1, h2, h3⟩ := good_msk (h.less (Nat.le_succ k)) (by omega)
    obtain ⟨g1, g2⟩ := h k x (by omega) hx
    obtain ⟨_, g3⟩ := isV_frn g1
    rw [msk_step hx]
    have e := or_add g2
    have p := pow_le7 g3
    refine ⟨by omega, ?_, fun i hi => ?_⟩
    · have := pop_step ⟨msk ms k, h1⟩ ⟨frn x, g3⟩ g2
      simp only at this
      rw [this, h2]
    · rw [e]
      constructor
      · intro hh
        have hf := hh k x (by omega) hx
        have : 2 ^ (frn x + 1) ≤ 2 ^ i := Nat.pow_le_pow_right (by decide) hf
        rw [Nat.pow_succ] at this
        omega
      · intro hh j y hj hy
        have hfi : frn x < i := by
          refine Nat.lt_of_not_le fun hle => ?_
          have : 2 ^ i ≤ 2 ^ frn x := Nat.pow_le_pow_right (by decide) hle
          omega
        by_cases ej : j = k
        · subst ej; rw [hx] at hy; cases hy; exact hfi
        · exact Nat.lt_trans ((h3 (frn x) (by omega)).2 g2 j y (by omega) hy) hfi
theorem good_all {n : Int} {ms : List Int} : ∀ {k : Nat}, k ≤ ms.length → (GoodTo n ms k ↔ (∀ j x, j < k → ms[j]? = some x → isV n x = true) ∧ Rise ms k)
  | 0, _ => ⟨fun _ => ⟨fun j x h => by omega, fun j x y h => by omega⟩, fun _ => GoodTo.zero n ms⟩
  | k + 1, hk => by
    obtain ⟨x, hx⟩ := Rg.get_at (show k < ms.length by omega)
    have ih := good_all (n := n) (ms := ms) (show k ≤ ms.length by omega)
    constructor
    · intro h
      obtain ⟨a1, a2⟩ := ih.1 (h.less (Nat.le_succ k))
      refine ⟨fun j y hj hy => (h j y hj hy).1, fun j y z hj hy hz => ?_⟩
      by_cases ej : j + 1 = k
      · subst ej
        rw [hx] at hz; cases hz
        obtain ⟨g1, g2⟩ := h (j + 1) x (by omega) hx
        have g0 := (h j y (by omega) hy).1
        have := ((good_msk (h.less (Nat.le_succ (j + 1))) (by omega)).2.2 (frn x) (by have := (isV_frn g1).2; omega)).2 g2 j y (by omega) hy
        rw [(isV_frn g0).1, (isV_frn g1).1]
        omega
      · exact a2 j y z (by omega) hy hz
    · rintro ⟨a1, a2⟩
      have h := ih.2 ⟨fun j y hj hy => a1 j y (by omega) hy, fun j y z hj hy hz => a2 j y z (by omega) hy hz⟩
      refine h.succ hx (a1 k x (by omega) hx) ?_
      obtain ⟨_, _, h3⟩ := good_msk h (by omega)
      have g1 := a1 k x (by omega) hx
      refine (h3 (frn x) (by have := (isV_frn g1).2; omega)).1 fun j y hj hy => ?_
      by_cases ek : k = 0
      · omega
      obtain ⟨m, rfl⟩ : ∃ m, k = m + 1 := ⟨k - 1, by omega⟩
      obtain ⟨z, hz⟩ := Rg.get_at (show m < ms.length by omega)
      have hzx := a2 m z x (by omega) hz hx
      have gz := a1 m z (by omega) hz
      have hzx' : frn z < frn x := by rw [(isV_frn gz).1, (isV_frn g1).1] at hzx; omega
      by_cases ej : j = m
      · subst ej; rw [hz] at hy; cases hy; exact hzx'
      · have hp := (h m z (by omega) hz).2
        have := ((good_msk (h.less (Nat.le_succ m)) (by omega)).2.2 (frn z) (by have := (isV_frn gz).2; omega)).2 hp j y (by omega) hy
        omega
/-- Just a quorum of votes of different nodes, rising. -/
noncomputable def qvB (n : Int) (ms : List Int) : Bool := bOf (GoodTo n ms ms.length) && (decide (fCode n = 0) && decide ((Lib.onesCount (msk ms ms.length) : Int) = qOut n))
theorem qv_not {n : Int} {ms : List Int} {k : Nat} {x : Int} (hx : ms[k]? = some x) (h : ¬ (isV n x = true ∧ msk ms k < 2 ^ frn x)) : qvB n ms = false := by
  unfold qvB
  rw [bOf_false (fun hg => h (hg k x (Rg.lt_at hx) hx))]; rfl
theorem qv_end {n : Int} {ms : List Int} (h : GoodTo n ms ms.length) : qvB n ms = (decide (fCode n = 0) && decide ((Lib.onesCount (msk ms ms.length) : Int) = qOut n)) := by
  unfold qvB; rw [bOf_true h]; rfl
theorem qv_iff {n : Int} {ms : List Int} : qvB n ms = true ↔ fCode n = 0 ∧ (ms.length : Int) = qOut n ∧ (∀ x ∈ ms, isV n x = true) ∧ Rise ms ms.length := by
  unfold qvB
  rw [Bool.and_eq_true, Bool.and_eq_true, bOf_iff, decide_eq_true_eq, decide_eq_true_eq]
  constructor
  · rintro ⟨h1, h2, h3⟩
    rw [(good_msk h1 (Nat.le_refl _)).2.1] at h3
    obtain ⟨a1, a2⟩ := (good_all (Nat.le_refl _)).1 h1
    refine ⟨h2, h3, fun x hx => ?_, a2⟩
    obtain ⟨j, hj, e⟩ := List.getElem_of_mem hx
    exact a1 j x hj (by rw [List.getElem?_eq_getElem hj, e])
  · rintro ⟨h1, h2, h3, h4⟩
    have hg : GoodTo n ms ms.length := (good_all (Nat.le_refl _)).2 ⟨fun j x hj hx => h3 x (List.mem_of_getElem? hx), h4⟩
    refine ⟨hg, h1, ?_⟩
    rw [(good_msk hg (Nat.le_refl _)).2.1]
    exact h2
theorem ret_b {a b : Bool} (h : a = b) : Ending.returned (.bool a) = .returned (.bool b) := by rw [h]
theorem ret_v {a b : Value} (h : a = b) : Ending.returned a = .returned b := by rw [h]
theorem shr_lt : ∀ h : Fin 128, ∀ i : Fin 7, ((h.val / 2 ^ i.val == 0) = decide (h.val < 2 ^ i.val)) := by decide +kernel
set_option maxRecDepth 100000 in
theorem allBelow_any (h i : Nat) (w : World) (hh : h < 128) (hi : i < 7) : Calls Tryz.prog 87 #[.int .u8 h, .int .i64 i] w fun e w' => e = .returned (.bool (decide (h < 2 ^ i))) ∧ w = w' := by
  have hk : ∀ i : Nat, i < 7 → i = 0 ∨ i = 1 ∨ i = 2 ∨ i = 3 ∨ i = 4 ∨ i = 5 ∨ i = 6 := fun i h => by omega
  have hs := shr_lt ⟨h, hh⟩ ⟨i, hi⟩
  simp only at hs
  rw [← hs]
  clear hs
  rcases hk i hi with rfl | rfl | rfl | rfl | rfl | rfl | rfl
  all_goals
    go_enter Tryz.func87, Tryz.ntmps87
    go_wp2_with fail
    go_ret
    refine ⟨ret_b ?_, rfl⟩
    rw [Bool.eq_iff_iff, beq_iff_eq, beq_iff_eq]
    simp only [Nat.reducePow]
    omega
theorem with_or : ∀ h : Fin 128, ∀ i : Fin 7, bits .or .u8 (h.val : Int) ((2 ^ i.val : Nat) : Int) = ((h.val ||| 2 ^ i.val : Nat) : Int) := by decide +kernel
set_option maxRecDepth 100000 in
theorem with_any (h i : Nat) (w : World) (hh : h < 128) (hi : i < 7) : Calls Tryz.prog 88 #[.int .u8 h, .int .i64 i] w fun e w' => e = .returned (.int .u8 ((h ||| 2 ^ i : Nat) : Int)) ∧ w = w' := by
  have hk : ∀ i : Nat, i < 7 → i = 0 ∨ i = 1 ∨ i = 2 ∨ i = 3 ∨ i = 4 ∨ i = 5 ∨ i = 6 := fun i h => by omega
  rcases hk i hi with rfl | rfl | rfl | rfl | rfl | rfl | rfl
  all_goals
    go_enter Tryz.func88, Tryz.ntmps88
    go_wp2_with fail
    go_ret
    refine ⟨ret_v ?_, rfl⟩
    exact congrArg (Value.int .u8) (with_or ⟨h, hh⟩ ⟨_, hi⟩)
set_option maxRecDepth 100000 in
set_option maxHeartbeats 1600000 in
theorem isNode_any (id n : Int) (w : World) : Calls Tryz.prog 86 #[.int .i64 n, .int .i64 id] w fun e w' => e = .returned (.bool (okN id n)) ∧ w = w' := by
  by_cases h : fCode n = 0
  · have hb := f_small h
    have HO : Hid (okN id n = inB id 0 (n - 1)) := by show _ = _; unfold okN; rw [decide_eq_true h]; rfl
    rw [HO.out]
    have HF := implFaultsOf_any n w
    rw [h] at HF
    clear h
    go_enter Tryz.func86, Tryz.ntmps86
    go_wp2_with fail
    refine HF.mono ?_
    rintro e w1 ⟨rfl, hw⟩
    rw [hw]
    clear hw
    go_wp2_with fail
    refine (Qm.within_any id 0 (n - 1) w).mono ?_
    rintro e w2 ⟨rfl, rfl⟩
    go_wp2_with fail
    go_ret
    exact ⟨by simp, rfl⟩
  · have HO : Hid (okN id n = false) := by show _ = _; unfold okN; rw [decide_eq_false h]; rfl
    rw [HO.out]
    have h4 : fCode n = 4 := f_four h
    have HF := implFaultsOf_any n w
    rw [h4] at HF
    clear h h4
    go_enter Tryz.func86, Tryz.ntmps86
    go_wp2_with fail
    refine HF.mono ?_
    rintro e w1 ⟨rfl, hw⟩
    rw [hw]
    clear hw
    go_wp2_with fail
    go_ret
    exact ⟨rfl, rfl⟩
end Go.Proofs.YtiflfcpoajijaaaGreatDoor.Xq

/- Nodes that rise: the program's walk. -/
namespace Go.Proofs.YtiflfcpoajijaaaGreatDoor.Xq
open Go.RowKit Go.Proofs.YtiflfcpoajijaaaGreatDoor.Tm Go.Proofs.YtiflfcpoajijaaaGreatDoor.Sl Go.Proofs.YtiflfcpoajijaaaGreatDoor.Is
open Go.Proofs.YtiflfcpoajijaaaGreatDoor.Qm (qOut inB)
open Go.Proofs.YtiflfcpoajijaaaGreatDoor.Rg (RowG RowG.slice RowG.at lt_at mem_at blk_cell bel_new)

/-- The slice v holds the integers xs. -/
def RowJ (w : World) (v : Value) (xs : List Int) : Prop :=
  ∃ a cap, v = .slice a xs.length cap ∧ (xs = [] ∨ ∃ b off, a = some ⟨b, off, none⟩ ∧ xs.length ≤ cap ∧ b < w.heap.size ∧ ∀ i x, xs[i]? = some x → w.cell? ⟨b, off + i, none⟩ = some (.int .i64 x))
theorem RowJ.below {w w' : World} {v : Value} {xs : List Int} (h : RowJ w v xs) (hb : Below w.heap.size w w') : RowJ w' v xs := by
  obtain ⟨a, cap, rfl, h⟩ := h
  refine ⟨a, cap, rfl, ?_⟩
  rcases h with h | ⟨b, off, rfl, hc, hlt, h⟩
  · exact .inl h
  · exact .inr ⟨b, off, rfl, hc, Nat.lt_of_lt_of_le hlt hb.size, fun i x hi => (hb.cell (p := ⟨b, off + i, none⟩) hlt).trans (h i x hi)⟩
theorem RowJ.of_row {w : World} {v : Value} {xs : List Int} (h : RowI w v xs) : RowJ w v xs := by
  obtain ⟨a, cap, rfl, h, _⟩ := h
  refine ⟨a, cap, rfl, ?_⟩
  rcases h with h | ⟨b, off, rfl, hc, hlt, h⟩
  · exact .inl h
  · refine .inr ⟨b, off, rfl, hc, hlt, fun i x hi => ?_⟩
    have hl := lt_at hi
    have := h i hl
    rw [nth_at hl] at hi
    cases hi
    exact this
theorem RowJ.of_own {w : World} {B : Nat} {v : Value} {xs : List Int} (h : OwnI w B v xs) : RowJ w v xs := by
  obtain ⟨hl, h⟩ := h
  rcases h with ⟨rfl, h0⟩ | ⟨g, cap, cur, rfl, hB, hg, hc, _, hs, htk⟩
  · exact ⟨none, 0, by rw [h0], .inl (List.length_eq_zero_iff.1 h0)⟩
  · refine ⟨_, cap, rfl, .inr ⟨g, 0, rfl, hc, (Array.getElem?_eq_some_iff.1 hg).1, fun i x hi => ?_⟩⟩
    have h1 : (cur.toList.take (xs.length * 1))[i]? = some (.int .i64 x) := by
      rw [htk, List.getElem?_map, hi]; rfl
    rw [List.getElem?_take] at h1
    split at h1
    · simp only [World.cell?, hg, Nat.zero_add]
      simpa using h1
    · cases h1
theorem RowJ.at {w : World} {a : Option Addr} {l cap : Nat} {xs : List Int} {i : Nat} {x : Int} (h : RowJ w (.slice a l cap) xs) (hi : xs[i]? = some x) : ∃ b off, a = some ⟨b, off, none⟩ ∧ b < w.heap.size ∧ w.cell? ⟨b, off + i, none⟩ = some (.int .i64 x) := by
  obtain ⟨a', cap', e, h⟩ := h
  cases e
  rcases h with rfl | ⟨b, off, rfl, _, hlt, h⟩
  · simp at hi
  · exact ⟨b, off, rfl, hlt, h i x hi⟩
theorem ret_ub {a b : Int} {c d : Bool} (h : a = b ∧ c = d) : Ending.returned (.tuple #[.int .u8 a, .bool c]) = .returned (.tuple #[.int .u8 b, .bool d]) := by rw [h.1, h.2]
/-- What risingNodes answers. -/
noncomputable def rnB (n : Int) (ms : List Int) : Bool := bOf (GoodTo n ms ms.length)
noncomputable def rnM (n : Int) (ms : List Int) : Nat := if rnB n ms then msk ms ms.length else 0
theorem rn_not {n : Int} {ms : List Int} {k : Nat} {x : Int} (hx : ms[k]? = some x) (h : ¬ (isV n x = true ∧ msk ms k < 2 ^ frn x)) : rnM n ms = 0 ∧ rnB n ms = false := by
  have e : rnB n ms = false := bOf_false (fun hg => h (hg k x (Rg.lt_at hx) hx))
  exact ⟨by unfold rnM; rw [e]; rfl, e⟩
theorem rn_end {n : Int} {ms : List Int} (h : GoodTo n ms ms.length) : rnM n ms = msk ms ms.length ∧ rnB n ms = true := by
  have e : rnB n ms = true := bOf_true h
  exact ⟨by unfold rnM; rw [e]; rfl, e⟩
theorem rn_iff {n : Int} {ms : List Int} : rnB n ms = true ↔ (∀ x ∈ ms, isV n x = true) ∧ Rise ms ms.length := by
  unfold rnB
  rw [bOf_iff, good_all (Nat.le_refl _)]
  constructor
  · rintro ⟨a1, a2⟩
    refine ⟨fun x hx => ?_, a2⟩
    obtain ⟨j, hj, e⟩ := List.getElem_of_mem hx
    exact a1 j x hj (by rw [List.getElem?_eq_getElem hj, e])
  · rintro ⟨h3, h4⟩
    exact ⟨fun j x hj hx => h3 x (List.mem_of_getElem? hx), h4⟩
theorem rnM_lt {n : Int} {ms : List Int} : rnM n ms < 128 := by
  unfold rnM
  split
  · rename_i h; exact (good_msk (bOf_iff.1 h) (Nat.le_refl _)).1
  · decide
theorem qv_rn {n : Int} {ms : List Int} : qvB n ms = (rnB n ms && (decide (fCode n = 0) && decide ((Lib.onesCount (rnM n ms) : Int) = qOut n))) := by
  cases h : rnB n ms with
  | false =>
    have hb : bOf (GoodTo n ms ms.length) = false := h
    unfold qvB
    rw [hb, Bool.false_and, Bool.false_and]
  | true =>
    have hb : bOf (GoodTo n ms ms.length) = true := h
    have hm : rnM n ms = msk ms ms.length := by unfold rnM; rw [h]; rfl
    unfold qvB
    rw [hb, hm]
set_option maxRecDepth 100000 in
set_option maxHeartbeats 1600000 in
theorem risingNodes_any (n : Int) (v : Value) (fs : List Int) (w : World) (h : RowJ w v fs) (hl : fs.length ≤ 1048600) :
    Calls Tryz.prog 57 #[.int .i64 n, v] w fun e w' => e = .returned (.tuple #[.int .u8 (rnM n fs : Int), .bool (rnB n fs)]) ∧ w = w' := by
  have HR : Hid (RowJ w v fs) := h
  obtain ⟨a, cap, rfl, _⟩ := h
  go_enter Tryz.func57, Tryz.ntmps57
  go_wp2_with fail
  go_loopw [6, 11] (fun hd i wr => ∃ k : Nat, k ≤ fs.length ∧ hd = .int .u8 (msk fs k : Int) ∧ i = .int .i64 k ∧ Hid (GoodTo n fs k) ∧ wr = w) (fun _ i _ => fs.length - (intOf i).toNat)
  case atStart => exact ⟨0, by omega, rfl, rfl, GoodTo.zero n fs, rfl⟩
  case round =>
    obtain ⟨k, hk, rfl, rfl, HZ, rfl⟩ := hrel
    have hmk : msk fs k < 128 := (good_msk HZ.out hk).1
    by_cases hlt : k < fs.length
    · obtain ⟨x, hx⟩ := Rg.get_at hlt
      obtain ⟨b, off, rfl, hbl, c0⟩ := HR.out.at hx
      have HNO := isNode_any x n wr
      cases hv : isV n x with
      | false =>
        have HF : Hid (rnM n fs = 0 ∧ rnB n fs = false) := rn_not hx (fun hh => by rw [hv] at hh; cases hh.1)
        have hv' : okN x n = false := hv
        rw [hv'] at HNO
        clear hv hv' hx hmk
        go_wp2_with (go_at_call 86; refine HNO.mono ?_; rintro e w1 ⟨rfl, rfl⟩)
        go_ret2
        exact ⟨ret_ub ⟨by rw [HF.out.1]; rfl, HF.out.2.symm⟩, rfl⟩
      | true =>
        obtain ⟨e1, e2⟩ := isV_frn hv
        have hv' : okN x n = true := hv
        rw [hv'] at HNO
        obtain ⟨j, HJ⟩ : ∃ j, Hid (frn x = j) := ⟨_, rfl⟩
        rw [HJ.out] at e1 e2
        have HAB := allBelow_any (msk fs k) j wr hmk e2
        have HWI := with_any (msk fs k) j wr hmk e2
        by_cases hb : msk fs k < 2 ^ j
        · have HS : Hid (msk fs (k + 1) = (msk fs k ||| 2 ^ j)) := by show _ = _; rw [msk_step hx, HJ.out]
          have HG : Hid (GoodTo n fs (k + 1)) := HZ.out.succ hx hv (by rw [HJ.out]; exact hb)
          rw [decide_eq_true hb] at HAB
          obtain ⟨q, HQ⟩ : ∃ q, Hid ((msk fs k ||| 2 ^ j) = q) := ⟨_, rfl⟩
          rw [HQ.out] at HWI HS
          subst e1
          clear hb hv hv' hx HJ HQ hmk
          generalize msk fs k = mm at HAB HWI ⊢
          go_wp2_with (first | (go_at_call 86; refine HNO.mono ?_; rintro e w1 ⟨rfl, rfl⟩) | (go_at_call 87; refine HAB.mono ?_; rintro e w1 ⟨rfl, rfl⟩) | (go_at_call 88; refine HWI.mono ?_; rintro e w1 ⟨rfl, rfl⟩))
          exact ⟨⟨k + 1, by omega, by rw [HS.out], by go_num, HG, trivial⟩, by simp [intOf]; omega⟩
        · have HF : Hid (rnM n fs = 0 ∧ rnB n fs = false) := rn_not hx (fun hh => hb (by have := hh.2; rwa [HJ.out] at this))
          rw [decide_eq_false hb] at HAB
          subst e1
          clear hb hv hv' hx HJ HWI hmk
          generalize msk fs k = mm at HAB ⊢
          go_wp2_with (first | (go_at_call 86; refine HNO.mono ?_; rintro e w1 ⟨rfl, rfl⟩) | (go_at_call 87; refine HAB.mono ?_; rintro e w1 ⟨rfl, rfl⟩))
          go_ret2
          exact ⟨ret_ub ⟨by rw [HF.out.1]; rfl, HF.out.2.symm⟩, rfl⟩
    · obtain rfl : k = fs.length := by omega
      have HF : Hid (rnM n fs = msk fs fs.length ∧ rnB n fs = true) := rn_end HZ.out
      clear hmk
      go_wp2_with fail
      go_ret2
      exact ⟨ret_ub ⟨by rw [HF.out.1], HF.out.2.symm⟩, rfl⟩
end Go.Proofs.YtiflfcpoajijaaaGreatDoor.Xq
