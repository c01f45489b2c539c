/- QuorumOf and PrimaryOf, of the program and of the specification. -/
import Derived.Test.YtpljjchjdejcfaaTm
namespace Go.Proofs.Ytpljjchjdejcfaa.Qm
open Go.RowKit Go.Proofs.Ytpljjchjdejcfaa.Tm

/-- What QuorumOf and PrimaryOf answer. -/
def qOut (n : Int) : Int := if n = 1 then 1 else if n = 4 then 3 else if n = 7 then 5 else 0
def pOut (v n : Int) : Int := if fCode n = 0 ∧ 0 ≤ v ∧ v ≤ 20 then v % n else 0
def pCode (v n : Int) : Int := if fCode n = 0 ∧ 0 ≤ v ∧ v ≤ 20 then 0 else 4
def inB (x a b : Int) : Bool := decide (a ≤ x ∧ x ≤ b)
theorem ret_bool {a b : Bool} (h : a = b) : Ending.returned (.bool a) = .returned (.bool b) := by rw [h]
theorem within_any (x a b : Int) (w : World) :
    Calls Try.prog 57 #[.int .i64 x, .int .i64 a, .int .i64 b] w fun e w' => e = .returned (.bool (inB x a b)) ∧ w = w' := by
  by_cases h1 : a ≤ x
  · by_cases h2 : x ≤ b
    all_goals
      go_enter Try.func57, Try.ntmps57
      go_wp2
      go_ret
      exact ⟨ret_bool (by unfold inB; rw [Bool.eq_iff_iff]; simp; try omega), rfl⟩
  · go_enter Try.func57, Try.ntmps57
    go_wp2
    go_ret
    exact ⟨ret_bool (by unfold inB; rw [Bool.eq_iff_iff]; simp; try omega), rfl⟩
theorem l01In_any (x a b : Int) (w : World) :
    Calls Try.prog 56 #[.int .i64 x, .int .i64 a, .int .i64 b] w fun e w' => e = .returned (.bool (inB x a b)) ∧ w = w' := by
  by_cases h1 : a ≤ x
  · by_cases h2 : x ≤ b
    all_goals
      go_enter Try.func56, Try.ntmps56
      go_wp2
      go_ret
      exact ⟨ret_bool (by unfold inB; rw [Bool.eq_iff_iff]; simp; try omega), rfl⟩
  · go_enter Try.func56, Try.ntmps56
    go_wp2
    go_ret
    exact ⟨ret_bool (by unfold inB; rw [Bool.eq_iff_iff]; simp; try omega), rfl⟩
theorem q_none {n : Int} (h1 : n ≠ 1) (h2 : n ≠ 4) (h3 : n ≠ 7) : qOut n = 0 := by unfold qOut; rw [if_neg h1, if_neg h2, if_neg h3]
set_option maxRecDepth 100000 in
set_option maxHeartbeats 400000 in
theorem implQuorumOf_any (n : Int) (w : World) : Calls Try.prog 13 #[.int .i64 n] w fun e w' => e = .returned (.tuple #[.int .i64 (qOut n), .int .i64 (fCode n)]) ∧ w = w' := by
  rcases f_cases n with rfl | rfl | rfl | ⟨h1, h2, h3, e1, e2⟩
  · have C : Calls Try.prog 17 #[.int .i64 1] w fun e w' => e = .returned (.tuple #[.int .i64 0, .int .i64 0]) ∧ w' = w := implFaultsOf_any 1 w
    go_enter Try.func13, Try.ntmps13
    go_wp2_with fail
    refine C.mono ?_
    rintro e w1 ⟨rfl, rfl⟩
    go_wp2_with fail
    go_ret2
    exact ⟨ret_ii ⟨by decide, by decide⟩, rfl⟩
  · have C : Calls Try.prog 17 #[.int .i64 4] w fun e w' => e = .returned (.tuple #[.int .i64 1, .int .i64 0]) ∧ w' = w := implFaultsOf_any 4 w
    go_enter Try.func13, Try.ntmps13
    go_wp2_with fail
    refine C.mono ?_
    rintro e w1 ⟨rfl, rfl⟩
    go_wp2_with fail
    go_ret2
    exact ⟨ret_ii ⟨by decide, by decide⟩, rfl⟩
  · have C : Calls Try.prog 17 #[.int .i64 7] w fun e w' => e = .returned (.tuple #[.int .i64 2, .int .i64 0]) ∧ w' = w := implFaultsOf_any 7 w
    go_enter Try.func13, Try.ntmps13
    go_wp2_with fail
    refine C.mono ?_
    rintro e w1 ⟨rfl, rfl⟩
    go_wp2_with fail
    go_ret2
    exact ⟨ret_ii ⟨by decide, by decide⟩, rfl⟩
  · have C : Calls Try.prog 17 #[.int .i64 n] w fun e w' => e = .returned (.tuple #[.int .i64 0, .int .i64 4]) ∧ w' = w := by have := implFaultsOf_any n w; rwa [e1, e2] at this
    have HE : Hid (qOut n = 0 ∧ fCode n = 4) := ⟨q_none h1 h2 h3, e2⟩
    clear h1 h2 h3 e1 e2
    go_enter Try.func13, Try.ntmps13
    go_wp2_with fail
    refine C.mono ?_
    rintro e w1 ⟨rfl, rfl⟩
    go_wp2_with fail
    go_ret2
    exact ⟨ret_ii ⟨HE.out.1.symm, HE.out.2.symm⟩, rfl⟩
set_option maxRecDepth 100000 in
set_option maxHeartbeats 400000 in
theorem l04Nodes_any (n : Int) (w : World) : Calls Try.prog 54 #[.int .i64 n] w fun e w' => e = .returned (.bool (decide (fCode n = 0))) ∧ w = w' := by
  rcases f_cases n with rfl | rfl | rfl | ⟨h1, h2, h3, _, hc⟩
  · go_enter Try.func54, Try.ntmps54
    go_wp2_with fail
    go_ret
    exact ⟨rfl, rfl⟩
  · go_enter Try.func54, Try.ntmps54
    go_wp2_with fail
    go_ret
    exact ⟨rfl, rfl⟩
  · go_enter Try.func54, Try.ntmps54
    go_wp2_with fail
    go_ret
    exact ⟨rfl, rfl⟩
  · have HC : Hid (fCode n = 4) := hc
    clear hc
    go_enter Try.func54, Try.ntmps54
    go_wp2_with fail
    go_ret
    exact ⟨by rw [HC.out]; simp [h1, h2, h3], rfl⟩
set_option maxRecDepth 100000 in
set_option maxHeartbeats 400000 in
theorem l06Quorum_any (n : Int) (w : World) (h : fCode n = 0) : Calls Try.prog 55 #[.int .i64 n] w fun e w' => e = .returned (.int .i64 (qOut n)) ∧ w = w' := by
  rcases f_cases n with rfl | rfl | rfl | ⟨h1, h2, h3, _, hc⟩
  · go_enter Try.func55, Try.ntmps55
    go_wp2_with fail
    go_ret
    exact ⟨rfl, rfl⟩
  · go_enter Try.func55, Try.ntmps55
    go_wp2_with fail
    go_ret
    exact ⟨rfl, rfl⟩
  · go_enter Try.func55, Try.ntmps55
    go_wp2_with fail
    go_ret
    exact ⟨rfl, rfl⟩
  · rw [hc] at h; cases h
set_option maxRecDepth 100000 in
set_option maxHeartbeats 400000 in
theorem specQuorumOf_any (n : Int) (w : World) : Calls Try.prog 12 #[.int .i64 n] w fun e w' => e = .returned (.tuple #[.int .i64 (qOut n), .int .i64 (fCode n)]) ∧ w = w' := by
  by_cases hc : fCode n = 0
  · have C := l04Nodes_any n w
    rw [decide_eq_true hc] at C
    have D := l06Quorum_any n w hc
    have HE : Hid (0 = fCode n) := hc.symm
    clear hc
    go_enter Try.func12, Try.ntmps12
    go_wp2_with fail
    refine C.mono ?_
    rintro e w1 ⟨rfl, rfl⟩
    go_wp2_with fail
    refine D.mono ?_
    rintro e w1 ⟨rfl, rfl⟩
    go_wp2_with fail
    go_ret2
    exact ⟨ret_ii ⟨rfl, HE.out⟩, rfl⟩
  · have C := l04Nodes_any n w
    rw [decide_eq_false hc] at C
    have HE : Hid (0 = qOut n ∧ 4 = fCode n) := by
      rcases f_cases n with rfl | rfl | rfl | ⟨h1, h2, h3, _, hd⟩
      · exact absurd rfl hc
      · exact absurd rfl hc
      · exact absurd rfl hc
      · exact ⟨(q_none h1 h2 h3).symm, hd.symm⟩
    clear hc
    go_enter Try.func12, Try.ntmps12
    go_wp2_with fail
    refine C.mono ?_
    rintro e w1 ⟨rfl, rfl⟩
    go_wp2_with fail
    go_ret2
    exact ⟨ret_ii HE.out, rfl⟩
theorem p_none {v n : Int} (h : ¬ (fCode n = 0 ∧ 0 ≤ v ∧ v ≤ 20)) : pOut v n = 0 ∧ pCode v n = 4 := by unfold pOut pCode; rw [if_neg h, if_neg h]; exact ⟨rfl, rfl⟩
theorem p_some {v n : Int} (h : fCode n = 0 ∧ 0 ≤ v ∧ v ≤ 20) : pOut v n = v % n ∧ pCode v n = 0 := by unfold pOut pCode; rw [if_pos h, if_pos h]; exact ⟨rfl, rfl⟩
set_option maxRecDepth 100000 in
set_option maxHeartbeats 400000 in
theorem implPrimaryOf_any (v n : Int) (w : World) : Calls Try.prog 15 #[.int .i64 v, .int .i64 n] w fun e w' => e = .returned (.tuple #[.int .i64 (pOut v n), .int .i64 (pCode v n)]) ∧ w = w' := by
  have C := implFaultsOf_any n w
  have D := within_any v 0 20 w
  by_cases hc : fCode n = 0
  · rw [hc] at C
    by_cases hv : 0 ≤ v ∧ v ≤ 20
    · have HE : Hid (v % n = pOut v n ∧ 0 = pCode v n) := ⟨(p_some ⟨hc, hv⟩).1.symm, (p_some ⟨hc, hv⟩).2.symm⟩
      rw [show inB v 0 20 = true by unfold inB; exact decide_eq_true hv] at D
      have hn : n = 1 ∨ n = 4 ∨ n = 7 := by
        rcases f_cases n with h | h | h | ⟨_, _, _, _, hd⟩
        · exact .inl h
        · exact .inr (.inl h)
        · exact .inr (.inr h)
        · rw [hc] at hd; cases hd
      obtain ⟨k, rfl⟩ : ∃ k : Nat, v = k := ⟨v.toNat, by omega⟩
      have hk := hv.2
      clear hc hv
      generalize fOut n = fo at C
      rcases hn with rfl | rfl | rfl
      all_goals
        go_enter Try.func15, Try.ntmps15
        go_wp2_with fail
        refine C.mono ?_
        rintro e w1 ⟨rfl, rfl⟩
        go_wp2_with fail
        refine D.mono ?_
        rintro e w1 ⟨rfl, rfl⟩
        go_wp2_with fail
        go_ret2
        exact ⟨ret_ii (by first | exact HE.out | (have h := HE.out; refine ⟨?_, h.2⟩; omega)), rfl⟩
    · have HE : Hid (0 = pOut v n ∧ 4 = pCode v n) := ⟨(p_none (fun h => hv h.2)).1.symm, (p_none (fun h => hv h.2)).2.symm⟩
      rw [show inB v 0 20 = false by unfold inB; exact decide_eq_false hv] at D
      clear hc hv
      generalize fOut n = fo at C
      go_enter Try.func15, Try.ntmps15
      go_wp2_with fail
      refine C.mono ?_
      rintro e w1 ⟨rfl, rfl⟩
      go_wp2_with fail
      refine D.mono ?_
      rintro e w1 ⟨rfl, rfl⟩
      go_wp2_with fail
      go_ret2
      exact ⟨ret_ii (by first | exact HE.out | (have h := HE.out; refine ⟨?_, h.2⟩; omega)), rfl⟩
  · have HE : Hid (0 = pOut v n ∧ 4 = pCode v n) := ⟨(p_none (fun h => hc h.1)).1.symm, (p_none (fun h => hc h.1)).2.symm⟩
    have h4 : fCode n = 4 := by
      rcases f_cases n with rfl | rfl | rfl | ⟨_, _, _, _, hd⟩
      · exact absurd rfl hc
      · exact absurd rfl hc
      · exact absurd rfl hc
      · exact hd
    rw [h4] at C
    clear hc h4
    generalize fOut n = fo at C
    go_enter Try.func15, Try.ntmps15
    go_wp2_with fail
    refine C.mono ?_
    rintro e w1 ⟨rfl, rfl⟩
    go_wp2_with fail
    go_ret2
    exact ⟨ret_ii (by first | exact HE.out | (have h := HE.out; refine ⟨?_, h.2⟩; omega)), rfl⟩
set_option maxRecDepth 100000 in
set_option maxHeartbeats 400000 in
theorem specPrimaryOf_any (v n : Int) (w : World) : Calls Try.prog 14 #[.int .i64 v, .int .i64 n] w fun e w' => e = .returned (.tuple #[.int .i64 (pOut v n), .int .i64 (pCode v n)]) ∧ w = w' := by
  have C := l04Nodes_any n w
  have D := l01In_any v 0 20 w
  by_cases hc : fCode n = 0
  · rw [decide_eq_true hc] at C
    by_cases hv : 0 ≤ v ∧ v ≤ 20
    · have HE : Hid (v % n = pOut v n ∧ 0 = pCode v n) := ⟨(p_some ⟨hc, hv⟩).1.symm, (p_some ⟨hc, hv⟩).2.symm⟩
      rw [show inB v 0 20 = true by unfold inB; exact decide_eq_true hv] at D
      have hn : n = 1 ∨ n = 4 ∨ n = 7 := by
        rcases f_cases n with h | h | h | ⟨_, _, _, _, hd⟩
        · exact .inl h
        · exact .inr (.inl h)
        · exact .inr (.inr h)
        · rw [hc] at hd; cases hd
      obtain ⟨k, rfl⟩ : ∃ k : Nat, v = k := ⟨v.toNat, by omega⟩
      have hk := hv.2
      clear hc hv
      rcases hn with rfl | rfl | rfl
      all_goals
        go_enter Try.func14, Try.ntmps14
        go_wp2_with fail
        refine C.mono ?_
        rintro e w1 ⟨rfl, rfl⟩
        go_wp2_with fail
        refine D.mono ?_
        rintro e w1 ⟨rfl, rfl⟩
        go_wp2_with fail
        go_ret2
        exact ⟨ret_ii (by first | exact HE.out | (have h := HE.out; refine ⟨?_, h.2⟩; omega)), rfl⟩
    · have HE : Hid (0 = pOut v n ∧ 4 = pCode v n) := ⟨(p_none (fun h => hv h.2)).1.symm, (p_none (fun h => hv h.2)).2.symm⟩
      rw [show inB v 0 20 = false by unfold inB; exact decide_eq_false hv] at D
      clear hc hv
      go_enter Try.func14, Try.ntmps14
      go_wp2_with fail
      refine C.mono ?_
      rintro e w1 ⟨rfl, rfl⟩
      go_wp2_with fail
      refine D.mono ?_
      rintro e w1 ⟨rfl, rfl⟩
      go_wp2_with fail
      go_ret2
      exact ⟨ret_ii (by first | exact HE.out | (have h := HE.out; refine ⟨?_, h.2⟩; omega)), rfl⟩
  · have HE : Hid (0 = pOut v n ∧ 4 = pCode v n) := ⟨(p_none (fun h => hc h.1)).1.symm, (p_none (fun h => hc h.1)).2.symm⟩
    rw [decide_eq_false hc] at C
    clear hc
    go_enter Try.func14, Try.ntmps14
    go_wp2_with fail
    refine C.mono ?_
    rintro e w1 ⟨rfl, rfl⟩
    go_wp2_with fail
    go_ret2
    exact ⟨ret_ii (by first | exact HE.out | (have h := HE.out; refine ⟨?_, h.2⟩; omega)), rfl⟩
end Go.Proofs.Ytpljjchjdejcfaa.Qm
