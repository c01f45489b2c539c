/- A number's text is read: the specification. -/
import Derived.Test.YtlhokhccjejcoaaGrfL
import Derived.Test.YtlhokhccjejcoaaAp
import Derived.Deep.Cut
import Derived.Deep.RegionLaw
import Derived.Deep.RegionWith
namespace Go.Proofs.Ytlhokhccjejcoaa.Gr12
open Go.RowKit
open Go.Proofs.Ytlhokhccjejcoaa.Nm (digB dig_high)
open Go.Proofs.Ytlhokhccjejcoaa.Rq (inB ret_bool)

set_option maxRecDepth 100000 in
set_option maxHeartbeats 1600000 in
theorem l00Number_any (s : ByteArray) (w : World) (hs : s.size ≤ 70000) :
    Calls Try.prog 15 #[.string s] w fun e w' => e = .returned (.tuple #[.int .i64 (nV s), .bool (nB s)]) ∧ w' = w := by
  by_cases h0 : s.size = 0
  · have HE : Hid (nV s = 0 ∧ nB s = false) := by
      have hl : s.data.toList = [] := List.length_eq_zero_iff.1 (by rw [size_list]; exact h0)
      show _ ∧ _
      unfold nV nB; rw [hl]; exact ⟨rfl, rfl⟩
    have h1 : ¬ (0 : Int) < (s.size : Int) := by omega
    have h2 : ((s.size : Int) == 0) = true := by rw [beq_iff_eq]; omega
    clear h0
    go_enter Try.func15, Try.ntmps15
    go_wp2
    go_ret2
    exact ⟨ret_ib ⟨HE.out.1.symm, HE.out.2.symm⟩, rfl⟩
  have hp0 : 0 < s.size := by omega
  have hpI : (0 : Int) < (s.size : Int) := by omega
  have hsI : (s.size : Int) ≤ 70000 := by omega
  have hs1 : (1 : Int) ≤ (s.size : Int) := by omega
  have hcp : (((s[0]'hp0).toNat : Int) == 45) = cpB s := by
    rw [byte45]; unfold cpB; rw [head_at hp0]; simp
  cases hq : cpB s with
  | true =>
    have HQ : Hid (cpB s = true) := hq
    have HD : Hid (cpS s = s.extract 1 s.size) := by show _ = _; unfold cpS; rw [hq]; rfl
    rw [hq] at hcp
    clear hq h0
    obtain ⟨d, HDE⟩ : ∃ d, Hid (s.extract 1 s.size = d) := ⟨_, rfl⟩
    rw [HDE.out] at HD
    by_cases h1 : 1 ≤ d.size ∧ d.size ≤ 18
    · have hp : 0 < d.size := by omega
      have e0 : ((d.size : Int) == 0) = false := by rw [beq_eq_false_iff_ne]; omega
      have e18 : ¬ (18 : Int) < (d.size : Int) := by omega
      have hI1 : (0 : Int) < (d.size : Int) := by omega
      have HB : Hid (1 ≤ d.size ∧ d.size ≤ 18) := h1
      cases hl : ldB true d.data.toList with
      | true =>
        have HE : Hid (nV s = 0 ∧ nB s = false) := n_no (.inr (by rw [HQ.out, HD.out]; exact hl))
        have hz1 : (((d[0]'hp).toNat : Int) == 48) = true := by
          unfold ldB at hl; rw [head_at hp, Bool.and_eq_true] at hl
          rw [byte48]; simpa using hl.1
        clear hl h1
        by_cases hls : (1 : Int) < (d.size : Int)
        all_goals
         go_enter Try.func15, Try.ntmps15
         go_upto_region 5 with fail
         rw [HDE.out]
         go_wp2
         go_ret2
         exact ⟨ret_ib ⟨HE.out.1.symm, HE.out.2.symm⟩, rfl⟩
      | false =>
        have HL : Hid (ldB true d.data.toList = false) := hl
        obtain ⟨z0, HZ0⟩ : ∃ z0, Hid ((((d[0]'hp).toNat : Int) == 48) = z0) := ⟨_, rfl⟩
        have hz0 := HZ0.out
        have hzf : z0 = false := by
          rw [← hz0, byte48]
          unfold ldB at hl
          rw [head_at hp] at hl
          simpa using hl
        subst hzf
        clear hl h1
        go_enter Try.func15, Try.ntmps15
        go_upto_region 5 with fail
        rw [HDE.out]
        go_wp2
        clear hz0 HZ0 e0 e18
        go_loopw [5, 6] (fun v i w' => ∃ k : Nat, k ≤ d.size ∧ v = .int .i64 (vlT d k : Int) ∧ i = .int .i64 k ∧ w' = w ∧ Hid (∀ j (hj : j < d.size), j < k → digB ((d[j]'hj).toNat : Int) = true)) (fun _ i _ => d.size - (intOf i).toNat)
        case atStart => exact ⟨0, Nat.zero_le _, rfl, rfl, rfl, fun j hj hjk => absurd hjk (by omega)⟩
        case round =>
          obtain ⟨k, hk2, rfl, rfl, rfl, hall⟩ := hrel
          have hv : (vlT d k : Int) ≤ 1000000000000000000 := by
            have h1 := vlT_lt d k hk2 hall.out
            have h2 := pow18 (Nat.le_trans hk2 HB.out.2)
            omega
          have hv0 : (0 : Int) ≤ (vlT d k : Int) := by omega
          by_cases hlt : k < d.size
          · have hv7 : (vlT d k : Int) ≤ 100000000000000000 := by
              have h1 := vlT_lt d k hk2 hall.out
              have h2 := pow17 (k := k) (by have := HB.out.2; omega)
              omega
            have hI : (k : Int) < (d.size : Int) := by omega
            have hk18 : (k : Int) ≤ 18 := by have := HB.out.2; omega
            cases hd : digB ((d[k]'hlt).toNat : Int) with
            | false =>
              have hn : Hid (nV s = 0 ∧ nB s = false) := n_no (.inl (by rw [HD.out]; exact okD_at hlt hd))
              have hb : ((d[k]'hlt).toNat : Int) < 48 ∨ 57 < ((d[k]'hlt).toNat : Int) := by
                unfold digB at hd; rw [decide_eq_false_iff_not] at hd; omega
              rcases hb with hb | hb
              · go_wp2
                go_ret2
                exact ⟨ret_ib ⟨hn.out.1.symm, hn.out.2.symm⟩, rfl⟩
              · have hb' : ¬ ((d[k]'hlt).toNat : Int) < 48 := by omega
                go_wp2
                go_ret2
                exact ⟨ret_ib ⟨hn.out.1.symm, hn.out.2.symm⟩, rfl⟩
            | true =>
              have hb : 48 ≤ ((d[k]'hlt).toNat : Int) ∧ ((d[k]'hlt).toNat : Int) ≤ 57 := by unfold digB at hd; simpa using hd
              have HS : Hid ((vlT d (k + 1) : Int) = (vlT d k : Int) * 10 + ((d[k]'hlt).toNat : Int) - 48) := by show _ = _; rw [vlT_succ d k hlt]; omega
              have HA : Hid (∀ j (hj : j < d.size), j < k + 1 → digB ((d[j]'hj).toNat : Int) = true) := fun j hj hjk => by
                by_cases e : j = k
                · subst e; exact hd
                · exact hall.out j hj (by omega)
              obtain ⟨hb1, hb2⟩ := hb
              have hb3 : ¬ ((d[k]'hlt).toNat : Int) < 48 := by omega
              have hb4 : ¬ (57 : Int) < ((d[k]'hlt).toNat : Int) := by omega
              go_wp2
              go_roundw
              case rel => exact ⟨k + 1, by omega, by rw [HS.out], by go_num, trivial, HA⟩
              case measure => simp [intOf]; omega
          · obtain rfl : k = d.size := by omega
            have HE : Hid (nV s = (if true then -(vlT d d.size : Int) else (vlT d d.size : Int)) ∧ nB s = true) := by
              show _ ∧ _
              have := n_yes (s := s) (by rw [HD.out]; exact okD_all HB.out.1 HB.out.2 (fun j hj => hall.out j hj hj)) (by rw [HQ.out, HD.out]; exact HL.out)
              rwa [HQ.out, HD.out, ← vlT_all] at this
            have hI : ¬ (d.size : Int) < (d.size : Int) := by omega
            go_wp2
            go_ret2
            exact ⟨ret_ib ⟨by rw [HE.out.1]; simp, HE.out.2.symm⟩, rfl⟩
    · have HE : Hid (nV s = 0 ∧ nB s = false) := n_no (.inl (by rw [HD.out]; exact okD_len h1))
      by_cases h2 : d.size = 0
      · have e0 : ((d.size : Int) == 0) = true := by rw [beq_iff_eq]; omega
        clear h1 h2
        go_enter Try.func15, Try.ntmps15
        go_upto_region 5 with fail
        rw [HDE.out]
        go_wp2
        go_ret2
        exact ⟨ret_ib ⟨HE.out.1.symm, HE.out.2.symm⟩, rfl⟩
      · have e0 : ((d.size : Int) == 0) = false := by rw [beq_eq_false_iff_ne]; omega
        have e18 : (18 : Int) < (d.size : Int) := by omega
        clear h1 h2
        go_enter Try.func15, Try.ntmps15
        go_upto_region 5 with fail
        rw [HDE.out]
        go_wp2
        go_ret2
        exact ⟨ret_ib ⟨HE.out.1.symm, HE.out.2.symm⟩, rfl⟩
  | false =>
    have HQ : Hid (cpB s = false) := hq
    have HD : Hid (cpS s = s) := by show _ = _; unfold cpS; rw [hq]; rfl
    rw [hq] at hcp
    clear hq h0
    by_cases h1 : 1 ≤ s.size ∧ s.size ≤ 18
    · have hp : 0 < s.size := by omega
      have e0 : ((s.size : Int) == 0) = false := by rw [beq_eq_false_iff_ne]; omega
      have e18 : ¬ (18 : Int) < (s.size : Int) := by omega
      have hI1 : (0 : Int) < (s.size : Int) := by omega
      have HB : Hid (1 ≤ s.size ∧ s.size ≤ 18) := h1
      cases hl : ldB false s.data.toList with
      | true =>
        have HE : Hid (nV s = 0 ∧ nB s = false) := n_no (.inr (by rw [HQ.out, HD.out]; exact hl))
        have hz1 : (((s[0]'hp).toNat : Int) == 48) = true := by
          unfold ldB at hl; rw [head_at hp, Bool.and_eq_true] at hl
          rw [byte48]; simpa using hl.1
        have hls : (1 : Int) < (s.size : Int) := by
          unfold ldB at hl; rw [Bool.and_eq_true] at hl
          have := hl.2; simp at this; omega
        clear hl h1
        go_enter Try.func15, Try.ntmps15
        go_wp2
        go_ret2
        exact ⟨ret_ib ⟨HE.out.1.symm, HE.out.2.symm⟩, rfl⟩
      | false =>
        have HL : Hid (ldB false s.data.toList = false) := hl
        obtain ⟨z0, HZ0⟩ : ∃ z0, Hid ((((s[0]'hp).toNat : Int) == 48) = z0) := ⟨_, rfl⟩
        have hz0 := HZ0.out
        have hls : z0 = true → ¬ (1 : Int) < (s.size : Int) := fun hz => by
          rw [hz, byte48] at hz0
          have hh : (s.data.toList.head? == some 48) = true := by rw [head_at hp]; simpa using hz0
          unfold ldB at hl
          rw [hh] at hl
          simp at hl
          omega
        clear hl h1
        go_enter Try.func15, Try.ntmps15
        cases z0 with
        | true =>
          have hls1 := hls rfl
          clear hls
          go_wp2
          clear hz0 HZ0 hls1
          go_loopw [5, 6] (fun v i w' => ∃ k : Nat, k ≤ s.size ∧ v = .int .i64 (vlT s k : Int) ∧ i = .int .i64 k ∧ w' = w ∧ Hid (∀ j (hj : j < s.size), j < k → digB ((s[j]'hj).toNat : Int) = true)) (fun _ i _ => s.size - (intOf i).toNat)
          case atStart => exact ⟨0, Nat.zero_le _, rfl, rfl, rfl, fun j hj hjk => absurd hjk (by omega)⟩
          case round =>
            obtain ⟨k, hk2, rfl, rfl, rfl, hall⟩ := hrel
            have hv : (vlT s k : Int) ≤ 1000000000000000000 := by
              have h1 := vlT_lt s k hk2 hall.out
              have h2 := pow18 (Nat.le_trans hk2 HB.out.2)
              omega
            have hv0 : (0 : Int) ≤ (vlT s k : Int) := by omega
            by_cases hlt : k < s.size
            · have hv7 : (vlT s k : Int) ≤ 100000000000000000 := by
                have h1 := vlT_lt s k hk2 hall.out
                have h2 := pow17 (k := k) (by have := HB.out.2; omega)
                omega
              have hI : (k : Int) < (s.size : Int) := by omega
              have hk18 : (k : Int) ≤ 18 := by have := HB.out.2; omega
              cases hd : digB ((s[k]'hlt).toNat : Int) with
              | false =>
                have hn : Hid (nV s = 0 ∧ nB s = false) := n_no (.inl (by rw [HD.out]; exact okD_at hlt hd))
                have hb : ((s[k]'hlt).toNat : Int) < 48 ∨ 57 < ((s[k]'hlt).toNat : Int) := by
                  unfold digB at hd; rw [decide_eq_false_iff_not] at hd; omega
                rcases hb with hb | hb
                · go_wp2
                  go_ret2
                  exact ⟨ret_ib ⟨hn.out.1.symm, hn.out.2.symm⟩, rfl⟩
                · have hb' : ¬ ((s[k]'hlt).toNat : Int) < 48 := by omega
                  go_wp2
                  go_ret2
                  exact ⟨ret_ib ⟨hn.out.1.symm, hn.out.2.symm⟩, rfl⟩
              | true =>
                have hb : 48 ≤ ((s[k]'hlt).toNat : Int) ∧ ((s[k]'hlt).toNat : Int) ≤ 57 := by unfold digB at hd; simpa using hd
                have HS : Hid ((vlT s (k + 1) : Int) = (vlT s k : Int) * 10 + ((s[k]'hlt).toNat : Int) - 48) := by show _ = _; rw [vlT_succ s k hlt]; omega
                have HA : Hid (∀ j (hj : j < s.size), j < k + 1 → digB ((s[j]'hj).toNat : Int) = true) := fun j hj hjk => by
                  by_cases e : j = k
                  · subst e; exact hd
                  · exact hall.out j hj (by omega)
                obtain ⟨hb1, hb2⟩ := hb
                have hb3 : ¬ ((s[k]'hlt).toNat : Int) < 48 := by omega
                have hb4 : ¬ (57 : Int) < ((s[k]'hlt).toNat : Int) := by omega
                go_wp2
                go_roundw
                case rel => exact ⟨k + 1, by omega, by rw [HS.out], by go_num, trivial, HA⟩
                case measure => simp [intOf]; omega
            · obtain rfl : k = s.size := by omega
              have HE : Hid (nV s = (if false then -(vlT s s.size : Int) else (vlT s s.size : Int)) ∧ nB s = true) := by
                show _ ∧ _
                have := n_yes (s := s) (by rw [HD.out]; exact okD_all HB.out.1 HB.out.2 (fun j hj => hall.out j hj hj)) (by rw [HQ.out, HD.out]; exact HL.out)
                rwa [HQ.out, HD.out, ← vlT_all] at this
              have hI : ¬ (s.size : Int) < (s.size : Int) := by omega
              go_wp2
              go_ret2
              exact ⟨ret_ib ⟨by rw [HE.out.1]; simp, HE.out.2.symm⟩, rfl⟩
        | false =>
          clear hls
          go_wp2
          clear hz0 HZ0
          go_loopw [5, 6] (fun v i w' => ∃ k : Nat, k ≤ s.size ∧ v = .int .i64 (vlT s k : Int) ∧ i = .int .i64 k ∧ w' = w ∧ Hid (∀ j (hj : j < s.size), j < k → digB ((s[j]'hj).toNat : Int) = true)) (fun _ i _ => s.size - (intOf i).toNat)
          case atStart => exact ⟨0, Nat.zero_le _, rfl, rfl, rfl, fun j hj hjk => absurd hjk (by omega)⟩
          case round =>
            obtain ⟨k, hk2, rfl, rfl, rfl, hall⟩ := hrel
            have hv : (vlT s k : Int) ≤ 1000000000000000000 := by
              have h1 := vlT_lt s k hk2 hall.out
              have h2 := pow18 (Nat.le_trans hk2 HB.out.2)
              omega
            have hv0 : (0 : Int) ≤ (vlT s k : Int) := by omega
            by_cases hlt : k < s.size
            · have hv7 : (vlT s k : Int) ≤ 100000000000000000 := by
                have h1 := vlT_lt s k hk2 hall.out
                have h2 := pow17 (k := k) (by have := HB.out.2; omega)
                omega
              have hI : (k : Int) < (s.size : Int) := by omega
              have hk18 : (k : Int) ≤ 18 := by have := HB.out.2; omega
              cases hd : digB ((s[k]'hlt).toNat : Int) with
              | false =>
                have hn : Hid (nV s = 0 ∧ nB s = false) := n_no (.inl (by rw [HD.out]; exact okD_at hlt hd))
                have hb : ((s[k]'hlt).toNat : Int) < 48 ∨ 57 < ((s[k]'hlt).toNat : Int) := by
                  unfold digB at hd; rw [decide_eq_false_iff_not] at hd; omega
                rcases hb with hb | hb
                · go_wp2
                  go_ret2
                  exact ⟨ret_ib ⟨hn.out.1.symm, hn.out.2.symm⟩, rfl⟩
                · have hb' : ¬ ((s[k]'hlt).toNat : Int) < 48 := by omega
                  go_wp2
                  go_ret2
                  exact ⟨ret_ib ⟨hn.out.1.symm, hn.out.2.symm⟩, rfl⟩
              | true =>
                have hb : 48 ≤ ((s[k]'hlt).toNat : Int) ∧ ((s[k]'hlt).toNat : Int) ≤ 57 := by unfold digB at hd; simpa using hd
                have HS : Hid ((vlT s (k + 1) : Int) = (vlT s k : Int) * 10 + ((s[k]'hlt).toNat : Int) - 48) := by show _ = _; rw [vlT_succ s k hlt]; omega
                have HA : Hid (∀ j (hj : j < s.size), j < k + 1 → digB ((s[j]'hj).toNat : Int) = true) := fun j hj hjk => by
                  by_cases e : j = k
                  · subst e; exact hd
                  · exact hall.out j hj (by omega)
                obtain ⟨hb1, hb2⟩ := hb
                have hb3 : ¬ ((s[k]'hlt).toNat : Int) < 48 := by omega
                have hb4 : ¬ (57 : Int) < ((s[k]'hlt).toNat : Int) := by omega
                go_wp2
                go_roundw
                case rel => exact ⟨k + 1, by omega, by rw [HS.out], by go_num, trivial, HA⟩
                case measure => simp [intOf]; omega
            · obtain rfl : k = s.size := by omega
              have HE : Hid (nV s = (if false then -(vlT s s.size : Int) else (vlT s s.size : Int)) ∧ nB s = true) := by
                show _ ∧ _
                have := n_yes (s := s) (by rw [HD.out]; exact okD_all HB.out.1 HB.out.2 (fun j hj => hall.out j hj hj)) (by rw [HQ.out, HD.out]; exact HL.out)
                rwa [HQ.out, HD.out, ← vlT_all] at this
              have hI : ¬ (s.size : Int) < (s.size : Int) := by omega
              go_wp2
              go_ret2
              exact ⟨ret_ib ⟨by rw [HE.out.1]; simp, HE.out.2.symm⟩, rfl⟩
    · have HE : Hid (nV s = 0 ∧ nB s = false) := n_no (.inl (by rw [HD.out]; exact okD_len h1))
      by_cases h2 : s.size = 0
      · have e0 : ((s.size : Int) == 0) = true := by rw [beq_iff_eq]; omega
        clear h1 h2
        go_enter Try.func15, Try.ntmps15
        go_wp2
        go_ret2
        exact ⟨ret_ib ⟨HE.out.1.symm, HE.out.2.symm⟩, rfl⟩
      · have e0 : ((s.size : Int) == 0) = false := by rw [beq_eq_false_iff_ne]; omega
        have e18 : (18 : Int) < (s.size : Int) := by omega
        clear h1 h2
        go_enter Try.func15, Try.ntmps15
        go_wp2
        go_ret2
        exact ⟨ret_ib ⟨HE.out.1.symm, HE.out.2.symm⟩, rfl⟩
end Go.Proofs.Ytlhokhccjejcoaa.Gr12
