/- The specification's CheckSignature, at every argument. -/
import Derived.Test.YtiflfcpoajijaaaGreatDoorJMakeCertificate29
namespace Go.Proofs.YtiflfcpoajijaaaGreatDoor.Cs
open Go.RowKit Go.Proofs.YtiflfcpoajijaaaGreatDoor.Sl Go.Proofs.YtiflfcpoajijaaaGreatDoor.By Go.Proofs.YtiflfcpoajijaaaGreatDoor.Ap Go.Proofs.YtiflfcpoajijaaaGreatDoor.Tx Go.Proofs.YtiflfcpoajijaaaGreatDoor.Sh Go.Proofs.YtiflfcpoajijaaaGreatDoor.Ho Go.Proofs.YtiflfcpoajijaaaGreatDoor.Se Go.Proofs.YtiflfcpoajijaaaGreatDoor.Ka Go.Proofs.YtiflfcpoajijaaaGreatDoor.Sx Go.Proofs.YtiflfcpoajijaaaGreatDoor.Hf Go.Proofs.YtiflfcpoajijaaaGreatDoor.Sa Go.Proofs.YtiflfcpoajijaaaGreatDoor.Kx Go.Proofs.YtiflfcpoajijaaaGreatDoor.Mb Go.Proofs.YtiflfcpoajijaaaGreatDoor.Sg

set_option maxRecDepth 100000 in
set_option maxHeartbeats 1600000 in
theorem specCheckSignature_any (root msg : ByteArray) (i : Int) (ua ub uc : Value) (ta tb tc : List ByteArray) (w : World) (ra : RowT w ua ta) (rb : RowT w ub tb) (rc : RowT w uc tc) (la : ta.length ≤ maxLen) (lb : tb.length ≤ maxLen) (lc : tc.length ≤ maxLen) (za : ∀ t ∈ ta, t.size ≤ maxLen) (zb : ∀ t ∈ tb, t.size ≤ maxLen) (zc : ∀ t ∈ tc, t.size ≤ maxLen) :
    Calls Tryz.prog 41 #[.string root, .string msg, .agg #[.int .i64 i, ua, ub, uc]] w fun e w' => e = .returned (.int .i64 (vC root msg i ta tb tc)) ∧ Below w.heap.size w w' := by
  by_cases hm : 65530 < msg.size
  · have HE : Hid (vC root msg i ta tb tc = 2) := if_pos (.inl hm)
    have hm' : (65530 : Int) < (msg.size : Int) := by omega
    obtain ⟨a1, c1, rfl, _⟩ := ra
    obtain ⟨a2, c2, rfl, _⟩ := rb
    obtain ⟨a3, c3, rfl, _⟩ := rc
    go_enter Tryz.func41, Tryz.ntmps41
    go_wp2_with fail
    go_ret
    exact ⟨Hf.ret_int HE.out.symm, bel_new _ _⟩
  have hm' : ¬ (65530 : Int) < (msg.size : Int) := by omega
  by_cases hr : 65536 < root.size
  · have HE : Hid (vC root msg i ta tb tc = 2) := if_pos (.inr hr)
    have hr' : (65536 : Int) < (root.size : Int) := by omega
    obtain ⟨a1, c1, rfl, _⟩ := ra
    obtain ⟨a2, c2, rfl, _⟩ := rb
    obtain ⟨a3, c3, rfl, _⟩ := rc
    go_enter Tryz.func41, Tryz.ntmps41
    go_wp2_with fail
    go_ret
    exact ⟨Hf.ret_int HE.out.symm, bel_new _ _⟩
  have hr' : ¬ (65536 : Int) < (root.size : Int) := by omega
  have hno : ¬ (65530 < msg.size ∨ 65536 < root.size) := fun h => h.elim hm hr
  by_cases h32 : root.size = 32
  · have h32' : ((root.size : Int) != 32) = false := by simp; omega
    cases hA : hsB ta 32 with
    | false =>
      have HE : Hid (vC root msg i ta tb tc = 1) := by show _ = _; unfold vC; rw [if_neg hno, if_neg (fun h => by rw [hA] at h; exact absurd h.2.1 (by decide))]
      have HO : Hid (∀ o, Calls Tryz.prog 72 #[ua, .int .i64 32] (w.alloc o) fun e w' => e = .returned (.bool false) ∧ (w.alloc o) = w') := fun o => by have := l03Hashes_any ua ta 32 (w.alloc o) (ra.below (bel_new _ _)) la za; rw [hA] at this; exact this
      obtain ⟨a1, c1, rfl, _⟩ := ra
      obtain ⟨a2, c2, rfl, _⟩ := rb
      obtain ⟨a3, c3, rfl, _⟩ := rc
      clear la lb lc za zb zc hA h32 hno hm hr
      go_enter Tryz.func41, Tryz.ntmps41
      go_wp2_with fail
      refine (HO.out _).mono ?_
      rintro e w9 ⟨rfl, rfl⟩
      go_wp2_with fail
      go_ret
      exact ⟨Hf.ret_int HE.out.symm, bel_new _ _⟩
    | true =>
    have HO1 : Hid (∀ o, Calls Tryz.prog 72 #[ua, .int .i64 32] (w.alloc o) fun e w' => e = .returned (.bool true) ∧ (w.alloc o) = w') := fun o => by have := l03Hashes_any ua ta 32 (w.alloc o) (ra.below (bel_new _ _)) la za; rw [hA] at this; exact this
    cases hB : hsB tb 32 with
    | false =>
      have HE : Hid (vC root msg i ta tb tc = 1) := by show _ = _; unfold vC; rw [if_neg hno, if_neg (fun h => by rw [hB] at h; exact absurd h.2.2.1 (by decide))]
      have HO : Hid (∀ o, Calls Tryz.prog 72 #[ub, .int .i64 32] (w.alloc o) fun e w' => e = .returned (.bool false) ∧ (w.alloc o) = w') := fun o => by have := l03Hashes_any ub tb 32 (w.alloc o) (rb.below (bel_new _ _)) lb zb; rw [hB] at this; exact this
      obtain ⟨a1, c1, rfl, _⟩ := ra
      obtain ⟨a2, c2, rfl, _⟩ := rb
      obtain ⟨a3, c3, rfl, _⟩ := rc
      clear la lb lc za zb zc hA hB h32 hno hm hr
      go_enter Tryz.func41, Tryz.ntmps41
      go_wp2_with fail
      refine (HO1.out _).mono ?_
      rintro e w9 ⟨rfl, rfl⟩
      go_wp2_with fail
      refine (HO.out _).mono ?_
      rintro e w9 ⟨rfl, rfl⟩
      go_wp2_with fail
      go_ret
      exact ⟨Hf.ret_int HE.out.symm, bel_new _ _⟩
    | true =>
    have HO2 : Hid (∀ o, Calls Tryz.prog 72 #[ub, .int .i64 32] (w.alloc o) fun e w' => e = .returned (.bool true) ∧ (w.alloc o) = w') := fun o => by have := l03Hashes_any ub tb 32 (w.alloc o) (rb.below (bel_new _ _)) lb zb; rw [hB] at this; exact this
    cases hC : hsB tc 3 with
    | false =>
      have HE : Hid (vC root msg i ta tb tc = 1) := by show _ = _; unfold vC; rw [if_neg hno, if_neg (fun h => by rw [hC] at h; exact absurd h.2.2.2 (by decide))]
      have HO : Hid (∀ o, Calls Tryz.prog 72 #[uc, .int .i64 3] (w.alloc o) fun e w' => e = .returned (.bool false) ∧ (w.alloc o) = w') := fun o => by have := l03Hashes_any uc tc 3 (w.alloc o) (rc.below (bel_new _ _)) lc zc; rw [hC] at this; exact this
      obtain ⟨a1, c1, rfl, _⟩ := ra
      obtain ⟨a2, c2, rfl, _⟩ := rb
      obtain ⟨a3, c3, rfl, _⟩ := rc
      clear la lb lc za zb zc hA hB hC h32 hno hm hr
      go_enter Tryz.func41, Tryz.ntmps41
      go_wp2_with fail
      refine (HO1.out _).mono ?_
      rintro e w9 ⟨rfl, rfl⟩
      go_wp2_with fail
      refine (HO2.out _).mono ?_
      rintro e w9 ⟨rfl, rfl⟩
      go_wp2_with fail
      refine (HO.out _).mono ?_
      rintro e w9 ⟨rfl, rfl⟩
      go_wp2_with fail
      go_ret
      exact ⟨Hf.ret_int HE.out.symm, bel_new _ _⟩
    | true =>
    have hyes : root.size = 32 ∧ hsB ta 32 = true ∧ hsB tb 32 = true ∧ hsB tc 3 = true := ⟨h32, hA, hB, hC⟩
    cases hI : inR i 0 7 with
    | false =>
      have HE : Hid (vC root msg i ta tb tc = 4) := by show _ = _; unfold vC; rw [if_neg hno, if_pos hyes, if_neg (by rw [hI]; decide)]
      have HO3 : Hid (∀ o, Calls Tryz.prog 72 #[uc, .int .i64 3] (w.alloc o) fun e w' => e = .returned (.bool true) ∧ (w.alloc o) = w') := fun o => by have := l03Hashes_any uc tc 3 (w.alloc o) (rc.below (bel_new _ _)) lc zc; rw [hC] at this; exact this
      obtain ⟨a1, c1, rfl, _⟩ := ra
      obtain ⟨a2, c2, rfl, _⟩ := rb
      obtain ⟨a3, c3, rfl, _⟩ := rc
      have HI : Hid (inR i 0 7 = false) := hI
      clear la lb lc za zb zc hA hB hC h32 hno hm hr hyes hI
      go_enter Tryz.func41, Tryz.ntmps41
      go_wp2_with fail
      refine (HO1.out _).mono ?_
      rintro e w9 ⟨rfl, rfl⟩
      go_wp2_with fail
      refine (HO2.out _).mono ?_
      rintro e w9 ⟨rfl, rfl⟩
      go_wp2_with fail
      refine (HO3.out _).mono ?_
      rintro e w9 ⟨rfl, rfl⟩
      go_wp2_with fail
      refine (l01In_any i 0 7 _).mono ?_
      rintro e w9 ⟨rfl, rfl⟩
      rw [HI.out]
      go_wp2_with fail
      go_ret
      exact ⟨Hf.ret_int HE.out.symm, bel_new _ _⟩
    | true =>
      obtain ⟨i1, i2⟩ := inR_nat hI
      obtain ⟨i, rfl⟩ := Int.eq_ofNat_of_zero_le i1
      refine specCheck_go root msg i ua ub uc ta tb tc w ra rb rc (by omega) h32 hA hB hC (by omega) la lb lc za zb zc _ ?_
      unfold vC
      rw [if_neg hno, if_pos hyes, if_pos hI, Int.toNat_natCast]
  · have HE : Hid (vC root msg i ta tb tc = 1) := by show _ = _; unfold vC; rw [if_neg hno, if_neg (fun h => h32 h.1)]
    have h32' : ((root.size : Int) != 32) = true := by simp; omega
    obtain ⟨a1, c1, rfl, _⟩ := ra
    obtain ⟨a2, c2, rfl, _⟩ := rb
    obtain ⟨a3, c3, rfl, _⟩ := rc
    clear h32
    go_enter Tryz.func41, Tryz.ntmps41
    go_wp2_with fail
    go_ret
    exact ⟨Hf.ret_int HE.out.symm, bel_new _ _⟩
end Go.Proofs.YtiflfcpoajijaaaGreatDoor.Cs
