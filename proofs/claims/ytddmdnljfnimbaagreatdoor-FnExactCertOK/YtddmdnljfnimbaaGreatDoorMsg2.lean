/- Messages: both MessageOK functions, and the laws' own helpers over messages. -/
import Derived.Test.YtddmdnljfnimbaaGreatDoorMsg
namespace Go.Proofs.YtddmdnljfnimbaaGreatDoor.Ms
open Go.RowKit Go.Proofs.YtddmdnljfnimbaaGreatDoor.Rq

theorem msg_eq (kd vw sq fr : Int) (dg bd mc : ByteArray) : msgB kd vw sq fr dg bd mc = (inB vw 0 20 && (inB fr 0 6 && (((mc.size : Int) == 8) && (decide ((bd.size : Int) ≤ 20000) && kindB kd sq dg bd)))) := rfl
theorem al1 (w : World) (o : Obj) : Below w.heap.size w (w.alloc o) := (Below.refl _ _).alloc (Nat.le_refl _) _
set_option maxHeartbeats 400000 in
theorem nodeOK_any (n : Int) (w : World) : Calls Tryz.prog 103 #[.int .i64 n] w fun e w' => e = .returned (.bool (inB n 0 6)) ∧ w' = w := by
  go_enter Tryz.func103, Tryz.ntmps103
  go_wp2_with (go_at_call 43; refine (within_any n 0 6 _).mono ?_; rintro e w' ⟨rfl, rfl⟩)
  go_ret
  exact ⟨rfl, rfl⟩
set_option maxHeartbeats 800000 in
theorem implMessageOK_any (kd vw sq fr : Int) (dg bd mc : ByteArray) (w : World) :
    Calls Tryz.prog 81 #[msgV kd vw sq fr dg bd mc] w fun e w' => e = .returned (.bool (msgB kd vw sq fr dg bd mc)) ∧ Below w.heap.size w w' := by
  unfold msgV
  have HO : Hid (msgB kd vw sq fr dg bd mc = _) := msg_eq kd vw sq fr dg bd mc
  cases h1 : inB vw 0 20
  · rw [h1] at HO
    go_enter Tryz.func81, Tryz.ntmps81
    go_wp2_with (first | (go_at_call 43; refine (within_any _ _ _ _).mono ?_; rintro e w' ⟨rfl, rfl⟩) | (go_at_call 103; refine (nodeOK_any _ _).mono ?_; rintro e w' ⟨rfl, rfl⟩))
    go_ret
    exact ⟨ret_bool HO.out.symm, al1 _ _⟩
  cases h2 : inB fr 0 6
  · rw [h1, h2] at HO
    go_enter Tryz.func81, Tryz.ntmps81
    go_wp2_with (first | (go_at_call 43; refine (within_any _ _ _ _).mono ?_; rintro e w' ⟨rfl, rfl⟩) | (go_at_call 103; refine (nodeOK_any _ _).mono ?_; rintro e w' ⟨rfl, rfl⟩))
    go_ret
    exact ⟨ret_bool HO.out.symm, al1 _ _⟩
  cases h3 : ((mc.size : Int) == 8)
  · rw [h1, h2, h3] at HO
    go_enter Tryz.func81, Tryz.ntmps81
    go_wp2_with (first | (go_at_call 43; refine (within_any _ _ _ _).mono ?_; rintro e w' ⟨rfl, rfl⟩) | (go_at_call 103; refine (nodeOK_any _ _).mono ?_; rintro e w' ⟨rfl, rfl⟩))
    go_ret
    exact ⟨ret_bool HO.out.symm, al1 _ _⟩
  cases h4 : decide ((bd.size : Int) ≤ 20000)
  · rw [h1, h2, h3, h4] at HO
    have h4' : (20000 : Int) < (bd.size : Int) := by simpa using h4
    go_enter Tryz.func81, Tryz.ntmps81
    go_wp2_with (first | (go_at_call 43; refine (within_any _ _ _ _).mono ?_; rintro e w' ⟨rfl, rfl⟩) | (go_at_call 103; refine (nodeOK_any _ _).mono ?_; rintro e w' ⟨rfl, rfl⟩))
    go_ret
    exact ⟨ret_bool HO.out.symm, al1 _ _⟩
  rw [h1, h2, h3, h4] at HO
  have h4' : (bd.size : Int) ≤ 20000 := by simpa using h4
  go_enter Tryz.func81, Tryz.ntmps81
  go_wp2_with (first | (go_at_call 43; refine (within_any _ _ _ _).mono ?_; rintro e w' ⟨rfl, rfl⟩) | (go_at_call 103; refine (nodeOK_any _ _).mono ?_; rintro e w' ⟨rfl, rfl⟩) | (go_at_call 104; refine (messageKindOK_any kd vw sq fr dg bd mc _).mono ?_; rintro e w' ⟨rfl, hb⟩))
  go_ret
  exact ⟨ret_bool HO.out.symm, box_old (box_first hb)⟩

theorem msg_split (kd vw sq fr : Int) (dg bd mc : ByteArray) : msgB kd vw sq fr dg bd mc = (inB kd 1 5 && (inB vw 0 20 && (inB fr 0 6 && (((mc.size : Int) == 8) && (decide ((bd.size : Int) ≤ 20000) && kindB kd sq dg bd))))) := by
  cases h : inB kd 1 5
  · have : kindB kd sq dg bd = false := kind_no kd sq dg bd (by unfold inB at h; simp at h; omega)
    unfold msgB
    rw [this]
    simp
  · unfold msgB
    simp

set_option maxHeartbeats 1600000 in
theorem specMessageOK_any (kd vw sq fr : Int) (dg bd mc : ByteArray) (w : World) :
    Calls Tryz.prog 63 #[msgV kd vw sq fr dg bd mc] w fun e w' => e = .returned (.bool (msgB kd vw sq fr dg bd mc)) ∧ Below w.heap.size w w' := by
  unfold msgV
  have HO : Hid (msgB kd vw sq fr dg bd mc = _) := msg_split kd vw sq fr dg bd mc
  cases h0 : inB kd 1 5
  · rw [h0] at HO
    go_enter Tryz.func63, Tryz.ntmps63
    go_wp2_with (go_at_call 39; refine (l01In_any _ _ _ _).mono ?_; rintro e w' ⟨rfl, rfl⟩)
    go_ret
    exact ⟨ret_bool HO.out.symm, al1 _ _⟩
  cases h1 : inB vw 0 20
  · rw [h0, h1] at HO
    go_enter Tryz.func63, Tryz.ntmps63
    go_wp2_with (go_at_call 39; refine (l01In_any _ _ _ _).mono ?_; rintro e w' ⟨rfl, rfl⟩)
    go_ret
    exact ⟨ret_bool HO.out.symm, al1 _ _⟩
  cases h2 : inB fr 0 6
  · rw [h0, h1, h2] at HO
    go_enter Tryz.func63, Tryz.ntmps63
    go_wp2_with (go_at_call 39; refine (l01In_any _ _ _ _).mono ?_; rintro e w' ⟨rfl, rfl⟩)
    go_ret
    exact ⟨ret_bool HO.out.symm, al1 _ _⟩
  cases h3 : ((mc.size : Int) == 8)
  · rw [h0, h1, h2, h3] at HO
    have h3' : ((mc.size : Int) != 8) = true := by rw [bne, h3]; rfl
    go_enter Tryz.func63, Tryz.ntmps63
    go_wp2_with (go_at_call 39; refine (l01In_any _ _ _ _).mono ?_; rintro e w' ⟨rfl, rfl⟩)
    go_ret
    exact ⟨ret_bool HO.out.symm, al1 _ _⟩
  have h3' : ((mc.size : Int) != 8) = false := by rw [bne, h3]; rfl
  cases h4 : decide ((bd.size : Int) ≤ 20000)
  · rw [h0, h1, h2, h3, h4] at HO
    have h4' : (20000 : Int) < (bd.size : Int) := by simpa using h4
    go_enter Tryz.func63, Tryz.ntmps63
    go_wp2_with (go_at_call 39; refine (l01In_any _ _ _ _).mono ?_; rintro e w' ⟨rfl, rfl⟩)
    go_ret
    exact ⟨ret_bool HO.out.symm, al1 _ _⟩
  rw [h0, h1, h2, h3, h4] at HO
  have h4' : (bd.size : Int) ≤ 20000 := by simpa using h4
  clear h3 h4
  rcases kinds kd with rfl | rfl | rfl | rfl | rfl | h
  · rw [kind1] at HO
    unfold placeB at HO
    cases h5 : inB sq 1 8
    · rw [h5] at HO
      go_enter Tryz.func63, Tryz.ntmps63
      go_wp2_with (go_at_call 39; refine (l01In_any _ _ _ _).mono ?_; rintro e w' ⟨rfl, rfl⟩)
      go_ret
      exact ⟨ret_bool HO.out.symm, al1 _ _⟩
    cases h6 : ((dg.size : Int) == 32)
    all_goals
      rw [h5, h6] at HO
      go_enter Tryz.func63, Tryz.ntmps63
      go_wp2_with (go_at_call 39; refine (l01In_any _ _ _ _).mono ?_; rintro e w' ⟨rfl, rfl⟩)
      go_ret
      exact ⟨ret_bool (by rw [HO.out]; simp), al1 _ _⟩
  · rw [kind2] at HO
    unfold placeB at HO
    cases h5 : inB sq 1 8
    · rw [h5] at HO
      go_enter Tryz.func63, Tryz.ntmps63
      go_wp2_with (go_at_call 39; refine (l01In_any _ _ _ _).mono ?_; rintro e w' ⟨rfl, rfl⟩)
      go_ret
      exact ⟨ret_bool HO.out.symm, al1 _ _⟩
    cases h6 : ((dg.size : Int) == 32)
    all_goals
      rw [h5, h6] at HO
      go_enter Tryz.func63, Tryz.ntmps63
      go_wp2_with (go_at_call 39; refine (l01In_any _ _ _ _).mono ?_; rintro e w' ⟨rfl, rfl⟩)
      go_ret
      exact ⟨ret_bool (by rw [HO.out]; simp), al1 _ _⟩
  · rw [kind3] at HO
    unfold placeB at HO
    cases h5 : inB sq 1 8
    · rw [h5] at HO
      go_enter Tryz.func63, Tryz.ntmps63
      go_wp2_with (go_at_call 39; refine (l01In_any _ _ _ _).mono ?_; rintro e w' ⟨rfl, rfl⟩)
      go_ret
      exact ⟨ret_bool HO.out.symm, al1 _ _⟩
    cases h6 : ((dg.size : Int) == 32)
    all_goals
      rw [h5, h6] at HO
      go_enter Tryz.func63, Tryz.ntmps63
      go_wp2_with (go_at_call 39; refine (l01In_any _ _ _ _).mono ?_; rintro e w' ⟨rfl, rfl⟩)
      go_ret
      exact ⟨ret_bool (by rw [HO.out]; simp), al1 _ _⟩
  · rw [kind4] at HO
    cases h5 : (sq == 0)
    all_goals
      rw [h5] at HO
      go_enter Tryz.func63, Tryz.ntmps63
      go_wp2_with (go_at_call 39; refine (l01In_any _ _ _ _).mono ?_; rintro e w' ⟨rfl, rfl⟩)
      go_ret
      exact ⟨ret_bool (by rw [HO.out]; simp), al1 _ _⟩
  · rw [kind5] at HO
    cases h5 : (sq == 0)
    all_goals
      rw [h5] at HO
      go_enter Tryz.func63, Tryz.ntmps63
      go_wp2_with (go_at_call 39; refine (l01In_any _ _ _ _).mono ?_; rintro e w' ⟨rfl, rfl⟩)
      go_ret
      exact ⟨ret_bool (by rw [HO.out]; simp), al1 _ _⟩
  · exact absurd h0 (by unfold inB; simp; omega)

theorem szMessage_any (kd vw sq fr : Int) (dg bd mc : ByteArray) (w : World) (hd : dg.size ≤ maxLen) (hb : bd.size ≤ maxLen) (hm : mc.size ≤ maxLen) :
    Calls Tryz.prog 11 #[msgV kd vw sq fr dg bd mc, .int .i64 1048576] w fun e w' => e = .returned (.int .i64 (lft 1048576 ((dg.size + bd.size + mc.size : Nat) : Int))) ∧ Below w.heap.size w w' := by
  unfold maxLen at hd hb hm
  unfold msgV
  by_cases h1 : (1048576 : Int) < (dg.size : Int)
  · have HO : Hid (lft 1048576 ((dg.size + bd.size + mc.size : Nat) : Int) = -1) := lft_no (by omega)
    go_enter Tryz.func11, Tryz.ntmps11
    go_wp2
    go_ret
    exact ⟨ret_int HO.out.symm, al1 _ _⟩
  by_cases h2 : (1048576 : Int) - (dg.size : Int) < (bd.size : Int)
  · have HO : Hid (lft 1048576 ((dg.size + bd.size + mc.size : Nat) : Int) = -1) := lft_no (by omega)
    go_enter Tryz.func11, Tryz.ntmps11
    go_wp2
    go_ret
    exact ⟨ret_int HO.out.symm, al1 _ _⟩
  by_cases h3 : (1048576 : Int) - (dg.size : Int) - (bd.size : Int) < (mc.size : Int)
  · have HO : Hid (lft 1048576 ((dg.size + bd.size + mc.size : Nat) : Int) = -1) := lft_no (by omega)
    go_enter Tryz.func11, Tryz.ntmps11
    go_wp2
    go_ret
    exact ⟨ret_int HO.out.symm, al1 _ _⟩
  have HO : Hid (lft 1048576 ((dg.size + bd.size + mc.size : Nat) : Int) = 1048576 - (dg.size : Int) - (bd.size : Int) - (mc.size : Int)) := (lft_yes (by omega)).trans (by omega)
  go_enter Tryz.func11, Tryz.ntmps11
  go_wp2
  go_ret
  exact ⟨ret_int HO.out.symm, al1 _ _⟩

theorem toMessage_any (kd vw sq fr : Int) (dg bd mc : ByteArray) (w : World) :
    Calls Tryz.prog 13 #[msgV kd vw sq fr dg bd mc] w fun e w' => e = .returned (msgV kd vw sq fr dg bd mc) ∧ Below w.heap.size w w' := by
  unfold msgV
  go_enter Tryz.func13, Tryz.ntmps13
  go_wp2
  refine bodyPost_ret (v := msgV kd vw sq fr dg bd mc) (by simp [msgV, results, Tryz.results13, go_sem]) rfl ⟨rfl, (((Below.refl _ _).alloc (Nat.le_refl _) _).alloc (by simp) _).alloc (by simp; omega) _⟩
theorem eqMessage_same (kd vw sq fr : Int) (dg bd mc : ByteArray) (w : World) :
    Calls Tryz.prog 46 #[msgV kd vw sq fr dg bd mc, msgV kd vw sq fr dg bd mc] w fun e w' => e = .returned (.bool true) ∧ Below w.heap.size w w' := by
  unfold msgV
  have e0 : (kd != kd) = false := by simp
  have e1 : (vw != vw) = false := by simp
  have e2 : (sq != sq) = false := by simp
  have e3 : (fr != fr) = false := by simp
  go_enter Tryz.func46, Tryz.ntmps46
  go_wp2
  go_ret
  exact ⟨rfl, ((Below.refl _ _).alloc (Nat.le_refl _) _).alloc (by simp) _⟩
end Go.Proofs.YtddmdnljfnimbaaGreatDoor.Ms
