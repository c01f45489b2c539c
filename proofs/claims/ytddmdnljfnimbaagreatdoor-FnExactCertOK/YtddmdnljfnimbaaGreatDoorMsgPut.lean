/- Messages' bytes: both MessageBytes functions. -/
import Derived.Test.YtddmdnljfnimbaaGreatDoorPut
import Derived.Test.YtddmdnljfnimbaaGreatDoorReqPut
import Derived.Test.YtddmdnljfnimbaaGreatDoorMsg2
namespace Go.Proofs.YtddmdnljfnimbaaGreatDoor.Mp
open Go.RowKit Go.Proofs.YtddmdnljfnimbaaGreatDoor.Sl Go.Proofs.YtddmdnljfnimbaaGreatDoor.By Go.Proofs.YtddmdnljfnimbaaGreatDoor.Rq Go.Proofs.YtddmdnljfnimbaaGreatDoor.Ap Go.Proofs.YtddmdnljfnimbaaGreatDoor.Pu Go.Proofs.YtddmdnljfnimbaaGreatDoor.Ms Go.Proofs.YtddmdnljfnimbaaGreatDoor.Rp

theorem empty_size (s : ByteArray) : s.toList.isEmpty = decide (s.size = 0) := by
  rw [ByteArray.toList_eq]
  obtain ⟨⟨l⟩⟩ := s
  cases l <;> simp [ByteArray.size]
/-- The first five bytes of a message. -/
def headBs (kd vw sq fr : Int) (dg : ByteArray) : List Int := nums kd 1 1 ++ (nums vw 1 1 ++ (nums sq 1 1 ++ (nums fr 1 1 ++ nums (dg.size : Int) 1 1)))
def plainBs (kd vw sq fr : Int) (dg bd : ByteArray) : List Int := headBs kd vw sq fr dg ++ bys dg ++ nums (bd.size : Int) 2 2 ++ bys bd
/-- A message's bytes. -/
def msgBs (kd vw sq fr : Int) (dg bd mc : ByteArray) : List Int := plainBs kd vw sq fr dg bd ++ bys mc
theorem headBs_length (kd vw sq fr : Int) (dg : ByteArray) : (headBs kd vw sq fr dg).length = 5 := by unfold headBs; simp only [List.length_append, nums_length]
theorem plainBs_length (kd vw sq fr : Int) (dg bd : ByteArray) : (plainBs kd vw sq fr dg bd).length = 7 + dg.size + bd.size := by unfold plainBs; simp only [List.length_append, headBs_length, nums_length, bys_length]; omega
theorem msgBs_length (kd vw sq fr : Int) (dg bd mc : ByteArray) : (msgBs kd vw sq fr dg bd mc).length = 7 + dg.size + bd.size + mc.size := by unfold msgBs; rw [List.length_append, plainBs_length, bys_length]
theorem msgBs_range (kd vw sq fr : Int) (dg bd mc : ByteArray) : ∀ z ∈ msgBs kd vw sq fr dg bd mc, 0 ≤ z ∧ z ≤ 255 := by
  intro z hz
  unfold msgBs plainBs headBs at hz
  simp only [List.mem_append, or_assoc] at hz
  rcases hz with h | h | h | h | h | h | h | h | h
  all_goals first | exact nums_range _ _ _ z h | exact bys_range _ z h
theorem msg_small {kd vw sq fr : Int} {dg bd mc : ByteArray} (h : msgB kd vw sq fr dg bd mc = true) : dg.size ≤ 32 ∧ bd.size ≤ 20000 ∧ mc.size = 8 := by
  rw [msg_eq] at h
  simp only [Bool.and_eq_true, beq_iff_eq, decide_eq_true_eq] at h
  obtain ⟨_, _, h3, h4, h5⟩ := h
  refine ⟨?_, by omega, by omega⟩
  rcases kinds kd with rfl | rfl | rfl | rfl | rfl | hk
  · rw [kind1] at h5; unfold placeB at h5; simp at h5; omega
  · rw [kind2] at h5; unfold placeB at h5; simp at h5; omega
  · rw [kind3] at h5; unfold placeB at h5; simp at h5; omega
  · rw [kind4, empty_size] at h5; simp only [Bool.and_eq_true, decide_eq_true_eq] at h5; omega
  · rw [kind5, empty_size] at h5; simp only [Bool.and_eq_true, decide_eq_true_eq] at h5; omega
  · rw [kind_no _ _ _ _ hk] at h5; cases h5
def msgOut (kd vw sq fr : Int) (dg bd mc : ByteArray) : List Int := if msgB kd vw sq fr dg bd mc then msgBs kd vw sq fr dg bd mc else []
def msgCode (kd vw sq fr : Int) (dg bd mc : ByteArray) : Int := if msgB kd vw sq fr dg bd mc then 0 else 1

set_option maxHeartbeats 1600000 in
theorem implMessageBytes_any (kd vw sq fr : Int) (dg bd mc : ByteArray) (w : World) :
    Calls Tryz.prog 105 #[msgV kd vw sq fr dg bd mc] w fun e w' => ∃ v, e = .returned (.tuple #[v, .int .i64 (msgCode kd vw sq fr dg bd mc)]) ∧ OwnB 5 w' w.heap.size v (msgOut kd vw sq fr dg bd mc) ∧ Below w.heap.size w w' := by
  obtain ⟨i0, hi, hz0, hz1, hz2⟩ := info_parts Sl.info5
  cases hq : msgB kd vw sq fr dg bd mc
  · have HC : Hid (msgCode kd vw sq fr dg bd mc = 1) := by show _ = _; unfold msgCode; rw [hq]; rfl
    have HO : Hid (msgOut kd vw sq fr dg bd mc = []) := by show _ = _; unfold msgOut; rw [hq]; rfl
    go_enter Tryz.func105, Tryz.ntmps105
    unfold msgV
    go_wp2_with (go_at_call 81; refine (implMessageOK_any kd vw sq fr dg bd mc _).mono ?_; rintro e w1 ⟨rfl, b1⟩; rw [hq]; have g1 := box_first b1; clear b1)
    go_ret2
    exact ⟨_, ret_tup HC.out.symm, by rw [HO.out]; exact own_nil _ _ _, box_old g1⟩
  have HC : Hid (msgCode kd vw sq fr dg bd mc = 0) := by show _ = _; unfold msgCode; rw [hq]; rfl
  have HO : Hid (msgOut kd vw sq fr dg bd mc = msgBs kd vw sq fr dg bd mc) := by show _ = _; unfold msgOut; rw [hq]; rfl
  obtain ⟨hd, hb, hm⟩ := msg_small hq
  have HM : Hid (mc.size = 8) := hm
  clear hm
  go_enter Tryz.func105, Tryz.ntmps105
  unfold msgV
  go_wp2_with fail
  refine (implMessageOK_any kd vw sq fr dg bd mc _).mono ?_
  rintro e w1 ⟨rfl, b1⟩
  rw [hq]
  have g1 := box_first b1
  obtain ⟨q0, q1, q2, q3, q4, q5, q6⟩ := msg_box g1
  clear b1
  go_wp2_with fail
  refine (putNumber_any (.slice none 0 0) [] kd 1 w1.heap.size _ (own_nil _ _ _) (Nat.le_refl _) (by decide) (by simp)).mono ?_
  rintro e w2 ⟨v2, rfl, o2, k2⟩
  obtain ⟨q0', q1', q2', q3', q4', q5', q6'⟩ := msg_box (box_next g1 k2.nil)
  have O2 : Hid (_) := o2
  clear q0 q1 q2 q3 q4 q5 q6 o2
  go_wp2_with fail
  refine (putNumber_any v2 _ vw 1 w1.heap.size _ O2.out k2.size (by decide) (by simp only [List.length_append, nums_length]; decide)).mono ?_
  rintro e w3 ⟨v3, rfl, o3, k3'⟩
  have k3 := k2.trans k3'
  obtain ⟨q0, q1, q2, q3, q4, q5, q6⟩ := msg_box (box_next g1 k3.nil)
  have O3 : Hid (_) := o3
  clear q0' q1' q2' q3' q4' q5' q6' o3 O2 k2 k3'
  go_wp2_with fail
  refine (putNumber_any v3 _ sq 1 w1.heap.size _ O3.out k3.size (by decide) (by simp only [List.length_append, nums_length]; decide)).mono ?_
  rintro e w4 ⟨v4, rfl, o4, k4'⟩
  have k4 := k3.trans k4'
  obtain ⟨q0', q1', q2', q3', q4', q5', q6'⟩ := msg_box (box_next g1 k4.nil)
  have O4 : Hid (_) := o4
  clear q0 q1 q2 q3 q4 q5 q6 o4 O3 k3 k4'
  go_wp2_with fail
  refine (putNumber_any v4 _ fr 1 w1.heap.size _ O4.out k4.size (by decide) (by simp only [List.length_append, nums_length]; decide)).mono ?_
  rintro e w5 ⟨v5, rfl, o5, k5'⟩
  have k5 := k4.trans k5'
  obtain ⟨q0, q1, q2, q3, q4, q5, q6⟩ := msg_box (box_next g1 k5.nil)
  have O5 : Hid (_) := o5
  clear q0' q1' q2' q3' q4' q5' q6' o5 O4 k4 k5'
  go_wp2_with fail
  refine (putText_any v5 _ dg 1 w1.heap.size _ O5.out k5.size (by decide) (by simp only [List.length_append, nums_length]; decide) (by omega)).mono ?_
  rintro e w6 ⟨v6, rfl, o6, k6'⟩
  have k6 := k5.trans k6'
  obtain ⟨q0', q1', q2', q3', q4', q5', q6'⟩ := msg_box (box_next g1 k6.nil)
  have O6 : Hid (_) := o6
  clear q0 q1 q2 q3 q4 q5 q6 o6 O5 k5 k6'
  go_wp2_with fail
  refine (putText_any v6 _ bd 2 w1.heap.size _ O6.out k6.size (by decide) (by simp only [List.length_append, nums_length, bys_length, List.length_nil]; omega) (by omega)).mono ?_
  rintro e w7 ⟨v7, rfl, o7, k7'⟩
  have k7 := k6.trans k7'
  obtain ⟨q0, q1, q2, q3, q4, q5, q6⟩ := msg_box (box_next g1 k7.nil)
  have hl : Hid (([] ++ nums kd 1 1 ++ nums vw 1 1 ++ nums sq 1 1 ++ nums fr 1 1 ++ nums (dg.size : Int) 1 1 ++ bys dg ++ nums (bd.size : Int) 2 2 ++ bys bd).length + mc.size ≤ 140737488355328) := by
    show _ ≤ _
    have := HM.out
    simp only [List.length_append, nums_length, bys_length, List.length_nil]
    omega
  have HE : Hid ([] ++ nums kd 1 1 ++ nums vw 1 1 ++ nums sq 1 1 ++ nums fr 1 1 ++ nums (dg.size : Int) 1 1 ++ bys dg ++ nums (bd.size : Int) 2 2 ++ bys bd ++ bys mc = msgBs kd vw sq fr dg bd mc) := by
    show _ = _
    unfold msgBs plainBs headBs
    simp [List.append_assoc]
  clear q0' q1' q2' q3' q4' q5' q6' O6 k6 k7' hd hb
  go_wp2_with (at_builtin; go_must (refine list_str (by rfl) _ _ 91 9 (by rfl) Tryz.underlying91 Tryz.underlying9 hi hz0 hz1 hz2 w1.heap.size _ _ mc _ (by rfl) (by rfl) o7 k7.size hl.out ?_; intro v8 w8 o8 k8))
  go_ret2
  rw [HE.out] at o8
  exact ⟨_, ret_tup HC.out.symm, by rw [HO.out]; exact own_le o8 (box_old g1).size, box_old (box_next g1 (k7.trans k8).nil)⟩

set_option maxRecDepth 100000 in
set_option maxHeartbeats 1600000 in
theorem l02Plain_any (kd vw sq fr : Int) (dg bd mc : ByteArray) (w : World) (hd : dg.size ≤ 1000) (hb : bd.size ≤ 100000) :
    Calls Tryz.prog 65 #[msgV kd vw sq fr dg bd mc] w fun e w' => ∃ v, e = .returned v ∧ OwnB 5 w' (w.heap.size + 1) v (plainBs kd vw sq fr dg bd) ∧ Below (w.heap.size + 1) (w.alloc (.cells #[.int .i64 kd, .int .i64 vw, .int .i64 sq, .int .i64 fr, .string dg, .string bd, .string mc] 39)) w' := by
  obtain ⟨i0, hi, hz0, hz1, hz2⟩ := info_parts Sl.info5
  have hs0 : Hid (w.heap.size + 1 = (w.alloc (.cells #[.int .i64 kd, .int .i64 vw, .int .i64 sq, .int .i64 fr, .string dg, .string bd, .string mc] 39)).heap.size) := (size_new _ _).symm
  have HH : Hid ([kd % 256, vw % 256, sq % 256, fr % 256, (dg.size : Int) % 256] = headBs kd vw sq fr dg) := by show _ = _; simp [headBs, nums, nb]
  go_enter Tryz.func65, Tryz.ntmps65
  unfold msgV
  go_upto_region 1 with fail
  go_cut [3] (fun s3 wx => OwnB 5 wx (w.heap.size + 1) s3 (headBs kd vw sq fr dg) ∧ Below (w.heap.size + 1) (w.alloc (.cells #[.int .i64 kd, .int .i64 vw, .int .i64 sq, .int .i64 fr, .string dg, .string bd, .string mc] 39)) wx)
  case first =>
    go_wp2_with fail
    go_meet
    refine ⟨?_, (Below.refl _ _).alloc (by simp) _⟩
    rw [← HH.out]
    have := own_lit 5 (w.alloc (.cells #[.int .i64 kd, .int .i64 vw, .int .i64 sq, .int .i64 fr, .string dg, .string bd, .string mc] 39)) (w.heap.size + 1) [kd % 256, vw % 256, sq % 256, fr % 256, (dg.size : Int) % 256] 5 rfl (by simp) (by decide)
    rw [← hs0.out] at this
    exact this
  case rest =>
  obtain ⟨o1, g1⟩ := hcut
  have B1 : w.heap.size + 1 ≤ wc.heap.size := Nat.le_trans (Nat.le_of_eq hs0.out) g1.size
  obtain ⟨q0, q1, q2, q3, q4, q5, q6⟩ := msg_box g1
  have HE : Hid (headBs kd vw sq fr dg ++ bys dg ++ nums (bd.size : Int) 2 2 ++ bys bd = plainBs kd vw sq fr dg bd) := rfl
  have HL1 : Hid ((headBs kd vw sq fr dg).length = 5) := headBs_length _ _ _ _ _
  generalize headBs kd vw sq fr dg = zs at o1 HE HL1
  clear q0 q1 q2 q3 q6 HH
  go_upto_region 2 with fail
  go_cut [3] (fun s3 wx => OwnB 5 wx (w.heap.size + 1) s3 (zs ++ bys dg ++ nums (bd.size : Int) 2 2) ∧ Below (w.heap.size + 1) (w.alloc (.cells #[.int .i64 kd, .int .i64 vw, .int .i64 sq, .int .i64 fr, .string dg, .string bd, .string mc] 39)) wx)
  case first =>
    have HW : Hid (∀ g, u3.ownBlock = some g → g < wc.heap.size) := own_lt o1
    go_region_law (first
      | (go_simp; go_at_call 89; refine (l02Number_any (bd.size : Int) 2 _ (by decide)).mono ?_; rintro e w3 ⟨v3, rfl, o3, b3⟩; (first | (with_reducible (have hA := ordC o2 g2 B2 b3); obtain ⟨f24, g3, B3⟩ := hA; have r28 := own_rowB o3 (nums_range _ _ _)) | (with_reducible (have hA := ordB2 o1 g1 B1 b3); obtain ⟨f21, g3, B3⟩ := hA; have o28 : OwnB 5 w3 wc.heap.size v3 _ := o3)); obtain ⟨y0, y1, y2, y3, y4, y5, y6⟩ := msg_box g3; clear o3 b3; try go_simp)
      | (refine step_row (by rfl) _ _ 91 (by rfl) Tryz.underlying91 hi hz0 hz1 hz2 (w.heap.size + 1) _ _ _ _ _ (by rfl) (by rfl) f24 B3 r28 (by simp only [List.length_append, nums_length, HL1.out, bys_length]; omega) ?_; intro v5 w5 o5 k5; have g5 := g3.trans (k5.below f24 B3))
      | (refine step_row (by rfl) _ _ 91 (by rfl) Tryz.underlying91 hi hz0 hz1 hz2 (w.heap.size + 1) _ _ _ _ _ (by rfl) (by rfl) o2 B2 r28 (by simp only [List.length_append, nums_length, HL1.out, bys_length]; omega) ?_; intro v5 w5 o5 k5; have g5 := g2.trans (k5.below o2 B2))
      | (refine step_str (by rfl) _ _ 91 9 (by rfl) Tryz.underlying91 Tryz.underlying9 hi hz0 hz1 hz2 (w.heap.size + 1) _ _ dg _ (by rfl) (by rfl) f21 B3 (by simp only [HL1.out]; omega) ?_; intro v2 w2 o2 k2; have g2 := g3.trans (k2.below f21 B3); have B2 : w.heap.size + 1 ≤ w2.heap.size := Nat.le_trans B3 k2.size; have r28 := own_rowB (own_kp o28 k2 HW.out) (nums_range _ _ _); obtain ⟨x0, x1, x2, x3, x4, x5, x6⟩ := msg_box g2)
      | (refine step_str (by rfl) _ _ 91 9 (by rfl) Tryz.underlying91 Tryz.underlying9 hi hz0 hz1 hz2 (w.heap.size + 1) _ _ dg _ (by rfl) (by rfl) (own_drew o1) B1 (by simp only [HL1.out]; omega) ?_; intro v2 w2 o2 k2; have g2 := g1.drew.trans (k2.below (own_drew o1) B1); have B2 : w.heap.size + 1 ≤ w2.heap.size := Nat.le_trans B1 k2.size; obtain ⟨x0, x1, x2, x3, x4, x5, x6⟩ := msg_box g2))
    all_goals
      go_wp2_with fail
      go_meet
      exact ⟨o5, g5⟩
  case rest =>
  clear q4 q5 o1 g1 B1
  obtain ⟨o1, g1⟩ := hcut
  have B1 : w.heap.size + 1 ≤ wc.heap.size := Nat.le_trans (Nat.le_of_eq hs0.out) g1.size
  obtain ⟨q0, q1, q2, q3, q4, q5, q6⟩ := msg_box g1
  have hl : Hid ((zs ++ bys dg ++ nums (bd.size : Int) 2 2).length + bd.size ≤ 140737488355328) := by show _ ≤ _; simp only [List.length_append, nums_length, bys_length, HL1.out]; omega
  clear q0 q1 q2 q3 q4 q6 hd hb
  go_wp2_with (at_builtin; go_must (refine list_str (by rfl) _ _ 91 9 (by rfl) Tryz.underlying91 Tryz.underlying9 hi hz0 hz1 hz2 (w.heap.size + 1) _ _ bd _ (by rfl) (by rfl) o1 B1 hl.out ?_; intro v8 w8 o8 k8))
  go_ret
  rw [HE.out] at o8
  exact ⟨_, rfl, o8, g1.trans (k8.below o1 B1)⟩

end Go.Proofs.YtddmdnljfnimbaaGreatDoor.Mp
