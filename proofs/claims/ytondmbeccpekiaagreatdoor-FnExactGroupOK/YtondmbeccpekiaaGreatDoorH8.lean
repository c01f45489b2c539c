/- Texts put together: Msg, Msg2, MsgPut. -/
import Derived.Test.YtondmbeccpekiaaGreatDoorH2
import Derived.Test.YtondmbeccpekiaaGreatDoorH7
/- Messages: what both MessageOK functions answer, and their helpers. -/
namespace Go.Proofs.YtondmbeccpekiaaGreatDoor.Ms
open Go.RowKit Go.Proofs.YtondmbeccpekiaaGreatDoor.Rq

def placeB (sq : Int) (dg : ByteArray) : Bool := inB sq 1 8 && ((dg.size : Int) == 32)
def kindB (kd sq : Int) (dg bd : ByteArray) : Bool :=
  if kd = 1 then placeB sq dg && !bd.toList.isEmpty else if kd = 2 ∨ kd = 3 then placeB sq dg && bd.toList.isEmpty else if kd = 4 ∨ kd = 5 then (sq == 0) && dg.toList.isEmpty else false
def msgB (kd vw sq fr : Int) (dg bd mc : ByteArray) : Bool := inB vw 0 20 && (inB fr 0 6 && (((mc.size : Int) == 8) && (decide ((bd.size : Int) ≤ 20000) && kindB kd sq dg bd)))
def msgV (kd vw sq fr : Int) (dg bd mc : ByteArray) : Value := .agg #[.int .i64 kd, .int .i64 vw, .int .i64 sq, .int .i64 fr, .string dg, .string bd, .string mc]

theorem placeOK_any (kd vw sq fr : Int) (dg bd mc : ByteArray) (w : World) :
    Calls Tryz.prog 126 #[msgV kd vw sq fr dg bd mc] w fun e w' => e = .returned (.bool (placeB sq dg)) ∧ Below w.heap.size w w' := by
  unfold msgV
  cases h1 : inB sq 1 8
  · have HO : Hid (placeB sq dg = false) := by show placeB sq dg = false; unfold placeB; rw [h1]; rfl
    go_enter Tryz.func126, Tryz.ntmps126
    go_wp2_with (go_at_call 73; refine (within_any _ _ _ _).mono ?_; rintro e w' ⟨rfl, rfl⟩)
    go_ret
    exact ⟨ret_bool HO.out.symm, (Below.refl _ _).alloc (Nat.le_refl _) _⟩
  · have HO : Hid (placeB sq dg = ((dg.size : Int) == 32)) := by show placeB sq dg = _; unfold placeB; rw [h1]; rfl
    go_enter Tryz.func126, Tryz.ntmps126
    go_wp2_with (go_at_call 73; refine (within_any _ _ _ _).mono ?_; rintro e w' ⟨rfl, rfl⟩)
    go_ret
    exact ⟨ret_bool HO.out.symm, (Below.refl _ _).alloc (Nat.le_refl _) _⟩

theorem kind1 (sq : Int) (dg bd : ByteArray) : kindB 1 sq dg bd = (placeB sq dg && !bd.toList.isEmpty) := rfl
theorem kind2 (sq : Int) (dg bd : ByteArray) : kindB 2 sq dg bd = (placeB sq dg && bd.toList.isEmpty) := rfl
theorem kind3 (sq : Int) (dg bd : ByteArray) : kindB 3 sq dg bd = (placeB sq dg && bd.toList.isEmpty) := rfl
theorem kind4 (sq : Int) (dg bd : ByteArray) : kindB 4 sq dg bd = ((sq == 0) && dg.toList.isEmpty) := rfl
theorem kind5 (sq : Int) (dg bd : ByteArray) : kindB 5 sq dg bd = ((sq == 0) && dg.toList.isEmpty) := rfl
theorem kind_no (kd sq : Int) (dg bd : ByteArray) (h : kd < 1 ∨ 5 < kd) : kindB kd sq dg bd = false := by
  unfold kindB; rw [if_neg (by omega), if_neg (by omega), if_neg (by omega)]
theorem kinds (kd : Int) : kd = 1 ∨ kd = 2 ∨ kd = 3 ∨ kd = 4 ∨ kd = 5 ∨ (kd < 1 ∨ 5 < kd) := by omega

theorem msg_box {w w1 : World} {kd vw sq fr : Int} {dg bd mc : ByteArray} {t : TypeId} (hb : Below (w.heap.size + 1) (w.alloc (.cells #[.int .i64 kd, .int .i64 vw, .int .i64 sq, .int .i64 fr, .string dg, .string bd, .string mc] t)) w1) :
    w1.cell? ⟨w.heap.size, 0, none⟩ = some (.int .i64 kd) ∧ w1.cell? ⟨w.heap.size, 1, none⟩ = some (.int .i64 vw) ∧ w1.cell? ⟨w.heap.size, 2, none⟩ = some (.int .i64 sq) ∧ w1.cell? ⟨w.heap.size, 3, none⟩ = some (.int .i64 fr) ∧
      w1.cell? ⟨w.heap.size, 4, none⟩ = some (.string dg) ∧ w1.cell? ⟨w.heap.size, 5, none⟩ = some (.string bd) ∧ w1.cell? ⟨w.heap.size, 6, none⟩ = some (.string mc) :=
  ⟨box_cells hb 0, box_cells hb 1, box_cells hb 2, box_cells hb 3, box_cells hb 4, box_cells hb 5, box_cells hb 6⟩

set_option maxHeartbeats 800000 in
theorem messageKindOK_any (kd vw sq fr : Int) (dg bd mc : ByteArray) (w : World) :
    Calls Tryz.prog 103 #[msgV kd vw sq fr dg bd mc] w fun e w' => e = .returned (.bool (kindB kd sq dg bd)) ∧ Below w.heap.size w w' := by
  unfold msgV
  rcases kinds kd with rfl | rfl | rfl | rfl | rfl | h
  · have HO : Hid (_ = _) := kind1 sq dg bd
    cases hp : placeB sq dg
    all_goals
      rw [hp] at HO
      go_enter Tryz.func103, Tryz.ntmps103
      go_wp2_with (go_at_call 126; refine (placeOK_any 1 vw sq fr dg bd mc _).mono ?_; rintro e w' ⟨rfl, hb⟩; have q5 := (msg_box (box_first hb)).2.2.2.2.2.1)
      go_ret
      exact ⟨ret_bool (by rw [HO.out]; simp), box_old (box_first hb)⟩
  · have HO : Hid (_ = _) := kind2 sq dg bd
    cases hp : placeB sq dg
    all_goals
      rw [hp] at HO
      go_enter Tryz.func103, Tryz.ntmps103
      go_wp2_with (go_at_call 126; refine (placeOK_any 2 vw sq fr dg bd mc _).mono ?_; rintro e w' ⟨rfl, hb⟩; have q5 := (msg_box (box_first hb)).2.2.2.2.2.1)
      go_ret
      exact ⟨ret_bool (by rw [HO.out]; simp), box_old (box_first hb)⟩
  · have HO : Hid (_ = _) := kind3 sq dg bd
    cases hp : placeB sq dg
    all_goals
      rw [hp] at HO
      go_enter Tryz.func103, Tryz.ntmps103
      go_wp2_with (go_at_call 126; refine (placeOK_any 3 vw sq fr dg bd mc _).mono ?_; rintro e w' ⟨rfl, hb⟩; have q5 := (msg_box (box_first hb)).2.2.2.2.2.1)
      go_ret
      exact ⟨ret_bool (by rw [HO.out]; simp), box_old (box_first hb)⟩
  · have HO : Hid (_ = _) := kind4 sq dg bd
    cases hp : (sq == 0)
    all_goals
      rw [hp] at HO
      go_enter Tryz.func103, Tryz.ntmps103
      go_wp2
      go_ret
      exact ⟨ret_bool (by rw [HO.out]; simp), (Below.refl _ _).alloc (Nat.le_refl _) _⟩
  · have HO : Hid (_ = _) := kind5 sq dg bd
    cases hp : (sq == 0)
    all_goals
      rw [hp] at HO
      go_enter Tryz.func103, Tryz.ntmps103
      go_wp2
      go_ret
      exact ⟨ret_bool (by rw [HO.out]; simp), (Below.refl _ _).alloc (Nat.le_refl _) _⟩
  · have HO : Hid (kindB kd sq dg bd = false) := kind_no kd sq dg bd h
    have e1 : (kd == 1) = false := beq_eq_false_iff_ne.2 (by omega)
    have e2 : (kd == 2) = false := beq_eq_false_iff_ne.2 (by omega)
    have e3 : (kd == 3) = false := beq_eq_false_iff_ne.2 (by omega)
    have e4 : (kd == 4) = false := beq_eq_false_iff_ne.2 (by omega)
    have e5 : (kd == 5) = false := beq_eq_false_iff_ne.2 (by omega)
    go_enter Tryz.func103, Tryz.ntmps103
    go_wp2
    go_ret
    exact ⟨ret_bool HO.out.symm, (Below.refl _ _).alloc (Nat.le_refl _) _⟩
end Go.Proofs.YtondmbeccpekiaaGreatDoor.Ms

/- Messages: both MessageOK functions, and the laws' own helpers over messages. -/
namespace Go.Proofs.YtondmbeccpekiaaGreatDoor.Ms
open Go.RowKit Go.Proofs.YtondmbeccpekiaaGreatDoor.Rq

theorem msg_eq (kd vw sq fr : Int) (dg bd mc : ByteArray) : msgB kd vw sq fr dg bd mc = (inB vw 0 20 && (inB fr 0 6 && (((mc.size : Int) == 8) && (decide ((bd.size : Int) ≤ 20000) && kindB kd sq dg bd)))) := rfl
theorem al1 (w : World) (o : Obj) : Below w.heap.size w (w.alloc o) := (Below.refl _ _).alloc (Nat.le_refl _) _
set_option maxHeartbeats 400000 in
theorem nodeOK_any (n : Int) (w : World) : Calls Tryz.prog 102 #[.int .i64 n] w fun e w' => e = .returned (.bool (inB n 0 6)) ∧ w' = w := by
  go_enter Tryz.func102, Tryz.ntmps102
  go_wp2_with (go_at_call 73; refine (within_any n 0 6 _).mono ?_; rintro e w' ⟨rfl, rfl⟩)
  go_ret
  exact ⟨rfl, rfl⟩
set_option maxHeartbeats 800000 in
theorem implMessageOK_any (kd vw sq fr : Int) (dg bd mc : ByteArray) (w : World) :
    Calls Tryz.prog 74 #[msgV kd vw sq fr dg bd mc] w fun e w' => e = .returned (.bool (msgB kd vw sq fr dg bd mc)) ∧ Below w.heap.size w w' := by
  unfold msgV
  have HO : Hid (msgB kd vw sq fr dg bd mc = _) := msg_eq kd vw sq fr dg bd mc
  cases h1 : inB vw 0 20
  · rw [h1] at HO
    go_enter Tryz.func74, Tryz.ntmps74
    go_wp2_with (first | (go_at_call 73; refine (within_any _ _ _ _).mono ?_; rintro e w' ⟨rfl, rfl⟩) | (go_at_call 102; refine (nodeOK_any _ _).mono ?_; rintro e w' ⟨rfl, rfl⟩))
    go_ret
    exact ⟨ret_bool HO.out.symm, al1 _ _⟩
  cases h2 : inB fr 0 6
  · rw [h1, h2] at HO
    go_enter Tryz.func74, Tryz.ntmps74
    go_wp2_with (first | (go_at_call 73; refine (within_any _ _ _ _).mono ?_; rintro e w' ⟨rfl, rfl⟩) | (go_at_call 102; refine (nodeOK_any _ _).mono ?_; rintro e w' ⟨rfl, rfl⟩))
    go_ret
    exact ⟨ret_bool HO.out.symm, al1 _ _⟩
  cases h3 : ((mc.size : Int) == 8)
  · rw [h1, h2, h3] at HO
    go_enter Tryz.func74, Tryz.ntmps74
    go_wp2_with (first | (go_at_call 73; refine (within_any _ _ _ _).mono ?_; rintro e w' ⟨rfl, rfl⟩) | (go_at_call 102; refine (nodeOK_any _ _).mono ?_; rintro e w' ⟨rfl, rfl⟩))
    go_ret
    exact ⟨ret_bool HO.out.symm, al1 _ _⟩
  cases h4 : decide ((bd.size : Int) ≤ 20000)
  · rw [h1, h2, h3, h4] at HO
    have h4' : (20000 : Int) < (bd.size : Int) := by simpa using h4
    go_enter Tryz.func74, Tryz.ntmps74
    go_wp2_with (first | (go_at_call 73; refine (within_any _ _ _ _).mono ?_; rintro e w' ⟨rfl, rfl⟩) | (go_at_call 102; refine (nodeOK_any _ _).mono ?_; rintro e w' ⟨rfl, rfl⟩))
    go_ret
    exact ⟨ret_bool HO.out.symm, al1 _ _⟩
  rw [h1, h2, h3, h4] at HO
  have h4' : (bd.size : Int) ≤ 20000 := by simpa using h4
  go_enter Tryz.func74, Tryz.ntmps74
  go_wp2_with (first | (go_at_call 73; refine (within_any _ _ _ _).mono ?_; rintro e w' ⟨rfl, rfl⟩) | (go_at_call 102; refine (nodeOK_any _ _).mono ?_; rintro e w' ⟨rfl, rfl⟩) | (go_at_call 103; refine (messageKindOK_any kd vw sq fr dg bd mc _).mono ?_; rintro e w' ⟨rfl, hb⟩))
  go_ret
  exact ⟨ret_bool HO.out.symm, box_old (box_first hb)⟩

theorem msg_split (kd vw sq fr : Int) (dg bd mc : ByteArray) : msgB kd vw sq fr dg bd mc = (inB kd 1 5 && (inB vw 0 20 && (inB fr 0 6 && (((mc.size : Int) == 8) && (decide ((bd.size : Int) ≤ 20000) && kindB kd sq dg bd))))) := by
  cases h : inB kd 1 5
  · have : kindB kd sq dg bd = false := kind_no kd sq dg bd (by unfold inB at h; simp at h; omega)
    unfold msgB
    rw [this]
    simp
  · unfold msgB
    simp

set_option maxHeartbeats 1600000 in
theorem specMessageOK_any (kd vw sq fr : Int) (dg bd mc : ByteArray) (w : World) :
    Calls Tryz.prog 66 #[msgV kd vw sq fr dg bd mc] w fun e w' => e = .returned (.bool (msgB kd vw sq fr dg bd mc)) ∧ Below w.heap.size w w' := by
  unfold msgV
  have HO : Hid (msgB kd vw sq fr dg bd mc = _) := msg_split kd vw sq fr dg bd mc
  cases h0 : inB kd 1 5
  · rw [h0] at HO
    go_enter Tryz.func66, Tryz.ntmps66
    go_wp2_with (go_at_call 29; refine (l01In_any _ _ _ _).mono ?_; rintro e w' ⟨rfl, rfl⟩)
    go_ret
    exact ⟨ret_bool HO.out.symm, al1 _ _⟩
  cases h1 : inB vw 0 20
  · rw [h0, h1] at HO
    go_enter Tryz.func66, Tryz.ntmps66
    go_wp2_with (go_at_call 29; refine (l01In_any _ _ _ _).mono ?_; rintro e w' ⟨rfl, rfl⟩)
    go_ret
    exact ⟨ret_bool HO.out.symm, al1 _ _⟩
  cases h2 : inB fr 0 6
  · rw [h0, h1, h2] at HO
    go_enter Tryz.func66, Tryz.ntmps66
    go_wp2_with (go_at_call 29; refine (l01In_any _ _ _ _).mono ?_; rintro e w' ⟨rfl, rfl⟩)
    go_ret
    exact ⟨ret_bool HO.out.symm, al1 _ _⟩
  cases h3 : ((mc.size : Int) == 8)
  · rw [h0, h1, h2, h3] at HO
    have h3' : ((mc.size : Int) != 8) = true := by rw [bne, h3]; rfl
    go_enter Tryz.func66, Tryz.ntmps66
    go_wp2_with (go_at_call 29; refine (l01In_any _ _ _ _).mono ?_; rintro e w' ⟨rfl, rfl⟩)
    go_ret
    exact ⟨ret_bool HO.out.symm, al1 _ _⟩
  have h3' : ((mc.size : Int) != 8) = false := by rw [bne, h3]; rfl
  cases h4 : decide ((bd.size : Int) ≤ 20000)
  · rw [h0, h1, h2, h3, h4] at HO
    have h4' : (20000 : Int) < (bd.size : Int) := by simpa using h4
    go_enter Tryz.func66, Tryz.ntmps66
    go_wp2_with (go_at_call 29; refine (l01In_any _ _ _ _).mono ?_; rintro e w' ⟨rfl, rfl⟩)
    go_ret
    exact ⟨ret_bool HO.out.symm, al1 _ _⟩
  rw [h0, h1, h2, h3, h4] at HO
  have h4' : (bd.size : Int) ≤ 20000 := by simpa using h4
  clear h3 h4
  rcases kinds kd with rfl | rfl | rfl | rfl | rfl | h
  · rw [kind1] at HO
    unfold placeB at HO
    cases h5 : inB sq 1 8
    · rw [h5] at HO
      go_enter Tryz.func66, Tryz.ntmps66
      go_wp2_with (go_at_call 29; refine (l01In_any _ _ _ _).mono ?_; rintro e w' ⟨rfl, rfl⟩)
      go_ret
      exact ⟨ret_bool HO.out.symm, al1 _ _⟩
    cases h6 : ((dg.size : Int) == 32)
    all_goals
      rw [h5, h6] at HO
      go_enter Tryz.func66, Tryz.ntmps66
      go_wp2_with (go_at_call 29; refine (l01In_any _ _ _ _).mono ?_; rintro e w' ⟨rfl, rfl⟩)
      go_ret
      exact ⟨ret_bool (by rw [HO.out]; simp), al1 _ _⟩
  · rw [kind2] at HO
    unfold placeB at HO
    cases h5 : inB sq 1 8
    · rw [h5] at HO
      go_enter Tryz.func66, Tryz.ntmps66
      go_wp2_with (go_at_call 29; refine (l01In_any _ _ _ _).mono ?_; rintro e w' ⟨rfl, rfl⟩)
      go_ret
      exact ⟨ret_bool HO.out.symm, al1 _ _⟩
    cases h6 : ((dg.size : Int) == 32)
    all_goals
      rw [h5, h6] at HO
      go_enter Tryz.func66, Tryz.ntmps66
      go_wp2_with (go_at_call 29; refine (l01In_any _ _ _ _).mono ?_; rintro e w' ⟨rfl, rfl⟩)
      go_ret
      exact ⟨ret_bool (by rw [HO.out]; simp), al1 _ _⟩
  · rw [kind3] at HO
    unfold placeB at HO
    cases h5 : inB sq 1 8
    · rw [h5] at HO
      go_enter Tryz.func66, Tryz.ntmps66
      go_wp2_with (go_at_call 29; refine (l01In_any _ _ _ _).mono ?_; rintro e w' ⟨rfl, rfl⟩)
      go_ret
      exact ⟨ret_bool HO.out.symm, al1 _ _⟩
    cases h6 : ((dg.size : Int) == 32)
    all_goals
      rw [h5, h6] at HO
      go_enter Tryz.func66, Tryz.ntmps66
      go_wp2_with (go_at_call 29; refine (l01In_any _ _ _ _).mono ?_; rintro e w' ⟨rfl, rfl⟩)
      go_ret
      exact ⟨ret_bool (by rw [HO.out]; simp), al1 _ _⟩
  · rw [kind4] at HO
    cases h5 : (sq == 0)
    all_goals
      rw [h5] at HO
      go_enter Tryz.func66, Tryz.ntmps66
      go_wp2_with (go_at_call 29; refine (l01In_any _ _ _ _).mono ?_; rintro e w' ⟨rfl, rfl⟩)
      go_ret
      exact ⟨ret_bool (by rw [HO.out]; simp), al1 _ _⟩
  · rw [kind5] at HO
    cases h5 : (sq == 0)
    all_goals
      rw [h5] at HO
      go_enter Tryz.func66, Tryz.ntmps66
      go_wp2_with (go_at_call 29; refine (l01In_any _ _ _ _).mono ?_; rintro e w' ⟨rfl, rfl⟩)
      go_ret
      exact ⟨ret_bool (by rw [HO.out]; simp), al1 _ _⟩
  · exact absurd h0 (by unfold inB; simp; omega)

end Go.Proofs.YtondmbeccpekiaaGreatDoor.Ms

/- Messages' bytes: both MessageBytes functions. -/
namespace Go.Proofs.YtondmbeccpekiaaGreatDoor.Mp
open Go.RowKit Go.Proofs.YtondmbeccpekiaaGreatDoor.Sl Go.Proofs.YtondmbeccpekiaaGreatDoor.By Go.Proofs.YtondmbeccpekiaaGreatDoor.Rq Go.Proofs.YtondmbeccpekiaaGreatDoor.Ap Go.Proofs.YtondmbeccpekiaaGreatDoor.Pu Go.Proofs.YtondmbeccpekiaaGreatDoor.Ms Go.Proofs.YtondmbeccpekiaaGreatDoor.Rp

theorem empty_size (s : ByteArray) : s.toList.isEmpty = decide (s.size = 0) := by
  rw [ByteArray.toList_eq]
  obtain ⟨⟨l⟩⟩ := s
  cases l <;> simp [ByteArray.size]
def headBs (kd vw sq fr : Int) (dg : ByteArray) : List Int := nums kd 1 1 ++ (nums vw 1 1 ++ (nums sq 1 1 ++ (nums fr 1 1 ++ nums (dg.size : Int) 1 1)))
def plainBs (kd vw sq fr : Int) (dg bd : ByteArray) : List Int := headBs kd vw sq fr dg ++ bys dg ++ nums (bd.size : Int) 2 2 ++ bys bd
def msgBs (kd vw sq fr : Int) (dg bd mc : ByteArray) : List Int := plainBs kd vw sq fr dg bd ++ bys mc
theorem headBs_length (kd vw sq fr : Int) (dg : ByteArray) : (headBs kd vw sq fr dg).length = 5 := by unfold headBs; simp only [List.length_append, nums_length]
theorem plainBs_length (kd vw sq fr : Int) (dg bd : ByteArray) : (plainBs kd vw sq fr dg bd).length = 7 + dg.size + bd.size := by unfold plainBs; simp only [List.length_append, headBs_length, nums_length, bys_length]; omega
theorem msgBs_length (kd vw sq fr : Int) (dg bd mc : ByteArray) : (msgBs kd vw sq fr dg bd mc).length = 7 + dg.size + bd.size + mc.size := by unfold msgBs; rw [List.length_append, plainBs_length, bys_length]
theorem msgBs_range (kd vw sq fr : Int) (dg bd mc : ByteArray) : ∀ z ∈ msgBs kd vw sq fr dg bd mc, 0 ≤ z ∧ z ≤ 255 := by
  intro z hz
  unfold msgBs plainBs headBs at hz
  simp only [List.mem_append, or_assoc] at hz
  rcases hz with h | h | h | h | h | h | h | h | h
  all_goals first | exact nums_range _ _ _ z h | exact bys_range _ z h
theorem msg_small {kd vw sq fr : Int} {dg bd mc : ByteArray} (h : msgB kd vw sq fr dg bd mc = true) : dg.size ≤ 32 ∧ bd.size ≤ 20000 ∧ mc.size = 8 := by
  rw [msg_eq] at h
  simp only [Bool.and_eq_true, beq_iff_eq, decide_eq_true_eq] at h
  obtain ⟨_, _, h3, h4, h5⟩ := h
  refine ⟨?_, by omega, by omega⟩
  rcases kinds kd with rfl | rfl | rfl | rfl | rfl | hk
  · rw [kind1] at h5; unfold placeB at h5; simp at h5; omega
  · rw [kind2] at h5; unfold placeB at h5; simp at h5; omega
  · rw [kind3] at h5; unfold placeB at h5; simp at h5; omega
  · rw [kind4, empty_size] at h5; simp only [Bool.and_eq_true, decide_eq_true_eq] at h5; omega
  · rw [kind5, empty_size] at h5; simp only [Bool.and_eq_true, decide_eq_true_eq] at h5; omega
  · rw [kind_no _ _ _ _ hk] at h5; cases h5
def msgOut (kd vw sq fr : Int) (dg bd mc : ByteArray) : List Int := if msgB kd vw sq fr dg bd mc then msgBs kd vw sq fr dg bd mc else []
def msgCode (kd vw sq fr : Int) (dg bd mc : ByteArray) : Int := if msgB kd vw sq fr dg bd mc then 0 else 1

set_option maxHeartbeats 1600000 in
theorem implMessageBytes_any (kd vw sq fr : Int) (dg bd mc : ByteArray) (w : World) :
    Calls Tryz.prog 104 #[msgV kd vw sq fr dg bd mc] w fun e w' => ∃ v, e = .returned (.tuple #[v, .int .i64 (msgCode kd vw sq fr dg bd mc)]) ∧ OwnB 5 w' w.heap.size v (msgOut kd vw sq fr dg bd mc) ∧ Below w.heap.size w w' := by
  obtain ⟨i0, hi, hz0, hz1, hz2⟩ := info_parts Sl.info5
  cases hq : msgB kd vw sq fr dg bd mc
  · have HC : Hid (msgCode kd vw sq fr dg bd mc = 1) := by show _ = _; unfold msgCode; rw [hq]; rfl
    have HO : Hid (msgOut kd vw sq fr dg bd mc = []) := by show _ = _; unfold msgOut; rw [hq]; rfl
    go_enter Tryz.func104, Tryz.ntmps104
    unfold msgV
    go_wp2_with (go_at_call 74; refine (implMessageOK_any kd vw sq fr dg bd mc _).mono ?_; rintro e w1 ⟨rfl, b1⟩; rw [hq]; have g1 := box_first b1; clear b1)
    go_ret2
    exact ⟨_, ret_tup HC.out.symm, by rw [HO.out]; exact own_nil _ _ _, box_old g1⟩
  have HC : Hid (msgCode kd vw sq fr dg bd mc = 0) := by show _ = _; unfold msgCode; rw [hq]; rfl
  have HO : Hid (msgOut kd vw sq fr dg bd mc = msgBs kd vw sq fr dg bd mc) := by show _ = _; unfold msgOut; rw [hq]; rfl
  obtain ⟨hd, hb, hm⟩ := msg_small hq
  have HM : Hid (mc.size = 8) := hm
  clear hm
  go_enter Tryz.func104, Tryz.ntmps104
  unfold msgV
  go_wp2_with fail
  refine (implMessageOK_any kd vw sq fr dg bd mc _).mono ?_
  rintro e w1 ⟨rfl, b1⟩
  rw [hq]
  have g1 := box_first b1
  obtain ⟨q0, q1, q2, q3, q4, q5, q6⟩ := msg_box g1
  clear b1
  go_wp2_with fail
  refine (putNumber_any (.slice none 0 0) [] kd 1 w1.heap.size _ (own_nil _ _ _) (Nat.le_refl _) (by decide) (by simp)).mono ?_
  rintro e w2 ⟨v2, rfl, o2, k2⟩
  obtain ⟨q0', q1', q2', q3', q4', q5', q6'⟩ := msg_box (box_next g1 k2.nil)
  have O2 : Hid (_) := o2
  clear q0 q1 q2 q3 q4 q5 q6 o2
  go_wp2_with fail
  refine (putNumber_any v2 _ vw 1 w1.heap.size _ O2.out k2.size (by decide) (by simp only [List.length_append, nums_length]; decide)).mono ?_
  rintro e w3 ⟨v3, rfl, o3, k3'⟩
  have k3 := k2.trans k3'
  obtain ⟨q0, q1, q2, q3, q4, q5, q6⟩ := msg_box (box_next g1 k3.nil)
  have O3 : Hid (_) := o3
  clear q0' q1' q2' q3' q4' q5' q6' o3 O2 k2 k3'
  go_wp2_with fail
  refine (putNumber_any v3 _ sq 1 w1.heap.size _ O3.out k3.size (by decide) (by simp only [List.length_append, nums_length]; decide)).mono ?_
  rintro e w4 ⟨v4, rfl, o4, k4'⟩
  have k4 := k3.trans k4'
  obtain ⟨q0', q1', q2', q3', q4', q5', q6'⟩ := msg_box (box_next g1 k4.nil)
  have O4 : Hid (_) := o4
  clear q0 q1 q2 q3 q4 q5 q6 o4 O3 k3 k4'
  go_wp2_with fail
  refine (putNumber_any v4 _ fr 1 w1.heap.size _ O4.out k4.size (by decide) (by simp only [List.length_append, nums_length]; decide)).mono ?_
  rintro e w5 ⟨v5, rfl, o5, k5'⟩
  have k5 := k4.trans k5'
  obtain ⟨q0, q1, q2, q3, q4, q5, q6⟩ := msg_box (box_next g1 k5.nil)
  have O5 : Hid (_) := o5
  clear q0' q1' q2' q3' q4' q5' q6' o5 O4 k4 k5'
  go_wp2_with fail
  refine (putText_any v5 _ dg 1 w1.heap.size _ O5.out k5.size (by decide) (by simp only [List.length_append, nums_length]; decide) (by omega)).mono ?_
  rintro e w6 ⟨v6, rfl, o6, k6'⟩
  have k6 := k5.trans k6'
  obtain ⟨q0', q1', q2', q3', q4', q5', q6'⟩ := msg_box (box_next g1 k6.nil)
  have O6 : Hid (_) := o6
  clear q0 q1 q2 q3 q4 q5 q6 o6 O5 k5 k6'
  go_wp2_with fail
  refine (putText_any v6 _ bd 2 w1.heap.size _ O6.out k6.size (by decide) (by simp only [List.length_append, nums_length, bys_length, List.length_nil]; omega) (by omega)).mono ?_
  rintro e w7 ⟨v7, rfl, o7, k7'⟩
  have k7 := k6.trans k7'
  obtain ⟨q0, q1, q2, q3, q4, q5, q6⟩ := msg_box (box_next g1 k7.nil)
  have hl : Hid (([] ++ nums kd 1 1 ++ nums vw 1 1 ++ nums sq 1 1 ++ nums fr 1 1 ++ nums (dg.size : Int) 1 1 ++ bys dg ++ nums (bd.size : Int) 2 2 ++ bys bd).length + mc.size ≤ 140737488355328) := by
    show _ ≤ _
    have := HM.out
    simp only [List.length_append, nums_length, bys_length, List.length_nil]
    omega
  have HE : Hid ([] ++ nums kd 1 1 ++ nums vw 1 1 ++ nums sq 1 1 ++ nums fr 1 1 ++ nums (dg.size : Int) 1 1 ++ bys dg ++ nums (bd.size : Int) 2 2 ++ bys bd ++ bys mc = msgBs kd vw sq fr dg bd mc) := by
    show _ = _
    unfold msgBs plainBs headBs
    simp [List.append_assoc]
  clear q0' q1' q2' q3' q4' q5' q6' O6 k6 k7' hd hb
  go_wp2_with (at_builtin; go_must (refine list_str (by rfl) _ _ 107 9 (by rfl) Tryz.underlying107 Tryz.underlying9 hi hz0 hz1 hz2 w1.heap.size _ _ mc _ (by rfl) (by rfl) o7 k7.size hl.out ?_; intro v8 w8 o8 k8))
  go_ret2
  rw [HE.out] at o8
  exact ⟨_, ret_tup HC.out.symm, by rw [HO.out]; exact own_le o8 (box_old g1).size, box_old (box_next g1 (k7.trans k8).nil)⟩

set_option maxRecDepth 100000 in
set_option maxHeartbeats 1600000 in
theorem l02Plain_any (kd vw sq fr : Int) (dg bd mc : ByteArray) (w : World) (hd : dg.size ≤ 1000) (hb : bd.size ≤ 100000) :
    Calls Tryz.prog 68 #[msgV kd vw sq fr dg bd mc] w fun e w' => ∃ v, e = .returned v ∧ OwnB 5 w' (w.heap.size + 1) v (plainBs kd vw sq fr dg bd) ∧ Below (w.heap.size + 1) (w.alloc (.cells #[.int .i64 kd, .int .i64 vw, .int .i64 sq, .int .i64 fr, .string dg, .string bd, .string mc] 59)) w' := by
  obtain ⟨i0, hi, hz0, hz1, hz2⟩ := info_parts Sl.info5
  have hs0 : Hid (w.heap.size + 1 = (w.alloc (.cells #[.int .i64 kd, .int .i64 vw, .int .i64 sq, .int .i64 fr, .string dg, .string bd, .string mc] 59)).heap.size) := (size_new _ _).symm
  have HH : Hid ([kd % 256, vw % 256, sq % 256, fr % 256, (dg.size : Int) % 256] = headBs kd vw sq fr dg) := by show _ = _; simp [headBs, nums, nb]
  go_enter Tryz.func68, Tryz.ntmps68
  unfold msgV
  go_upto_region 1 with fail
  go_cut [3] (fun s3 wx => OwnB 5 wx (w.heap.size + 1) s3 (headBs kd vw sq fr dg) ∧ Below (w.heap.size + 1) (w.alloc (.cells #[.int .i64 kd, .int .i64 vw, .int .i64 sq, .int .i64 fr, .string dg, .string bd, .string mc] 59)) wx)
  case first =>
    go_wp2_with fail
    go_meet
    refine ⟨?_, (Below.refl _ _).alloc (by simp) _⟩
    rw [← HH.out]
    have := own_lit 5 (w.alloc (.cells #[.int .i64 kd, .int .i64 vw, .int .i64 sq, .int .i64 fr, .string dg, .string bd, .string mc] 59)) (w.heap.size + 1) [kd % 256, vw % 256, sq % 256, fr % 256, (dg.size : Int) % 256] 5 rfl (by simp) (by decide)
    rw [← hs0.out] at this
    exact this
  case rest =>
  obtain ⟨o1, g1⟩ := hcut
  have B1 : w.heap.size + 1 ≤ wc.heap.size := Nat.le_trans (Nat.le_of_eq hs0.out) g1.size
  obtain ⟨q0, q1, q2, q3, q4, q5, q6⟩ := msg_box g1
  have HE : Hid (headBs kd vw sq fr dg ++ bys dg ++ nums (bd.size : Int) 2 2 ++ bys bd = plainBs kd vw sq fr dg bd) := rfl
  have HL1 : Hid ((headBs kd vw sq fr dg).length = 5) := headBs_length _ _ _ _ _
  generalize headBs kd vw sq fr dg = zs at o1 HE HL1
  clear q0 q1 q2 q3 q6 HH
  go_upto_region 2 with fail
  go_cut [3] (fun s3 wx => OwnB 5 wx (w.heap.size + 1) s3 (zs ++ bys dg ++ nums (bd.size : Int) 2 2) ∧ Below (w.heap.size + 1) (w.alloc (.cells #[.int .i64 kd, .int .i64 vw, .int .i64 sq, .int .i64 fr, .string dg, .string bd, .string mc] 59)) wx)
  case first =>
    have HW : Hid (∀ g, u3.ownBlock = some g → g < wc.heap.size) := own_lt o1
    go_region_law (first
      | (go_simp; go_at_call 98; refine (l02Number_any (bd.size : Int) 2 _ (by decide)).mono ?_; rintro e w3 ⟨v3, rfl, o3, b3⟩; (first | (with_reducible (have hA := ordC o2 g2 B2 b3); obtain ⟨f24, g3, B3⟩ := hA; have r28 := own_rowB o3 (nums_range _ _ _)) | (with_reducible (have hA := ordB2 o1 g1 B1 b3); obtain ⟨f21, g3, B3⟩ := hA; have o28 : OwnB 5 w3 wc.heap.size v3 _ := o3)); obtain ⟨y0, y1, y2, y3, y4, y5, y6⟩ := msg_box g3; clear o3 b3; try go_simp)
      | (refine step_row (by rfl) _ _ 107 (by rfl) Tryz.underlying107 hi hz0 hz1 hz2 (w.heap.size + 1) _ _ _ _ _ (by rfl) (by rfl) f24 B3 r28 (by simp only [List.length_append, nums_length, HL1.out, bys_length]; omega) ?_; intro v5 w5 o5 k5; have g5 := g3.trans (k5.below f24 B3))
      | (refine step_row (by rfl) _ _ 107 (by rfl) Tryz.underlying107 hi hz0 hz1 hz2 (w.heap.size + 1) _ _ _ _ _ (by rfl) (by rfl) o2 B2 r28 (by simp only [List.length_append, nums_length, HL1.out, bys_length]; omega) ?_; intro v5 w5 o5 k5; have g5 := g2.trans (k5.below o2 B2))
      | (refine step_str (by rfl) _ _ 107 9 (by rfl) Tryz.underlying107 Tryz.underlying9 hi hz0 hz1 hz2 (w.heap.size + 1) _ _ dg _ (by rfl) (by rfl) f21 B3 (by simp only [HL1.out]; omega) ?_; intro v2 w2 o2 k2; have g2 := g3.trans (k2.below f21 B3); have B2 : w.heap.size + 1 ≤ w2.heap.size := Nat.le_trans B3 k2.size; have r28 := own_rowB (own_kp o28 k2 HW.out) (nums_range _ _ _); obtain ⟨x0, x1, x2, x3, x4, x5, x6⟩ := msg_box g2)
      | (refine step_str (by rfl) _ _ 107 9 (by rfl) Tryz.underlying107 Tryz.underlying9 hi hz0 hz1 hz2 (w.heap.size + 1) _ _ dg _ (by rfl) (by rfl) (own_drew o1) B1 (by simp only [HL1.out]; omega) ?_; intro v2 w2 o2 k2; have g2 := g1.drew.trans (k2.below (own_drew o1) B1); have B2 : w.heap.size + 1 ≤ w2.heap.size := Nat.le_trans B1 k2.size; obtain ⟨x0, x1, x2, x3, x4, x5, x6⟩ := msg_box g2))
    all_goals
      go_wp2_with fail
      go_meet
      exact ⟨o5, g5⟩
  case rest =>
  clear q4 q5 o1 g1 B1
  obtain ⟨o1, g1⟩ := hcut
  have B1 : w.heap.size + 1 ≤ wc.heap.size := Nat.le_trans (Nat.le_of_eq hs0.out) g1.size
  obtain ⟨q0, q1, q2, q3, q4, q5, q6⟩ := msg_box g1
  have hl : Hid ((zs ++ bys dg ++ nums (bd.size : Int) 2 2).length + bd.size ≤ 140737488355328) := by show _ ≤ _; simp only [List.length_append, nums_length, bys_length, HL1.out]; omega
  clear q0 q1 q2 q3 q4 q6 hd hb
  go_wp2_with (at_builtin; go_must (refine list_str (by rfl) _ _ 107 9 (by rfl) Tryz.underlying107 Tryz.underlying9 hi hz0 hz1 hz2 (w.heap.size + 1) _ _ bd _ (by rfl) (by rfl) o1 B1 hl.out ?_; intro v8 w8 o8 k8))
  go_ret
  rw [HE.out] at o8
  exact ⟨_, rfl, o8, g1.trans (k8.below o1 B1)⟩

end Go.Proofs.YtondmbeccpekiaaGreatDoor.Mp
