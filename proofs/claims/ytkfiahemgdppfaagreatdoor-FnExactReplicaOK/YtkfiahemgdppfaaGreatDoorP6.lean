/- Texts put together: MsgPut, Tz, Shelf. -/
import Derived.Test.YtkfiahemgdppfaaGreatDoorP4
import Derived.Test.YtkfiahemgdppfaaGreatDoorP5
import Derived.Test.YtkfiahemgdppfaaGreatDoorP0
import Derived.Lib.SmallJoins
import Derived.Lib.ConvBytes
import Derived.Laws.MakeOwn
import Derived.Laws.NewBlocks
import Derived.Deep.QuietTactic
import Derived.BigQuiet
import Derived.Shelf.Strings.OnBuilder
import Derived.Test.YtkfiahemgdppfaaGreatDoorProg
/- Messages' bytes: both MessageBytes functions. -/
namespace Go.Proofs.YtkfiahemgdppfaaGreatDoor.Mp
open Go.RowKit Go.Proofs.YtkfiahemgdppfaaGreatDoor.Sl Go.Proofs.YtkfiahemgdppfaaGreatDoor.By Go.Proofs.YtkfiahemgdppfaaGreatDoor.Rq Go.Proofs.YtkfiahemgdppfaaGreatDoor.Ap Go.Proofs.YtkfiahemgdppfaaGreatDoor.Pu Go.Proofs.YtkfiahemgdppfaaGreatDoor.Ms Go.Proofs.YtkfiahemgdppfaaGreatDoor.Rp

theorem empty_size (s : ByteArray) : s.toList.isEmpty = decide (s.size = 0) := by
  rw [ByteArray.toList_eq]
  obtain ⟨⟨l⟩⟩ := s
  cases l <;> simp [ByteArray.size]
/-- The first five bytes of a message. -/
def headBs (kd vw sq fr : Int) (dg : ByteArray) : List Int := nums kd 1 1 ++ (nums vw 1 1 ++ (nums sq 1 1 ++ (nums fr 1 1 ++ nums (dg.size : Int) 1 1)))
def plainBs (kd vw sq fr : Int) (dg bd : ByteArray) : List Int := headBs kd vw sq fr dg ++ bys dg ++ nums (bd.size : Int) 2 2 ++ bys bd
/-- A message's bytes. -/
def msgBs (kd vw sq fr : Int) (dg bd mc : ByteArray) : List Int := plainBs kd vw sq fr dg bd ++ bys mc
theorem headBs_length (kd vw sq fr : Int) (dg : ByteArray) : (headBs kd vw sq fr dg).length = 5 := by unfold headBs; simp only [List.length_append, nums_length]
theorem plainBs_length (kd vw sq fr : Int) (dg bd : ByteArray) : (plainBs kd vw sq fr dg bd).length = 7 + dg.size + bd.size := by unfold plainBs; simp only [List.length_append, headBs_length, nums_length, bys_length]; omega
theorem msgBs_length (kd vw sq fr : Int) (dg bd mc : ByteArray) : (msgBs kd vw sq fr dg bd mc).length = 7 + dg.size + bd.size + mc.size := by unfold msgBs; rw [List.length_append, plainBs_length, bys_length]
theorem msgBs_range (kd vw sq fr : Int) (dg bd mc : ByteArray) : ∀ z ∈ msgBs kd vw sq fr dg bd mc, 0 ≤ z ∧ z ≤ 255 := by
  intro z hz
  unfold msgBs plainBs headBs at hz
  simp only [List.mem_append, or_assoc] at hz
  rcases hz with h | h | h | h | h | h | h | h | h
  all_goals first | exact nums_range _ _ _ z h | exact bys_range _ z h
theorem msg_small {kd vw sq fr : Int} {dg bd mc : ByteArray} (h : msgB kd vw sq fr dg bd mc = true) : dg.size ≤ 32 ∧ bd.size ≤ 20000 ∧ mc.size = 8 := by
  rw [msg_eq] at h
  simp only [Bool.and_eq_true, beq_iff_eq, decide_eq_true_eq] at h
  obtain ⟨_, _, h3, h4, h5⟩ := h
  refine ⟨?_, by omega, by omega⟩
  rcases kinds kd with rfl | rfl | rfl | rfl | rfl | hk
  · rw [kind1] at h5; unfold placeB at h5; simp at h5; omega
  · rw [kind2] at h5; unfold placeB at h5; simp at h5; omega
  · rw [kind3] at h5; unfold placeB at h5; simp at h5; omega
  · rw [kind4, empty_size] at h5; simp only [Bool.and_eq_true, decide_eq_true_eq] at h5; omega
  · rw [kind5, empty_size] at h5; simp only [Bool.and_eq_true, decide_eq_true_eq] at h5; omega
  · rw [kind_no _ _ _ _ hk] at h5; cases h5
def msgOut (kd vw sq fr : Int) (dg bd mc : ByteArray) : List Int := if msgB kd vw sq fr dg bd mc then msgBs kd vw sq fr dg bd mc else []
def msgCode (kd vw sq fr : Int) (dg bd mc : ByteArray) : Int := if msgB kd vw sq fr dg bd mc then 0 else 1

set_option maxHeartbeats 1600000 in
theorem implMessageBytes_any (kd vw sq fr : Int) (dg bd mc : ByteArray) (w : World) :
    Calls Tryz.prog 121 #[msgV kd vw sq fr dg bd mc] w fun e w' => ∃ v, e = .returned (.tuple #[v, .int .i64 (msgCode kd vw sq fr dg bd mc)]) ∧ OwnB 5 w' w.heap.size v (msgOut kd vw sq fr dg bd mc) ∧ Below w.heap.size w w' := by
  obtain ⟨i0, hi, hz0, hz1, hz2⟩ := info_parts Sl.info5
  cases hq : msgB kd vw sq fr dg bd mc
  · have HC : Hid (msgCode kd vw sq fr dg bd mc = 1) := by show _ = _; unfold msgCode; rw [hq]; rfl
    have HO : Hid (msgOut kd vw sq fr dg bd mc = []) := by show _ = _; unfold msgOut; rw [hq]; rfl
    go_enter Tryz.func121, Tryz.ntmps121
    unfold msgV
    go_wp2_with (go_at_call 95; refine (implMessageOK_any kd vw sq fr dg bd mc _).mono ?_; rintro e w1 ⟨rfl, b1⟩; rw [hq]; have g1 := box_first b1; clear b1)
    go_ret2
    exact ⟨_, ret_tup HC.out.symm, by rw [HO.out]; exact own_nil _ _ _, box_old g1⟩
  have HC : Hid (msgCode kd vw sq fr dg bd mc = 0) := by show _ = _; unfold msgCode; rw [hq]; rfl
  have HO : Hid (msgOut kd vw sq fr dg bd mc = msgBs kd vw sq fr dg bd mc) := by show _ = _; unfold msgOut; rw [hq]; rfl
  obtain ⟨hd, hb, hm⟩ := msg_small hq
  have HM : Hid (mc.size = 8) := hm
  clear hm
  go_enter Tryz.func121, Tryz.ntmps121
  unfold msgV
  go_wp2_with fail
  refine (implMessageOK_any kd vw sq fr dg bd mc _).mono ?_
  rintro e w1 ⟨rfl, b1⟩
  rw [hq]
  have g1 := box_first b1
  obtain ⟨q0, q1, q2, q3, q4, q5, q6⟩ := msg_box g1
  clear b1
  go_wp2_with fail
  refine (putNumber_any (.slice none 0 0) [] kd 1 w1.heap.size _ (own_nil _ _ _) (Nat.le_refl _) (by decide) (by simp)).mono ?_
  rintro e w2 ⟨v2, rfl, o2, k2⟩
  obtain ⟨q0', q1', q2', q3', q4', q5', q6'⟩ := msg_box (box_next g1 k2.nil)
  have O2 : Hid (_) := o2
  clear q0 q1 q2 q3 q4 q5 q6 o2
  go_wp2_with fail
  refine (putNumber_any v2 _ vw 1 w1.heap.size _ O2.out k2.size (by decide) (by simp only [List.length_append, nums_length]; decide)).mono ?_
  rintro e w3 ⟨v3, rfl, o3, k3'⟩
  have k3 := k2.trans k3'
  obtain ⟨q0, q1, q2, q3, q4, q5, q6⟩ := msg_box (box_next g1 k3.nil)
  have O3 : Hid (_) := o3
  clear q0' q1' q2' q3' q4' q5' q6' o3 O2 k2 k3'
  go_wp2_with fail
  refine (putNumber_any v3 _ sq 1 w1.heap.size _ O3.out k3.size (by decide) (by simp only [List.length_append, nums_length]; decide)).mono ?_
  rintro e w4 ⟨v4, rfl, o4, k4'⟩
  have k4 := k3.trans k4'
  obtain ⟨q0', q1', q2', q3', q4', q5', q6'⟩ := msg_box (box_next g1 k4.nil)
  have O4 : Hid (_) := o4
  clear q0 q1 q2 q3 q4 q5 q6 o4 O3 k3 k4'
  go_wp2_with fail
  refine (putNumber_any v4 _ fr 1 w1.heap.size _ O4.out k4.size (by decide) (by simp only [List.length_append, nums_length]; decide)).mono ?_
  rintro e w5 ⟨v5, rfl, o5, k5'⟩
  have k5 := k4.trans k5'
  obtain ⟨q0, q1, q2, q3, q4, q5, q6⟩ := msg_box (box_next g1 k5.nil)
  have O5 : Hid (_) := o5
  clear q0' q1' q2' q3' q4' q5' q6' o5 O4 k4 k5'
  go_wp2_with fail
  refine (putText_any v5 _ dg 1 w1.heap.size _ O5.out k5.size (by decide) (by simp only [List.length_append, nums_length]; decide) (by omega)).mono ?_
  rintro e w6 ⟨v6, rfl, o6, k6'⟩
  have k6 := k5.trans k6'
  obtain ⟨q0', q1', q2', q3', q4', q5', q6'⟩ := msg_box (box_next g1 k6.nil)
  have O6 : Hid (_) := o6
  clear q0 q1 q2 q3 q4 q5 q6 o6 O5 k5 k6'
  go_wp2_with fail
  refine (putText_any v6 _ bd 2 w1.heap.size _ O6.out k6.size (by decide) (by simp only [List.length_append, nums_length, bys_length, List.length_nil]; omega) (by omega)).mono ?_
  rintro e w7 ⟨v7, rfl, o7, k7'⟩
  have k7 := k6.trans k7'
  obtain ⟨q0, q1, q2, q3, q4, q5, q6⟩ := msg_box (box_next g1 k7.nil)
  have hl : Hid (([] ++ nums kd 1 1 ++ nums vw 1 1 ++ nums sq 1 1 ++ nums fr 1 1 ++ nums (dg.size : Int) 1 1 ++ bys dg ++ nums (bd.size : Int) 2 2 ++ bys bd).length + mc.size ≤ 140737488355328) := by
    show _ ≤ _
    have := HM.out
    simp only [List.length_append, nums_length, bys_length, List.length_nil]
    omega
  have HE : Hid ([] ++ nums kd 1 1 ++ nums vw 1 1 ++ nums sq 1 1 ++ nums fr 1 1 ++ nums (dg.size : Int) 1 1 ++ bys dg ++ nums (bd.size : Int) 2 2 ++ bys bd ++ bys mc = msgBs kd vw sq fr dg bd mc) := by
    show _ = _
    unfold msgBs plainBs headBs
    simp [List.append_assoc]
  clear q0' q1' q2' q3' q4' q5' q6' O6 k6 k7' hd hb
  go_wp2_with (at_builtin; go_must (refine list_str (by rfl) _ _ 22 9 (by rfl) Tryz.underlying22 Tryz.underlying9 hi hz0 hz1 hz2 w1.heap.size _ _ mc _ (by rfl) (by rfl) o7 k7.size hl.out ?_; intro v8 w8 o8 k8))
  go_ret2
  rw [HE.out] at o8
  exact ⟨_, ret_tup HC.out.symm, by rw [HO.out]; exact own_le o8 (box_old g1).size, box_old (box_next g1 (k7.trans k8).nil)⟩

set_option maxRecDepth 100000 in
set_option maxHeartbeats 1600000 in
theorem l02Plain_any (kd vw sq fr : Int) (dg bd mc : ByteArray) (w : World) (hd : dg.size ≤ 1000) (hb : bd.size ≤ 100000) :
    Calls Tryz.prog 85 #[msgV kd vw sq fr dg bd mc] w fun e w' => ∃ v, e = .returned v ∧ OwnB 5 w' (w.heap.size + 1) v (plainBs kd vw sq fr dg bd) ∧ Below (w.heap.size + 1) (w.alloc (.cells #[.int .i64 kd, .int .i64 vw, .int .i64 sq, .int .i64 fr, .string dg, .string bd, .string mc] 26)) w' := by
  obtain ⟨i0, hi, hz0, hz1, hz2⟩ := info_parts Sl.info5
  have hs0 : Hid (w.heap.size + 1 = (w.alloc (.cells #[.int .i64 kd, .int .i64 vw, .int .i64 sq, .int .i64 fr, .string dg, .string bd, .string mc] 26)).heap.size) := (size_new _ _).symm
  have HH : Hid ([kd % 256, vw % 256, sq % 256, fr % 256, (dg.size : Int) % 256] = headBs kd vw sq fr dg) := by show _ = _; simp [headBs, nums, nb]
  go_enter Tryz.func85, Tryz.ntmps85
  unfold msgV
  go_upto_region 1 with fail
  go_cut [3] (fun s3 wx => OwnB 5 wx (w.heap.size + 1) s3 (headBs kd vw sq fr dg) ∧ Below (w.heap.size + 1) (w.alloc (.cells #[.int .i64 kd, .int .i64 vw, .int .i64 sq, .int .i64 fr, .string dg, .string bd, .string mc] 26)) wx)
  case first =>
    go_wp2_with fail
    go_meet
    refine ⟨?_, (Below.refl _ _).alloc (by simp) _⟩
    rw [← HH.out]
    have := own_lit 5 (w.alloc (.cells #[.int .i64 kd, .int .i64 vw, .int .i64 sq, .int .i64 fr, .string dg, .string bd, .string mc] 26)) (w.heap.size + 1) [kd % 256, vw % 256, sq % 256, fr % 256, (dg.size : Int) % 256] 5 rfl (by simp) (by decide)
    rw [← hs0.out] at this
    exact this
  case rest =>
  obtain ⟨o1, g1⟩ := hcut
  have B1 : w.heap.size + 1 ≤ wc.heap.size := Nat.le_trans (Nat.le_of_eq hs0.out) g1.size
  obtain ⟨q0, q1, q2, q3, q4, q5, q6⟩ := msg_box g1
  have HE : Hid (headBs kd vw sq fr dg ++ bys dg ++ nums (bd.size : Int) 2 2 ++ bys bd = plainBs kd vw sq fr dg bd) := rfl
  have HL1 : Hid ((headBs kd vw sq fr dg).length = 5) := headBs_length _ _ _ _ _
  generalize headBs kd vw sq fr dg = zs at o1 HE HL1
  clear q0 q1 q2 q3 q6 HH
  go_upto_region 2 with fail
  go_cut [3] (fun s3 wx => OwnB 5 wx (w.heap.size + 1) s3 (zs ++ bys dg ++ nums (bd.size : Int) 2 2) ∧ Below (w.heap.size + 1) (w.alloc (.cells #[.int .i64 kd, .int .i64 vw, .int .i64 sq, .int .i64 fr, .string dg, .string bd, .string mc] 26)) wx)
  case first =>
    have HW : Hid (∀ g, u3.ownBlock = some g → g < wc.heap.size) := own_lt o1
    go_region_law (first
      | (go_simp; go_at_call 86; refine (l02Number_any (bd.size : Int) 2 _ (by decide)).mono ?_; rintro e w3 ⟨v3, rfl, o3, b3⟩; (first | (with_reducible (have hA := ordC o2 g2 B2 b3); obtain ⟨f24, g3, B3⟩ := hA; have r28 := own_rowB o3 (nums_range _ _ _)) | (with_reducible (have hA := ordB2 o1 g1 B1 b3); obtain ⟨f21, g3, B3⟩ := hA; have o28 : OwnB 5 w3 wc.heap.size v3 _ := o3)); obtain ⟨y0, y1, y2, y3, y4, y5, y6⟩ := msg_box g3; clear o3 b3; try go_simp)
      | (refine step_row (by rfl) _ _ 22 (by rfl) Tryz.underlying22 hi hz0 hz1 hz2 (w.heap.size + 1) _ _ _ _ _ (by rfl) (by rfl) f24 B3 r28 (by simp only [List.length_append, nums_length, HL1.out, bys_length]; omega) ?_; intro v5 w5 o5 k5; have g5 := g3.trans (k5.below f24 B3))
      | (refine step_row (by rfl) _ _ 22 (by rfl) Tryz.underlying22 hi hz0 hz1 hz2 (w.heap.size + 1) _ _ _ _ _ (by rfl) (by rfl) o2 B2 r28 (by simp only [List.length_append, nums_length, HL1.out, bys_length]; omega) ?_; intro v5 w5 o5 k5; have g5 := g2.trans (k5.below o2 B2))
      | (refine step_str (by rfl) _ _ 22 9 (by rfl) Tryz.underlying22 Tryz.underlying9 hi hz0 hz1 hz2 (w.heap.size + 1) _ _ dg _ (by rfl) (by rfl) f21 B3 (by simp only [HL1.out]; omega) ?_; intro v2 w2 o2 k2; have g2 := g3.trans (k2.below f21 B3); have B2 : w.heap.size + 1 ≤ w2.heap.size := Nat.le_trans B3 k2.size; have r28 := own_rowB (own_kp o28 k2 HW.out) (nums_range _ _ _); obtain ⟨x0, x1, x2, x3, x4, x5, x6⟩ := msg_box g2)
      | (refine step_str (by rfl) _ _ 22 9 (by rfl) Tryz.underlying22 Tryz.underlying9 hi hz0 hz1 hz2 (w.heap.size + 1) _ _ dg _ (by rfl) (by rfl) (own_drew o1) B1 (by simp only [HL1.out]; omega) ?_; intro v2 w2 o2 k2; have g2 := g1.drew.trans (k2.below (own_drew o1) B1); have B2 : w.heap.size + 1 ≤ w2.heap.size := Nat.le_trans B1 k2.size; obtain ⟨x0, x1, x2, x3, x4, x5, x6⟩ := msg_box g2))
    all_goals
      go_wp2_with fail
      go_meet
      exact ⟨o5, g5⟩
  case rest =>
  clear q4 q5 o1 g1 B1
  obtain ⟨o1, g1⟩ := hcut
  have B1 : w.heap.size + 1 ≤ wc.heap.size := Nat.le_trans (Nat.le_of_eq hs0.out) g1.size
  obtain ⟨q0, q1, q2, q3, q4, q5, q6⟩ := msg_box g1
  have hl : Hid ((zs ++ bys dg ++ nums (bd.size : Int) 2 2).length + bd.size ≤ 140737488355328) := by show _ ≤ _; simp only [List.length_append, nums_length, bys_length, HL1.out]; omega
  clear q0 q1 q2 q3 q4 q6 hd hb
  go_wp2_with (at_builtin; go_must (refine list_str (by rfl) _ _ 22 9 (by rfl) Tryz.underlying22 Tryz.underlying9 hi hz0 hz1 hz2 (w.heap.size + 1) _ _ bd _ (by rfl) (by rfl) o1 B1 hl.out ?_; intro v8 w8 o8 k8))
  go_ret
  rw [HE.out] at o8
  exact ⟨_, rfl, o8, g1.trans (k8.below o1 B1)⟩

set_option maxRecDepth 100000 in
set_option maxHeartbeats 1600000 in
theorem l02Message_any (kd vw sq fr : Int) (dg bd mc : ByteArray) (w : World) (hd : dg.size ≤ 1000) (hb : bd.size ≤ 100000) (hm : mc.size ≤ 1000) :
    Calls Tryz.prog 81 #[msgV kd vw sq fr dg bd mc] w fun e w' => ∃ v, e = .returned v ∧ OwnB 5 w' (w.heap.size + 1) v (msgBs kd vw sq fr dg bd mc) ∧ Below (w.heap.size + 1) (w.alloc (.cells #[.int .i64 kd, .int .i64 vw, .int .i64 sq, .int .i64 fr, .string dg, .string bd, .string mc] 26)) w' := by
  obtain ⟨i0, hi, hz0, hz1, hz2⟩ := info_parts Sl.info5
  have hs0 : Hid (w.heap.size + 1 = (w.alloc (.cells #[.int .i64 kd, .int .i64 vw, .int .i64 sq, .int .i64 fr, .string dg, .string bd, .string mc] 26)).heap.size) := (size_new _ _).symm
  have hl : Hid ((plainBs kd vw sq fr dg bd).length + mc.size ≤ 140737488355328) := by show _ ≤ _; rw [plainBs_length]; omega
  go_enter Tryz.func81, Tryz.ntmps81
  unfold msgV
  go_upto_region 1 with fail
  go_region_law (first
    | (go_simp; go_at_call 85; refine (l02Plain_any kd vw sq fr dg bd mc _ hd hb).mono ?_; rintro e w3 ⟨v3, rfl, o3, b3⟩; with_reducible (have hA := ordB hs0.out (box_old b3)); obtain ⟨g3, B3⟩ := hA; have f3 := own_le o3 (Nat.le_trans (Nat.le_of_eq hs0.out) (Nat.le_succ _)); obtain ⟨y0, y1, y2, y3, y4, y5, y6⟩ := msg_box g3; clear o3 b3; try go_simp)
    | (refine step_str (by rfl) _ _ 22 9 (by rfl) Tryz.underlying22 Tryz.underlying9 hi hz0 hz1 hz2 (w.heap.size + 1) _ _ mc _ (by rfl) (by rfl) f3 B3 hl.out ?_; intro v5 w5 o5 k5; have g5 := g3.trans (k5.below f3 B3)))
  all_goals
    go_wp2_with fail
    go_ret
    exact ⟨_, rfl, o5, g5⟩

end Go.Proofs.YtkfiahemgdppfaaGreatDoor.Mp

/- Blocks; texts in a slice: read, gathered. -/
namespace Go.Proofs.YtkfiahemgdppfaaGreatDoor.Tx
open Go.RowKit Go.Proofs.YtkfiahemgdppfaaGreatDoor.Sl Go.Proofs.YtkfiahemgdppfaaGreatDoor.By Go.Proofs.YtkfiahemgdppfaaGreatDoor.Ap

theorem val_eq {k : IntKind} {a b : Int} (h : a = b) : Value.int k a = .int k b := by rw [h]
theorem str_eq {a b : ByteArray} (h : a = b) : Value.string a = .string b := by rw [h]
theorem ret_str {a b : ByteArray} (h : a = b) : Ending.returned (.string a) = .returned (.string b) := by rw [h]
theorem size_new (w : World) (o : Obj) : (w.alloc o).heap.size = w.heap.size + 1 := by simp
theorem blk_cell {w : World} {b : Nat} {cs : Array Value} {t : TypeId} (h : w.heap[b]? = some (.cells cs t (0, 0))) (i : Nat) {x : Value} (hx : cs[i]? = some x) : w.cell? ⟨b, i, none⟩ = some x ∧ w.frozen? ⟨b, i, none⟩ = false := by
  refine ⟨(Joins.cell_of_block h i).trans hx, ?_⟩
  simp [World.frozen?, h]
theorem blk_set {w : World} {b : Nat} {cs : Array Value} {t : TypeId} (h : w.heap[b]? = some (.cells cs t (0, 0))) (i : Nat) (x : Value) : (w.setCell ⟨b, i, none⟩ x).heap[b]? = some (.cells (cs.setIfInBounds i x) t (0, 0)) := Joins.block_setCell (i := i) h x
theorem blk_far {w : World} {b k : Nat} (hk : k ≠ b) (i : Nat) (x : Value) : (w.setCell ⟨b, i, none⟩ x).heap[k]? = w.heap[k]? := Below.heap_setCell w ⟨b, i, none⟩ x k hk
theorem blk_new (w : World) (cs : Array Value) (t : TypeId) : (w.alloc (.cells cs t)).heap[w.heap.size]? = some (.cells cs t (0, 0)) := heap_alloc_new w _
theorem bel_new (w : World) (o : Obj) : Below w.heap.size w (w.alloc o) := (Below.refl _ _).alloc (Nat.le_refl _) _

def tnth (ts : List ByteArray) (i : Nat) : ByteArray := ts.getD i ⟨#[]⟩
/-- The slice v holds the texts ts. -/
def RowT (w : World) (v : Value) (ts : List ByteArray) : Prop :=
  ∃ a cap, v = .slice a ts.length cap ∧ (ts = [] ∨ ∃ b off, a = some ⟨b, off, none⟩ ∧ ts.length ≤ cap ∧ b < w.heap.size ∧ ∀ i, i < ts.length → w.cell? ⟨b, off + i, none⟩ = some (.string (tnth ts i)))
theorem RowT.below {w w' : World} {v : Value} {ts : List ByteArray} (h : RowT w v ts) (hb : Below w.heap.size w w') : RowT w' v ts := by
  obtain ⟨a, cap, rfl, h⟩ := h
  refine ⟨a, cap, rfl, ?_⟩
  rcases h with h | ⟨b, off, rfl, hc, hlt, h⟩
  · exact .inl h
  · exact .inr ⟨b, off, rfl, hc, Nat.lt_of_lt_of_le hlt hb.size, fun i hi => (hb.cell (p := ⟨b, off + i, none⟩) hlt).trans (h i hi)⟩
theorem tnth_at {ts : List ByteArray} {i : Nat} (h : i < ts.length) : ts[i]? = some (tnth ts i) := by
  unfold tnth; rw [List.getD_eq_getElem?_getD, List.getElem?_eq_getElem h]; rfl
theorem tnth_mem {ts : List ByteArray} {i : Nat} (h : i < ts.length) : tnth ts i ∈ ts := List.mem_of_getElem? (tnth_at h)
theorem tnth_append_left {xs ys : List ByteArray} {i : Nat} (h : i < xs.length) : tnth (xs ++ ys) i = tnth xs i := by
  unfold tnth; rw [List.getD_eq_getElem?_getD, List.getD_eq_getElem?_getD, List.getElem?_append_left h]
/-- A slice of texts that was written out. -/
theorem row_lit (w : World) (e : TypeId) (ts : List ByteArray) (cs : Array Value) (n : Nat) (hn : ts.length = n) (hcs : cs = (ts.map Value.string).toArray) : RowT (w.alloc (.cells cs e)) (.slice (some ⟨w.heap.size, 0, none⟩) n n) ts := by
  subst hn hcs
  refine ⟨_, _, rfl, .inr ⟨w.heap.size, 0, rfl, Nat.le_refl _, by simp, fun i hi => ?_⟩⟩
  rw [Nat.zero_add, Joins.cell_of_block (blk_new w _ e) i, List.getElem?_toArray, List.getElem?_map, tnth_at hi]
  rfl
theorem info9 : (Tryz.prog.info? 9).map (fun i => (i.zero, i.size, i.bytes)) = some (some (.string ⟨#[]⟩), 1, 16) := by kernel_rfl

/-- Texts in a slice of the call's own that may have room behind. -/
def OwnS (w : World) (B : Nat) (v : Value) (ts : List ByteArray) : Prop := w.ownsRow B 9 1 v ts.length (ts.map Value.string)
theorem OwnS.row {w : World} {B : Nat} {v : Value} {ts : List ByteArray} (h : OwnS w B v ts) : RowT w v ts := by
  obtain ⟨hl, h⟩ := h
  rcases h with ⟨rfl, h0⟩ | ⟨g, cap, cur, rfl, hB, hg, hc, _, hs, htk⟩
  · exact ⟨none, 0, by rw [h0], .inl (List.length_eq_zero_iff.1 h0)⟩
  · refine ⟨_, cap, rfl, .inr ⟨g, 0, rfl, hc, (Array.getElem?_eq_some_iff.1 hg).1, fun i hi => ?_⟩⟩
    rw [Nat.zero_add, Joins.cell_of_block hg i]
    have h1 : (cur.toList.take (ts.length * 1))[i]? = some (.string (tnth ts i)) := by
      rw [htk, List.getElem?_map, List.getElem?_eq_getElem hi]
      simp [tnth, List.getD_eq_getElem?_getD, List.getElem?_eq_getElem hi]
    rw [List.getElem?_take] at h1
    split at h1
    · simpa using h1
    · cases h1
theorem OwnS.below {w w' : World} {B : Nat} {v : Value} {ts : List ByteArray} (h : OwnS w B v ts) (hb : Below w.heap.size w w') : OwnS w' B v ts := by
  obtain ⟨hl, h⟩ := h
  refine ⟨hl, ?_⟩
  rcases h with h | ⟨g, cap, cur, hv, hB, hgb, h⟩
  · exact .inl h
  · exact .inr ⟨g, cap, cur, hv, hB, (hb.block g (Array.getElem?_eq_some_iff.1 hgb).1).trans hgb, h⟩
theorem OwnS.mono {w : World} {B B' : Nat} {v : Value} {ts : List ByteArray} (h : OwnS w B v ts) (hb : B' ≤ B) : OwnS w B' v ts := by
  obtain ⟨hl, h⟩ := h
  refine ⟨hl, ?_⟩
  rcases h with h | ⟨g, cap, cur, hv, hB, h⟩
  · exact .inl h
  · exact .inr ⟨g, cap, cur, hv, by omega, h⟩
theorem OwnS.nil (w : World) (B : Nat) : OwnS w B (.slice none 0 0) [] := World.ownsRow_nil _ _ _ _
theorem OwnS.made (w : World) (B : Nat) (hB : B ≤ w.heap.size) : OwnS (w.alloc (.cells #[] 9)) B (.slice (some ⟨w.heap.size, 0, none⟩) 0 0) [] :=
  World.ownsRow_made w #[] 0 hB (by decide) rfl
/-- 'append(list, t ..)' of some texts in a plain region, where nothing old is written. -/
theorem list_texts {P : Program} {ops : Array Oper} {rest : List Oper} {o : Oper} {a : Act} {Q : Exit → Act → World → Prop} (hgd : o.guard = none) (s x : Operand) (t : TypeId)
    (ho : o.op = .call { callee := .builtin .append, args := #[s, x], argTypes := #[t, t] }) (i : TypeInfo) (ht : P.underlying t = some (.slice 9)) (hi : P.info? 9 = some i) (hz : i.zero = some (.string ⟨#[]⟩))
    (hsize : i.size = 1) (hby : i.bytes = 16) (B : Nat) (w0 W : World) (v : Value) (ts zs : List ByteArray) (cs : Array Value) (n : Nat) (hn : zs.length = n) (hcs : cs = (zs.map Value.string).toArray) (hn1 : n ≤ 1000) (hs : a.eval s = v) (hown : OwnS W B v ts) (hg0 : Below B w0 W) (hB : B ≤ W.heap.size)
    (hx : a.eval x = .slice (some ⟨W.heap.size, 0, none⟩) n n) (hlen : ts.length ≤ 1000000)
    (h : ∀ v' w', OwnS w' B v' (ts ++ zs) → Below B w0 w' → W.heap.size ≤ w'.heap.size → (∀ k, k < W.heap.size → some k ≠ v.ownBlock → w'.heap[k]? = W.heap[k]?) → wpList P ops Q rest (a.put o.dst v') w') : wpList P ops Q (o :: rest) a (W.alloc (.cells cs 9)) := by
  subst hcs hn
  refine wpList_append_own _ hgd s x t ho B 9 i (.string ⟨#[]⟩) 1 16 ht hi hz hsize hby rfl (by decide) v ts.length _ hs (hown.alloc _) ⟨W.heap.size, 0, none⟩ zs.length zs.length (zs.map Value.string) hx (by simp) ?_ ?_ ?_ ?_ ?_ ?_
  · have := World.news_of_block (cs := (zs.map Value.string).toArray) (t := 9) (fr := (0, 0)) (heap_alloc_new W _)
    simpa using this
  · intro c hc
    obtain ⟨z, _, rfl⟩ := List.mem_map.1 hc
    rfl
  · unfold maxLen; omega
  · omega
  · simp; omega
  · intro v' w' h1 h2 _
    have hs2 := h2.size
    simp at hs2
    have hk : ∀ k, k < W.heap.size → some k ≠ v.ownBlock → w'.heap[k]? = W.heap[k]? := fun k hk hne => (h2.block k (by simp; omega) hne).trans (Below.heap_alloc W _ k hk)
    refine h v' w' (by unfold OwnS; simpa using h1) ?_ (by omega) hk
    exact (hg0.alloc hB _).grown h2 (by simp; omega) (fun k hk => (hown.lt k hk).1)
/-- 'append(list, t ..)', run. -/
theorem run_txt {P : Program} {i : TypeInfo} (t ty : TypeId) (ht : P.underlying t = some (.slice 9)) (hi : P.info? 9 = some i) (hz : i.zero = some (.string ⟨#[]⟩)) (hsize : i.size = 1) (hby : i.bytes = 16)
    (B : Nat) (W : World) (v u : Value) (zs xs : List ByteArray) (hown : OwnS W B v zs) (hB : B ≤ W.heap.size) (hu : RowT W u xs) (hlen : zs.length + xs.length ≤ 1000000000) :
    ∃ v' w', (Builtin.append_ #[t, t] ty #[v, u]).run P W = .ok v' w' ∧ OwnS w' B v' (zs ++ xs) ∧ Kp W w' v v' := by
  obtain ⟨ad, cap, rfl, hc⟩ := hu
  have hown2 := hown
  unfold OwnS at hown2
  cases ad with
  | none =>
    obtain rfl : xs = [] := by
      rcases hc with h | ⟨_, _, h, _⟩
      · exact h
      · cases h
    refine ⟨v, W, ?_, by simpa using hown, Kp.refl _ _⟩
    rcases hown2.2 with ⟨rfl, _⟩ | ⟨g, c, cur, rfl, _, _, hn, _⟩
    · exact run_append_nothing W t t ty 9 i ht hi none 0 0 (Nat.le_refl _) _ (Src.ofNil W ht cap)
    · exact run_append_nothing W t t ty 9 i ht hi _ _ _ hn _ (Src.ofNil W ht cap)
  | some ad =>
    obtain ⟨v', w', h1, h2, h3, _, h5⟩ := run_append_own_at (P := P) W B t ty 9 i (.string ⟨#[]⟩) 1 16 ht hi hz hsize hby rfl (by decide) v zs.length _ hown2 ad xs.length cap (xs.map Value.string) (by simp)
      (by
        intro j y hy
        rcases hc with rfl | ⟨b, off, e1, _, hb, hcell⟩
        · simp at hy
        · cases e1
          have hj : j < xs.length := by have := (List.getElem?_eq_some_iff.1 hy).1; simpa using this
          rw [addr_add, hcell j hj, ← hy, List.getElem?_map, tnth_at hj]
          rfl)
      (by intro y hy; obtain ⟨z, _, rfl⟩ := List.mem_map.1 hy; rfl) (by unfold maxLen; omega) (by omega) hB
    exact ⟨v', w', h1, by unfold OwnS; simpa using h2, Kp.of_grown h3 h5⟩
theorem OwnS.kp {w w1 : World} {v v1 : Value} {B : Nat} {zs : List ByteArray} (h : Kp w w1 v v1) (ho : OwnS w B v zs) (hB : B ≤ w.heap.size) : Below B w w1 := by
  refine ⟨h.os, h.tape, h.output, h.size, fun k hk => h.block k (Nat.lt_of_lt_of_le hk hB) fun hn => ?_⟩
  unfold OwnS at ho
  have := (ho.lt k hn.symm).1
  omega
theorem OwnS.drew {w : World} {B : Nat} {v : Value} {ts : List ByteArray} (h : OwnS w B v ts) : OwnS w.drew B v ts := h
/-- The same at a step of a region that draws its order. -/
theorem step_txt {P : Program} {i : TypeInfo} {ops : Array Oper} {o : Oper} {a : Act} {K : Act → World → Prop} {Q : Exit → Act → World → Prop} {E : Prop} (hgd : o.guard = none) (s x : Operand) (t : TypeId) (ho : o.op = .call { callee := .builtin .append, args := #[s, x], argTypes := #[t, t] }) (ht : P.underlying t = some (.slice 9)) (hi : P.info? 9 = some i) (hz : i.zero = some (.string ⟨#[]⟩))
    (hsize : i.size = 1) (hby : i.bytes = 16) (B : Nat) (W : World) (v u : Value) (zs xs : List ByteArray) (hs : a.eval s = v) (hx : a.eval x = u) (hown : OwnS W B v zs) (hB : B ≤ W.heap.size) (hu : RowT W u xs) (hlen : zs.length + xs.length ≤ 1000000000)
    (h : ∀ v' w', OwnS w' B v' (zs ++ xs) → Below B W w' → K (a.put o.dst v') w') : if Region.wanted o (yielded ops a.tmps) = true then Oper.wp P o a W K Q else E := by
  have hw : Region.wanted o (yielded ops a.tmps) = true := by simp [Region.wanted, hgd]
  rw [if_pos hw]
  obtain ⟨v', w', hr, ho', hg⟩ := run_txt (P := P) t o.type ht hi hz hsize hby B W v u zs xs hown hB hu hlen
  exact wp_app ho hs hx hr (h v' w' ho' (OwnS.kp hg hown hB))
/-- What was owned, and old texts, behind a call in a region that draws. -/
theorem ordS {w0 wc w1 : World} {B : Nat} {v : Value} {zs : List ByteArray} (o1 : OwnS wc B v zs) (g1 : Below B w0 wc) (hB : B ≤ wc.heap.size) (b1 : Below wc.drew.heap.size wc.drew w1) : OwnS w1 B v zs ∧ Below B w0 w1 ∧ B ≤ w1.heap.size :=
  ⟨OwnS.below o1.drew b1, g1.drew.trans (b1.mono hB), Nat.le_trans hB b1.size⟩
end Go.Proofs.YtkfiahemgdppfaaGreatDoor.Tx

/- strings.Join at this program: the library's contract, laid. -/
namespace Go.Proofs.YtkfiahemgdppfaaGreatDoor.Sf
open Go.Shelf Go.RowKit
def lays156_ren : Go.Shelf.Ren := ⟨fun | 156 => 135 | 165 => 152 | 166 => 153 | 169 => 154 | 240 => 163 | 241 => 164 | 276 => 168 | 277 => 169 | n => n, fun | 31 => 28 | 9 => 9 | 3 => 3 | 4 => 4 | 0 => 0 | 20 => 20 | 72 => 217 | 76 => 221 | 70 => 215 | 37 => 22 | 75 => 220 | 127 => 231 | 164 => 232 | 5 => 5 | 80 => 223 | n => n, fun | n => n⟩
theorem lays156 : Go.Proofs.Lays.n156 Tryz.prog lays156_ren := {
  mixed := by kernel_rfl
  f156 := Tryz.func135.trans (congrArg some (by kernel_rfl))
  f165 := Tryz.func152.trans (congrArg some (by kernel_rfl))
  f166 := Tryz.func153.trans (congrArg some (by kernel_rfl))
  f169 := Tryz.func154.trans (congrArg some (by kernel_rfl))
  f240 := Tryz.func163.trans (congrArg some (by kernel_rfl))
  f241 := Tryz.func164.trans (congrArg some (by kernel_rfl))
  f276 := Tryz.func168.trans (congrArg some (by kernel_rfl))
  f277 := Tryz.func169.trans (congrArg some (by kernel_rfl))
  t0 := Tryz.underlying0
  a0 := Tryz.isAgg0
  z0 := Tryz.sizeOf0
  v0 := Tryz.zeroValue0
  t3 := Tryz.underlying3
  a3 := Tryz.isAgg3
  z3 := Tryz.sizeOf3
  v3 := Tryz.zeroValue3
  t4 := Tryz.underlying4
  a4 := Tryz.isAgg4
  z4 := Tryz.sizeOf4
  v4 := Tryz.zeroValue4
  t9 := Tryz.underlying9
  a9 := Tryz.isAgg9
  z9 := Tryz.sizeOf9
  v9 := Tryz.zeroValue9
  t20 := Tryz.underlying20
  a20 := Tryz.isAgg20
  z20 := Tryz.sizeOf20
  v20 := Tryz.zeroValue20
  t31 := Tryz.underlying28
  a31 := Tryz.isAgg28
  z31 := Tryz.sizeOf28
  v31 := Tryz.zeroValue28
  t37 := Tryz.underlying22
  a37 := Tryz.isAgg22
  z37 := Tryz.sizeOf22
  v37 := Tryz.zeroValue22
  t70 := Tryz.underlying215
  a70 := Tryz.isAgg215
  z70 := Tryz.sizeOf215
  v70 := Tryz.zeroValue215
  t72 := Tryz.underlying217
  a72 := Tryz.isAgg217
  z72 := Tryz.sizeOf217
  v72 := Tryz.zeroValue217
  t75 := Tryz.underlying220
  a75 := Tryz.isAgg220
  z75 := Tryz.sizeOf220
  v75 := Tryz.zeroValue220
  t76 := Tryz.underlying221
  a76 := Tryz.isAgg221
  z76 := Tryz.sizeOf221
  v76 := Tryz.zeroValue221
  t127 := Tryz.underlying231
  a127 := Tryz.isAgg231
  z127 := Tryz.sizeOf231
  v127 := Tryz.zeroValue231
  t164 := Tryz.underlying232
  a164 := Tryz.isAgg232
  z164 := Tryz.sizeOf232
  v164 := Tryz.zeroValue232 }
theorem extra156 : Builder.Extra Tryz.prog lays156_ren := {
  sizeBuilder := by kernel_rfl
  liesBuilder := by kernel_rfl
  t5 := Tryz.underlying5
  a5 := Tryz.isAgg5
  z5 := Tryz.sizeOf5
  v5 := Tryz.zeroValue5
  infoByte := by kernel_rfl
  cellsByte := by kernel_rfl
  sizeByte := by kernel_rfl
  neB5 := by decide }
theorem join_laid (bk o c : Nat) (xs : List ByteArray) (sep : ByteArray) (w : World) (hcells : ∀ (j : Nat) x, xs[j]? = some x → w.cell? ⟨bk, o + j, none⟩ = some (.string x)) (hbk : bk < w.heap.size) (hN : xs.length ≤ 140737488355328) (hcap : xs.length ≤ c) (hlen : (Lib.join (xs.map (·.data.toList)) sep.data.toList).length ≤ 140737488355328) :
    Calls Tryz.prog 135 #[.slice (some ⟨bk, o, none⟩) xs.length c, .string sep] w fun e w' => e = .returned (.string ⟨(Lib.join (xs.map (·.data.toList)) sep.data.toList).toArray⟩) ∧ Below w.heap.size w w' := Any.strings_Join lays156 extra156 bk o c xs sep w hcells hbk hN hcap hlen
end Go.Proofs.YtkfiahemgdppfaaGreatDoor.Sf
