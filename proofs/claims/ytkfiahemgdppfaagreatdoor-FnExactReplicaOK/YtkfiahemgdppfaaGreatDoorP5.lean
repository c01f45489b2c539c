/- Texts put together: ReqPut, Msg, Msg2. -/
import Derived.Test.YtkfiahemgdppfaaGreatDoorP4
import Derived.Test.YtkfiahemgdppfaaGreatDoorP2
import Derived.Deep.RegionLaw
import Derived.Deep.CutRange
import Derived.Deep.DeepCutAuto
import Derived.BigRegion
/- Requests' bytes: both RequestBytes functions. -/
namespace Go.Proofs.YtkfiahemgdppfaaGreatDoor.Rp
open Go.RowKit Go.Proofs.YtkfiahemgdppfaaGreatDoor.Sl Go.Proofs.YtkfiahemgdppfaaGreatDoor.By Go.Proofs.YtkfiahemgdppfaaGreatDoor.Rq Go.Proofs.YtkfiahemgdppfaaGreatDoor.Ap Go.Proofs.YtkfiahemgdppfaaGreatDoor.Pu

/-- A request's bytes. -/
def reqBs (c st k l : Int) (n : ByteArray) : List Int := nums c 1 1 ++ (nums st 2 2 ++ (nums k 1 1 ++ (nums l 2 2 ++ (nums (n.size : Int) 1 1 ++ bys n))))
theorem reqBs_length (c st k l : Int) (n : ByteArray) : (reqBs c st k l n).length = 7 + n.size := by unfold reqBs; simp only [List.length_append, nums_length, bys_length]; omega
theorem reqBs_range (c st k l : Int) (n : ByteArray) : ∀ z ∈ reqBs c st k l n, 0 ≤ z ∧ z ≤ 255 := by
  intro z hz
  unfold reqBs at hz
  simp only [List.mem_append] at hz
  rcases hz with h | h | h | h | h | h
  all_goals first | exact nums_range _ _ _ z h | exact bys_range _ z h

theorem kept_cell {w w1 : World} {v v1 : Value} (h : Kp w w1 v v1) {b : Nat} (hb : b < w.heap.size) (hn : some b ≠ v.ownBlock) (i : Nat) : w1.cell? ⟨b, i, none⟩ = w.cell? ⟨b, i, none⟩ := World.cell?_of_block (h.block b hb hn)
theorem req_kept {w w1 : World} {v v1 : Value} {c st k l : Int} {n : ByteArray} {t : TypeId} (h : Kp (w.alloc (.cells #[.int .i64 c, .int .i64 st, .int .i64 k, .int .i64 l, .string n] t)) w1 v v1) (hn : some w.heap.size ≠ v.ownBlock) :
    w1.cell? ⟨w.heap.size, 0, none⟩ = some (.int .i64 c) ∧ w1.cell? ⟨w.heap.size, 1, none⟩ = some (.int .i64 st) ∧ w1.cell? ⟨w.heap.size, 2, none⟩ = some (.int .i64 k) ∧ w1.cell? ⟨w.heap.size, 3, none⟩ = some (.int .i64 l) ∧ w1.cell? ⟨w.heap.size, 4, none⟩ = some (.string n) := by
  have hs : w.heap.size < (w.alloc (.cells #[.int .i64 c, .int .i64 st, .int .i64 k, .int .i64 l, .string n] t)).heap.size := by simp
  have h' := fun i => (kept_cell h hs hn i).trans (World.cell?_alloc_at _ _ _ _ rfl)
  exact ⟨h' 0, h' 1, h' 2, h' 3, h' 4⟩
theorem own_away {e : TypeId} {w : World} {B : Nat} {v : Value} {zs : List Int} (h : OwnB e w B v zs) : some w.heap.size ≠ v.ownBlock := by
  intro hn
  unfold OwnB at h
  have := (h.lt _ hn.symm).2
  omega

theorem ret_tup {v : Value} {a b : Int} (h : a = b) : Ending.returned (.tuple #[v, .int .i64 a]) = .returned (.tuple #[v, .int .i64 b]) := by rw [h]
/-- What RequestBytes answers: the bytes, or none. -/
def reqOut (c st k l : Int) (n : ByteArray) : List Int := if reqB c st k l n then reqBs c st k l n else []
def reqCode (c st k l : Int) (n : ByteArray) : Int := if reqB c st k l n then 0 else 1
theorem req_small {c st k l : Int} {n : ByteArray} (h : reqB c st k l n = true) : n.size ≤ 12 := by
  unfold reqB opB at h
  simp at h
  exact h.2.2.2.1

set_option maxRecDepth 100000 in
set_option maxHeartbeats 1600000 in
theorem l02Request_any (c st k l : Int) (n : ByteArray) (w : World) (hl2 : n.size ≤ 1000) :
    Calls Tryz.prog 132 #[reqV c st k l n] w fun e w' => ∃ v, e = .returned v ∧ OwnB 5 w' (w.heap.size + 1) v (reqBs c st k l n) ∧ Below (w.heap.size + 1) (w.alloc (.cells #[.int .i64 c, .int .i64 st, .int .i64 k, .int .i64 l, .string n] 118)) w' := by
  obtain ⟨i0, hi, hz0, hz1, hz2⟩ := info_parts Sl.info5
  go_enter Tryz.func132, Tryz.ntmps132
  unfold reqV
  have hs0 : Hid (w.heap.size + 1 = (w.alloc (.cells #[.int .i64 c, .int .i64 st, .int .i64 k, .int .i64 l, .string n] 118)).heap.size) := (size_new _ _).symm
  have HN : Hid (∀ x : Int, [IntKind.u8.wrap x] = nums x 1 1) := fun x => by simp [nums, nb, IntKind.wrap_u8]
  go_upto_region 1 with fail
  go_cut [3] (fun s3 wx => OwnB 5 wx (w.heap.size + 1) s3 (nums c 1 1 ++ nums st 2 2) ∧ Below (w.heap.size + 1) (w.alloc (.cells #[.int .i64 c, .int .i64 st, .int .i64 k, .int .i64 l, .string n] 118)) wx)
  case first =>
    go_region_law (first
      | (go_simp; go_at_call 86; refine (l02Number_any st 2 _ (by decide)).mono ?_; rintro e w1 ⟨v1, rfl, o1, b1⟩; (first | (with_reducible (have hA := ordA hs0.out b1); obtain ⟨f7, g1, B1⟩ := hA) | (with_reducible (have hA := ordB hs0.out b1); obtain ⟨g1, B1⟩ := hA; obtain ⟨q0, q1, q2, q3, q4⟩ := req_box g1)); have r1 := own_rowB o1 (nums_range _ _ _); clear o1 b1; try go_simp)
      | (refine step_row (by rfl) _ _ 22 (by rfl) Tryz.underlying22 hi hz0 hz1 hz2 (w.heap.size + 1) _ _ _ _ _ (by rfl) (by rfl) f7 B1 r1 (by simp [nums_length]) ?_; intro v2 w2 o2 k2; have g2 := g1.trans (k2.below f7 B1))
      | (refine step_row (by rfl) _ _ 22 (by rfl) Tryz.underlying22 hi hz0 hz1 hz2 (w.heap.size + 1) _ _ _ _ _ (by rfl) (by rfl) (own_one _ w1 _ _ B1) (Nat.le_trans B1 (by simp)) (rowB_alloc r1 _) (by simp [nums_length]) ?_; intro v2 w2 o2 k2; have g2 := (g1.alloc B1 _).trans (k2.below (own_one _ w1 _ _ B1) (Nat.le_trans B1 (by simp)))))
    all_goals
      rw [HN.out] at o2
      go_wp2_with fail
      go_meet
      exact ⟨o2, g2⟩
  case rest =>
  obtain ⟨o1, g1⟩ := hcut
  have B1 : w.heap.size + 1 ≤ wc.heap.size := Nat.le_trans (Nat.le_of_eq hs0.out) g1.size
  obtain ⟨q0, q1, q2, q3, q4⟩ := req_box g1
  have hl1 : (nums c 1 1 ++ nums st 2 2).length = 3 := by simp only [List.length_append, nums_length]
  obtain ⟨zs, HZ⟩ : ∃ zs, Hid (nums c 1 1 ++ nums st 2 2 = zs) := ⟨_, rfl⟩
  rw [HZ.out] at o1 hl1
  have HL1 : Hid (zs.length = 3) := hl1
  clear hl1 q0 q1
  go_upto_region 2 with fail
  go_cut [3] (fun s3 wx => OwnB 5 wx (w.heap.size + 1) s3 (zs ++ nums k 1 1 ++ nums l 2 2) ∧ Below (w.heap.size + 1) (w.alloc (.cells #[.int .i64 c, .int .i64 st, .int .i64 k, .int .i64 l, .string n] 118)) wx)
  case first =>
    have HW : Hid (∀ g, u3.ownBlock = some g → g < wc.heap.size) := own_lt o1
    have q3a : ∀ o, (wc.alloc o).cell? ⟨w.heap.size, 3, none⟩ = some (.int .i64 l) := fun o => (req_box (g1.alloc B1 o)).2.2.2.1
    go_region_law (first
      | (go_simp; go_at_call 86; refine (l02Number_any l 2 _ (by decide)).mono ?_; rintro e w3 ⟨v3, rfl, o3, b3⟩; (first | (with_reducible (have hA := ordC o2 g2 B2 b3); obtain ⟨f17, g3, B3⟩ := hA; have r20 := own_rowB o3 (nums_range _ _ _)) | (with_reducible (have hA := ordA2 o1 g1 B1 b3); obtain ⟨f16, f12, g3, B3⟩ := hA; have r16 := own_rowB f16 (one_range (wrap_range _)); have o20 := own_le o3 (by simp : wc.heap.size ≤ _)) | (with_reducible (have hA := ordB2 o1 g1 B1 b3); obtain ⟨f12, g3, B3⟩ := hA; have o20 : OwnB 5 w3 wc.heap.size v3 _ := o3)); obtain ⟨y0, y1, y2, y3, y4⟩ := req_box g3; clear o3 b3; try go_simp)
      | (refine step_row (by rfl) _ _ 22 (by rfl) Tryz.underlying22 hi hz0 hz1 hz2 (w.heap.size + 1) _ _ _ _ _ (by rfl) (by rfl) f17 B3 r20 (by simp only [List.length_append, nums_length, HL1.out, List.length_cons, List.length_nil]; decide) ?_; intro v5 w5 o5 k5; have g5 := g3.trans (k5.below f17 B3))
      | (refine step_row (by rfl) _ _ 22 (by rfl) Tryz.underlying22 hi hz0 hz1 hz2 (w.heap.size + 1) _ _ _ _ _ (by rfl) (by rfl) o2 B2 r20 (by simp only [List.length_append, nums_length, HL1.out, List.length_cons, List.length_nil]; decide) ?_; intro v5 w5 o5 k5; have g5 := g2.trans (k5.below o2 B2))
      | (refine step_row (by rfl) _ _ 22 (by rfl) Tryz.underlying22 hi hz0 hz1 hz2 (w.heap.size + 1) _ _ _ _ _ (by rfl) (by rfl) f12 B3 r16 (by simp only [List.length_append, nums_length, HL1.out, List.length_cons, List.length_nil]; decide) ?_; intro v2 w2 o2 k2; have g2 := g3.trans (k2.below f12 B3); have B2 : w.heap.size + 1 ≤ w2.heap.size := Nat.le_trans B3 k2.size; have r20 := own_rowB (own_kp o20 k2 HW.out) (nums_range _ _ _); obtain ⟨x0, x1, x2, x3, x4⟩ := req_box g2)
      | (refine step_row (by rfl) _ _ 22 (by rfl) Tryz.underlying22 hi hz0 hz1 hz2 (w.heap.size + 1) _ _ _ _ _ (by rfl) (by rfl) (own_alloc f12 _) (Nat.le_trans B3 (by simp)) (own_rowB (own_one _ w3 w3.heap.size _ (Nat.le_refl _)) (one_range (wrap_range _))) (by simp only [List.length_append, nums_length, HL1.out, List.length_cons, List.length_nil]; decide) ?_; intro v2 w2 o2 k2; have g2 := (g3.alloc B3 _).trans (k2.below (own_alloc f12 _) (Nat.le_trans B3 (by simp))); have B2 : w.heap.size + 1 ≤ w2.heap.size := Nat.le_trans B3 (Nat.le_trans (by simp) k2.size); have r20 := own_rowB (own_kp (own_alloc o20 _) k2 HW.out) (nums_range _ _ _); obtain ⟨x0, x1, x2, x3, x4⟩ := req_box g2)
      | (refine step_row (by rfl) _ _ 22 (by rfl) Tryz.underlying22 hi hz0 hz1 hz2 (w.heap.size + 1) _ _ _ _ _ (by rfl) (by rfl) (own_drew (own_alloc o1 _)) (Nat.le_trans B1 (by simp)) (rowB_drew (own_rowB (own_one _ wc wc.heap.size _ (Nat.le_refl _)) (one_range (wrap_range _)))) (by simp only [HL1.out, List.length_cons, List.length_nil]; decide) ?_; intro v2 w2 o2 k2; have g2 := (g1.alloc B1 _).drew.trans (k2.below (own_drew (own_alloc o1 _)) (Nat.le_trans B1 (by simp))); have B2 : w.heap.size + 1 ≤ w2.heap.size := Nat.le_trans B1 (Nat.le_trans (by simp) k2.size); obtain ⟨x0, x1, x2, x3, x4⟩ := req_box g2))
    all_goals
      rw [HN.out] at o5
      go_wp2_with fail
      go_meet
      exact ⟨o5, g5⟩
  case rest =>
  clear q2 q3 q4 o1 g1 B1
  obtain ⟨o1, g1⟩ := hcut
  have B1 : w.heap.size + 1 ≤ wc.heap.size := Nat.le_trans (Nat.le_of_eq hs0.out) g1.size
  obtain ⟨q0, q1, q2, q3, q4⟩ := req_box g1
  have q4a : ∀ o, (wc.alloc o).cell? ⟨w.heap.size, 4, none⟩ = some (.string n) := fun o => (req_box (g1.alloc B1 o)).2.2.2.2
  have HE : Hid (zs ++ nums k 1 1 ++ nums l 2 2 ++ nums (n.size : Int) 1 1 ++ bys n = reqBs c st k l n) := by show _ = _; rw [← HZ.out]; unfold reqBs; simp [List.append_assoc]
  have hl1 : (zs ++ nums k 1 1 ++ nums l 2 2).length = 6 := by simp only [List.length_append, nums_length, HL1.out]
  generalize zs ++ nums k 1 1 ++ nums l 2 2 = ys at o1 hl1 HE
  have HL2 : Hid (ys.length = 6) := hl1
  clear hl1 q0 q1 q2 q3
  go_upto_region 3 with fail
  go_region_law (first
    | (refine step_row (by rfl) _ _ 22 (by rfl) Tryz.underlying22 hi hz0 hz1 hz2 (w.heap.size + 1) _ _ _ _ _ (by rfl) (by rfl) (own_drew (own_alloc o1 _)) (Nat.le_trans B1 (by simp)) (rowB_drew (own_rowB (own_one _ wc wc.heap.size _ (Nat.le_refl _)) (one_range (wrap_range _)))) (by simp only [HL2.out, List.length_cons, List.length_nil]; decide) ?_; intro v2 w2 o2 k2; have g2 := (g1.alloc B1 _).drew.trans (k2.below (own_drew (own_alloc o1 _)) (Nat.le_trans B1 (by simp))); have B2 : w.heap.size + 1 ≤ w2.heap.size := Nat.le_trans B1 (Nat.le_trans (by simp) k2.size); obtain ⟨x0, x1, x2, x3, x4⟩ := req_box g2)
    | (refine step_str (by rfl) _ _ 22 9 (by rfl) Tryz.underlying22 Tryz.underlying9 hi hz0 hz1 hz2 (w.heap.size + 1) _ _ n _ (by rfl) (by rfl) o2 B2 (by simp only [List.length_append, HL2.out, List.length_cons, List.length_nil]; omega) ?_; intro v5 w5 o5 k5; have g5 := g2.trans (k5.below o2 B2)))
  all_goals
    rw [HN.out, HE.out] at o5
    go_wp2_with fail
    go_ret
    exact ⟨_, rfl, o5, g5⟩

end Go.Proofs.YtkfiahemgdppfaaGreatDoor.Rp

/- Messages: what both MessageOK functions answer, and their helpers. -/
namespace Go.Proofs.YtkfiahemgdppfaaGreatDoor.Ms
open Go.RowKit Go.Proofs.YtkfiahemgdppfaaGreatDoor.Rq

def placeB (sq : Int) (dg : ByteArray) : Bool := inB sq 1 8 && ((dg.size : Int) == 32)
def kindB (kd sq : Int) (dg bd : ByteArray) : Bool :=
  if kd = 1 then placeB sq dg && !bd.toList.isEmpty else if kd = 2 ∨ kd = 3 then placeB sq dg && bd.toList.isEmpty else if kd = 4 ∨ kd = 5 then (sq == 0) && dg.toList.isEmpty else false
/-- A message is right. -/
def msgB (kd vw sq fr : Int) (dg bd mc : ByteArray) : Bool := inB vw 0 20 && (inB fr 0 6 && (((mc.size : Int) == 8) && (decide ((bd.size : Int) ≤ 20000) && kindB kd sq dg bd)))
/-- A message as a value. -/
def msgV (kd vw sq fr : Int) (dg bd mc : ByteArray) : Value := .agg #[.int .i64 kd, .int .i64 vw, .int .i64 sq, .int .i64 fr, .string dg, .string bd, .string mc]

theorem placeOK_any (kd vw sq fr : Int) (dg bd mc : ByteArray) (w : World) :
    Calls Tryz.prog 138 #[msgV kd vw sq fr dg bd mc] w fun e w' => e = .returned (.bool (placeB sq dg)) ∧ Below w.heap.size w w' := by
  unfold msgV
  cases h1 : inB sq 1 8
  · have HO : Hid (placeB sq dg = false) := by show placeB sq dg = false; unfold placeB; rw [h1]; rfl
    go_enter Tryz.func138, Tryz.ntmps138
    go_wp2_with (go_at_call 19; refine (within_any _ _ _ _).mono ?_; rintro e w' ⟨rfl, rfl⟩)
    go_ret
    exact ⟨ret_bool HO.out.symm, (Below.refl _ _).alloc (Nat.le_refl _) _⟩
  · have HO : Hid (placeB sq dg = ((dg.size : Int) == 32)) := by show placeB sq dg = _; unfold placeB; rw [h1]; rfl
    go_enter Tryz.func138, Tryz.ntmps138
    go_wp2_with (go_at_call 19; refine (within_any _ _ _ _).mono ?_; rintro e w' ⟨rfl, rfl⟩)
    go_ret
    exact ⟨ret_bool HO.out.symm, (Below.refl _ _).alloc (Nat.le_refl _) _⟩

theorem kind1 (sq : Int) (dg bd : ByteArray) : kindB 1 sq dg bd = (placeB sq dg && !bd.toList.isEmpty) := rfl
theorem kind2 (sq : Int) (dg bd : ByteArray) : kindB 2 sq dg bd = (placeB sq dg && bd.toList.isEmpty) := rfl
theorem kind3 (sq : Int) (dg bd : ByteArray) : kindB 3 sq dg bd = (placeB sq dg && bd.toList.isEmpty) := rfl
theorem kind4 (sq : Int) (dg bd : ByteArray) : kindB 4 sq dg bd = ((sq == 0) && dg.toList.isEmpty) := rfl
theorem kind5 (sq : Int) (dg bd : ByteArray) : kindB 5 sq dg bd = ((sq == 0) && dg.toList.isEmpty) := rfl
theorem kind_no (kd sq : Int) (dg bd : ByteArray) (h : kd < 1 ∨ 5 < kd) : kindB kd sq dg bd = false := by
  unfold kindB; rw [if_neg (by omega), if_neg (by omega), if_neg (by omega)]
theorem kinds (kd : Int) : kd = 1 ∨ kd = 2 ∨ kd = 3 ∨ kd = 4 ∨ kd = 5 ∨ (kd < 1 ∨ 5 < kd) := by omega

theorem msg_box {w w1 : World} {kd vw sq fr : Int} {dg bd mc : ByteArray} {t : TypeId} (hb : Below (w.heap.size + 1) (w.alloc (.cells #[.int .i64 kd, .int .i64 vw, .int .i64 sq, .int .i64 fr, .string dg, .string bd, .string mc] t)) w1) :
    w1.cell? ⟨w.heap.size, 0, none⟩ = some (.int .i64 kd) ∧ w1.cell? ⟨w.heap.size, 1, none⟩ = some (.int .i64 vw) ∧ w1.cell? ⟨w.heap.size, 2, none⟩ = some (.int .i64 sq) ∧ w1.cell? ⟨w.heap.size, 3, none⟩ = some (.int .i64 fr) ∧
      w1.cell? ⟨w.heap.size, 4, none⟩ = some (.string dg) ∧ w1.cell? ⟨w.heap.size, 5, none⟩ = some (.string bd) ∧ w1.cell? ⟨w.heap.size, 6, none⟩ = some (.string mc) :=
  ⟨box_cells hb 0, box_cells hb 1, box_cells hb 2, box_cells hb 3, box_cells hb 4, box_cells hb 5, box_cells hb 6⟩

set_option maxHeartbeats 800000 in
theorem messageKindOK_any (kd vw sq fr : Int) (dg bd mc : ByteArray) (w : World) :
    Calls Tryz.prog 120 #[msgV kd vw sq fr dg bd mc] w fun e w' => e = .returned (.bool (kindB kd sq dg bd)) ∧ Below w.heap.size w w' := by
  unfold msgV
  rcases kinds kd with rfl | rfl | rfl | rfl | rfl | h
  · have HO : Hid (_ = _) := kind1 sq dg bd
    cases hp : placeB sq dg
    all_goals
      rw [hp] at HO
      go_enter Tryz.func120, Tryz.ntmps120
      go_wp2_with (go_at_call 138; refine (placeOK_any 1 vw sq fr dg bd mc _).mono ?_; rintro e w' ⟨rfl, hb⟩; have q5 := (msg_box (box_first hb)).2.2.2.2.2.1)
      go_ret
      exact ⟨ret_bool (by rw [HO.out]; simp), box_old (box_first hb)⟩
  · have HO : Hid (_ = _) := kind2 sq dg bd
    cases hp : placeB sq dg
    all_goals
      rw [hp] at HO
      go_enter Tryz.func120, Tryz.ntmps120
      go_wp2_with (go_at_call 138; refine (placeOK_any 2 vw sq fr dg bd mc _).mono ?_; rintro e w' ⟨rfl, hb⟩; have q5 := (msg_box (box_first hb)).2.2.2.2.2.1)
      go_ret
      exact ⟨ret_bool (by rw [HO.out]; simp), box_old (box_first hb)⟩
  · have HO : Hid (_ = _) := kind3 sq dg bd
    cases hp : placeB sq dg
    all_goals
      rw [hp] at HO
      go_enter Tryz.func120, Tryz.ntmps120
      go_wp2_with (go_at_call 138; refine (placeOK_any 3 vw sq fr dg bd mc _).mono ?_; rintro e w' ⟨rfl, hb⟩; have q5 := (msg_box (box_first hb)).2.2.2.2.2.1)
      go_ret
      exact ⟨ret_bool (by rw [HO.out]; simp), box_old (box_first hb)⟩
  · have HO : Hid (_ = _) := kind4 sq dg bd
    cases hp : (sq == 0)
    all_goals
      rw [hp] at HO
      go_enter Tryz.func120, Tryz.ntmps120
      go_wp2
      go_ret
      exact ⟨ret_bool (by rw [HO.out]; simp), (Below.refl _ _).alloc (Nat.le_refl _) _⟩
  · have HO : Hid (_ = _) := kind5 sq dg bd
    cases hp : (sq == 0)
    all_goals
      rw [hp] at HO
      go_enter Tryz.func120, Tryz.ntmps120
      go_wp2
      go_ret
      exact ⟨ret_bool (by rw [HO.out]; simp), (Below.refl _ _).alloc (Nat.le_refl _) _⟩
  · have HO : Hid (kindB kd sq dg bd = false) := kind_no kd sq dg bd h
    have e1 : (kd == 1) = false := beq_eq_false_iff_ne.2 (by omega)
    have e2 : (kd == 2) = false := beq_eq_false_iff_ne.2 (by omega)
    have e3 : (kd == 3) = false := beq_eq_false_iff_ne.2 (by omega)
    have e4 : (kd == 4) = false := beq_eq_false_iff_ne.2 (by omega)
    have e5 : (kd == 5) = false := beq_eq_false_iff_ne.2 (by omega)
    go_enter Tryz.func120, Tryz.ntmps120
    go_wp2
    go_ret
    exact ⟨ret_bool HO.out.symm, (Below.refl _ _).alloc (Nat.le_refl _) _⟩
end Go.Proofs.YtkfiahemgdppfaaGreatDoor.Ms

/- Messages: both MessageOK functions, and the laws' own helpers over messages. -/
namespace Go.Proofs.YtkfiahemgdppfaaGreatDoor.Ms
open Go.RowKit Go.Proofs.YtkfiahemgdppfaaGreatDoor.Rq

theorem msg_eq (kd vw sq fr : Int) (dg bd mc : ByteArray) : msgB kd vw sq fr dg bd mc = (inB vw 0 20 && (inB fr 0 6 && (((mc.size : Int) == 8) && (decide ((bd.size : Int) ≤ 20000) && kindB kd sq dg bd)))) := rfl
theorem al1 (w : World) (o : Obj) : Below w.heap.size w (w.alloc o) := (Below.refl _ _).alloc (Nat.le_refl _) _
set_option maxHeartbeats 400000 in
theorem nodeOK_any (n : Int) (w : World) : Calls Tryz.prog 119 #[.int .i64 n] w fun e w' => e = .returned (.bool (inB n 0 6)) ∧ w' = w := by
  go_enter Tryz.func119, Tryz.ntmps119
  go_wp2_with (go_at_call 19; refine (within_any n 0 6 _).mono ?_; rintro e w' ⟨rfl, rfl⟩)
  go_ret
  exact ⟨rfl, rfl⟩
set_option maxHeartbeats 800000 in
theorem implMessageOK_any (kd vw sq fr : Int) (dg bd mc : ByteArray) (w : World) :
    Calls Tryz.prog 95 #[msgV kd vw sq fr dg bd mc] w fun e w' => e = .returned (.bool (msgB kd vw sq fr dg bd mc)) ∧ Below w.heap.size w w' := by
  unfold msgV
  have HO : Hid (msgB kd vw sq fr dg bd mc = _) := msg_eq kd vw sq fr dg bd mc
  cases h1 : inB vw 0 20
  · rw [h1] at HO
    go_enter Tryz.func95, Tryz.ntmps95
    go_wp2_with (first | (go_at_call 19; refine (within_any _ _ _ _).mono ?_; rintro e w' ⟨rfl, rfl⟩) | (go_at_call 119; refine (nodeOK_any _ _).mono ?_; rintro e w' ⟨rfl, rfl⟩))
    go_ret
    exact ⟨ret_bool HO.out.symm, al1 _ _⟩
  cases h2 : inB fr 0 6
  · rw [h1, h2] at HO
    go_enter Tryz.func95, Tryz.ntmps95
    go_wp2_with (first | (go_at_call 19; refine (within_any _ _ _ _).mono ?_; rintro e w' ⟨rfl, rfl⟩) | (go_at_call 119; refine (nodeOK_any _ _).mono ?_; rintro e w' ⟨rfl, rfl⟩))
    go_ret
    exact ⟨ret_bool HO.out.symm, al1 _ _⟩
  cases h3 : ((mc.size : Int) == 8)
  · rw [h1, h2, h3] at HO
    go_enter Tryz.func95, Tryz.ntmps95
    go_wp2_with (first | (go_at_call 19; refine (within_any _ _ _ _).mono ?_; rintro e w' ⟨rfl, rfl⟩) | (go_at_call 119; refine (nodeOK_any _ _).mono ?_; rintro e w' ⟨rfl, rfl⟩))
    go_ret
    exact ⟨ret_bool HO.out.symm, al1 _ _⟩
  cases h4 : decide ((bd.size : Int) ≤ 20000)
  · rw [h1, h2, h3, h4] at HO
    have h4' : (20000 : Int) < (bd.size : Int) := by simpa using h4
    go_enter Tryz.func95, Tryz.ntmps95
    go_wp2_with (first | (go_at_call 19; refine (within_any _ _ _ _).mono ?_; rintro e w' ⟨rfl, rfl⟩) | (go_at_call 119; refine (nodeOK_any _ _).mono ?_; rintro e w' ⟨rfl, rfl⟩))
    go_ret
    exact ⟨ret_bool HO.out.symm, al1 _ _⟩
  rw [h1, h2, h3, h4] at HO
  have h4' : (bd.size : Int) ≤ 20000 := by simpa using h4
  go_enter Tryz.func95, Tryz.ntmps95
  go_wp2_with (first | (go_at_call 19; refine (within_any _ _ _ _).mono ?_; rintro e w' ⟨rfl, rfl⟩) | (go_at_call 119; refine (nodeOK_any _ _).mono ?_; rintro e w' ⟨rfl, rfl⟩) | (go_at_call 120; refine (messageKindOK_any kd vw sq fr dg bd mc _).mono ?_; rintro e w' ⟨rfl, hb⟩))
  go_ret
  exact ⟨ret_bool HO.out.symm, box_old (box_first hb)⟩

theorem msg_split (kd vw sq fr : Int) (dg bd mc : ByteArray) : msgB kd vw sq fr dg bd mc = (inB kd 1 5 && (inB vw 0 20 && (inB fr 0 6 && (((mc.size : Int) == 8) && (decide ((bd.size : Int) ≤ 20000) && kindB kd sq dg bd))))) := by
  cases h : inB kd 1 5
  · have : kindB kd sq dg bd = false := kind_no kd sq dg bd (by unfold inB at h; simp at h; omega)
    unfold msgB
    rw [this]
    simp
  · unfold msgB
    simp

set_option maxHeartbeats 1600000 in
theorem specMessageOK_any (kd vw sq fr : Int) (dg bd mc : ByteArray) (w : World) :
    Calls Tryz.prog 103 #[msgV kd vw sq fr dg bd mc] w fun e w' => e = .returned (.bool (msgB kd vw sq fr dg bd mc)) ∧ Below w.heap.size w w' := by
  unfold msgV
  have HO : Hid (msgB kd vw sq fr dg bd mc = _) := msg_split kd vw sq fr dg bd mc
  cases h0 : inB kd 1 5
  · rw [h0] at HO
    go_enter Tryz.func103, Tryz.ntmps103
    go_wp2_with (go_at_call 23; refine (l01In_any _ _ _ _).mono ?_; rintro e w' ⟨rfl, rfl⟩)
    go_ret
    exact ⟨ret_bool HO.out.symm, al1 _ _⟩
  cases h1 : inB vw 0 20
  · rw [h0, h1] at HO
    go_enter Tryz.func103, Tryz.ntmps103
    go_wp2_with (go_at_call 23; refine (l01In_any _ _ _ _).mono ?_; rintro e w' ⟨rfl, rfl⟩)
    go_ret
    exact ⟨ret_bool HO.out.symm, al1 _ _⟩
  cases h2 : inB fr 0 6
  · rw [h0, h1, h2] at HO
    go_enter Tryz.func103, Tryz.ntmps103
    go_wp2_with (go_at_call 23; refine (l01In_any _ _ _ _).mono ?_; rintro e w' ⟨rfl, rfl⟩)
    go_ret
    exact ⟨ret_bool HO.out.symm, al1 _ _⟩
  cases h3 : ((mc.size : Int) == 8)
  · rw [h0, h1, h2, h3] at HO
    have h3' : ((mc.size : Int) != 8) = true := by rw [bne, h3]; rfl
    go_enter Tryz.func103, Tryz.ntmps103
    go_wp2_with (go_at_call 23; refine (l01In_any _ _ _ _).mono ?_; rintro e w' ⟨rfl, rfl⟩)
    go_ret
    exact ⟨ret_bool HO.out.symm, al1 _ _⟩
  have h3' : ((mc.size : Int) != 8) = false := by rw [bne, h3]; rfl
  cases h4 : decide ((bd.size : Int) ≤ 20000)
  · rw [h0, h1, h2, h3, h4] at HO
    have h4' : (20000 : Int) < (bd.size : Int) := by simpa using h4
    go_enter Tryz.func103, Tryz.ntmps103
    go_wp2_with (go_at_call 23; refine (l01In_any _ _ _ _).mono ?_; rintro e w' ⟨rfl, rfl⟩)
    go_ret
    exact ⟨ret_bool HO.out.symm, al1 _ _⟩
  rw [h0, h1, h2, h3, h4] at HO
  have h4' : (bd.size : Int) ≤ 20000 := by simpa using h4
  clear h3 h4
  rcases kinds kd with rfl | rfl | rfl | rfl | rfl | h
  · rw [kind1] at HO
    unfold placeB at HO
    cases h5 : inB sq 1 8
    · rw [h5] at HO
      go_enter Tryz.func103, Tryz.ntmps103
      go_wp2_with (go_at_call 23; refine (l01In_any _ _ _ _).mono ?_; rintro e w' ⟨rfl, rfl⟩)
      go_ret
      exact ⟨ret_bool HO.out.symm, al1 _ _⟩
    cases h6 : ((dg.size : Int) == 32)
    all_goals
      rw [h5, h6] at HO
      go_enter Tryz.func103, Tryz.ntmps103
      go_wp2_with (go_at_call 23; refine (l01In_any _ _ _ _).mono ?_; rintro e w' ⟨rfl, rfl⟩)
      go_ret
      exact ⟨ret_bool (by rw [HO.out]; simp), al1 _ _⟩
  · rw [kind2] at HO
    unfold placeB at HO
    cases h5 : inB sq 1 8
    · rw [h5] at HO
      go_enter Tryz.func103, Tryz.ntmps103
      go_wp2_with (go_at_call 23; refine (l01In_any _ _ _ _).mono ?_; rintro e w' ⟨rfl, rfl⟩)
      go_ret
      exact ⟨ret_bool HO.out.symm, al1 _ _⟩
    cases h6 : ((dg.size : Int) == 32)
    all_goals
      rw [h5, h6] at HO
      go_enter Tryz.func103, Tryz.ntmps103
      go_wp2_with (go_at_call 23; refine (l01In_any _ _ _ _).mono ?_; rintro e w' ⟨rfl, rfl⟩)
      go_ret
      exact ⟨ret_bool (by rw [HO.out]; simp), al1 _ _⟩
  · rw [kind3] at HO
    unfold placeB at HO
    cases h5 : inB sq 1 8
    · rw [h5] at HO
      go_enter Tryz.func103, Tryz.ntmps103
      go_wp2_with (go_at_call 23; refine (l01In_any _ _ _ _).mono ?_; rintro e w' ⟨rfl, rfl⟩)
      go_ret
      exact ⟨ret_bool HO.out.symm, al1 _ _⟩
    cases h6 : ((dg.size : Int) == 32)
    all_goals
      rw [h5, h6] at HO
      go_enter Tryz.func103, Tryz.ntmps103
      go_wp2_with (go_at_call 23; refine (l01In_any _ _ _ _).mono ?_; rintro e w' ⟨rfl, rfl⟩)
      go_ret
      exact ⟨ret_bool (by rw [HO.out]; simp), al1 _ _⟩
  · rw [kind4] at HO
    cases h5 : (sq == 0)
    all_goals
      rw [h5] at HO
      go_enter Tryz.func103, Tryz.ntmps103
      go_wp2_with (go_at_call 23; refine (l01In_any _ _ _ _).mono ?_; rintro e w' ⟨rfl, rfl⟩)
      go_ret
      exact ⟨ret_bool (by rw [HO.out]; simp), al1 _ _⟩
  · rw [kind5] at HO
    cases h5 : (sq == 0)
    all_goals
      rw [h5] at HO
      go_enter Tryz.func103, Tryz.ntmps103
      go_wp2_with (go_at_call 23; refine (l01In_any _ _ _ _).mono ?_; rintro e w' ⟨rfl, rfl⟩)
      go_ret
      exact ⟨ret_bool (by rw [HO.out]; simp), al1 _ _⟩
  · exact absurd h0 (by unfold inB; simp; omega)

theorem szMessage_any (kd vw sq fr : Int) (dg bd mc : ByteArray) (w : World) (hd : dg.size ≤ maxLen) (hb : bd.size ≤ maxLen) (hm : mc.size ≤ maxLen) :
    Calls Tryz.prog 63 #[msgV kd vw sq fr dg bd mc, .int .i64 1048576] w fun e w' => e = .returned (.int .i64 (lft 1048576 ((dg.size + bd.size + mc.size : Nat) : Int))) ∧ Below w.heap.size w w' := by
  unfold maxLen at hd hb hm
  unfold msgV
  by_cases h1 : (1048576 : Int) < (dg.size : Int)
  · have HO : Hid (lft 1048576 ((dg.size + bd.size + mc.size : Nat) : Int) = -1) := lft_no (by omega)
    go_enter Tryz.func63, Tryz.ntmps63
    go_wp2
    go_ret
    exact ⟨ret_int HO.out.symm, al1 _ _⟩
  by_cases h2 : (1048576 : Int) - (dg.size : Int) < (bd.size : Int)
  · have HO : Hid (lft 1048576 ((dg.size + bd.size + mc.size : Nat) : Int) = -1) := lft_no (by omega)
    go_enter Tryz.func63, Tryz.ntmps63
    go_wp2
    go_ret
    exact ⟨ret_int HO.out.symm, al1 _ _⟩
  by_cases h3 : (1048576 : Int) - (dg.size : Int) - (bd.size : Int) < (mc.size : Int)
  · have HO : Hid (lft 1048576 ((dg.size + bd.size + mc.size : Nat) : Int) = -1) := lft_no (by omega)
    go_enter Tryz.func63, Tryz.ntmps63
    go_wp2
    go_ret
    exact ⟨ret_int HO.out.symm, al1 _ _⟩
  have HO : Hid (lft 1048576 ((dg.size + bd.size + mc.size : Nat) : Int) = 1048576 - (dg.size : Int) - (bd.size : Int) - (mc.size : Int)) := (lft_yes (by omega)).trans (by omega)
  go_enter Tryz.func63, Tryz.ntmps63
  go_wp2
  go_ret
  exact ⟨ret_int HO.out.symm, al1 _ _⟩

theorem toMessage_any (kd vw sq fr : Int) (dg bd mc : ByteArray) (w : World) :
    Calls Tryz.prog 72 #[msgV kd vw sq fr dg bd mc] w fun e w' => e = .returned (msgV kd vw sq fr dg bd mc) ∧ Below w.heap.size w w' := by
  unfold msgV
  go_enter Tryz.func72, Tryz.ntmps72
  go_wp2
  refine bodyPost_ret (v := msgV kd vw sq fr dg bd mc) (by simp [msgV, results, Tryz.results72, go_sem]) rfl ⟨rfl, (((Below.refl _ _).alloc (Nat.le_refl _) _).alloc (by simp) _).alloc (by simp; omega) _⟩
theorem eqMessage_same (kd vw sq fr : Int) (dg bd mc : ByteArray) (w : World) :
    Calls Tryz.prog 80 #[msgV kd vw sq fr dg bd mc, msgV kd vw sq fr dg bd mc] w fun e w' => e = .returned (.bool true) ∧ Below w.heap.size w w' := by
  unfold msgV
  have e0 : (kd != kd) = false := by simp
  have e1 : (vw != vw) = false := by simp
  have e2 : (sq != sq) = false := by simp
  have e3 : (fr != fr) = false := by simp
  go_enter Tryz.func80, Tryz.ntmps80
  go_wp2
  go_ret
  exact ⟨rfl, ((Below.refl _ _).alloc (Nat.le_refl _) _).alloc (by simp) _⟩
end Go.Proofs.YtkfiahemgdppfaaGreatDoor.Ms
