/- Messages: what both MessageOK functions answer, and their helpers. -/
import Derived.Test.YtddmdnljfnimbaaGreatDoorReqLaw
namespace Go.Proofs.YtddmdnljfnimbaaGreatDoor.Ms
open Go.RowKit Go.Proofs.YtddmdnljfnimbaaGreatDoor.Rq

def placeB (sq : Int) (dg : ByteArray) : Bool := inB sq 1 8 && ((dg.size : Int) == 32)
def kindB (kd sq : Int) (dg bd : ByteArray) : Bool :=
  if kd = 1 then placeB sq dg && !bd.toList.isEmpty else if kd = 2 ∨ kd = 3 then placeB sq dg && bd.toList.isEmpty else if kd = 4 ∨ kd = 5 then (sq == 0) && dg.toList.isEmpty else false
/-- A message is right. -/
def msgB (kd vw sq fr : Int) (dg bd mc : ByteArray) : Bool := inB vw 0 20 && (inB fr 0 6 && (((mc.size : Int) == 8) && (decide ((bd.size : Int) ≤ 20000) && kindB kd sq dg bd)))
/-- A message as a value. -/
def msgV (kd vw sq fr : Int) (dg bd mc : ByteArray) : Value := .agg #[.int .i64 kd, .int .i64 vw, .int .i64 sq, .int .i64 fr, .string dg, .string bd, .string mc]

theorem placeOK_any (kd vw sq fr : Int) (dg bd mc : ByteArray) (w : World) :
    Calls Tryz.prog 121 #[msgV kd vw sq fr dg bd mc] w fun e w' => e = .returned (.bool (placeB sq dg)) ∧ Below w.heap.size w w' := by
  unfold msgV
  cases h1 : inB sq 1 8
  · have HO : Hid (placeB sq dg = false) := by show placeB sq dg = false; unfold placeB; rw [h1]; rfl
    go_enter Tryz.func121, Tryz.ntmps121
    go_wp2_with (go_at_call 43; refine (within_any _ _ _ _).mono ?_; rintro e w' ⟨rfl, rfl⟩)
    go_ret
    exact ⟨ret_bool HO.out.symm, (Below.refl _ _).alloc (Nat.le_refl _) _⟩
  · have HO : Hid (placeB sq dg = ((dg.size : Int) == 32)) := by show placeB sq dg = _; unfold placeB; rw [h1]; rfl
    go_enter Tryz.func121, Tryz.ntmps121
    go_wp2_with (go_at_call 43; refine (within_any _ _ _ _).mono ?_; rintro e w' ⟨rfl, rfl⟩)
    go_ret
    exact ⟨ret_bool HO.out.symm, (Below.refl _ _).alloc (Nat.le_refl _) _⟩

theorem kind1 (sq : Int) (dg bd : ByteArray) : kindB 1 sq dg bd = (placeB sq dg && !bd.toList.isEmpty) := rfl
theorem kind2 (sq : Int) (dg bd : ByteArray) : kindB 2 sq dg bd = (placeB sq dg && bd.toList.isEmpty) := rfl
theorem kind3 (sq : Int) (dg bd : ByteArray) : kindB 3 sq dg bd = (placeB sq dg && bd.toList.isEmpty) := rfl
theorem kind4 (sq : Int) (dg bd : ByteArray) : kindB 4 sq dg bd = ((sq == 0) && dg.toList.isEmpty) := rfl
theorem kind5 (sq : Int) (dg bd : ByteArray) : kindB 5 sq dg bd = ((sq == 0) && dg.toList.isEmpty) := rfl
theorem kind_no (kd sq : Int) (dg bd : ByteArray) (h : kd < 1 ∨ 5 < kd) : kindB kd sq dg bd = false := by
  unfold kindB; rw [if_neg (by omega), if_neg (by omega), if_neg (by omega)]
theorem kinds (kd : Int) : kd = 1 ∨ kd = 2 ∨ kd = 3 ∨ kd = 4 ∨ kd = 5 ∨ (kd < 1 ∨ 5 < kd) := by omega

theorem msg_box {w w1 : World} {kd vw sq fr : Int} {dg bd mc : ByteArray} {t : TypeId} (hb : Below (w.heap.size + 1) (w.alloc (.cells #[.int .i64 kd, .int .i64 vw, .int .i64 sq, .int .i64 fr, .string dg, .string bd, .string mc] t)) w1) :
    w1.cell? ⟨w.heap.size, 0, none⟩ = some (.int .i64 kd) ∧ w1.cell? ⟨w.heap.size, 1, none⟩ = some (.int .i64 vw) ∧ w1.cell? ⟨w.heap.size, 2, none⟩ = some (.int .i64 sq) ∧ w1.cell? ⟨w.heap.size, 3, none⟩ = some (.int .i64 fr) ∧
      w1.cell? ⟨w.heap.size, 4, none⟩ = some (.string dg) ∧ w1.cell? ⟨w.heap.size, 5, none⟩ = some (.string bd) ∧ w1.cell? ⟨w.heap.size, 6, none⟩ = some (.string mc) :=
  ⟨box_cells hb 0, box_cells hb 1, box_cells hb 2, box_cells hb 3, box_cells hb 4, box_cells hb 5, box_cells hb 6⟩

set_option maxHeartbeats 800000 in
theorem messageKindOK_any (kd vw sq fr : Int) (dg bd mc : ByteArray) (w : World) :
    Calls Tryz.prog 104 #[msgV kd vw sq fr dg bd mc] w fun e w' => e = .returned (.bool (kindB kd sq dg bd)) ∧ Below w.heap.size w w' := by
  unfold msgV
  rcases kinds kd with rfl | rfl | rfl | rfl | rfl | h
  · have HO : Hid (_ = _) := kind1 sq dg bd
    cases hp : placeB sq dg
    all_goals
      rw [hp] at HO
      go_enter Tryz.func104, Tryz.ntmps104
      go_wp2_with (go_at_call 121; refine (placeOK_any 1 vw sq fr dg bd mc _).mono ?_; rintro e w' ⟨rfl, hb⟩; have q5 := (msg_box (box_first hb)).2.2.2.2.2.1)
      go_ret
      exact ⟨ret_bool (by rw [HO.out]; simp), box_old (box_first hb)⟩
  · have HO : Hid (_ = _) := kind2 sq dg bd
    cases hp : placeB sq dg
    all_goals
      rw [hp] at HO
      go_enter Tryz.func104, Tryz.ntmps104
      go_wp2_with (go_at_call 121; refine (placeOK_any 2 vw sq fr dg bd mc _).mono ?_; rintro e w' ⟨rfl, hb⟩; have q5 := (msg_box (box_first hb)).2.2.2.2.2.1)
      go_ret
      exact ⟨ret_bool (by rw [HO.out]; simp), box_old (box_first hb)⟩
  · have HO : Hid (_ = _) := kind3 sq dg bd
    cases hp : placeB sq dg
    all_goals
      rw [hp] at HO
      go_enter Tryz.func104, Tryz.ntmps104
      go_wp2_with (go_at_call 121; refine (placeOK_any 3 vw sq fr dg bd mc _).mono ?_; rintro e w' ⟨rfl, hb⟩; have q5 := (msg_box (box_first hb)).2.2.2.2.2.1)
      go_ret
      exact ⟨ret_bool (by rw [HO.out]; simp), box_old (box_first hb)⟩
  · have HO : Hid (_ = _) := kind4 sq dg bd
    cases hp : (sq == 0)
    all_goals
      rw [hp] at HO
      go_enter Tryz.func104, Tryz.ntmps104
      go_wp2
      go_ret
      exact ⟨ret_bool (by rw [HO.out]; simp), (Below.refl _ _).alloc (Nat.le_refl _) _⟩
  · have HO : Hid (_ = _) := kind5 sq dg bd
    cases hp : (sq == 0)
    all_goals
      rw [hp] at HO
      go_enter Tryz.func104, Tryz.ntmps104
      go_wp2
      go_ret
      exact ⟨ret_bool (by rw [HO.out]; simp), (Below.refl _ _).alloc (Nat.le_refl _) _⟩
  · have HO : Hid (kindB kd sq dg bd = false) := kind_no kd sq dg bd h
    have e1 : (kd == 1) = false := beq_eq_false_iff_ne.2 (by omega)
    have e2 : (kd == 2) = false := beq_eq_false_iff_ne.2 (by omega)
    have e3 : (kd == 3) = false := beq_eq_false_iff_ne.2 (by omega)
    have e4 : (kd == 4) = false := beq_eq_false_iff_ne.2 (by omega)
    have e5 : (kd == 5) = false := beq_eq_false_iff_ne.2 (by omega)
    go_enter Tryz.func104, Tryz.ntmps104
    go_wp2
    go_ret
    exact ⟨ret_bool HO.out.symm, (Below.refl _ _).alloc (Nat.le_refl _) _⟩
end Go.Proofs.YtddmdnljfnimbaaGreatDoor.Ms
