/- Texts put together: Req, ReqLaw, ReqPut, Msg. -/
import Derived.Test.YtddmdnljfnimbaaGreatDoorM1
import Derived.WalkSpells
import Derived.Laws.NewBlocks
import Derived.Laws.ResultCell
import Derived.Deep.RegionLaw
import Derived.Deep.CutRange
import Derived.Deep.DeepCutAuto
import Derived.BigRegion
/- Requests: what both RequestOK functions answer, and their helpers. -/
namespace Go.Proofs.YtddmdnljfnimbaaGreatDoor.Rq
open Go.RowKit

def inB (x a b : Int) : Bool := decide (a ≤ x ∧ x ≤ b)
theorem ret_bool {a b : Bool} (h : a = b) : Ending.returned (.bool a) = .returned (.bool b) := by rw [h]
theorem within_any (x a b : Int) (w : World) :
    Calls Tryz.prog 43 #[.int .i64 x, .int .i64 a, .int .i64 b] w fun e w' => e = .returned (.bool (inB x a b)) ∧ w' = w := by
  by_cases h1 : a ≤ x
  · by_cases h2 : x ≤ b
    all_goals
      go_enter Tryz.func43, Tryz.ntmps43
      go_wp2
      go_ret
      exact ⟨ret_bool (by unfold inB; rw [Bool.eq_iff_iff]; simp; try omega), rfl⟩
  · go_enter Tryz.func43, Tryz.ntmps43
    go_wp2
    go_ret
    exact ⟨ret_bool (by unfold inB; rw [Bool.eq_iff_iff]; simp; try omega), rfl⟩
theorem l01In_any (x a b : Int) (w : World) :
    Calls Tryz.prog 39 #[.int .i64 x, .int .i64 a, .int .i64 b] w fun e w' => e = .returned (.bool (inB x a b)) ∧ w' = w := by
  by_cases h1 : a ≤ x
  · by_cases h2 : x ≤ b
    all_goals
      go_enter Tryz.func39, Tryz.ntmps39
      go_wp2
      go_ret
      exact ⟨ret_bool (by unfold inB; rw [Bool.eq_iff_iff]; simp; try omega), rfl⟩
  · go_enter Tryz.func39, Tryz.ntmps39
    go_wp2
    go_ret
    exact ⟨ret_bool (by unfold inB; rw [Bool.eq_iff_iff]; simp; try omega), rfl⟩

def leB (k l : Int) : Bool := decide ((k = 1 ∨ k = 3) ∧ 1 ≤ l ∧ l ≤ 1000 ∨ (k = 2 ∨ k = 4) ∧ l = 0)
theorem leaseOK_any (k l : Int) (w : World) :
    Calls Tryz.prog 110 #[.int .i64 k, .int .i64 l] w fun e w' => e = .returned (.bool (leB k l)) ∧ w' = w := by
  by_cases k1 : k = 1
  · subst k1
    go_enter Tryz.func110, Tryz.ntmps110
    go_wp2_with (go_at_call 43; refine (within_any _ _ _ _).mono ?_; rintro e w' ⟨rfl, rfl⟩)
    go_ret
    exact ⟨ret_bool (by unfold leB inB; simp), rfl⟩
  by_cases k3 : k = 3
  · subst k3
    go_enter Tryz.func110, Tryz.ntmps110
    go_wp2_with (go_at_call 43; refine (within_any _ _ _ _).mono ?_; rintro e w' ⟨rfl, rfl⟩)
    go_ret
    exact ⟨ret_bool (by unfold leB inB; simp), rfl⟩
  by_cases k2 : k = 2
  · subst k2
    go_enter Tryz.func110, Tryz.ntmps110
    go_wp2
    go_ret
    exact ⟨ret_bool (by unfold leB; rw [Bool.eq_iff_iff]; simp), rfl⟩
  by_cases k4 : k = 4
  · subst k4
    go_enter Tryz.func110, Tryz.ntmps110
    go_wp2
    go_ret
    exact ⟨ret_bool (by unfold leB; rw [Bool.eq_iff_iff]; simp), rfl⟩
  have e1 : (k == 1) = false := beq_eq_false_iff_ne.2 k1
  have e2 : (k == 2) = false := beq_eq_false_iff_ne.2 k2
  have e3 : (k == 3) = false := beq_eq_false_iff_ne.2 k3
  have e4 : (k == 4) = false := beq_eq_false_iff_ne.2 k4
  go_enter Tryz.func110, Tryz.ntmps110
  go_wp2
  go_ret
  exact ⟨ret_bool (by unfold leB; rw [Bool.eq_iff_iff]; simp; omega), rfl⟩

def opB (n : ByteArray) : Bool := decide (n.size ≤ 12) && Nm.nameB n
theorem opNameOK_any (n : ByteArray) (w : World) (hs : n.size ≤ maxLen) :
    Calls Tryz.prog 111 #[.string n] w fun e w' => e = .returned (.bool (opB n)) ∧ Below w.heap.size w w' := by
  by_cases h : n.size ≤ 12
  · have h1 : (n.size : Int) ≤ 12 := by omega
    have HO : Hid (opB n = Nm.nameB n) := by show opB n = Nm.nameB n; unfold opB; simp [h]
    go_enter Tryz.func111, Tryz.ntmps111
    go_wp2_with (go_at_call 124; refine (Nm.implNameOK_any _ _ hs).mono ?_; rintro e w' ⟨rfl, hb⟩)
    go_ret
    exact ⟨ret_bool HO.out.symm, hb⟩
  · have h1 : (12 : Int) < (n.size : Int) := by omega
    have HO : Hid (opB n = false) := by show opB n = false; unfold opB; simp [h]
    go_enter Tryz.func111, Tryz.ntmps111
    go_wp2
    go_ret
    exact ⟨ret_bool HO.out.symm, Below.refl _ _⟩
theorem l02Text_any (n : ByteArray) (w : World) (hs : n.size ≤ maxLen) :
    Calls Tryz.prog 123 #[.string n, .int .i64 12] w fun e w' => e = .returned (.bool (opB n)) ∧ w' = w := by
  cases h : inB (n.size : Int) 1 12
  · have HO : Hid (opB n = false) := by
      show opB n = false
      unfold inB at h
      unfold opB Nm.nameB
      simp at h ⊢
      omega
    go_enter Tryz.func123, Tryz.ntmps123
    go_wp2_with (go_at_call 39; refine (l01In_any _ _ _ _).mono ?_; rintro e w' ⟨rfl, rfl⟩)
    go_ret
    exact ⟨ret_bool HO.out.symm, rfl⟩
  · have HO : Hid (opB n = Nm.nameB n) := by
      show opB n = Nm.nameB n
      unfold inB at h
      unfold opB
      simp at h ⊢
      omega
    go_enter Tryz.func123, Tryz.ntmps123
    go_wp2_with (first | (go_at_call 39; refine (l01In_any _ _ _ _).mono ?_; rintro e w' ⟨rfl, rfl⟩) | (go_at_call 132; refine (Nm.specNameOK_any _ _ hs).mono ?_; rintro e w' ⟨rfl, rfl⟩))
    go_ret
    exact ⟨ret_bool HO.out.symm, rfl⟩

/-- A request is right. -/
def reqB (c st k l : Int) (n : ByteArray) : Bool := inB c 0 255 && (inB st 1 65535 && (leB k l && opB n))
/-- A request as a value. -/
def reqV (c st k l : Int) (n : ByteArray) : Value := .agg #[.int .i64 c, .int .i64 st, .int .i64 k, .int .i64 l, .string n]

set_option maxHeartbeats 400000 in
theorem implRequestOK_any (c st k l : Int) (n : ByteArray) (w : World) (hs : n.size ≤ maxLen) :
    Calls Tryz.prog 95 #[reqV c st k l n] w fun e w' => e = .returned (.bool (reqB c st k l n)) ∧ Below w.heap.size w w' := by
  unfold reqV
  cases h1 : inB c 0 255
  · have HO : Hid (reqB c st k l n = false) := by show reqB c st k l n = false; unfold reqB; rw [h1]; rfl
    go_enter Tryz.func95, Tryz.ntmps95
    go_wp2_with (go_at_call 43; refine (within_any _ _ _ _).mono ?_; rintro e w' ⟨rfl, rfl⟩)
    go_ret
    exact ⟨ret_bool HO.out.symm, (Below.refl _ _).alloc (Nat.le_refl _) _⟩
  cases h2 : inB st 1 65535
  · have HO : Hid (reqB c st k l n = false) := by show reqB c st k l n = false; unfold reqB; rw [h1, h2]; rfl
    go_enter Tryz.func95, Tryz.ntmps95
    go_wp2_with (go_at_call 43; refine (within_any _ _ _ _).mono ?_; rintro e w' ⟨rfl, rfl⟩)
    go_ret
    exact ⟨ret_bool HO.out.symm, (Below.refl _ _).alloc (Nat.le_refl _) _⟩
  cases h3 : leB k l
  · have HO : Hid (reqB c st k l n = false) := by show reqB c st k l n = false; unfold reqB; rw [h1, h2, h3]; rfl
    go_enter Tryz.func95, Tryz.ntmps95
    go_wp2_with (first | (go_at_call 43; refine (within_any _ _ _ _).mono ?_; rintro e w' ⟨rfl, rfl⟩) | (go_at_call 110; refine (leaseOK_any _ _ _).mono ?_; rintro e w' ⟨rfl, rfl⟩))
    go_ret
    exact ⟨ret_bool HO.out.symm, (Below.refl _ _).alloc (Nat.le_refl _) _⟩
  have HO : Hid (reqB c st k l n = opB n) := by show reqB c st k l n = opB n; unfold reqB; rw [h1, h2, h3]; rfl
  go_enter Tryz.func95, Tryz.ntmps95
  go_wp2_with (first | (go_at_call 43; refine (within_any _ _ _ _).mono ?_; rintro e w' ⟨rfl, rfl⟩) | (go_at_call 110; refine (leaseOK_any _ _ _).mono ?_; rintro e w' ⟨rfl, rfl⟩) | (go_at_call 111; refine (opNameOK_any _ _ hs).mono ?_; rintro e w' ⟨rfl, hb⟩))
  go_ret
  exact ⟨ret_bool HO.out.symm, ((Below.refl _ _).alloc (Nat.le_refl _) _).trans (hb.mono (by simp))⟩

theorem lease_split (k l : Int) : leB k l = (inB k 1 4 && (inB l 0 1000 && (decide (0 < l) == (k == 1 || k == 3)))) := by
  unfold leB inB
  by_cases k1 : k = 1
  · subst k1; rw [Bool.eq_iff_iff]; simp; omega
  by_cases k2 : k = 2
  · subst k2; rw [Bool.eq_iff_iff]; simp; omega
  by_cases k3 : k = 3
  · subst k3; rw [Bool.eq_iff_iff]; simp; omega
  by_cases k4 : k = 4
  · subst k4; rw [Bool.eq_iff_iff]; simp; omega
  have e1 : ¬ (1 ≤ k ∧ k ≤ 4) := by omega
  rw [Bool.eq_iff_iff]
  simp [k1, k2, k3, k4]
  omega
theorem req_split (c st k l : Int) (n : ByteArray) : reqB c st k l n = (inB c 0 255 && (inB st 1 65535 && (inB k 1 4 && (inB l 0 1000 && (opB n && (decide (0 < l) == (k == 1 || k == 3))))))) := by
  unfold reqB
  rw [lease_split]
  cases inB c 0 255 <;> cases inB st 1 65535 <;> cases inB k 1 4 <;> cases inB l 0 1000 <;> cases opB n <;> simp

set_option maxHeartbeats 800000 in
theorem specRequestOK_any (c st k l : Int) (n : ByteArray) (w : World) (hs : n.size ≤ maxLen) :
    Calls Tryz.prog 107 #[reqV c st k l n] w fun e w' => e = .returned (.bool (reqB c st k l n)) ∧ Below w.heap.size w w' := by
  unfold reqV
  cases h1 : inB c 0 255
  · have HO : Hid (reqB c st k l n = false) := by show reqB c st k l n = false; rw [req_split, h1]; rfl
    go_enter Tryz.func107, Tryz.ntmps107
    go_wp2_with (go_at_call 39; refine (l01In_any _ _ _ _).mono ?_; rintro e w' ⟨rfl, rfl⟩)
    go_ret
    exact ⟨ret_bool HO.out.symm, (Below.refl _ _).alloc (Nat.le_refl _) _⟩
  cases h2 : inB st 1 65535
  · have HO : Hid (reqB c st k l n = false) := by show reqB c st k l n = false; rw [req_split, h1, h2]; rfl
    go_enter Tryz.func107, Tryz.ntmps107
    go_wp2_with (go_at_call 39; refine (l01In_any _ _ _ _).mono ?_; rintro e w' ⟨rfl, rfl⟩)
    go_ret
    exact ⟨ret_bool HO.out.symm, (Below.refl _ _).alloc (Nat.le_refl _) _⟩
  cases h3 : inB k 1 4
  · have HO : Hid (reqB c st k l n = false) := by show reqB c st k l n = false; rw [req_split, h1, h2, h3]; rfl
    go_enter Tryz.func107, Tryz.ntmps107
    go_wp2_with (go_at_call 39; refine (l01In_any _ _ _ _).mono ?_; rintro e w' ⟨rfl, rfl⟩)
    go_ret
    exact ⟨ret_bool HO.out.symm, (Below.refl _ _).alloc (Nat.le_refl _) _⟩
  cases h4 : inB l 0 1000
  · have HO : Hid (reqB c st k l n = false) := by show reqB c st k l n = false; rw [req_split, h1, h2, h3, h4]; rfl
    go_enter Tryz.func107, Tryz.ntmps107
    go_wp2_with (go_at_call 39; refine (l01In_any _ _ _ _).mono ?_; rintro e w' ⟨rfl, rfl⟩)
    go_ret
    exact ⟨ret_bool HO.out.symm, (Below.refl _ _).alloc (Nat.le_refl _) _⟩
  cases h5 : opB n
  · have HO : Hid (reqB c st k l n = false) := by show reqB c st k l n = false; rw [req_split, h1, h2, h3, h4, h5]; rfl
    go_enter Tryz.func107, Tryz.ntmps107
    go_wp2_with (first | (go_at_call 39; refine (l01In_any _ _ _ _).mono ?_; rintro e w' ⟨rfl, rfl⟩) | (go_at_call 123; refine (l02Text_any _ _ hs).mono ?_; rintro e w' ⟨rfl, rfl⟩))
    go_ret
    exact ⟨ret_bool HO.out.symm, (Below.refl _ _).alloc (Nat.le_refl _) _⟩
  have HO : Hid (reqB c st k l n = (decide (0 < l) == (k == 1 || k == 3))) := by show reqB c st k l n = _; rw [req_split, h1, h2, h3, h4, h5]; simp
  by_cases k1 : k = 1
  · subst k1
    go_enter Tryz.func107, Tryz.ntmps107
    go_wp2_with (first | (go_at_call 39; refine (l01In_any _ _ _ _).mono ?_; rintro e w' ⟨rfl, rfl⟩) | (go_at_call 123; refine (l02Text_any _ _ hs).mono ?_; rintro e w' ⟨rfl, rfl⟩))
    go_ret
    exact ⟨ret_bool (by rw [HO.out]; simp), (Below.refl _ _).alloc (Nat.le_refl _) _⟩
  have e1 : (k == 1) = false := beq_eq_false_iff_ne.2 k1
  go_enter Tryz.func107, Tryz.ntmps107
  go_wp2_with (first | (go_at_call 39; refine (l01In_any _ _ _ _).mono ?_; rintro e w' ⟨rfl, rfl⟩) | (go_at_call 123; refine (l02Text_any _ _ hs).mono ?_; rintro e w' ⟨rfl, rfl⟩))
  go_ret
  exact ⟨ret_bool (by rw [HO.out]; simp [e1]), (Below.refl _ _).alloc (Nat.le_refl _) _⟩
end Go.Proofs.YtddmdnljfnimbaaGreatDoor.Rq

/- The laws' own helpers over requests: their size, their copy. -/
namespace Go.Proofs.YtddmdnljfnimbaaGreatDoor.Rq
open Go.RowKit

theorem andThen {B : Nat} {W w1 w2 : World} (h : Below B W w1) (hB : B ≤ W.heap.size) (h2 : Below w1.heap.size w1 w2) : Below B W w2 := h.trans (h2.mono (Nat.le_trans hB h.size))
theorem size_new (w : World) (o : Obj) : (w.alloc o).heap.size = w.heap.size + 1 := by simp
/-- The block of a boxed value: its cells, in every later world. -/
theorem box_cells {w w1 : World} {cs : Array Value} {t : TypeId} (hb : Below (w.heap.size + 1) (w.alloc (.cells cs t)) w1) (i : Nat) : w1.cell? ⟨w.heap.size, i, none⟩ = cs[i]? := by
  have h := hb.cell (p := ⟨w.heap.size, i, none⟩) (Nat.lt_succ_self _)
  rw [h, World.cell?_alloc_at _ _ _ _ rfl]
theorem req_box {w w1 : World} {c st k l : Int} {n : ByteArray} {t : TypeId} (hb : Below (w.heap.size + 1) (w.alloc (.cells #[.int .i64 c, .int .i64 st, .int .i64 k, .int .i64 l, .string n] t)) w1) :
    w1.cell? ⟨w.heap.size, 0, none⟩ = some (.int .i64 c) ∧ w1.cell? ⟨w.heap.size, 1, none⟩ = some (.int .i64 st) ∧ w1.cell? ⟨w.heap.size, 2, none⟩ = some (.int .i64 k) ∧ w1.cell? ⟨w.heap.size, 3, none⟩ = some (.int .i64 l) ∧ w1.cell? ⟨w.heap.size, 4, none⟩ = some (.string n) :=
  ⟨box_cells hb 0, box_cells hb 1, box_cells hb 2, box_cells hb 3, box_cells hb 4⟩
theorem box_old {w w1 : World} {o : Obj} (hb : Below (w.heap.size + 1) (w.alloc o) w1) : Below w.heap.size w w1 := ((Below.refl _ _).alloc (Nat.le_refl _) o).trans (hb.mono (Nat.le_succ _))
theorem box_first {w w1 : World} {o : Obj} (hb : Below (w.alloc o).heap.size (w.alloc o) w1) : Below (w.heap.size + 1) (w.alloc o) w1 := by rw [size_new] at hb; exact hb
theorem box_next {w w1 w2 : World} {o : Obj} (h : Below (w.heap.size + 1) (w.alloc o) w1) (h2 : Below w1.heap.size w1 w2) : Below (w.heap.size + 1) (w.alloc o) w2 := andThen h (by rw [size_new]; exact Nat.le_refl _) h2
/-- What is left of a budget. -/
def lft (left s : Int) : Int := if left < s then -1 else left - s
theorem lft_no {left s : Int} (h : left < s) : lft left s = -1 := if_pos h
theorem lft_yes {left s : Int} (h : ¬ left < s) : lft left s = left - s := if_neg h
theorem ret_int {a b : Int} (h : a = b) : Ending.returned (.int .i64 a) = .returned (.int .i64 b) := by rw [h]
end Go.Proofs.YtddmdnljfnimbaaGreatDoor.Rq

/- Requests' bytes: both RequestBytes functions. -/
namespace Go.Proofs.YtddmdnljfnimbaaGreatDoor.Rp
open Go.RowKit Go.Proofs.YtddmdnljfnimbaaGreatDoor.Sl Go.Proofs.YtddmdnljfnimbaaGreatDoor.By Go.Proofs.YtddmdnljfnimbaaGreatDoor.Rq Go.Proofs.YtddmdnljfnimbaaGreatDoor.Ap Go.Proofs.YtddmdnljfnimbaaGreatDoor.Pu

/-- A request's bytes. -/
def reqBs (c st k l : Int) (n : ByteArray) : List Int := nums c 1 1 ++ (nums st 2 2 ++ (nums k 1 1 ++ (nums l 2 2 ++ (nums (n.size : Int) 1 1 ++ bys n))))
theorem reqBs_length (c st k l : Int) (n : ByteArray) : (reqBs c st k l n).length = 7 + n.size := by unfold reqBs; simp only [List.length_append, nums_length, bys_length]; omega
theorem reqBs_range (c st k l : Int) (n : ByteArray) : ∀ z ∈ reqBs c st k l n, 0 ≤ z ∧ z ≤ 255 := by
  intro z hz
  unfold reqBs at hz
  simp only [List.mem_append] at hz
  rcases hz with h | h | h | h | h | h
  all_goals first | exact nums_range _ _ _ z h | exact bys_range _ z h

theorem kept_cell {w w1 : World} {v v1 : Value} (h : Kp w w1 v v1) {b : Nat} (hb : b < w.heap.size) (hn : some b ≠ v.ownBlock) (i : Nat) : w1.cell? ⟨b, i, none⟩ = w.cell? ⟨b, i, none⟩ := World.cell?_of_block (h.block b hb hn)
theorem req_kept {w w1 : World} {v v1 : Value} {c st k l : Int} {n : ByteArray} {t : TypeId} (h : Kp (w.alloc (.cells #[.int .i64 c, .int .i64 st, .int .i64 k, .int .i64 l, .string n] t)) w1 v v1) (hn : some w.heap.size ≠ v.ownBlock) :
    w1.cell? ⟨w.heap.size, 0, none⟩ = some (.int .i64 c) ∧ w1.cell? ⟨w.heap.size, 1, none⟩ = some (.int .i64 st) ∧ w1.cell? ⟨w.heap.size, 2, none⟩ = some (.int .i64 k) ∧ w1.cell? ⟨w.heap.size, 3, none⟩ = some (.int .i64 l) ∧ w1.cell? ⟨w.heap.size, 4, none⟩ = some (.string n) := by
  have hs : w.heap.size < (w.alloc (.cells #[.int .i64 c, .int .i64 st, .int .i64 k, .int .i64 l, .string n] t)).heap.size := by simp
  have h' := fun i => (kept_cell h hs hn i).trans (World.cell?_alloc_at _ _ _ _ rfl)
  exact ⟨h' 0, h' 1, h' 2, h' 3, h' 4⟩
theorem own_away {e : TypeId} {w : World} {B : Nat} {v : Value} {zs : List Int} (h : OwnB e w B v zs) : some w.heap.size ≠ v.ownBlock := by
  intro hn
  unfold OwnB at h
  have := (h.lt _ hn.symm).2
  omega

theorem ret_tup {v : Value} {a b : Int} (h : a = b) : Ending.returned (.tuple #[v, .int .i64 a]) = .returned (.tuple #[v, .int .i64 b]) := by rw [h]
/-- What RequestBytes answers: the bytes, or none. -/
def reqOut (c st k l : Int) (n : ByteArray) : List Int := if reqB c st k l n then reqBs c st k l n else []
def reqCode (c st k l : Int) (n : ByteArray) : Int := if reqB c st k l n then 0 else 1
theorem req_small {c st k l : Int} {n : ByteArray} (h : reqB c st k l n = true) : n.size ≤ 12 := by
  unfold reqB opB at h
  simp at h
  exact h.2.2.2.1

end Go.Proofs.YtddmdnljfnimbaaGreatDoor.Rp

/- Messages: what both MessageOK functions answer, and their helpers. -/
namespace Go.Proofs.YtddmdnljfnimbaaGreatDoor.Ms
open Go.RowKit Go.Proofs.YtddmdnljfnimbaaGreatDoor.Rq

def placeB (sq : Int) (dg : ByteArray) : Bool := inB sq 1 8 && ((dg.size : Int) == 32)
def kindB (kd sq : Int) (dg bd : ByteArray) : Bool :=
  if kd = 1 then placeB sq dg && !bd.toList.isEmpty else if kd = 2 ∨ kd = 3 then placeB sq dg && bd.toList.isEmpty else if kd = 4 ∨ kd = 5 then (sq == 0) && dg.toList.isEmpty else false
/-- A message is right. -/
def msgB (kd vw sq fr : Int) (dg bd mc : ByteArray) : Bool := inB vw 0 20 && (inB fr 0 6 && (((mc.size : Int) == 8) && (decide ((bd.size : Int) ≤ 20000) && kindB kd sq dg bd)))
/-- A message as a value. -/
def msgV (kd vw sq fr : Int) (dg bd mc : ByteArray) : Value := .agg #[.int .i64 kd, .int .i64 vw, .int .i64 sq, .int .i64 fr, .string dg, .string bd, .string mc]

theorem placeOK_any (kd vw sq fr : Int) (dg bd mc : ByteArray) (w : World) :
    Calls Tryz.prog 121 #[msgV kd vw sq fr dg bd mc] w fun e w' => e = .returned (.bool (placeB sq dg)) ∧ Below w.heap.size w w' := by
  unfold msgV
  cases h1 : inB sq 1 8
  · have HO : Hid (placeB sq dg = false) := by show placeB sq dg = false; unfold placeB; rw [h1]; rfl
    go_enter Tryz.func121, Tryz.ntmps121
    go_wp2_with (go_at_call 43; refine (within_any _ _ _ _).mono ?_; rintro e w' ⟨rfl, rfl⟩)
    go_ret
    exact ⟨ret_bool HO.out.symm, (Below.refl _ _).alloc (Nat.le_refl _) _⟩
  · have HO : Hid (placeB sq dg = ((dg.size : Int) == 32)) := by show placeB sq dg = _; unfold placeB; rw [h1]; rfl
    go_enter Tryz.func121, Tryz.ntmps121
    go_wp2_with (go_at_call 43; refine (within_any _ _ _ _).mono ?_; rintro e w' ⟨rfl, rfl⟩)
    go_ret
    exact ⟨ret_bool HO.out.symm, (Below.refl _ _).alloc (Nat.le_refl _) _⟩

theorem kind1 (sq : Int) (dg bd : ByteArray) : kindB 1 sq dg bd = (placeB sq dg && !bd.toList.isEmpty) := rfl
theorem kind2 (sq : Int) (dg bd : ByteArray) : kindB 2 sq dg bd = (placeB sq dg && bd.toList.isEmpty) := rfl
theorem kind3 (sq : Int) (dg bd : ByteArray) : kindB 3 sq dg bd = (placeB sq dg && bd.toList.isEmpty) := rfl
theorem kind4 (sq : Int) (dg bd : ByteArray) : kindB 4 sq dg bd = ((sq == 0) && dg.toList.isEmpty) := rfl
theorem kind5 (sq : Int) (dg bd : ByteArray) : kindB 5 sq dg bd = ((sq == 0) && dg.toList.isEmpty) := rfl
theorem kind_no (kd sq : Int) (dg bd : ByteArray) (h : kd < 1 ∨ 5 < kd) : kindB kd sq dg bd = false := by
  unfold kindB; rw [if_neg (by omega), if_neg (by omega), if_neg (by omega)]
theorem kinds (kd : Int) : kd = 1 ∨ kd = 2 ∨ kd = 3 ∨ kd = 4 ∨ kd = 5 ∨ (kd < 1 ∨ 5 < kd) := by omega

theorem msg_box {w w1 : World} {kd vw sq fr : Int} {dg bd mc : ByteArray} {t : TypeId} (hb : Below (w.heap.size + 1) (w.alloc (.cells #[.int .i64 kd, .int .i64 vw, .int .i64 sq, .int .i64 fr, .string dg, .string bd, .string mc] t)) w1) :
    w1.cell? ⟨w.heap.size, 0, none⟩ = some (.int .i64 kd) ∧ w1.cell? ⟨w.heap.size, 1, none⟩ = some (.int .i64 vw) ∧ w1.cell? ⟨w.heap.size, 2, none⟩ = some (.int .i64 sq) ∧ w1.cell? ⟨w.heap.size, 3, none⟩ = some (.int .i64 fr) ∧
      w1.cell? ⟨w.heap.size, 4, none⟩ = some (.string dg) ∧ w1.cell? ⟨w.heap.size, 5, none⟩ = some (.string bd) ∧ w1.cell? ⟨w.heap.size, 6, none⟩ = some (.string mc) :=
  ⟨box_cells hb 0, box_cells hb 1, box_cells hb 2, box_cells hb 3, box_cells hb 4, box_cells hb 5, box_cells hb 6⟩

set_option maxHeartbeats 800000 in
theorem messageKindOK_any (kd vw sq fr : Int) (dg bd mc : ByteArray) (w : World) :
    Calls Tryz.prog 104 #[msgV kd vw sq fr dg bd mc] w fun e w' => e = .returned (.bool (kindB kd sq dg bd)) ∧ Below w.heap.size w w' := by
  unfold msgV
  rcases kinds kd with rfl | rfl | rfl | rfl | rfl | h
  · have HO : Hid (_ = _) := kind1 sq dg bd
    cases hp : placeB sq dg
    all_goals
      rw [hp] at HO
      go_enter Tryz.func104, Tryz.ntmps104
      go_wp2_with (go_at_call 121; refine (placeOK_any 1 vw sq fr dg bd mc _).mono ?_; rintro e w' ⟨rfl, hb⟩; have q5 := (msg_box (box_first hb)).2.2.2.2.2.1)
      go_ret
      exact ⟨ret_bool (by rw [HO.out]; simp), box_old (box_first hb)⟩
  · have HO : Hid (_ = _) := kind2 sq dg bd
    cases hp : placeB sq dg
    all_goals
      rw [hp] at HO
      go_enter Tryz.func104, Tryz.ntmps104
      go_wp2_with (go_at_call 121; refine (placeOK_any 2 vw sq fr dg bd mc _).mono ?_; rintro e w' ⟨rfl, hb⟩; have q5 := (msg_box (box_first hb)).2.2.2.2.2.1)
      go_ret
      exact ⟨ret_bool (by rw [HO.out]; simp), box_old (box_first hb)⟩
  · have HO : Hid (_ = _) := kind3 sq dg bd
    cases hp : placeB sq dg
    all_goals
      rw [hp] at HO
      go_enter Tryz.func104, Tryz.ntmps104
      go_wp2_with (go_at_call 121; refine (placeOK_any 3 vw sq fr dg bd mc _).mono ?_; rintro e w' ⟨rfl, hb⟩; have q5 := (msg_box (box_first hb)).2.2.2.2.2.1)
      go_ret
      exact ⟨ret_bool (by rw [HO.out]; simp), box_old (box_first hb)⟩
  · have HO : Hid (_ = _) := kind4 sq dg bd
    cases hp : (sq == 0)
    all_goals
      rw [hp] at HO
      go_enter Tryz.func104, Tryz.ntmps104
      go_wp2
      go_ret
      exact ⟨ret_bool (by rw [HO.out]; simp), (Below.refl _ _).alloc (Nat.le_refl _) _⟩
  · have HO : Hid (_ = _) := kind5 sq dg bd
    cases hp : (sq == 0)
    all_goals
      rw [hp] at HO
      go_enter Tryz.func104, Tryz.ntmps104
      go_wp2
      go_ret
      exact ⟨ret_bool (by rw [HO.out]; simp), (Below.refl _ _).alloc (Nat.le_refl _) _⟩
  · have HO : Hid (kindB kd sq dg bd = false) := kind_no kd sq dg bd h
    have e1 : (kd == 1) = false := beq_eq_false_iff_ne.2 (by omega)
    have e2 : (kd == 2) = false := beq_eq_false_iff_ne.2 (by omega)
    have e3 : (kd == 3) = false := beq_eq_false_iff_ne.2 (by omega)
    have e4 : (kd == 4) = false := beq_eq_false_iff_ne.2 (by omega)
    have e5 : (kd == 5) = false := beq_eq_false_iff_ne.2 (by omega)
    go_enter Tryz.func104, Tryz.ntmps104
    go_wp2
    go_ret
    exact ⟨ret_bool HO.out.symm, (Below.refl _ _).alloc (Nat.le_refl _) _⟩
end Go.Proofs.YtddmdnljfnimbaaGreatDoor.Ms
