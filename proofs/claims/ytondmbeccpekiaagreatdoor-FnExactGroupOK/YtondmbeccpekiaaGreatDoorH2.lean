/- Texts put together: NameParts, Req, ReqLaw. -/
import Derived.Test.YtondmbeccpekiaaGreatDoorRows
import Derived.WalkKit
import Derived.ProofKit
import Derived.Laws.RangeString
import Derived.WalkSpells
import Derived.Laws.NewBlocks
import Derived.Laws.ResultCell
/- What the helpers of both NameOK functions answer, and what each of the two answers: for every number, for every text. -/
namespace Go.Proofs.YtondmbeccpekiaaGreatDoor.Nm
open Go.RowKit

def letB (n : Int) : Bool := decide (97 ≤ n ∧ n ≤ 122 ∨ 65 ≤ n ∧ n ≤ 90 ∨ n = 95)
def digB (n : Int) : Bool := decide (48 ≤ n ∧ n ≤ 57)
theorem ret_bool {a b : Bool} (h : a = b) : Ending.returned (.bool a) = .returned (.bool b) := by rw [h]
theorem regions (n : Int) : n ≤ 64 ∨ (65 ≤ n ∧ n ≤ 90) ∨ (91 ≤ n ∧ n ≤ 94) ∨ n = 95 ∨ n = 96 ∨ (97 ≤ n ∧ n ≤ 122) ∨ 123 ≤ n := by omega
theorem digions (n : Int) : n ≤ 47 ∨ (48 ≤ n ∧ n ≤ 57) ∨ 58 ≤ n := by omega

theorem isLetter_any (n : Int) (w : World) :
    Calls Tryz.prog 201 #[.int .i32 n] w fun e w' => e = .returned (.bool (letB n)) ∧ w' = w := by
  rcases regions n with h | ⟨h, h'⟩ | ⟨h, h'⟩ | rfl | rfl | ⟨h, h'⟩ | h
  all_goals
    go_enter Tryz.func201, Tryz.ntmps201
    go_wp2
    go_ret
    exact ⟨ret_bool (by unfold letB; rw [Bool.eq_iff_iff]; simp; try omega), rfl⟩
theorem isDigit_any (n : Int) (w : World) :
    Calls Tryz.prog 202 #[.int .i32 n] w fun e w' => e = .returned (.bool (digB n)) ∧ w' = w := by
  rcases digions n with h | ⟨h, h'⟩ | h
  all_goals
    go_enter Tryz.func202, Tryz.ntmps202
    go_wp2
    go_ret
    exact ⟨ret_bool (by unfold digB; rw [Bool.eq_iff_iff]; simp; try omega), rfl⟩
theorem l00Letter_any (n : Int) (w : World) :
    Calls Tryz.prog 197 #[.int .u8 n] w fun e w' => e = .returned (.bool (letB n)) ∧ w' = w := by
  rcases regions n with h | ⟨h, h'⟩ | ⟨h, h'⟩ | rfl | rfl | ⟨h, h'⟩ | h
  all_goals
    go_enter Tryz.func197, Tryz.ntmps197
    go_wp2
    go_ret
    exact ⟨ret_bool (by unfold letB; rw [Bool.eq_iff_iff]; simp; try omega), rfl⟩
theorem l00Digit_any (n : Int) (w : World) :
    Calls Tryz.prog 198 #[.int .u8 n] w fun e w' => e = .returned (.bool (digB n)) ∧ w' = w := by
  rcases digions n with h | ⟨h, h'⟩ | h
  all_goals
    go_enter Tryz.func198, Tryz.ntmps198
    go_wp2
    go_ret
    exact ⟨ret_bool (by unfold digB; rw [Bool.eq_iff_iff]; simp; try omega), rfl⟩

def okAt (s : ByteArray) (i : Nat) : Bool := letB ((s.data.toList.getD i 0).toNat : Int) || (decide (i ≠ 0) && digB ((s.data.toList.getD i 0).toNat : Int))
def nameB (s : ByteArray) : Bool := decide (1 ≤ s.size ∧ s.size ≤ 40 ∧ ∀ i, i < s.size → okAt s i = true)
theorem getD_at (s : ByteArray) (i : Nat) (h : i < s.size) : s.data.toList.getD i 0 = s[i] := by
  have : i < s.data.toList.length := by simpa using h
  simp [List.getD_eq_getElem?_getD, List.getElem?_eq_getElem this]; rfl
theorem okAt_eq (s : ByteArray) (i : Nat) (h : i < s.size) : okAt s i = (letB (s[i].toNat : Int) || (decide (i ≠ 0) && digB (s[i].toNat : Int))) := by
  unfold okAt; rw [getD_at s i h]
theorem name_no (s : ByteArray) (i : Nat) (h : i < s.size) (hn : okAt s i = false) : nameB s = false := by
  unfold nameB; simp only [decide_eq_false_iff_not]; rintro ⟨_, _, h'⟩; rw [h' i h] at hn; cases hn
theorem name_yes (s : ByteArray) (h1 : 1 ≤ s.size) (h2 : s.size ≤ 40) (h : ∀ i, i < s.size → okAt s i = true) : nameB s = true := by
  unfold nameB; simp only [decide_eq_true_eq]; exact ⟨h1, h2, h⟩
theorem name_small (s : ByteArray) (h : s.size = 0 ∨ 40 < s.size) : nameB s = false := by
  unfold nameB; simp only [decide_eq_false_iff_not]; omega

set_option maxHeartbeats 400000 in
theorem l00Word_any (s : ByteArray) (w : World) (hs : s.size ≤ maxLen) :
    Calls Tryz.prog 187 #[.string s] w fun e w' => e = .returned (.bool (nameB s)) ∧ w' = w := by
  unfold maxLen at hs
  by_cases h0 : s.size = 0
  · have hn := name_small s (.inl h0)
    have h1 : (s.size : Int) < 1 := by omega
    go_enter Tryz.func187, Tryz.ntmps187
    go_wp2
    go_ret
    exact ⟨ret_bool hn.symm, rfl⟩
  by_cases h4 : 40 < s.size
  · have hn := name_small s (.inr h4)
    have h1 : (1 : Int) ≤ (s.size : Int) := by omega
    have h2 : (40 : Int) < (s.size : Int) := by omega
    go_enter Tryz.func187, Tryz.ntmps187
    go_wp2
    go_ret
    exact ⟨ret_bool hn.symm, rfl⟩
  have hp : 0 < s.size := by omega
  have h1 : (1 : Int) ≤ (s.size : Int) := by omega
  have h2 : (s.size : Int) ≤ 40 := by omega
  cases hl : letB ((s[0]'hp).toNat : Int)
  · have hn := name_no s 0 hp (by rw [okAt_eq s 0 hp, hl]; rfl)
    go_enter Tryz.func187, Tryz.ntmps187
    go_wp2_with (go_at_call 197; refine (l00Letter_any _ _).mono ?_; rintro e w' ⟨rfl, rfl⟩)
    go_ret
    exact ⟨ret_bool hn.symm, rfl⟩
  have hok0 : okAt s 0 = true := by rw [okAt_eq s 0 hp, hl]; rfl
  go_enter Tryz.func187, Tryz.ntmps187
  go_wp2_with (go_at_call 197; refine (l00Letter_any _ _).mono ?_; rintro e w' ⟨rfl, rfl⟩)
  have H0 : Hid (okAt s 0 = true) := hok0
  clear hok0 hl
  go_loop [3] (fun i => ∃ k : Nat, 1 ≤ k ∧ k ≤ s.size ∧ i = .int .i64 k ∧ Hid (∀ j, j < k → okAt s j = true)) (fun i => s.size - (intOf i).toNat)
  case atStart => exact ⟨1, Nat.le_refl _, by omega, rfl, fun j hj => (show j = 0 by omega) ▸ H0.out⟩
  case round =>
    obtain ⟨k, hk1, hk2, rfl, hall⟩ := hrel
    by_cases hlt : k < s.size
    · cases hl : letB ((s[k]'hlt).toNat : Int)
      · cases hd : digB ((s[k]'hlt).toNat : Int)
        · have hn : Hid (nameB s = false) := name_no s k hlt (by rw [okAt_eq s k hlt, hl, hd]; simp)
          go_wp2_with (first | (go_at_call 197; refine (l00Letter_any _ _).mono ?_; rintro e w' ⟨rfl, rfl⟩) | (go_at_call 198; refine (l00Digit_any _ _).mono ?_; rintro e w' ⟨rfl, rfl⟩))
          go_ret
          exact ⟨ret_bool hn.out.symm, rfl⟩
        · have hk : Hid (okAt s k = true) := by show okAt s k = true; rw [okAt_eq s k hlt, hl, hd]; simp; omega
          go_wp2_with (first | (go_at_call 197; refine (l00Letter_any _ _).mono ?_; rintro e w' ⟨rfl, rfl⟩) | (go_at_call 198; refine (l00Digit_any _ _).mono ?_; rintro e w' ⟨rfl, rfl⟩))
          go_round
          case rel => exact ⟨k + 1, by omega, by omega, by go_num, fun j hj => by by_cases e : j = k; (subst e; exact hk.out); exact hall.out j (by omega)⟩
          case measure => simp [intOf]; omega
      · have hk : Hid (okAt s k = true) := by show okAt s k = true; rw [okAt_eq s k hlt, hl]; rfl
        go_wp2_with (first | (go_at_call 197; refine (l00Letter_any _ _).mono ?_; rintro e w' ⟨rfl, rfl⟩) | (go_at_call 198; refine (l00Digit_any _ _).mono ?_; rintro e w' ⟨rfl, rfl⟩))
        go_round
        case rel => exact ⟨k + 1, by omega, by omega, by go_num, fun j hj => by by_cases e : j = k; (subst e; exact hk.out); exact hall.out j (by omega)⟩
        case measure => simp [intOf]; omega
    · have hn : Hid (nameB s = true) := name_yes s (by omega) (by omega) (fun j hj => hall.out j (by omega))
      go_wp2
      go_ret
      exact ⟨ret_bool hn.out.symm, rfl⟩

theorem specNameOK_any (s : ByteArray) (w : World) (hs : s.size ≤ maxLen) :
    Calls Tryz.prog 169 #[.string s] w fun e w' => e = .returned (.bool (nameB s)) ∧ w' = w := by
  go_enter Tryz.func169, Tryz.ntmps169
  go_wp2_with (go_at_call 187; refine (l00Word_any _ _ hs).mono ?_; rintro e w' ⟨rfl, rfl⟩)
  go_ret
  exact ⟨rfl, rfl⟩

theorem runes (s : ByteArray) (k : Nat) (h : k < s.size) :
    (Utf8.decode s k = ((s[k]'h).toNat, 1) ∧ ((s[k]'h).toNat : Int) < 128) ∨ (128 ≤ ((Utf8.decode s k).1 : Int) ∧ 128 ≤ ((s[k]'h).toNat : Int)) := by
  by_cases ha : (s[k]'h).toNat < 128
  · exact .inl ⟨decode_ascii s k h ha, by omega⟩
  · exact .inr ⟨by have := (decode_high s k h (by omega)).1; omega, by omega⟩
theorem let_high (n : Int) (h : 128 ≤ n) : letB n = false := by unfold letB; simp; omega
theorem dig_high (n : Int) (h : 128 ≤ n) : digB n = false := by unfold digB; simp; omega

set_option maxHeartbeats 400000 in
theorem implNameOK_any (s : ByteArray) (w : World) (hs : s.size ≤ maxLen) :
    Calls Tryz.prog 199 #[.string s] w fun e w' => e = .returned (.bool (nameB s)) ∧ Below w.heap.size w w' := by
  unfold maxLen at hs
  by_cases h0 : s.size = 0
  · have hn := name_small s (.inl h0)
    have h1 : ((s.size : Int) == 0) = true := beq_iff_eq.2 (by omega)
    go_enter Tryz.func199, Tryz.ntmps199
    go_wp2
    go_ret
    exact ⟨ret_bool hn.symm, Below.refl _ _⟩
  have h1 : ((s.size : Int) == 0) = false := beq_eq_false_iff_ne.2 (by omega)
  by_cases h4 : 40 < s.size
  · have hn := name_small s (.inr h4)
    have h2 : (40 : Int) < (s.size : Int) := by omega
    go_enter Tryz.func199, Tryz.ntmps199
    go_wp2
    go_ret
    exact ⟨ret_bool hn.symm, Below.refl _ _⟩
  have hp : 0 < s.size := by omega
  have h2 : (s.size : Int) ≤ 40 := by omega
  go_enter Tryz.func199, Tryz.ntmps199
  go_wp2
  go_loopw [] (fun w' => ∃ k : Nat, k ≤ s.size ∧ w' = w.iter s k ∧ Hid (∀ j, j < k → okAt s j = true)) (fun w' => s.size - w'.iterPos w.heap.size)
  case atStart => exact ⟨0, Nat.zero_le _, rfl, fun j hj => absurd hj (by omega)⟩
  case round =>
    obtain ⟨k, hk2, rfl, hall⟩ := hrel
    by_cases hlt : k < s.size
    · rcases runes s k hlt with ⟨hdec, hlow⟩ | ⟨hdec, hhigh⟩
      · have hnx : ∀ ty, (Instr.next (.pointer (some ⟨w.heap.size, 0, none⟩)) true ty).run Tryz.prog (w.iter s k) = _ := fun ty => run_next_ascii w s k ty hlt (by omega)
        clear hdec
        cases hl : letB ((s[k]'hlt).toNat : Int)
        · by_cases hz : k = 0
          · subst hz
            have hn : Hid (nameB s = false) := name_no s 0 hlt (by rw [okAt_eq s 0 hlt, hl]; rfl)
            go_wp2_with (first | (go_at_call 201; refine (isLetter_any _ _).mono ?_; rintro e w' ⟨rfl, rfl⟩) | (go_at_call 202; refine (isDigit_any _ _).mono ?_; rintro e w' ⟨rfl, rfl⟩))
            go_ret
            exact ⟨ret_bool hn.out.symm, (Below.refl _ _).alloc (Nat.le_refl _) _⟩
          have hz' : ((k : Int) == 0) = false := beq_eq_false_iff_ne.2 (by omega)
          cases hd : digB ((s[k]'hlt).toNat : Int)
          · have hn : Hid (nameB s = false) := name_no s k hlt (by rw [okAt_eq s k hlt, hl, hd]; simp)
            go_wp2_with (first | (go_at_call 201; refine (isLetter_any _ _).mono ?_; rintro e w' ⟨rfl, rfl⟩) | (go_at_call 202; refine (isDigit_any _ _).mono ?_; rintro e w' ⟨rfl, rfl⟩))
            go_ret
            exact ⟨ret_bool hn.out.symm, (Below.refl _ _).alloc (Nat.le_refl _) _⟩
          · have hk : Hid (okAt s k = true) := by show okAt s k = true; rw [okAt_eq s k hlt, hl, hd]; simp; omega
            go_wp2_with (first | (go_at_call 201; refine (isLetter_any _ _).mono ?_; rintro e w' ⟨rfl, rfl⟩) | (go_at_call 202; refine (isDigit_any _ _).mono ?_; rintro e w' ⟨rfl, rfl⟩))
            go_roundw
            case rel => exact ⟨k + 1, by omega, rfl, fun j hj => by by_cases e : j = k; (subst e; exact hk.out); exact hall.out j (by omega)⟩
            case measure => simp; omega
        · have hk : Hid (okAt s k = true) := by show okAt s k = true; rw [okAt_eq s k hlt, hl]; rfl
          go_wp2_with (first | (go_at_call 201; refine (isLetter_any _ _).mono ?_; rintro e w' ⟨rfl, rfl⟩) | (go_at_call 202; refine (isDigit_any _ _).mono ?_; rintro e w' ⟨rfl, rfl⟩))
          go_roundw
          case rel => exact ⟨k + 1, by omega, rfl, fun j hj => by by_cases e : j = k; (subst e; exact hk.out); exact hall.out j (by omega)⟩
          case measure => simp; omega
      · have hnx : ∀ ty, (Instr.next (.pointer (some ⟨w.heap.size, 0, none⟩)) true ty).run Tryz.prog (w.iter s k) = _ := fun ty => run_next_any w s k ty hlt
        have hn : Hid (nameB s = false) := name_no s k hlt (by rw [okAt_eq s k hlt, let_high _ hhigh, dig_high _ hhigh]; simp)
        have hl := let_high _ hdec
        have hd := dig_high _ hdec
        by_cases hz : k = 0
        · subst hz
          go_wp2_with (first | (go_at_call 201; refine (isLetter_any _ _).mono ?_; rintro e w' ⟨rfl, rfl⟩) | (go_at_call 202; refine (isDigit_any _ _).mono ?_; rintro e w' ⟨rfl, rfl⟩))
          go_ret
          exact ⟨ret_bool hn.out.symm, (Below.refl _ _).alloc (Nat.le_refl _) _⟩
        have hz' : ((k : Int) == 0) = false := beq_eq_false_iff_ne.2 (by omega)
        go_wp2_with (first | (go_at_call 201; refine (isLetter_any _ _).mono ?_; rintro e w' ⟨rfl, rfl⟩) | (go_at_call 202; refine (isDigit_any _ _).mono ?_; rintro e w' ⟨rfl, rfl⟩))
        go_ret
        exact ⟨ret_bool hn.out.symm, (Below.refl _ _).alloc (Nat.le_refl _) _⟩
    · have hn : Hid (nameB s = true) := name_yes s (by omega) (by omega) (fun j hj => hall.out j (by omega))
      have hnx : ∀ ty, (Instr.next (.pointer (some ⟨w.heap.size, 0, none⟩)) true ty).run Tryz.prog (w.iter s k) = _ := fun ty => run_next_end w s k ty hlt
      go_wp2
      go_ret
      exact ⟨ret_bool hn.out.symm, (Below.refl _ _).alloc (Nat.le_refl _) _⟩
end Go.Proofs.YtondmbeccpekiaaGreatDoor.Nm

/- Requests: what both RequestOK functions answer, and their helpers. -/
namespace Go.Proofs.YtondmbeccpekiaaGreatDoor.Rq
open Go.RowKit

def inB (x a b : Int) : Bool := decide (a ≤ x ∧ x ≤ b)
theorem ret_bool {a b : Bool} (h : a = b) : Ending.returned (.bool a) = .returned (.bool b) := by rw [h]
theorem within_any (x a b : Int) (w : World) :
    Calls Tryz.prog 73 #[.int .i64 x, .int .i64 a, .int .i64 b] w fun e w' => e = .returned (.bool (inB x a b)) ∧ w' = w := by
  by_cases h1 : a ≤ x
  · by_cases h2 : x ≤ b
    all_goals
      go_enter Tryz.func73, Tryz.ntmps73
      go_wp2
      go_ret
      exact ⟨ret_bool (by unfold inB; rw [Bool.eq_iff_iff]; simp; try omega), rfl⟩
  · go_enter Tryz.func73, Tryz.ntmps73
    go_wp2
    go_ret
    exact ⟨ret_bool (by unfold inB; rw [Bool.eq_iff_iff]; simp; try omega), rfl⟩
theorem l01In_any (x a b : Int) (w : World) :
    Calls Tryz.prog 29 #[.int .i64 x, .int .i64 a, .int .i64 b] w fun e w' => e = .returned (.bool (inB x a b)) ∧ w' = w := by
  by_cases h1 : a ≤ x
  · by_cases h2 : x ≤ b
    all_goals
      go_enter Tryz.func29, Tryz.ntmps29
      go_wp2
      go_ret
      exact ⟨ret_bool (by unfold inB; rw [Bool.eq_iff_iff]; simp; try omega), rfl⟩
  · go_enter Tryz.func29, Tryz.ntmps29
    go_wp2
    go_ret
    exact ⟨ret_bool (by unfold inB; rw [Bool.eq_iff_iff]; simp; try omega), rfl⟩

def leB (k l : Int) : Bool := decide ((k = 1 ∨ k = 3) ∧ 1 ≤ l ∧ l ≤ 1000 ∨ (k = 2 ∨ k = 4) ∧ l = 0)
theorem leaseOK_any (k l : Int) (w : World) :
    Calls Tryz.prog 193 #[.int .i64 k, .int .i64 l] w fun e w' => e = .returned (.bool (leB k l)) ∧ w' = w := by
  by_cases k1 : k = 1
  · subst k1
    go_enter Tryz.func193, Tryz.ntmps193
    go_wp2_with (go_at_call 73; refine (within_any _ _ _ _).mono ?_; rintro e w' ⟨rfl, rfl⟩)
    go_ret
    exact ⟨ret_bool (by unfold leB inB; simp), rfl⟩
  by_cases k3 : k = 3
  · subst k3
    go_enter Tryz.func193, Tryz.ntmps193
    go_wp2_with (go_at_call 73; refine (within_any _ _ _ _).mono ?_; rintro e w' ⟨rfl, rfl⟩)
    go_ret
    exact ⟨ret_bool (by unfold leB inB; simp), rfl⟩
  by_cases k2 : k = 2
  · subst k2
    go_enter Tryz.func193, Tryz.ntmps193
    go_wp2
    go_ret
    exact ⟨ret_bool (by unfold leB; rw [Bool.eq_iff_iff]; simp), rfl⟩
  by_cases k4 : k = 4
  · subst k4
    go_enter Tryz.func193, Tryz.ntmps193
    go_wp2
    go_ret
    exact ⟨ret_bool (by unfold leB; rw [Bool.eq_iff_iff]; simp), rfl⟩
  have e1 : (k == 1) = false := beq_eq_false_iff_ne.2 k1
  have e2 : (k == 2) = false := beq_eq_false_iff_ne.2 k2
  have e3 : (k == 3) = false := beq_eq_false_iff_ne.2 k3
  have e4 : (k == 4) = false := beq_eq_false_iff_ne.2 k4
  go_enter Tryz.func193, Tryz.ntmps193
  go_wp2
  go_ret
  exact ⟨ret_bool (by unfold leB; rw [Bool.eq_iff_iff]; simp; omega), rfl⟩

def opB (n : ByteArray) : Bool := decide (n.size ≤ 12) && Nm.nameB n
theorem opNameOK_any (n : ByteArray) (w : World) (hs : n.size ≤ maxLen) :
    Calls Tryz.prog 194 #[.string n] w fun e w' => e = .returned (.bool (opB n)) ∧ Below w.heap.size w w' := by
  by_cases h : n.size ≤ 12
  · have h1 : (n.size : Int) ≤ 12 := by omega
    have HO : Hid (opB n = Nm.nameB n) := by show opB n = Nm.nameB n; unfold opB; simp [h]
    go_enter Tryz.func194, Tryz.ntmps194
    go_wp2_with (go_at_call 199; refine (Nm.implNameOK_any _ _ hs).mono ?_; rintro e w' ⟨rfl, hb⟩)
    go_ret
    exact ⟨ret_bool HO.out.symm, hb⟩
  · have h1 : (12 : Int) < (n.size : Int) := by omega
    have HO : Hid (opB n = false) := by show opB n = false; unfold opB; simp [h]
    go_enter Tryz.func194, Tryz.ntmps194
    go_wp2
    go_ret
    exact ⟨ret_bool HO.out.symm, Below.refl _ _⟩
theorem l02Text_any (n : ByteArray) (w : World) (hs : n.size ≤ maxLen) :
    Calls Tryz.prog 152 #[.string n, .int .i64 12] w fun e w' => e = .returned (.bool (opB n)) ∧ w' = w := by
  cases h : inB (n.size : Int) 1 12
  · have HO : Hid (opB n = false) := by
      show opB n = false
      unfold inB at h
      unfold opB Nm.nameB
      simp at h ⊢
      omega
    go_enter Tryz.func152, Tryz.ntmps152
    go_wp2_with (go_at_call 29; refine (l01In_any _ _ _ _).mono ?_; rintro e w' ⟨rfl, rfl⟩)
    go_ret
    exact ⟨ret_bool HO.out.symm, rfl⟩
  · have HO : Hid (opB n = Nm.nameB n) := by
      show opB n = Nm.nameB n
      unfold inB at h
      unfold opB
      simp at h ⊢
      omega
    go_enter Tryz.func152, Tryz.ntmps152
    go_wp2_with (first | (go_at_call 29; refine (l01In_any _ _ _ _).mono ?_; rintro e w' ⟨rfl, rfl⟩) | (go_at_call 169; refine (Nm.specNameOK_any _ _ hs).mono ?_; rintro e w' ⟨rfl, rfl⟩))
    go_ret
    exact ⟨ret_bool HO.out.symm, rfl⟩

def reqB (c st k l : Int) (n : ByteArray) : Bool := inB c 0 255 && (inB st 1 65535 && (leB k l && opB n))
def reqV (c st k l : Int) (n : ByteArray) : Value := .agg #[.int .i64 c, .int .i64 st, .int .i64 k, .int .i64 l, .string n]

set_option maxHeartbeats 400000 in
theorem implRequestOK_any (c st k l : Int) (n : ByteArray) (w : World) (hs : n.size ≤ maxLen) :
    Calls Tryz.prog 178 #[reqV c st k l n] w fun e w' => e = .returned (.bool (reqB c st k l n)) ∧ Below w.heap.size w w' := by
  unfold reqV
  cases h1 : inB c 0 255
  · have HO : Hid (reqB c st k l n = false) := by show reqB c st k l n = false; unfold reqB; rw [h1]; rfl
    go_enter Tryz.func178, Tryz.ntmps178
    go_wp2_with (go_at_call 73; refine (within_any _ _ _ _).mono ?_; rintro e w' ⟨rfl, rfl⟩)
    go_ret
    exact ⟨ret_bool HO.out.symm, (Below.refl _ _).alloc (Nat.le_refl _) _⟩
  cases h2 : inB st 1 65535
  · have HO : Hid (reqB c st k l n = false) := by show reqB c st k l n = false; unfold reqB; rw [h1, h2]; rfl
    go_enter Tryz.func178, Tryz.ntmps178
    go_wp2_with (go_at_call 73; refine (within_any _ _ _ _).mono ?_; rintro e w' ⟨rfl, rfl⟩)
    go_ret
    exact ⟨ret_bool HO.out.symm, (Below.refl _ _).alloc (Nat.le_refl _) _⟩
  cases h3 : leB k l
  · have HO : Hid (reqB c st k l n = false) := by show reqB c st k l n = false; unfold reqB; rw [h1, h2, h3]; rfl
    go_enter Tryz.func178, Tryz.ntmps178
    go_wp2_with (first | (go_at_call 73; refine (within_any _ _ _ _).mono ?_; rintro e w' ⟨rfl, rfl⟩) | (go_at_call 193; refine (leaseOK_any _ _ _).mono ?_; rintro e w' ⟨rfl, rfl⟩))
    go_ret
    exact ⟨ret_bool HO.out.symm, (Below.refl _ _).alloc (Nat.le_refl _) _⟩
  have HO : Hid (reqB c st k l n = opB n) := by show reqB c st k l n = opB n; unfold reqB; rw [h1, h2, h3]; rfl
  go_enter Tryz.func178, Tryz.ntmps178
  go_wp2_with (first | (go_at_call 73; refine (within_any _ _ _ _).mono ?_; rintro e w' ⟨rfl, rfl⟩) | (go_at_call 193; refine (leaseOK_any _ _ _).mono ?_; rintro e w' ⟨rfl, rfl⟩) | (go_at_call 194; refine (opNameOK_any _ _ hs).mono ?_; rintro e w' ⟨rfl, hb⟩))
  go_ret
  exact ⟨ret_bool HO.out.symm, ((Below.refl _ _).alloc (Nat.le_refl _) _).trans (hb.mono (by simp))⟩

theorem lease_split (k l : Int) : leB k l = (inB k 1 4 && (inB l 0 1000 && (decide (0 < l) == (k == 1 || k == 3)))) := by
  unfold leB inB
  by_cases k1 : k = 1
  · subst k1; rw [Bool.eq_iff_iff]; simp; omega
  by_cases k2 : k = 2
  · subst k2; rw [Bool.eq_iff_iff]; simp; omega
  by_cases k3 : k = 3
  · subst k3; rw [Bool.eq_iff_iff]; simp; omega
  by_cases k4 : k = 4
  · subst k4; rw [Bool.eq_iff_iff]; simp; omega
  have e1 : ¬ (1 ≤ k ∧ k ≤ 4) := by omega
  rw [Bool.eq_iff_iff]
  simp [k1, k2, k3, k4]
  omega
theorem req_split (c st k l : Int) (n : ByteArray) : reqB c st k l n = (inB c 0 255 && (inB st 1 65535 && (inB k 1 4 && (inB l 0 1000 && (opB n && (decide (0 < l) == (k == 1 || k == 3))))))) := by
  unfold reqB
  rw [lease_split]
  cases inB c 0 255 <;> cases inB st 1 65535 <;> cases inB k 1 4 <;> cases inB l 0 1000 <;> cases opB n <;> simp

set_option maxHeartbeats 800000 in
theorem specRequestOK_any (c st k l : Int) (n : ByteArray) (w : World) (hs : n.size ≤ maxLen) :
    Calls Tryz.prog 139 #[reqV c st k l n] w fun e w' => e = .returned (.bool (reqB c st k l n)) ∧ Below w.heap.size w w' := by
  unfold reqV
  cases h1 : inB c 0 255
  · have HO : Hid (reqB c st k l n = false) := by show reqB c st k l n = false; rw [req_split, h1]; rfl
    go_enter Tryz.func139, Tryz.ntmps139
    go_wp2_with (go_at_call 29; refine (l01In_any _ _ _ _).mono ?_; rintro e w' ⟨rfl, rfl⟩)
    go_ret
    exact ⟨ret_bool HO.out.symm, (Below.refl _ _).alloc (Nat.le_refl _) _⟩
  cases h2 : inB st 1 65535
  · have HO : Hid (reqB c st k l n = false) := by show reqB c st k l n = false; rw [req_split, h1, h2]; rfl
    go_enter Tryz.func139, Tryz.ntmps139
    go_wp2_with (go_at_call 29; refine (l01In_any _ _ _ _).mono ?_; rintro e w' ⟨rfl, rfl⟩)
    go_ret
    exact ⟨ret_bool HO.out.symm, (Below.refl _ _).alloc (Nat.le_refl _) _⟩
  cases h3 : inB k 1 4
  · have HO : Hid (reqB c st k l n = false) := by show reqB c st k l n = false; rw [req_split, h1, h2, h3]; rfl
    go_enter Tryz.func139, Tryz.ntmps139
    go_wp2_with (go_at_call 29; refine (l01In_any _ _ _ _).mono ?_; rintro e w' ⟨rfl, rfl⟩)
    go_ret
    exact ⟨ret_bool HO.out.symm, (Below.refl _ _).alloc (Nat.le_refl _) _⟩
  cases h4 : inB l 0 1000
  · have HO : Hid (reqB c st k l n = false) := by show reqB c st k l n = false; rw [req_split, h1, h2, h3, h4]; rfl
    go_enter Tryz.func139, Tryz.ntmps139
    go_wp2_with (go_at_call 29; refine (l01In_any _ _ _ _).mono ?_; rintro e w' ⟨rfl, rfl⟩)
    go_ret
    exact ⟨ret_bool HO.out.symm, (Below.refl _ _).alloc (Nat.le_refl _) _⟩
  cases h5 : opB n
  · have HO : Hid (reqB c st k l n = false) := by show reqB c st k l n = false; rw [req_split, h1, h2, h3, h4, h5]; rfl
    go_enter Tryz.func139, Tryz.ntmps139
    go_wp2_with (first | (go_at_call 29; refine (l01In_any _ _ _ _).mono ?_; rintro e w' ⟨rfl, rfl⟩) | (go_at_call 152; refine (l02Text_any _ _ hs).mono ?_; rintro e w' ⟨rfl, rfl⟩))
    go_ret
    exact ⟨ret_bool HO.out.symm, (Below.refl _ _).alloc (Nat.le_refl _) _⟩
  have HO : Hid (reqB c st k l n = (decide (0 < l) == (k == 1 || k == 3))) := by show reqB c st k l n = _; rw [req_split, h1, h2, h3, h4, h5]; simp
  by_cases k1 : k = 1
  · subst k1
    go_enter Tryz.func139, Tryz.ntmps139
    go_wp2_with (first | (go_at_call 29; refine (l01In_any _ _ _ _).mono ?_; rintro e w' ⟨rfl, rfl⟩) | (go_at_call 152; refine (l02Text_any _ _ hs).mono ?_; rintro e w' ⟨rfl, rfl⟩))
    go_ret
    exact ⟨ret_bool (by rw [HO.out]; simp), (Below.refl _ _).alloc (Nat.le_refl _) _⟩
  have e1 : (k == 1) = false := beq_eq_false_iff_ne.2 k1
  go_enter Tryz.func139, Tryz.ntmps139
  go_wp2_with (first | (go_at_call 29; refine (l01In_any _ _ _ _).mono ?_; rintro e w' ⟨rfl, rfl⟩) | (go_at_call 152; refine (l02Text_any _ _ hs).mono ?_; rintro e w' ⟨rfl, rfl⟩))
  go_ret
  exact ⟨ret_bool (by rw [HO.out]; simp [e1]), (Below.refl _ _).alloc (Nat.le_refl _) _⟩
end Go.Proofs.YtondmbeccpekiaaGreatDoor.Rq

/- The laws' own helpers over requests: their size, their copy. -/
namespace Go.Proofs.YtondmbeccpekiaaGreatDoor.Rq
open Go.RowKit

theorem andThen {B : Nat} {W w1 w2 : World} (h : Below B W w1) (hB : B ≤ W.heap.size) (h2 : Below w1.heap.size w1 w2) : Below B W w2 := h.trans (h2.mono (Nat.le_trans hB h.size))
theorem size_new (w : World) (o : Obj) : (w.alloc o).heap.size = w.heap.size + 1 := by simp
theorem box_cells {w w1 : World} {cs : Array Value} {t : TypeId} (hb : Below (w.heap.size + 1) (w.alloc (.cells cs t)) w1) (i : Nat) : w1.cell? ⟨w.heap.size, i, none⟩ = cs[i]? := by
  have h := hb.cell (p := ⟨w.heap.size, i, none⟩) (Nat.lt_succ_self _)
  rw [h, World.cell?_alloc_at _ _ _ _ rfl]
theorem box_old {w w1 : World} {o : Obj} (hb : Below (w.heap.size + 1) (w.alloc o) w1) : Below w.heap.size w w1 := ((Below.refl _ _).alloc (Nat.le_refl _) o).trans (hb.mono (Nat.le_succ _))
theorem box_first {w w1 : World} {o : Obj} (hb : Below (w.alloc o).heap.size (w.alloc o) w1) : Below (w.heap.size + 1) (w.alloc o) w1 := by rw [size_new] at hb; exact hb
theorem box_next {w w1 w2 : World} {o : Obj} (h : Below (w.heap.size + 1) (w.alloc o) w1) (h2 : Below w1.heap.size w1 w2) : Below (w.heap.size + 1) (w.alloc o) w2 := andThen h (by rw [size_new]; exact Nat.le_refl _) h2
end Go.Proofs.YtondmbeccpekiaaGreatDoor.Rq
