/- What the helpers of both NameOK functions answer, and what each of the two answers: for every number, for every text. -/
import Derived.Test.YtlhokhccjejcoaaRows
import Derived.WalkKit
import Derived.ProofKit
import Derived.Laws.RangeString
namespace Go.Proofs.Ytlhokhccjejcoaa.Nm
open Go.RowKit

def letB (n : Int) : Bool := decide (97 ≤ n ∧ n ≤ 122 ∨ 65 ≤ n ∧ n ≤ 90 ∨ n = 95)
def digB (n : Int) : Bool := decide (48 ≤ n ∧ n ≤ 57)
theorem ret_bool {a b : Bool} (h : a = b) : Ending.returned (.bool a) = .returned (.bool b) := by rw [h]
theorem regions (n : Int) : n ≤ 64 ∨ (65 ≤ n ∧ n ≤ 90) ∨ (91 ≤ n ∧ n ≤ 94) ∨ n = 95 ∨ n = 96 ∨ (97 ≤ n ∧ n ≤ 122) ∨ 123 ≤ n := by omega
theorem digions (n : Int) : n ≤ 47 ∨ (48 ≤ n ∧ n ≤ 57) ∨ 58 ≤ n := by omega

theorem isDigit_any (n : Int) (w : World) :
    Calls Try.prog 35 #[.int .i32 n] w fun e w' => e = .returned (.bool (digB n)) ∧ w' = w := by
  rcases digions n with h | ⟨h, h'⟩ | h
  all_goals
    go_enter Try.func35, Try.ntmps35
    go_wp2
    go_ret
    exact ⟨ret_bool (by unfold digB; rw [Bool.eq_iff_iff]; simp; try omega), rfl⟩
def okAt (s : ByteArray) (i : Nat) : Bool := letB ((s.data.toList.getD i 0).toNat : Int) || (decide (i ≠ 0) && digB ((s.data.toList.getD i 0).toNat : Int))
def nameB (s : ByteArray) : Bool := decide (1 ≤ s.size ∧ s.size ≤ 40 ∧ ∀ i, i < s.size → okAt s i = true)
theorem getD_at (s : ByteArray) (i : Nat) (h : i < s.size) : s.data.toList.getD i 0 = s[i] := by
  have : i < s.data.toList.length := by simpa using h
  simp [List.getD_eq_getElem?_getD, List.getElem?_eq_getElem this]; rfl
theorem okAt_eq (s : ByteArray) (i : Nat) (h : i < s.size) : okAt s i = (letB (s[i].toNat : Int) || (decide (i ≠ 0) && digB (s[i].toNat : Int))) := by
  unfold okAt; rw [getD_at s i h]
theorem name_no (s : ByteArray) (i : Nat) (h : i < s.size) (hn : okAt s i = false) : nameB s = false := by
  unfold nameB; simp only [decide_eq_false_iff_not]; rintro ⟨_, _, h'⟩; rw [h' i h] at hn; cases hn
theorem name_yes (s : ByteArray) (h1 : 1 ≤ s.size) (h2 : s.size ≤ 40) (h : ∀ i, i < s.size → okAt s i = true) : nameB s = true := by
  unfold nameB; simp only [decide_eq_true_eq]; exact ⟨h1, h2, h⟩
theorem name_small (s : ByteArray) (h : s.size = 0 ∨ 40 < s.size) : nameB s = false := by
  unfold nameB; simp only [decide_eq_false_iff_not]; omega

theorem runes (s : ByteArray) (k : Nat) (h : k < s.size) :
    (Utf8.decode s k = ((s[k]'h).toNat, 1) ∧ ((s[k]'h).toNat : Int) < 128) ∨ (128 ≤ ((Utf8.decode s k).1 : Int) ∧ 128 ≤ ((s[k]'h).toNat : Int)) := by
  by_cases ha : (s[k]'h).toNat < 128
  · exact .inl ⟨decode_ascii s k h ha, by omega⟩
  · exact .inr ⟨by have := (decode_high s k h (by omega)).1; omega, by omega⟩
theorem let_high (n : Int) (h : 128 ≤ n) : letB n = false := by unfold letB; simp; omega
theorem dig_high (n : Int) (h : 128 ≤ n) : digB n = false := by unfold digB; simp; omega

end Go.Proofs.Ytlhokhccjejcoaa.Nm
