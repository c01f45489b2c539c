/- The median: half at most lies below it, half at most above. -/
import Derived.Test.YtdeologdmdimoaaDoorMd
namespace Go.Proofs.YtdeologdmdimoaaDoor.Cn
open Go.Proofs.YtdeologdmdimoaaDoor.Sl Go.Proofs.YtdeologdmdimoaaDoor.Is Go.Proofs.YtdeologdmdimoaaDoor.Md

theorem nth_get {l : List Int} {i : Nat} (h : i < l.length) : nth l i = l[i] := by
  unfold nth; rw [List.getD_eq_getElem?_getD, List.getElem?_eq_getElem h]; rfl
/-- How many of the first k are below m, above m. -/
def lo (l : List Int) (m : Int) (k : Nat) : Nat := (l.take k).countP (fun x => decide (x < m))
def hi (l : List Int) (m : Int) (k : Nat) : Nat := (l.take k).countP (fun x => decide (m < x))
theorem take_step {l : List Int} {k : Nat} (h : k < l.length) : l.take (k + 1) = l.take k ++ [nth l k] := by
  rw [List.take_add_one, nth_at h]; rfl
theorem lo_step {l : List Int} {m : Int} {k : Nat} (h : k < l.length) : lo l m (k + 1) = lo l m k + (if nth l k < m then 1 else 0) := by
  unfold lo
  rw [take_step h, List.countP_append]
  congr 1
  by_cases e : nth l k < m
  · rw [if_pos e]; simp [e]
  · rw [if_neg e]; simp [e]
theorem hi_step {l : List Int} {m : Int} {k : Nat} (h : k < l.length) : hi l m (k + 1) = hi l m k + (if m < nth l k then 1 else 0) := by
  unfold hi
  rw [take_step h, List.countP_append]
  congr 1
  by_cases e : m < nth l k
  · rw [if_pos e]; simp [e]
  · rw [if_neg e]; simp [e]
theorem lo_le (l : List Int) (m : Int) (k : Nat) : lo l m k ≤ k := by
  unfold lo
  exact Nat.le_trans List.countP_le_length (by rw [List.length_take]; omega)
theorem hi_le (l : List Int) (m : Int) (k : Nat) : hi l m k ≤ k := by
  unfold hi
  exact Nat.le_trans List.countP_le_length (by rw [List.length_take]; omega)
theorem sorted_le {s : List Int} (h : s.Pairwise (· ≤ ·)) {i j : Nat} (hi : i ≤ j) (hj : j < s.length) : nth s i ≤ nth s j := by
  rw [nth_get hj, nth_get (by omega)]
  by_cases e : i = j
  · subst e; exact Int.le_refl _
  · exact (List.pairwise_iff_getElem.1 h) i j _ _ (by omega)
theorem sorted_lo {s : List Int} (h : s.Pairwise (· ≤ ·)) {j : Nat} (hj : j < s.length) : s.countP (fun x => decide (x < nth s j)) ≤ j := by
  have e : s.countP (fun x => decide (x < nth s j)) = (s.take j).countP (fun x => decide (x < nth s j)) + (s.drop j).countP (fun x => decide (x < nth s j)) := by rw [← List.countP_append, List.take_append_drop]
  have e2 : (s.drop j).countP (fun x => decide (x < nth s j)) = 0 := by
    rw [List.countP_eq_zero]
    intro x hx
    obtain ⟨q, hq, rfl⟩ := List.mem_iff_getElem.1 hx
    rw [List.getElem_drop]
    rw [List.length_drop] at hq
    have := sorted_le h (i := j) (j := j + q) (by omega) (by omega)
    rw [nth_get (i := j + q) (by omega)] at this
    simp; exact this
  have e3 : (s.take j).countP (fun x => decide (x < nth s j)) ≤ j := Nat.le_trans List.countP_le_length (by rw [List.length_take]; omega)
  omega
theorem sorted_hi {s : List Int} (h : s.Pairwise (· ≤ ·)) {j : Nat} (hj : j < s.length) : s.countP (fun x => decide (nth s j < x)) ≤ s.length - 1 - j := by
  have e : s.countP (fun x => decide (nth s j < x)) = (s.take (j + 1)).countP (fun x => decide (nth s j < x)) + (s.drop (j + 1)).countP (fun x => decide (nth s j < x)) := by rw [← List.countP_append, List.take_append_drop]
  have e2 : (s.take (j + 1)).countP (fun x => decide (nth s j < x)) = 0 := by
    rw [List.countP_eq_zero]
    intro x hx
    obtain ⟨q, hq, rfl⟩ := List.mem_iff_getElem.1 hx
    rw [List.getElem_take]
    rw [List.length_take] at hq
    have := sorted_le h (i := q) (j := j) (by omega) hj
    rw [nth_get (i := q) (by omega)] at this
    simp; exact this
  have e3 : (s.drop (j + 1)).countP (fun x => decide (nth s j < x)) ≤ s.length - (j + 1) := Nat.le_trans List.countP_le_length (by rw [List.length_drop]; exact Nat.le_refl _)
  omega
/-- THE MEDIAN of an odd number of numbers. -/
theorem median (l : List Int) (h : l.length % 2 = 1) :
    nth (ms l) (l.length / 2) ∈ l ∧ 2 * lo l (nth (ms l) (l.length / 2)) l.length < l.length ∧ 2 * hi l (nth (ms l) (l.length / 2)) l.length < l.length := by
  have hl := ms_length l
  have hj : l.length / 2 < (ms l).length := by omega
  refine ⟨(ms_perm l).mem_iff.1 (nth_mem hj), ?_, ?_⟩
  · unfold lo
    rw [List.take_length, ← (ms_perm l).countP_eq]
    have := sorted_lo (ms_pair l) hj
    omega
  · unfold hi
    rw [List.take_length, ← (ms_perm l).countP_eq]
    have := sorted_hi (ms_pair l) hj
    omega
end Go.Proofs.YtdeologdmdimoaaDoor.Cn
