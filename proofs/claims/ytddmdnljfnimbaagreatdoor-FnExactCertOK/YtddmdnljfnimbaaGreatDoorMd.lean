/- MedianOf of the specification. -/
import Derived.Test.YtddmdnljfnimbaaGreatDoorSo
namespace Go.Proofs.YtddmdnljfnimbaaGreatDoor.Md
open Go.RowKit Go.Proofs.YtddmdnljfnimbaaGreatDoor.Sl Go.Proofs.YtddmdnljfnimbaaGreatDoor.Is Go.Proofs.YtddmdnljfnimbaaGreatDoor.So

/-- The numbers in order. -/
def ms (xs : List Int) : List Int := xs.mergeSort fun x y => decide (x ≤ y)
theorem ms_perm (xs : List Int) : (ms xs).Perm xs := List.mergeSort_perm _ _
theorem ms_length (xs : List Int) : (ms xs).length = xs.length := List.length_mergeSort xs
theorem ms_pair (xs : List Int) : (ms xs).Pairwise (· ≤ ·) := by
  have := List.pairwise_mergeSort (le := fun (x y : Int) => decide (x ≤ y)) (fun a b c h1 h2 => by simp at h1 h2 ⊢; omega) (fun a b => by simp; omega) xs
  exact this.imp (fun h => by simpa using h)
theorem ms_of {xs ys : List Int} (h : ys.Perm xs) (ha : Asc ys.length ys) : ys = ms xs := asc_same (asc_pair ha) (ms_pair xs) (h.trans (ms_perm xs).symm)
/-- What MedianOf answers. -/
def mCode (xs : List Int) : Int := if 4096 < xs.length then 2 else if xs.length % 2 = 0 ∨ 101 < xs.length then 1 else 0
def mOut (xs : List Int) : Int := if mCode xs = 0 then nth (ms xs) (xs.length / 2) else 0
theorem ret_ii {a b c d : Int} (h : a = c ∧ b = d) : Ending.returned (.tuple #[.int .i64 a, .int .i64 b]) = .returned (.tuple #[.int .i64 c, .int .i64 d]) := by rw [h.1, h.2]
theorem m_cases (xs : List Int) : (4096 < xs.length ∧ mCode xs = 2 ∧ mOut xs = 0) ∨ (xs.length ≤ 4096 ∧ xs.length % 2 = 0 ∧ mCode xs = 1 ∧ mOut xs = 0) ∨ (xs.length ≤ 4096 ∧ xs.length % 2 = 1 ∧ 101 < xs.length ∧ mCode xs = 1 ∧ mOut xs = 0) ∨ (xs.length % 2 = 1 ∧ xs.length ≤ 101 ∧ mCode xs = 0 ∧ mOut xs = nth (ms xs) (xs.length / 2)) := by
  by_cases h1 : 4096 < xs.length
  · have e : mCode xs = 2 := by unfold mCode; rw [if_pos h1]
    exact .inl ⟨h1, e, by unfold mOut; rw [e]; rfl⟩
  by_cases h2 : xs.length % 2 = 0
  · have e : mCode xs = 1 := by unfold mCode; rw [if_neg h1, if_pos (.inl h2)]
    exact .inr (.inl ⟨by omega, h2, e, by unfold mOut; rw [e]; rfl⟩)
  by_cases h3 : 101 < xs.length
  · have e : mCode xs = 1 := by unfold mCode; rw [if_neg h1, if_pos (.inr h3)]
    exact .inr (.inr (.inl ⟨by omega, by omega, h3, e, by unfold mOut; rw [e]; rfl⟩))
  · have e : mCode xs = 0 := by unfold mCode; rw [if_neg h1, if_neg (by omega)]
    exact .inr (.inr (.inr ⟨by omega, by omega, e, by unfold mOut; rw [e]; rfl⟩))

end Go.Proofs.YtddmdnljfnimbaaGreatDoor.Md
