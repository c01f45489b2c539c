/- MedianOf of the specification. -/
import Derived.Test.YtgbdmclpnkaihaaSo
namespace Go.Proofs.Ytgbdmclpnkaihaa.Md
open Go.RowKit Go.Proofs.Ytgbdmclpnkaihaa.Sl Go.Proofs.Ytgbdmclpnkaihaa.Is Go.Proofs.Ytgbdmclpnkaihaa.So

/-- The numbers in order. -/
def ms (xs : List Int) : List Int := xs.mergeSort fun x y => decide (x ≤ y)
theorem ms_perm (xs : List Int) : (ms xs).Perm xs := List.mergeSort_perm _ _
theorem ms_length (xs : List Int) : (ms xs).length = xs.length := List.length_mergeSort xs
theorem ms_pair (xs : List Int) : (ms xs).Pairwise (· ≤ ·) := by
  have := List.pairwise_mergeSort (le := fun (x y : Int) => decide (x ≤ y)) (fun a b c h1 h2 => by simp at h1 h2 ⊢; omega) (fun a b => by simp; omega) xs
  exact this.imp (fun h => by simpa using h)
theorem ms_of {xs ys : List Int} (h : ys.Perm xs) (ha : Asc ys.length ys) : ys = ms xs := asc_same (asc_pair ha) (ms_pair xs) (h.trans (ms_perm xs).symm)
/-- What MedianOf answers. -/
def mCode (xs : List Int) : Int := if 4096 < xs.length then 2 else if xs.length % 2 = 0 ∨ 101 < xs.length then 1 else 0
def mOut (xs : List Int) : Int := if mCode xs = 0 then nth (ms xs) (xs.length / 2) else 0
theorem ret_ii {a b c d : Int} (h : a = c ∧ b = d) : Ending.returned (.tuple #[.int .i64 a, .int .i64 b]) = .returned (.tuple #[.int .i64 c, .int .i64 d]) := by rw [h.1, h.2]
theorem m_cases (xs : List Int) : (4096 < xs.length ∧ mCode xs = 2 ∧ mOut xs = 0) ∨ (xs.length ≤ 4096 ∧ xs.length % 2 = 0 ∧ mCode xs = 1 ∧ mOut xs = 0) ∨ (xs.length ≤ 4096 ∧ xs.length % 2 = 1 ∧ 101 < xs.length ∧ mCode xs = 1 ∧ mOut xs = 0) ∨ (xs.length % 2 = 1 ∧ xs.length ≤ 101 ∧ mCode xs = 0 ∧ mOut xs = nth (ms xs) (xs.length / 2)) := by
  by_cases h1 : 4096 < xs.length
  · have e : mCode xs = 2 := by unfold mCode; rw [if_pos h1]
    exact .inl ⟨h1, e, by unfold mOut; rw [e]; rfl⟩
  by_cases h2 : xs.length % 2 = 0
  · have e : mCode xs = 1 := by unfold mCode; rw [if_neg h1, if_pos (.inl h2)]
    exact .inr (.inl ⟨by omega, h2, e, by unfold mOut; rw [e]; rfl⟩)
  by_cases h3 : 101 < xs.length
  · have e : mCode xs = 1 := by unfold mCode; rw [if_neg h1, if_pos (.inr h3)]
    exact .inr (.inr (.inl ⟨by omega, by omega, h3, e, by unfold mOut; rw [e]; rfl⟩))
  · have e : mCode xs = 0 := by unfold mCode; rw [if_neg h1, if_neg (by omega)]
    exact .inr (.inr (.inr ⟨by omega, by omega, e, by unfold mOut; rw [e]; rfl⟩))

set_option maxRecDepth 100000 in
set_option maxHeartbeats 800000 in
theorem specMedianOf_any (v : Value) (xs : List Int) (w : World) (h : RowI w v xs) (hl : xs.length ≤ 1048576) :
    Calls Try.prog 10 #[v] w fun e w' => e = .returned (.tuple #[.int .i64 (mOut xs), .int .i64 (mCode xs)]) ∧ Below w.heap.size w w' := by
  have G : Hid (RowI w v xs) := h
  obtain ⟨a, cap, rfl, _⟩ := h
  rcases m_cases xs with ⟨h1, e1, e2⟩ | ⟨h1, h2, e1, e2⟩ | ⟨h1, h2, h3, e1, e2⟩ | ⟨h1, h2, e1, e2⟩
  · have HE : Hid (mOut xs = 0 ∧ mCode xs = 2) := ⟨e2, e1⟩
    have h1' : (4096 : Int) < (xs.length : Int) := by omega
    clear e1 e2 h1
    go_enter Try.func10, Try.ntmps10
    go_wp2
    go_ret2
    exact ⟨ret_ii ⟨HE.out.1.symm, HE.out.2.symm⟩, Below.refl _ _⟩
  · have HE : Hid (mOut xs = 0 ∧ mCode xs = 1) := ⟨e2, e1⟩
    have h1' : ¬ (4096 : Int) < (xs.length : Int) := by omega
    have h2' : (xs.length : Int) % 2 = 0 := by omega
    clear e1 e2 h1 h2
    go_enter Try.func10, Try.ntmps10
    go_wp2
    go_ret2
    exact ⟨ret_ii ⟨HE.out.1.symm, HE.out.2.symm⟩, Below.refl _ _⟩
  · have HE : Hid (mOut xs = 0 ∧ mCode xs = 1) := ⟨e2, e1⟩
    have h1' : ¬ (4096 : Int) < (xs.length : Int) := by omega
    have h2' : (xs.length : Int) % 2 = 1 := by omega
    have h3' : (101 : Int) < (xs.length : Int) := by omega
    clear e1 e2 h1 h2 h3
    go_enter Try.func10, Try.ntmps10
    go_wp2
    go_ret2
    exact ⟨ret_ii ⟨HE.out.1.symm, HE.out.2.symm⟩, Below.refl _ _⟩
  · have HE : Hid (mOut xs = nth (ms xs) (xs.length / 2) ∧ mCode xs = 0) := ⟨e2, e1⟩
    have h1' : ¬ (4096 : Int) < (xs.length : Int) := by omega
    have h2' : (xs.length : Int) % 2 = 1 := by omega
    have h3' : ¬ (101 : Int) < (xs.length : Int) := by omega
    have hne : xs ≠ [] := fun e => by rw [e] at h1; simp at h1
    have q1 : (xs.length : Int) / 2 = ((xs.length / 2 : Nat) : Int) := by omega
    have q2 : ((xs.length / 2 : Nat) : Int) < (xs.length : Int) := by omega
    clear e1 e2
    go_enter Try.func10, Try.ntmps10
    go_wp2_with fail
    refine (sorted_any _ xs w G.out (by omega) hne).mono ?_
    rintro e w1 ⟨g, cp, ys, rfl, k1, hyl, hyp, hya, hg, b1⟩
    have HM : Hid (ys = ms xs) := ms_of hyp hya
    have c1 := (k1.cell (i := xs.length / 2) (by omega)).1
    have B1 : Hid (Below w.heap.size w w1) := b1
    clear k1 hyp hya b1 h1 h2
    generalize xs.length / 2 = hf at HE q1 q2 c1
    trace_state
    go_wp2_with fail
    go_ret2
    exact ⟨ret_ii ⟨by rw [HE.out.1, HM.out], HE.out.2.symm⟩, B1.out⟩
end Go.Proofs.Ytgbdmclpnkaihaa.Md
