/- MedianOf of the program. -/
import Derived.Test.YtgbdmclpnkaihaaMd
import Derived.Test.YtgbdmclpnkaihaaShs
import Derived.Sort.OwnSortedInts
import Derived.Lib.OwnBridge
namespace Go.Proofs.Ytgbdmclpnkaihaa.Mi
open Go.RowKit Go.Proofs.Ytgbdmclpnkaihaa.Sl Go.Proofs.Ytgbdmclpnkaihaa.Is Go.Proofs.Ytgbdmclpnkaihaa.So Go.Proofs.Ytgbdmclpnkaihaa.Md

theorem clone_any (b off cap : Nat) (xs : List Int) (w : World) (hl : xs.length ≤ 1048576) (hc : ∀ i, i < xs.length → w.cell? ⟨b, off + i, none⟩ = some (.int .i64 (nth xs i))) :
    Calls Try.prog 18 #[.slice (some ⟨b, off, none⟩) xs.length cap] w fun e w' => ∃ g cp, e = .returned (.slice (some ⟨g, 0, none⟩) xs.length cp) ∧ BlkI w' g cp xs ∧ w.heap.size ≤ g ∧ Below w.heap.size w w' := by
  refine (Sf.clone_laid b off xs.length cap xs w (Nat.le_refl _) (by omega) hc).mono ?_
  rintro e w' ⟨v', rfl, h1, h2, h3⟩
  rw [List.take_length] at h1
  have h1' : OwnI w' w.heap.size v' xs := h1
  obtain ⟨g, cp, rfl⟩ := OwnI.some h1' h2
  obtain ⟨k1, _, k3⟩ := BlkI.of h1'
  exact ⟨g, cp, rfl, k1, k3, h3⟩
theorem sort_any (g cap : Nat) (xs : List Int) (w : World) (h : BlkI w g cap xs) (hl : xs.length ≤ 1048576) :
    Calls Try.prog 19 #[.slice (some ⟨g, 0, none⟩) xs.length cap] w fun e w' => e = .returned (.tuple #[]) ∧ BlkI w' g cap (ms xs) ∧ w.grownBy w' (some g) := by
  have hb := h.lt
  have hH : Go.Sort.Holds (Value.int .i64) w g 0 xs.toArray := by
    intro j hj
    have hj' : j < xs.length := by simpa using hj
    obtain ⟨c1, c2⟩ := h.cell hj'
    rw [Nat.zero_add]
    refine ⟨?_, c2⟩
    rw [c1]
    unfold nth
    rw [List.getD_eq_getElem?_getD, List.getElem?_eq_getElem hj']
    simp [hj']
  refine (Sf.sort_laid g 0 cap xs w hH hb (by omega)).mono ?_
  rintro e w' ⟨rfl, n, os, rfl⟩
  obtain ⟨cur, h1, h2, h3, h4, h5⟩ := h
  have := ownsRow_sortedI (base := g) (n := n) (os := os) (ts := ms xs) (ss := xs) (ms_length xs) (Nat.le_refl g) h1 h3 h4 (by omega)
  have h0 : OwnI (Go.Sort.grow (Go.Sort.putRow (Value.int .i64) (Go.Sort.ahead w n) g 0 (ms xs).toArray) os) g (.slice (some ⟨g, 0, none⟩) xs.length cap) (ms xs) := by
    unfold OwnI
    rw [ms_length]
    exact this
  exact ⟨rfl, (BlkI.of h0).1, grownBy_sortedI _⟩
set_option maxRecDepth 100000 in
set_option maxHeartbeats 400000 in
theorem middleOf_any (g cap : Nat) (ys : List Int) (n : Nat) (w : World) (hn : ys.length = n) (h : BlkI w g cap ys) (hl : ys.length ≤ 1048576) (h0 : 0 < ys.length) :
    Calls Try.prog 20 #[.slice (some ⟨g, 0, none⟩) n cap] w fun e w' => e = .returned (.int .i64 (nth ys (n / 2))) ∧ Below w.heap.size w w' := by
  subst hn
  have c1 := (h.cell (i := ys.length / 2) (by omega)).1
  have q1 : (ys.length : Int) / 2 = ((ys.length / 2 : Nat) : Int) := by omega
  have q2 : ((ys.length / 2 : Nat) : Int) < (ys.length : Int) := by omega
  clear h
  generalize ys.length / 2 = hf at q1 q2 c1
  go_enter Try.func20, Try.ntmps20
  go_wp2_with fail
  go_ret
  exact ⟨rfl, Below.refl _ _⟩
set_option maxRecDepth 100000 in
set_option maxHeartbeats 800000 in
theorem implMedianOf_any (v : Value) (xs : List Int) (w : World) (h : RowI w v xs) (hl : xs.length ≤ 1048576) :
    Calls Try.prog 9 #[v] w fun e w' => e = .returned (.tuple #[.int .i64 (mOut xs), .int .i64 (mCode xs)]) ∧ Below w.heap.size w w' := by
  obtain ⟨a, cap, rfl, h, _⟩ := h
  rcases m_cases xs with ⟨h1, e1, e2⟩ | ⟨h1, h2, e1, e2⟩ | ⟨h1, h2, h3, e1, e2⟩ | ⟨h1, h2, e1, e2⟩
  · have HE : Hid (mOut xs = 0 ∧ mCode xs = 2) := ⟨e2, e1⟩
    have h1' : (4096 : Int) < (xs.length : Int) := by omega
    clear e1 e2 h1 h
    go_enter Try.func9, Try.ntmps9
    go_wp2
    go_ret2
    exact ⟨ret_ii ⟨HE.out.1.symm, HE.out.2.symm⟩, Below.refl _ _⟩
  · have HE : Hid (mOut xs = 0 ∧ mCode xs = 1) := ⟨e2, e1⟩
    have h1' : ¬ (4096 : Int) < (xs.length : Int) := by omega
    have h2' : (xs.length : Int) % 2 = 0 := by omega
    clear e1 e2 h1 h2 h
    go_enter Try.func9, Try.ntmps9
    go_wp2
    go_ret2
    exact ⟨ret_ii ⟨HE.out.1.symm, HE.out.2.symm⟩, Below.refl _ _⟩
  · have HE : Hid (mOut xs = 0 ∧ mCode xs = 1) := ⟨e2, e1⟩
    have h1' : ¬ (4096 : Int) < (xs.length : Int) := by omega
    have h2' : (xs.length : Int) % 2 = 1 := by omega
    have h3' : (101 : Int) < (xs.length : Int) := by omega
    clear e1 e2 h1 h2 h3 h
    go_enter Try.func9, Try.ntmps9
    go_wp2
    go_ret2
    exact ⟨ret_ii ⟨HE.out.1.symm, HE.out.2.symm⟩, Below.refl _ _⟩
  · have HE : Hid (mOut xs = nth (ms xs) (xs.length / 2) ∧ mCode xs = 0) := ⟨e2, e1⟩
    have h1' : ¬ (4096 : Int) < (xs.length : Int) := by omega
    have h2' : (xs.length : Int) % 2 = 1 := by omega
    have h3' : ¬ (101 : Int) < (xs.length : Int) := by omega
    have hne : xs ≠ [] := fun e => by rw [e] at h1; simp at h1
    rcases h with h | ⟨b, off, rfl, hc, hb, hcell⟩
    · exact absurd h hne
    have HC : Hid (∀ i, i < xs.length → w.cell? ⟨b, off + i, none⟩ = some (.int .i64 (nth xs i))) := hcell
    have h0 : 0 < xs.length := by omega
    clear e1 e2 hcell h1 h2
    go_enter Try.func9, Try.ntmps9
    go_wp2_with fail
    refine (clone_any b off cap xs w hl HC.out).mono ?_
    rintro e w1 ⟨g, cp, rfl, k1, hg, b1⟩
    have K1 : Hid (BlkI w1 g cp xs) := k1
    have B1 : Hid (Below w.heap.size w w1) := b1
    clear k1 b1
    go_wp2_with fail
    refine (sort_any g cp xs w1 K1.out hl).mono ?_
    rintro e w2 ⟨rfl, k2, b2⟩
    have K2 : Hid (BlkI w2 g cp (ms xs)) := k2
    have B2 : Hid (Below w.heap.size w w2) := B1.out.grown b2 B1.out.size (fun j hj => by cases hj; exact hg)
    clear k2 b2 K1 B1
    go_wp2_with fail
    refine (middleOf_any g cp (ms xs) xs.length w2 (ms_length xs) K2.out (by rw [ms_length]; exact hl) (by rw [ms_length]; exact h0)).mono ?_
    rintro e w3 ⟨rfl, b3⟩
    have B3 : Hid (Below w.heap.size w w3) := B2.out.trans (b3.mono B2.out.size)
    clear b3 K2 B2
    generalize nth (ms xs) (xs.length / 2) = r at HE
    go_wp2_with fail
    go_ret2
    exact ⟨ret_ii ⟨HE.out.1.symm, HE.out.2.symm⟩, B3.out⟩
end Go.Proofs.Ytgbdmclpnkaihaa.Mi
