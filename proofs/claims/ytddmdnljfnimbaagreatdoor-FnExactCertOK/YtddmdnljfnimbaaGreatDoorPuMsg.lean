/- A message's bytes, as impl takes them: in plain lists. -/
import Derived.Test.YtddmdnljfnimbaaGreatDoorEqReq
namespace Go.Proofs.YtddmdnljfnimbaaGreatDoor.Om
open Go.RowKit Go.Proofs.YtddmdnljfnimbaaGreatDoor.Sl Go.Proofs.YtddmdnljfnimbaaGreatDoor.By Go.Proofs.YtddmdnljfnimbaaGreatDoor.Ap Go.Proofs.YtddmdnljfnimbaaGreatDoor.Rq Go.Proofs.YtddmdnljfnimbaaGreatDoor.Rr Go.Proofs.YtddmdnljfnimbaaGreatDoor.Of

theorem tkS_false {n : Nat} {xs : List Int} {sh : Bool} : tkS n xs sh = false ↔ sh = false ∧ n ≤ xs.length := by
  unfold tkS; simp
theorem txtS_false {n : Nat} {xs : List Int} {sh : Bool} : txtS n xs sh = false ↔ (sh = false ∧ n ≤ xs.length) ∧ txtN n xs ≤ (tkR n xs).length := by
  unfold txtS; rw [tkS_false, tkS_false]
def mD (xs : List Int) : Nat := (nth xs 4).toNat
def mN (xs : List Int) : Nat := (beN ((xs.drop (5 + mD xs)).take 2)).toNat
theorem tkR_yes {n : Nat} {xs : List Int} (h : n ≤ xs.length) : tkR n xs = xs.drop n := (tk_yes h).2.1
theorem tkB_yes {n : Nat} {xs : List Int} (h : n ≤ xs.length) : tkB n xs = xs.take n := (tk_yes h).1
theorem four (xs : List Int) (h : 4 ≤ xs.length) : tkR 1 xs = xs.drop 1 ∧ tkR 1 (tkR 1 xs) = xs.drop 2 ∧ tkR 1 (tkR 1 (tkR 1 xs)) = xs.drop 3 ∧ mg3 xs = xs.drop 4 := by
  have a1 := tkR_yes (n := 1) (xs := xs) (by omega)
  have a2 := tkR_yes (n := 1) (xs := xs.drop 1) (by rw [List.length_drop]; omega)
  have a3 := tkR_yes (n := 1) (xs := xs.drop 2) (by rw [List.length_drop]; omega)
  have a4 := tkR_yes (n := 1) (xs := xs.drop 3) (by rw [List.length_drop]; omega)
  rw [List.drop_drop] at a2 a3 a4
  refine ⟨a1, by rw [a1, a2], by rw [a1, a2, a3], by unfold mg3; rw [a1, a2, a3, a4]⟩
theorem txtN1 (xs : List Int) (h : 5 ≤ xs.length) : txtN 1 (xs.drop 4) = mD xs ∧ tkR 1 (xs.drop 4) = xs.drop 5 := by
  have hl : 1 ≤ (xs.drop 4).length := by rw [List.length_drop]; omega
  unfold txtN mD
  rw [tkB_yes hl, be1 (by omega), nth_drop, tkR_yes hl, List.drop_drop]
  exact ⟨rfl, rfl⟩
theorem txtN2 (xs : List Int) (h : 7 + mD xs ≤ xs.length) : txtN 2 (xs.drop (5 + mD xs)) = mN xs ∧ tkR 2 (xs.drop (5 + mD xs)) = xs.drop (7 + mD xs) := by
  have hl : 2 ≤ (xs.drop (5 + mD xs)).length := by rw [List.length_drop]; omega
  unfold txtN mN
  rw [tkB_yes hl, tkR_yes hl, List.drop_drop]
  exact ⟨rfl, by rw [show 5 + mD xs + 2 = 7 + mD xs by omega]⟩
theorem msg_open (xs : List Int) (hl : 15 + mD xs + mN xs ≤ xs.length) :
    beN (tkB 1 xs) = nth xs 0 ∧ beN (tkB 1 (tkR 1 xs)) = nth xs 1 ∧ beN (tkB 1 (tkR 1 (tkR 1 xs))) = nth xs 2 ∧ beN (tkB 1 (tkR 1 (tkR 1 (tkR 1 xs)))) = nth xs 3 ∧
      mgDg xs = strOfNums ((xs.drop 5).take (mD xs)) ∧ mgBd xs = strOfNums ((xs.drop (7 + mD xs)).take (mN xs)) ∧ mgMc xs = strOfNums ((xs.drop (7 + mD xs + mN xs)).take 8) ∧ mgRest xs = xs.drop (15 + mD xs + mN xs) ∧ mgSh xs false = false := by
  obtain ⟨a1, a2, a3, a4⟩ := four xs (by omega)
  obtain ⟨b1, b2⟩ := txtN1 xs (by omega)
  obtain ⟨c1, c2⟩ := txtN2 xs (by omega)
  have h5 : mD xs ≤ (xs.drop 5).length := by rw [List.length_drop]; omega
  have r1 : txtR 1 (mg3 xs) = xs.drop (5 + mD xs) := by unfold txtR; rw [a4, b1, b2, tkR_yes h5, List.drop_drop]
  have h7 : mN xs ≤ (xs.drop (7 + mD xs)).length := by rw [List.length_drop]; omega
  have r2 : txtR 2 (txtR 1 (mg3 xs)) = xs.drop (7 + mD xs + mN xs) := by rw [r1]; unfold txtR; rw [c1, c2, tkR_yes h7, List.drop_drop]
  have h8 : 8 ≤ (xs.drop (7 + mD xs + mN xs)).length := by rw [List.length_drop]; omega
  refine ⟨?_, ?_, ?_, ?_, ?_, ?_, ?_, ?_, ?_⟩
  · rw [tkB_yes (by omega), be1 (by omega)]
  · rw [a1, tkB_yes (by rw [List.length_drop]; omega), be1 (by rw [List.length_drop]; omega), nth_drop]
  · rw [a2, tkB_yes (by rw [List.length_drop]; omega), be1 (by rw [List.length_drop]; omega), nth_drop]
  · rw [a3, tkB_yes (by rw [List.length_drop]; omega), be1 (by rw [List.length_drop]; omega), nth_drop]
  · unfold mgDg txtB; rw [a4, b1, b2, tkB_yes h5]
  · unfold mgBd txtB; rw [r1, c1, c2, tkB_yes h7]
  · unfold mgMc; rw [r2, tkB_yes h8]
  · unfold mgRest; rw [r2, tkR_yes h8, List.drop_drop, show 7 + mD xs + mN xs + 8 = 15 + mD xs + mN xs by omega]
  · unfold mgSh
    rw [tkS_false, r2, txtS_false, r1, txtS_false, tkS_false, tkS_false, tkS_false, tkS_false, a3, a2, a1, a4, b1, b2, c1, c2]
    simp only [List.length_drop]
    exact ⟨⟨⟨⟨⟨⟨⟨⟨⟨trivial, by omega⟩, by omega⟩, by omega⟩, by omega⟩, by omega⟩, by rw [List.length_drop] at h5; omega⟩, by omega⟩, by rw [List.length_drop] at h7; omega⟩, by omega⟩
theorem msg_inv (xs : List Int) (h : mgSh xs false = false) : 15 + mD xs + mN xs ≤ xs.length := by
  unfold mgSh at h
  rw [tkS_false, txtS_false, txtS_false, tkS_false, tkS_false, tkS_false, tkS_false] at h
  obtain ⟨⟨⟨⟨⟨⟨⟨⟨⟨_, l1⟩, l2⟩, l3⟩, l4⟩, m1⟩, m2⟩, m3⟩, m4⟩, m5⟩ := h
  have t1 := tkR_yes l1
  rw [t1] at l2 l3 l4
  have t2 := tkR_yes l2
  rw [t2] at l3 l4
  have t3 := tkR_yes l3
  rw [t3] at l4
  simp only [List.length_drop] at l2 l3 l4
  obtain ⟨a1, a2, a3, a4⟩ := four xs (by omega)
  rw [a4] at m1 m2
  rw [List.length_drop] at m1
  obtain ⟨b1, b2⟩ := txtN1 xs (by omega)
  rw [b1, b2] at m2
  have r1 : txtR 1 (mg3 xs) = xs.drop (5 + mD xs) := by unfold txtR; rw [a4, b1, b2, tkR_yes m2, List.drop_drop]
  rw [List.length_drop] at m2
  rw [r1] at m3 m4 m5
  rw [List.length_drop] at m3
  obtain ⟨c1, c2⟩ := txtN2 xs (by omega)
  rw [c1, c2] at m4
  have r2 : txtR 2 (xs.drop (5 + mD xs)) = xs.drop (7 + mD xs + mN xs) := by unfold txtR; rw [c1, c2, tkR_yes m4, List.drop_drop]
  rw [r2, List.length_drop] at m5
  rw [List.length_drop] at m4
  omega
end Go.Proofs.YtddmdnljfnimbaaGreatDoor.Om
