/- The laws' copy of bytes, with the memory that it owns; marks on a list. -/
import Derived.Test.YtgakmjonfecnhaaSv
import Derived.Test.YtgakmjonfecnhaaMkb
namespace Go.Proofs.Ytgakmjonfecnhaa.Tb9
open Go.RowKit Go.Proofs.Ytgakmjonfecnhaa.Sl Go.Proofs.Ytgakmjonfecnhaa.By Go.Proofs.Ytgakmjonfecnhaa.Ap Go.Proofs.Ytgakmjonfecnhaa.Tx Go.Proofs.Ytgakmjonfecnhaa.Mk

theorem own_copied (w : World) (A : Array Value) (xs : List Int) (h : Sl.Copied xs xs.length A) (hl : xs.length ≤ 1048576) : OwnB 5 (w.alloc (.cells A 5)) w.heap.size (.slice (some ⟨w.heap.size, 0, none⟩) xs.length xs.length) xs := by
  refine ⟨by simp, .inr ⟨w.heap.size, xs.length, A, rfl, Nat.le_refl _, blk_new _ _ _, Nat.le_refl _, by unfold maxLen; omega, by rw [h.1, Nat.mul_one], ?_⟩⟩
  apply List.ext_getElem?
  intro i
  rw [List.getElem?_take, List.getElem?_map, Nat.mul_one]
  by_cases hi : i < xs.length
  · rw [if_pos hi, Array.getElem?_toList, h.2 i hi, List.getElem?_eq_getElem hi]
    simp [nth, List.getD_eq_getElem?_getD, List.getElem?_eq_getElem hi]
  · rw [if_neg hi, List.getElem?_eq_none (by omega)]
    rfl
set_option maxHeartbeats 400000 in
theorem toByteO_any (v : Value) (xs : List Int) (w : World) (h : RowB w v xs) (hl : xs.length ≤ 1048576) :
    Calls Try.prog 6 #[v] w fun e w' => ∃ v', e = .returned v' ∧ OwnB 5 w' w.heap.size v' xs ∧ Below w.heap.size w w' := by
  obtain ⟨a, cap, rfl, h, hr⟩ := h
  obtain ⟨i0, hi, hz0, hz1, hz2⟩ := info_parts info5
  have hmk := run_make (P := Try.prog) w 22 5 i0 (.int .u8 0) Try.underlying22 hi hz0 .i64 .i64 (xs.length : Int) (xs.length : Int) (by omega) (by omega) (by rw [hz2]; omega) (by omega)
  have hA0 : Sl.Copied xs 0 (madeCells (Value.int .u8 0).cells ((xs.length : Int).toNat * i0.size)) := ⟨by rw [hz1]; simp [madeCells, Value.cells], fun j hj => absurd hj (by omega)⟩
  generalize madeCells (Value.int .u8 0).cells ((xs.length : Int).toNat * i0.size) = A0 at hmk hA0
  rw [Int.toNat_natCast] at hmk
  go_enter Try.func6, Try.ntmps6
  go_wp2_with fail
  clear hmk
  go_loopw [4] (fun i wr => ∃ k : Nat, ∃ A : Array Value, k ≤ xs.length ∧ i = .int .i64 k ∧ wr = w.alloc (.cells A 5) ∧ Sl.Copied xs k A) (fun i _ => xs.length - (intOf i).toNat)
  case atStart => exact ⟨0, A0, by omega, rfl, rfl, hA0⟩
  case round =>
    clear hA0
    obtain ⟨k, A, hk, rfl, rfl, hA⟩ := hrel
    by_cases hlt : k < xs.length
    · rcases h with h | ⟨b, off, rfl, hc, hb, hcell⟩
      · exact absurd hlt (by rw [h]; simp)
      have hc1 := hcell k hlt
      have hne : b ≠ w.heap.size := by omega
      obtain ⟨x, hx⟩ : ∃ x, A[k]? = some x := ⟨_, Array.getElem?_eq_getElem (by rw [hA.1]; exact hlt)⟩
      clear hcell
      have hA' : Sl.Copied xs (k + 1) (A.setIfInBounds k (.int .u8 (nth xs k))) := by
        refine ⟨by rw [Array.size_setIfInBounds]; exact hA.1, fun j hj => ?_⟩
        rw [Array.getElem?_setIfInBounds]
        by_cases e : k = j
        · subst e
          rw [if_pos rfl, if_pos (by rw [hA.1]; exact hlt)]
        · rw [if_neg e]
          exact hA.2 j (by omega)
      go_wp2
      go_roundw
      case rel => exact ⟨k + 1, _, by omega, by go_num, rfl, hA'⟩
      case measure => simp [intOf]; omega
    · obtain rfl : k = xs.length := by omega
      go_wp2
      go_ret
      exact ⟨_, rfl, own_copied w A xs hA hl, (Below.refl _ _).alloc (Nat.le_refl _) _⟩
end Go.Proofs.Ytgakmjonfecnhaa.Tb9
