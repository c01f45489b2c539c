/- A number in a list: the laws' hasInt. -/
import Derived.Test.YtdeologdmdimoaaDoorIs
namespace Go.Proofs.YtdeologdmdimoaaDoor.Hi
open Go.RowKit Go.Proofs.YtdeologdmdimoaaDoor.Sl Go.Proofs.YtdeologdmdimoaaDoor.Is

theorem ret_b {a b : Bool} (h : a = b) : Ending.returned (.bool a) = .returned (.bool b) := by rw [h]
set_option maxRecDepth 100000 in
set_option maxHeartbeats 400000 in
theorem hasInt_any (v : Value) (xs : List Int) (n : Int) (w : World) (h : RowI w v xs) (hl : xs.length ≤ 1048576) :
    Calls Tryd.prog 16 #[v, .int .i64 n] w fun e w' => e = .returned (.bool (decide (n ∈ xs))) ∧ Below w.heap.size w w' := by
  obtain ⟨a, cap, rfl, h, _⟩ := h
  go_enter Tryd.func16, Tryd.ntmps16
  go_wp2_with fail
  go_loopw [5] (fun i wr => ∃ k : Nat, k ≤ xs.length ∧ i = .int .i64 k ∧ Hid (∀ j, j < k → nth xs j ≠ n) ∧ ∃ q, wr = w.drewN q) (fun i _ => xs.length - (intOf i).toNat)
  case atStart => exact ⟨0, by omega, rfl, fun j hj => by omega, 0, rfl⟩
  case round =>
    obtain ⟨k, hk, rfl, HN, q, rfl⟩ := hrel
    by_cases hlt : k < xs.length
    · rcases h with h | ⟨b, off, rfl, hc, hb, hcell⟩
      · exact absurd hlt (by rw [h]; simp)
      have hc1 := hcell k hlt
      clear hcell
      by_cases he : nth xs k = n
      · have HM : Hid (decide (n ∈ xs) = true) := by show _ = _; rw [← he]; exact decide_eq_true (nth_mem hlt)
        have he' : (nth xs k == n) = true := by simpa using he
        clear he
        go_wp2_with fail
        all_goals
          go_ret
          exact ⟨ret_b HM.out.symm, ⟨rfl, rfl, rfl, Nat.le_refl _, fun _ _ => rfl⟩⟩
      · have he' : (nth xs k == n) = false := by simpa using he
        have HN' : Hid (∀ j, j < k + 1 → nth xs j ≠ n) := fun j hj => by
          by_cases e : j = k
          · rw [e]; exact he
          · exact HN.out j (by omega)
        clear he HN
        go_wp2_with fail
        all_goals exact ⟨⟨k + 1, by omega, by go_num, HN', _, rfl⟩, by simp [intOf]; omega⟩
    · obtain rfl : k = xs.length := by omega
      have HM : Hid (decide (n ∈ xs) = false) := by
        refine decide_eq_false fun hm => ?_
        obtain ⟨j, hj, e⟩ := List.mem_iff_getElem.1 hm
        have := HN.out j hj
        unfold nth at this
        rw [List.getD_eq_getElem?_getD, List.getElem?_eq_getElem hj] at this
        exact this e
      go_wp2_with fail
      go_ret
      exact ⟨ret_b HM.out.symm, ⟨rfl, rfl, rfl, Nat.le_refl _, fun _ _ => rfl⟩⟩
end Go.Proofs.YtdeologdmdimoaaDoor.Hi
