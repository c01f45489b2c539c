/- A list's bytes: the specification's ListBytes. -/
import Derived.Test.YtdeologdmdimoaaDoorLb
namespace Go.Proofs.YtdeologdmdimoaaDoor.Lb
open Go.RowKit Go.Proofs.YtdeologdmdimoaaDoor.Sl Go.Proofs.YtdeologdmdimoaaDoor.By Go.Proofs.YtdeologdmdimoaaDoor.Rq Go.Proofs.YtdeologdmdimoaaDoor.Ap Go.Proofs.YtdeologdmdimoaaDoor.Pu Go.Proofs.YtdeologdmdimoaaDoor.Ty Go.Proofs.YtdeologdmdimoaaDoor.Rp Go.Proofs.YtdeologdmdimoaaDoor.Rr

set_option maxRecDepth 100000 in
set_option maxHeartbeats 1600000 in
theorem l02List_any (v : Value) (ts : List ByteArray) (w : World) (h : RowT w v ts) (hl : ts.length ≤ 100) (hf : ∀ k, k ≤ ts.length → lenTo ts k ≤ 65536) :
    Calls Tryd.prog 46 #[v] w fun e w' => ∃ v', e = .returned v' ∧ OwnB 5 w' w.heap.size v' (listTo ts ts.length) ∧ Below w.heap.size w w' := by
  obtain ⟨i0, hi, hz0, hz1, hz2⟩ := info_parts Sl.info5
  obtain ⟨a, cap, rfl, h⟩ := h
  have HF : Hid (∀ k, k ≤ ts.length → lenTo ts k ≤ 65536) := hf
  have hl' : (ts.length : Int) ≤ 100 := by omega
  clear hf
  go_enter Tryd.func46, Tryd.ntmps46
  go_wp2_with fail
  go_loopw [3, 4] (fun b i wr => ∃ k : Nat, k ≤ ts.length ∧ i = .int .i64 k ∧ OwnB 5 wr w.heap.size b (listTo ts k) ∧ Below w.heap.size w wr) (fun _ i _ => ts.length - (intOf i).toNat)
  case atStart =>
    refine ⟨0, by omega, rfl, ?_, (Below.refl _ _).alloc (Nat.le_refl _) _⟩
    have := own_one 5 w w.heap.size (ts.length : Int) (Nat.le_refl _)
    have e : listTo ts 0 = [(ts.length : Int)] := by simp [listTo, nums, nb]; omega
    rw [e]
    exact this
  case round =>
    obtain ⟨k, hk, rfl, ho, hbel⟩ := hrel
    have hB := hbel.size
    by_cases hlt : k < ts.length
    · rcases h with h | ⟨b, off, rfl, hc, hb, hcell⟩
      · exact absurd hlt (by rw [h]; simp)
      have hp0 : (0 : Int) ≤ (k : Int) := by omega
      have hp1 : (k : Int) < (ts.length : Int) := by omega
      have HC : Hid (∀ W, Below w.heap.size w W → W.cell? ⟨b, off + k, none⟩ = some (.string (tnth ts k))) := fun W hW => (hW.cell (p := ⟨b, off + k, none⟩) hb).trans (hcell k hlt)
      have hc1 := HC.out wr hbel
      have HL0 : Hid ((listTo ts k).length = lenTo ts k) := listTo_length ts k
      have HLT : Hid (listTo ts (k + 1) = listTo ts k ++ (nums ((tnth ts k).size : Int) 2 2 ++ bys (tnth ts k))) := rfl
      have HLL : Hid (lenTo ts k + (2 + (tnth ts k).size) ≤ 65536) := HF.out (k + 1) hlt
      have HW : Hid (∀ g, u3.ownBlock = some g → g < wr.heap.size) := own_lt ho
      clear hcell
      generalize tnth ts k = t at hc1 HC HLT HLL
      go_wp2_with fail
      go_region_law (first
        | (go_simp; go_at_call 56; refine (l02Number_any (t.size : Int) 2 _ (by decide)).mono ?_; rintro e w3 ⟨v3, rfl, o3, b3⟩; with_reducible (have hA := ordB2 ho hbel hB b3); obtain ⟨f15, g3, B3⟩ := hA; have r21 := own_rowB o3 (nums_range _ _ _); have y1 := HC.out w3 g3; clear o3 b3; try go_simp)
        | (refine step_row (by rfl) _ _ 22 (by rfl) Tryd.underlying22 hi hz0 hz1 hz2 w.heap.size _ _ _ _ _ (by rfl) (by rfl) f15 B3 r21 (by rw [HL0.out, nums_length]; have := HLL.out; omega) ?_; intro v2 w2 o2 k2; have g2 := g3.trans (k2.below f15 B3); have B2 : w.heap.size ≤ w2.heap.size := Nat.le_trans B3 k2.size; have x1 := HC.out w2 g2)
        | (refine step_str (by rfl) _ _ 22 9 (by rfl) Tryd.underlying22 Tryd.underlying9 hi hz0 hz1 hz2 w.heap.size _ _ t _ (by rfl) (by rfl) o2 B2 (by rw [List.length_append, HL0.out, nums_length]; have := HLL.out; omega) ?_; intro v5 w5 o5 k5; have g5 := g2.trans (k5.below o2 B2)))
      all_goals
        rw [List.append_assoc, ← HLT.out] at o5
        go_wp2_with fail
        exact ⟨⟨k + 1, by omega, by go_num, o5, g5⟩, by simp [intOf]; omega⟩
    · obtain rfl : k = ts.length := by omega
      go_wp2
      go_ret
      exact ⟨_, rfl, ho, hbel⟩

theorem own_none (w w1 : World) (hb : Below w.heap.size w w1) : OwnB 5 (w1.alloc (.cells #[] 5)) w.heap.size (.slice (some ⟨w1.heap.size, 0, none⟩) 0 0) [] := own_made _ _ _ _ _ hb.size (by simp [maxLen]) rfl
end Go.Proofs.YtdeologdmdimoaaDoor.Lb
