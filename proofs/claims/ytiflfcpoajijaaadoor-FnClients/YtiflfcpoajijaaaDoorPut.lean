/- Bytes that are told: numbers, texts. -/
import Derived.Test.YtiflfcpoajijaaaDoorAp
import Derived.Test.YtiflfcpoajijaaaDoorSl
import Derived.Test.YtiflfcpoajijaaaDoorRows
namespace Go.Proofs.YtiflfcpoajijaaaDoor.Pu
open Go.RowKit Go.Proofs.YtiflfcpoajijaaaDoor.Sl Go.Proofs.YtiflfcpoajijaaaDoor.By Go.Proofs.YtiflfcpoajijaaaDoor.Ap

/-- The byte of a number that stands 'at' places from its end. -/
def nb (v : Int) (at' : Nat) : Int := v / 2 ^ (8 * at') % 256
def nums (v : Int) (size k : Nat) : List Int := (List.range k).map fun j => nb v (size - 1 - j)
theorem nums_succ (v : Int) (size k : Nat) : nums v size (k + 1) = nums v size k ++ [nb v (size - 1 - k)] := by simp [nums, List.range_succ]
theorem nums_length (v : Int) (size k : Nat) : (nums v size k).length = k := by simp [nums]

theorem nb_range (v : Int) (k : Nat) : 0 ≤ nb v k ∧ nb v k ≤ 255 := by unfold nb; omega
theorem nums_range (v : Int) (size k : Nat) : ∀ z ∈ nums v size k, 0 ≤ z ∧ z ≤ 255 := by
  intro z hz
  unfold nums at hz
  obtain ⟨j, _, rfl⟩ := List.mem_map.1 hz
  exact nb_range _ _
set_option maxHeartbeats 400000 in
theorem putNumber_any (v : Value) (zs : List Int) (x : Int) (size : Nat) (B : Nat) (w : World) (hown : OwnB 5 w B v zs) (hB : B ≤ w.heap.size) (hs : size ≤ 4) (hlen : zs.length ≤ 1048576) :
    Calls Tryd.prog 33 #[v, .int .i64 x, .int .i64 size] w fun e w' => ∃ v', e = .returned v' ∧ OwnB 5 w' B v' (zs ++ nums x size size) ∧ Kp w w' v v' := by
  obtain ⟨i0, hi, hz0, hz1, hz2⟩ := info_parts Sl.info5
  have hs0 : (size : Int) ≤ 4 := by omega
  have HS : Hid (size ≤ 4) := hs
  have HL : Hid (zs.length ≤ 1048576) := hlen
  clear hs hlen
  go_enter Tryd.func33, Tryd.ntmps33
  go_wp2_with fail
  go_loopw [0, 7] (fun b i wr => ∃ (k : Nat) (q : Int), Hid ((k : Int) + q + 1 = size ∧ k ≤ size) ∧ -1 ≤ q ∧ q ≤ 3 ∧ i = .int .i64 q ∧ OwnB 5 wr B b (zs ++ nums x size k) ∧ Kp w wr v b) (fun _ i _ => (intOf i + 1).toNat)
  case atStart => exact ⟨0, (size : Int) - 1, ⟨by omega, by omega⟩, by omega, by omega, by go_num, by simpa [nums] using hown, Kp.refl _ _⟩
  case round =>
    clear hown hs0
    obtain ⟨k, q, HQ, hq0, hq1, rfl, hown, hkp⟩ := hrel
    have hB' : B ≤ wr.heap.size := Nat.le_trans hB hkp.size
    by_cases hlt : 0 ≤ q
    · have hl : (zs ++ nums x size k).length + 1 ≤ 140737488355328 := by rw [List.length_append, nums_length]; have := HQ.out; have := HL.out; have := HS.out; omega
      go_wp2_with (at_builtin; go_must (refine list_one (by rfl) _ _ 22 (by rfl) Tryd.underlying22 hi hz0 hz1 hz2 B _ _ _ _ (by rfl) (by rfl) hown hB' (by omega) hl ?_; intro v' w' hown' hkp'))
      have e : x / 2 ^ (8 * q).toNat % 256 = nb x (size - 1 - k) := by
        unfold nb
        rw [show (8 * q).toNat = 8 * (size - 1 - k) by have := HQ.out; omega]
      rw [e, List.append_assoc, ← nums_succ] at hown'
      exact ⟨⟨k + 1, q - 1, ⟨by have := HQ.out; omega, by have := HQ.out; omega⟩, by omega, by omega, rfl, hown', hkp.trans hkp'⟩, by simp [intOf]; omega⟩
    · have hk : k = size := by have := HQ.out; omega
      have HK : Hid (k = size) := hk
      clear hk
      go_wp2
      go_ret
      exact ⟨_, rfl, by rw [HK.out] at hown; exact hown, hkp⟩

end Go.Proofs.YtiflfcpoajijaaaDoor.Pu
