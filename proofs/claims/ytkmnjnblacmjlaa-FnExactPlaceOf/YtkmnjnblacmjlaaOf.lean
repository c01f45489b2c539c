/- The specification's numbers out of texts. -/
import Derived.Test.YtkmnjnblacmjlaaTakeReq
import Derived.Deep.RegionWith
import Derived.BigQuiet
namespace Go.Proofs.Ytkmnjnblacmjlaa.Of
open Go.RowKit Go.Proofs.Ytkmnjnblacmjlaa.Sl Go.Proofs.Ytkmnjnblacmjlaa.By Go.Proofs.Ytkmnjnblacmjlaa.Ap Go.Proofs.Ytkmnjnblacmjlaa.Rq Go.Proofs.Ytkmnjnblacmjlaa.Rr

theorem bys_at (s : ByteArray) (i : Nat) (h : i < s.size) : nth (bys s) i = ((s[i]'h).toNat : Int) := by
  unfold nth bys
  have h' : i < s.data.toList.length := by simpa using h
  rw [List.getD_eq_getElem?_getD, List.getElem?_map, List.getElem?_eq_getElem h']
  rfl

set_option maxHeartbeats 400000 in
theorem l02Of_any (s : ByteArray) (w : World) (hs : s.size ≤ 4) :
    Calls Try.prog 14 #[.string s] w fun e w' => e = .returned (.int .i64 (beN (bys s))) ∧ w' = w := by
  have HS : Hid (s.size ≤ 4) := hs
  have hs4 : (s.size : Int) ≤ 4 := by omega
  clear hs
  go_enter Try.func14, Try.ntmps14
  go_wp2_with fail
  go_loop [3, 4] (fun n i => ∃ k : Nat, k ≤ s.size ∧ i = .int .i64 k ∧ n = .int .i64 (beN ((bys s).take k))) (fun _ i => s.size - (intOf i).toNat)
  case atStart => exact ⟨0, by omega, rfl, rfl⟩
  case round =>
    obtain ⟨k, hk, rfl, rfl⟩ := hrel
    by_cases hlt : k < s.size
    · have hb := (s[k]'hlt).toNat_lt
      have HM : Hid (beN ((bys s).take (k + 1)) = beN ((bys s).take k) * 256 + ((s[k]'hlt).toNat : Int)) := by show _ = _; rw [take_succ_nth (by rw [bys_length]; exact hlt), beN_snoc, bys_at s k hlt]
      have hbn := beN_range ((bys s).take k) (fun x hx => bys_range s x (List.mem_of_mem_take hx))
      have hb2 : beN ((bys s).take k) < 16777216 := by
        have : (256 : Int) ^ ((bys s).take k).length ≤ 256 ^ 3 := by
          have h3 : ((bys s).take k).length ≤ 3 := by rw [List.length_take, bys_length]; have := HS.out; omega
          generalize ((bys s).take k).length = q at h3
          match q, h3 with
          | 0, _ => decide
          | 1, _ => decide
          | 2, _ => decide
          | 3, _ => decide
        have e : (256 : Int) ^ 3 = 16777216 := rfl
        omega
      generalize beN ((bys s).take k) = m at hbn hb2 HM
      have hb0 := hbn.1
      clear hbn
      go_wp2
      go_round
      case rel => exact ⟨k + 1, by omega, by go_num, val_eq (by rw [HM.out])⟩
      case measure => simp [intOf]; omega
    · have HK : Hid (k = s.size) := by show _ = _; omega
      go_wp2
      go_ret
      refine ⟨?_, rfl⟩
      rw [HK.out, List.take_of_length_le (by rw [bys_length]; exact Nat.le_refl _)]
      rfl
end Go.Proofs.Ytkmnjnblacmjlaa.Of
