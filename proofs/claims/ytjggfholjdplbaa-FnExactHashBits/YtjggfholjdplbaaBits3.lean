/- Both HashBits of a plain seat. -/
import Derived.Test.YtjggfholjdplbaaBits
namespace Go.Proofs.Ytjggfholjdplbaa.Bt
open Go.RowKit
set_option maxHeartbeats 400000 in
theorem l01Bits_any (s : ByteArray) (w : World) (hs : s.size = 32) :
    Calls Try.prog 18 #[.string s] w fun e w' => e = .returned (.string (strOfNums (bitsTo s 32))) ∧ Below w.heap.size w w' := by
  obtain ⟨i0, hi, hz0, hz1, hz2⟩ := info_parts info5
  have hs1 : (s.size : Int) ≤ 32 := by omega
  have hs2 : (32 : Int) ≤ (s.size : Int) := by omega
  have HS : Hid (s.size = 32) := hs
  clear hs
  go_enter Try.func18, Try.ntmps18
  go_wp2_with fail
  go_loopw [3, 4] (fun v i wr => ∃ k : Nat, k ≤ 32 ∧ i = .int .i64 k ∧ By.OwnB 5 wr w.heap.size v (bitsTo s k) ∧ Below w.heap.size w wr) (fun _ i _ => 32 - (intOf i).toNat)
  case atStart => exact ⟨0, by omega, rfl, By.own_made 5 w w.heap.size #[] 0 (Nat.le_refl _) (by simp [maxLen]) rfl, (Below.refl _ _).alloc (Nat.le_refl _) _⟩
  case round =>
    obtain ⟨k, hk, rfl, hown, hbel⟩ := hrel
    by_cases hlt : k < s.size
    · go_wp2_with fail
      go_loopw [3, 5] (fun v i wr => ∃ j : Nat, j ≤ 8 ∧ i = .int .i64 (7 - (j : Int)) ∧ By.OwnB 5 wr w.heap.size v (bitsTo s k ++ (bits8 (s[k]'hlt).toNat).take j) ∧ Below w.heap.size w wr) (fun _ i _ => (intOf i + 1).toNat)
      case atStart => exact ⟨0, by omega, rfl, by simpa using hown, hbel⟩
      case round =>
        clear hown hbel
        obtain ⟨j, hj, rfl, hown, hbel⟩ := hrel
        by_cases hj8 : j < 8
        · have hpos : (0 : Int) ≤ 7 - (j : Int) := by omega
          have hl : (bitsTo s k ++ (bits8 (s[k]'hlt).toNat).take j).length + 1 ≤ 140737488355328 := by rw [List.length_append, List.length_take, bitsTo_length s k (by omega)]; omega
          have HB := b8 (s[k]'hlt).toNat j hj8
          have hB := hbel.size
          go_wp2_with (at_builtin; go_must (refine By.wpList_append_byte (by rfl) _ _ 35 (by rfl) 5 i0 Try.underlying35 hi hz0 hz1 hz2 w.heap.size w wr _ _ _ (by rfl) hown hbel hB (by rfl) hl ?_; intro v' w' hown' hbel' hB'))
          clear hown hbel hB
          go_wp2
          go_roundw
          case rel => exact ⟨j + 1, by omega, by go_num, by rw [HB, ← List.append_assoc]; exact hown', hbel'⟩
          case measure => simp [intOf]; omega
        · have hsn := bitsTo_succ s k hlt
          have hj' : j = 8 := by omega
          subst hj'
          have hown2 : By.OwnB 5 wr w.heap.size u3 (bitsTo s (k + 1)) := by rw [hsn]; exact hown
          clear hsn hown
          go_wp2
          go_roundw
          case rel => exact ⟨k + 1, by omega, by go_num, hown2, hbel⟩
          case measure => simp [intOf]; omega
    · have hk' : k = 32 := by omega
      subst hk'
      have hcv := By.run_convert_own (P := Try.prog) wr w.heap.size 35 5 9 Try.underlying35 Try.underlying5 Try.underlying9 u3 _ hown
      clear hown
      go_wp2
      go_ret
      exact ⟨rfl, hbel⟩
theorem implHashBits_no (s : ByteArray) (w : World) (h : s.size ≠ 32) :
    Calls Try.prog 13 #[.string s] w fun e w' => e = .returned (.tuple #[.string ⟨#[]⟩, .int .i64 (badCode s)]) ∧ w' = w := by
  have HE : Hid (Hf.hf s = badCode s) := by show _ = _; unfold Hf.hf badCode; rw [if_neg h]
  have HN : Hid ((badCode s != 0) = true) := by show _ = _; unfold badCode; split <;> rfl
  go_enter Try.func13, Try.ntmps13
  go_wp2_with fail
  refine (Hf.hashFault_any s _).mono ?_
  rintro e w1 ⟨rfl, rfl⟩
  rw [HE.out]
  have hn := HN.out
  obtain ⟨c, HC⟩ : ∃ c, Hid (badCode s = c) := ⟨_, rfl⟩
  rw [HC.out] at hn ⊢
  go_wp2_with fail
  go_ret2
  exact ⟨ret_code HC.out.symm, rfl⟩
theorem specHashBits_no (s : ByteArray) (w : World) (hs : s.size ≤ maxLen) (h : s.size ≠ 32) :
    Calls Try.prog 12 #[.string s] w fun e w' => e = .returned (.tuple #[.string ⟨#[]⟩, .int .i64 (badCode s)]) ∧ w' = w := by
  unfold maxLen at hs
  by_cases hb : 65536 < s.size
  · have hc : badCode s = 2 := if_pos hb
    have h1 : (65536 : Int) < (s.size : Int) := by omega
    go_enter Try.func12, Try.ntmps12
    go_wp2
    go_ret2
    exact ⟨ret_code hc.symm, rfl⟩
  · have hc : badCode s = 1 := if_neg hb
    have h1 : (s.size : Int) ≤ 65536 := by omega
    have h2 : ((s.size : Int) != 32) = true := by rw [bne_iff_ne]; omega
    go_enter Try.func12, Try.ntmps12
    go_wp2
    go_ret2
    exact ⟨ret_code hc.symm, rfl⟩
theorem specHashBits_yes (s : ByteArray) (w : World) (hs : s.size = 32) :
    Calls Try.prog 12 #[.string s] w fun e w' => e = .returned (.tuple #[.string (strOfNums (bitsTo s 32)), .int .i64 0]) ∧ Below w.heap.size w w' := by
  have hs1 : (s.size : Int) ≤ 32 := by omega
  have hs2 : ((s.size : Int) != 32) = false := by simp; omega
  have HS : Hid (s.size = 32) := hs
  clear hs
  go_enter Try.func12, Try.ntmps12
  go_wp2_with (go_at_call 18; refine (l01Bits_any _ _ HS.out).mono ?_; rintro e w' ⟨rfl, hbel⟩)
  go_ret2
  exact ⟨rfl, hbel⟩
end Go.Proofs.Ytjggfholjdplbaa.Bt
