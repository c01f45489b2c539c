/- impl.ReadHash, and both at a text of another length. -/
import Derived.Test.YtcbhaafemepdhaaRead
import Derived.Laws.NewBlocks
namespace Go.Proofs.Ytcbhaafemepdhaa.Rd
open Go.RowKit

def zeros32 : Array Value := Array.replicate 32 (.int .u8 0)
theorem zero34 (w : World) : Sem.run Try.prog (zeroValue 34) w = .ok (.agg zeros32) w := by kernel_rfl
def cellAt (s : ByteArray) (k j : Nat) : Int := if 2 * j + 2 ≤ k then 16 * nb s (2 * j) + nb s (2 * j + 1) else if 2 * j + 1 ≤ k then nb s (2 * j) else 0
def Cells (s : ByteArray) (k : Nat) (A : Array Value) : Prop := A.size = 32 ∧ ∀ j, j < 32 → A[j]? = some (.int .u8 (cellAt s k j))
theorem cells_zero (s : ByteArray) : Cells s 0 zeros32 := by
  refine ⟨by unfold zeros32; simp, fun j hj => ?_⟩
  have : cellAt s 0 j = 0 := by unfold cellAt; rw [if_neg (by omega), if_neg (by omega)]
  rw [this]
  unfold zeros32
  simp [hj]

theorem or_join (x y : Int) (h0 : 0 ≤ x) (h1 : x ≤ 15) (h2 : 0 ≤ y) (h3 : y ≤ 15) : bits BinOp.or IntKind.u8 (x * 16 % 256) y = 16 * x + y := by
  rw [u8_or _ _ (by omega) (by omega) h2 (by omega), nat_join 4 _ _ (by omega) (by omega)]
  omega
theorem cells_step (s : ByteArray) (k : Nat) (A : Array Value) (hk : k < 64) (hA : Cells s k A) (hall : ∀ j, j < k → 0 ≤ nb s j) (h0 : 0 ≤ nb s k) :
    Cells s (k + 1) (A.setIfInBounds (k / 2) (.int .u8 (bits BinOp.or IntKind.u8 (cellAt s k (k / 2) * 16 % 256) (nb s k)))) := by
  refine ⟨by rw [Array.size_setIfInBounds]; exact hA.1, fun j hj => ?_⟩
  have hr : -1 ≤ nb s k ∧ nb s k ≤ 15 := nib_range _
  rw [Array.getElem?_setIfInBounds]
  by_cases e : k / 2 = j
  · rw [if_pos e, if_pos (by rw [hA.1]; omega), e]
    congr 2
    by_cases ev : k = 2 * j
    · have c1 : cellAt s k j = 0 := by unfold cellAt; rw [if_neg (by omega), if_neg (by omega)]
      have c2 : cellAt s (k + 1) j = nb s k := by unfold cellAt; rw [if_neg (by omega), if_pos (by omega), ev]
      rw [c1, c2, or_join 0 _ (by omega) (by omega) h0 (by omega)]
      omega
    · obtain rfl : k = 2 * j + 1 := by omega
      have c1 : cellAt s (2 * j + 1) j = nb s (2 * j) := by unfold cellAt; rw [if_neg (by omega), if_pos (by omega)]
      have c2 : cellAt s (2 * j + 1 + 1) j = 16 * nb s (2 * j) + nb s (2 * j + 1) := by unfold cellAt; rw [if_pos (by omega)]
      have hr2 : -1 ≤ nb s (2 * j) ∧ nb s (2 * j) ≤ 15 := nib_range _
      have := hall (2 * j) (by omega)
      rw [c1, c2, or_join _ _ this (by omega) h0 (by omega)]
  · rw [if_neg e, hA.2 j hj]
    congr 2
    unfold cellAt
    by_cases a : 2 * j + 2 ≤ k
    · rw [if_pos a, if_pos (by omega)]
    · rw [if_neg a, if_neg (show ¬ 2 * j + 2 ≤ k + 1 by omega)]
      by_cases b : 2 * j + 1 ≤ k
      · rw [if_pos b, if_pos (by omega)]
      · rw [if_neg b, if_neg (by omega)]

set_option maxRecDepth 100000 in
set_option maxHeartbeats 800000 in
theorem implReadHash_yes (s : ByteArray) (w : World) (hs : s.size = 64) :
    Calls Try.prog 13 #[.string s] w fun e w' => e = .returned (answer s) ∧ Below w.heap.size w w' := by
  have hs1 : (s.size : Int) ≤ 64 := by omega
  have hs2 : ((s.size : Int) != 64) = false := by simp; omega
  have hs3 : (64 : Int) ≤ (s.size : Int) := by omega
  have HS : Hid (s.size = 64) := hs
  have hz := zero34 w
  clear hs
  go_enter Try.func13, Try.ntmps13
  go_wp2_with fail
  clear hz
  go_loopw [15] (fun i wr => ∃ k : Nat, ∃ A : Array Value, k ≤ 64 ∧ i = .int .i64 k ∧ wr = w.alloc (.cells A 34) ∧ Cells s k A ∧ Hid (∀ j, j < k → 0 ≤ nb s j)) (fun i _ => 64 - (intOf i).toNat)
  case atStart => exact ⟨0, zeros32, by omega, rfl, rfl, cells_zero s, fun j hj => absurd hj (by omega)⟩
  case round =>
    obtain ⟨k, A, hk, rfl, rfl, hA, hall⟩ := hrel
    by_cases hlt : k < 64
    · have h1 : k < s.size := by have := HS.out; omega
      have b1 := (s[k]'h1).toNat_lt
      have e1 := nb_eq s k h1
      have r1 : -1 ≤ nb s k ∧ nb s k ≤ 15 := nib_range _
      by_cases n1 : nb s k < 0
      · have HA : Hid (answer s = .tuple #[.string ⟨#[]⟩, .int .i64 3]) := answer_no s k (by omega) n1
        go_wp2_with (go_at_call 25; refine (digitValue_any _ (by omega) (by omega) _).mono ?_; rintro e w' ⟨rfl, rfl⟩)
        go_ret2
        exact ⟨ret_val HA.out.symm, (Below.refl _ _).alloc (Nat.le_refl _) _⟩
      have hx : A[k / 2]? = some (.int .u8 (cellAt s k (k / 2))) := hA.2 (k / 2) (by omega)
      go_wp2_with (go_at_call 25; refine (digitValue_any _ (by omega) (by omega) _).mono ?_; rintro e w' ⟨rfl, rfl⟩)
      go_roundw
      case rel =>
        refine ⟨k + 1, _, by omega, by go_num, rfl, ?_, ?_⟩
        · exact cells_step s k A hlt hA hall.out n1
        · intro j hj
          by_cases e : j < k
          · exact hall.out j e
          · obtain rfl : j = k := by omega
            omega
      case measure => simp [intOf]; omega
    · obtain rfl : k = 64 := by omega
      have HA : Hid (answer s = .tuple #[.string (strOfNums (readTo s 32)), .int .i64 0]) := answer_yes s hall.out
      have hcv : (convert 25 9 (.slice (some ⟨w.heap.size, 0, none⟩) 32 32)).run Try.prog (w.alloc (.cells A 34)) = .ok (.string (strOfNums (readTo s 32))) (w.alloc (.cells A 34)) := by
        refine run_convert_bytes_arg _ 25 5 Try.underlying25 Try.underlying5 w.heap.size 0 32 32 _ (readTo_length s 32) (fun i hi => ?_) 9 Try.underlying9
        rw [Nat.zero_add, World.cell?_alloc_at _ _ _ _ rfl, hA.2 i hi]
        have : cellAt s 64 i = 16 * nb s (2 * i) + nb s (2 * i + 1) := by unfold cellAt; rw [if_pos (by omega)]
        rw [this]
        simp [readTo, List.getD_eq_getElem?_getD, hi]
      go_wp2_with fail
      go_ret2
      exact ⟨ret_val HA.out.symm, (Below.refl _ _).alloc (Nat.le_refl _) _⟩

theorem ret_code {s : ByteArray} {a b : Int} (h : a = b) : Ending.returned (.tuple #[.string s, .int .i64 a]) = .returned (.tuple #[.string s, .int .i64 b]) := by rw [h]
/-- Both ReadHash, at a text of another length. -/
def badCode (s : ByteArray) : Int := if 65536 < s.size then 2 else 3
theorem implReadHash_no (s : ByteArray) (w : World) (hs : s.size ≤ maxLen) (h : s.size ≠ 64) :
    Calls Try.prog 13 #[.string s] w fun e w' => e = .returned (.tuple #[.string ⟨#[]⟩, .int .i64 (badCode s)]) ∧ w' = w := by
  unfold maxLen at hs
  by_cases hb : 65536 < s.size
  · have hc : badCode s = 2 := if_pos hb
    have h1 : (65536 : Int) < (s.size : Int) := by omega
    go_enter Try.func13, Try.ntmps13
    go_wp2
    go_ret2
    exact ⟨ret_code hc.symm, rfl⟩
  · have hc : badCode s = 3 := if_neg hb
    have h1 : (s.size : Int) ≤ 65536 := by omega
    have h2 : ((s.size : Int) != 64) = true := by rw [bne_iff_ne]; omega
    go_enter Try.func13, Try.ntmps13
    go_wp2
    go_ret2
    exact ⟨ret_code hc.symm, rfl⟩
theorem specReadHash_no (s : ByteArray) (w : World) (hs : s.size ≤ maxLen) (h : s.size ≠ 64) :
    Calls Try.prog 12 #[.string s] w fun e w' => e = .returned (.tuple #[.string ⟨#[]⟩, .int .i64 (badCode s)]) ∧ w' = w := by
  unfold maxLen at hs
  by_cases hb : 65536 < s.size
  · have hc : badCode s = 2 := if_pos hb
    have h1 : (65536 : Int) < (s.size : Int) := by omega
    go_enter Try.func12, Try.ntmps12
    go_wp2
    go_ret2
    exact ⟨ret_code hc.symm, rfl⟩
  · have hc : badCode s = 3 := if_neg hb
    have h1 : (s.size : Int) ≤ 65536 := by omega
    have h2 : ((s.size : Int) != 64) = true := by rw [bne_iff_ne]; omega
    go_enter Try.func12, Try.ntmps12
    go_wp2
    go_ret2
    exact ⟨ret_code hc.symm, rfl⟩
end Go.Proofs.Ytcbhaafemepdhaa.Rd
