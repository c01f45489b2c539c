import Derived.Test.YtcbhaafemepdhaaRows
import Derived.Test.YtcbhaafemepdhaaBy
import Derived.WalkKit
import Derived.ProofKit
import Derived.Deep.AppendLies
import Derived.WalkSpells
namespace Go.Proofs.Ytcbhaafemepdhaa.Bt
open Go.RowKit
theorem info5 : (Try.prog.info? 5).map (fun i => (i.zero, i.size, i.bytes)) = some (some (.int .u8 0), 1, 1) := by kernel_rfl

def bitI (n k : Nat) : Int := (48 + bits BinOp.and IntKind.u8 ((n : Int) / 2 ^ k) 1) % 256
def bits8 (n : Nat) : List Int := [bitI n 7, bitI n 6, bitI n 5, bitI n 4, bitI n 3, bitI n 2, bitI n 1, bitI n 0]
def bitsTo (s : ByteArray) (k : Nat) : List Int := (s.data.toList.take k).flatMap fun b => bits8 b.toNat
theorem bitsTo_length (s : ByteArray) (k : Nat) (h : k ≤ s.size) : (bitsTo s k).length = 8 * k := by
  unfold bitsTo
  rw [List.length_flatMap]
  have : ((s.data.toList.take k).map fun b => (bits8 b.toNat).length) = (s.data.toList.take k).map fun _ => 8 := rfl
  rw [this]
  rw [List.map_const', List.sum_replicate_nat, List.length_take]
  have : s.data.toList.length = s.size := by simp
  omega
theorem bitsTo_succ (s : ByteArray) (k : Nat) (h : k < s.size) : bitsTo s (k + 1) = bitsTo s k ++ bits8 (s[k]'h).toNat := by
  unfold bitsTo
  have e : s.data.toList.take (k + 1) = s.data.toList.take k ++ [s[k]] := by
    rw [List.take_succ_eq_append_getElem (by simpa using h)]; rfl
  rw [e, List.flatMap_append]
  simp

def B8 (n j : Nat) : Prop := (bits8 n).take (j + 1) = (bits8 n).take j ++ [(48 + bits BinOp.and IntKind.u8 ((n : Int) / 2 ^ (7 - j)) 1) % 256]
theorem b8 (n j : Nat) (h : j < 8) : B8 n j := by
  unfold B8
  match j, h with
  | 0, _ => rfl
  | 1, _ => rfl
  | 2, _ => rfl
  | 3, _ => rfl
  | 4, _ => rfl
  | 5, _ => rfl
  | 6, _ => rfl
  | 7, _ => rfl

set_option maxHeartbeats 400000 in
theorem l01Bits_any (s : ByteArray) (w : World) (hs : s.size = 32) :
    Calls Try.prog 27 #[.string s] w fun e w' => e = .returned (.string (strOfNums (bitsTo s 32))) ∧ Below w.heap.size w w' := by
  obtain ⟨i0, hi, hz0, hz1, hz2⟩ := info_parts info5
  have hs1 : (s.size : Int) ≤ 32 := by omega
  have hs2 : (32 : Int) ≤ (s.size : Int) := by omega
  have HS : Hid (s.size = 32) := hs
  clear hs
  go_enter Try.func27, Try.ntmps27
  go_wp2_with fail
  go_loopw [3, 4] (fun v i wr => ∃ k : Nat, k ≤ 32 ∧ i = .int .i64 k ∧ By.OwnB 5 wr w.heap.size v (bitsTo s k) ∧ Below w.heap.size w wr) (fun _ i _ => 32 - (intOf i).toNat)
  case atStart => exact ⟨0, by omega, rfl, By.own_made 5 w w.heap.size #[] 0 (Nat.le_refl _) (by simp [maxLen]) rfl, (Below.refl _ _).alloc (Nat.le_refl _) _⟩
  case round =>
    obtain ⟨k, hk, rfl, hown, hbel⟩ := hrel
    by_cases hlt : k < s.size
    · go_wp2_with fail
      go_loopw [3, 5] (fun v i wr => ∃ j : Nat, j ≤ 8 ∧ i = .int .i64 (7 - (j : Int)) ∧ By.OwnB 5 wr w.heap.size v (bitsTo s k ++ (bits8 (s[k]'hlt).toNat).take j) ∧ Below w.heap.size w wr) (fun _ i _ => (intOf i + 1).toNat)
      case atStart => exact ⟨0, by omega, rfl, by simpa using hown, hbel⟩
      case round =>
        clear hown hbel
        obtain ⟨j, hj, rfl, hown, hbel⟩ := hrel
        by_cases hj8 : j < 8
        · have hpos : (0 : Int) ≤ 7 - (j : Int) := by omega
          have hl : (bitsTo s k ++ (bits8 (s[k]'hlt).toNat).take j).length + 1 ≤ 140737488355328 := by rw [List.length_append, List.length_take, bitsTo_length s k (by omega)]; omega
          have HB := b8 (s[k]'hlt).toNat j hj8
          have hB := hbel.size
          go_wp2_with (at_builtin; go_must (refine By.wpList_append_byte (by rfl) _ _ 25 (by rfl) 5 i0 Try.underlying25 hi hz0 hz1 hz2 w.heap.size w wr _ _ _ (by rfl) hown hbel hB (by rfl) hl ?_; intro v' w' hown' hbel' hB'))
          clear hown hbel hB
          go_wp2
          go_roundw
          case rel => exact ⟨j + 1, by omega, by go_num, by rw [HB, ← List.append_assoc]; exact hown', hbel'⟩
          case measure => simp [intOf]; omega
        · have hsn := bitsTo_succ s k hlt
          have hj' : j = 8 := by omega
          subst hj'
          have hown2 : By.OwnB 5 wr w.heap.size u3 (bitsTo s (k + 1)) := by rw [hsn]; exact hown
          clear hsn hown
          go_wp2
          go_roundw
          case rel => exact ⟨k + 1, by omega, by go_num, hown2, hbel⟩
          case measure => simp [intOf]; omega
    · have hk' : k = 32 := by omega
      subst hk'
      have hcv := By.run_convert_own (P := Try.prog) wr w.heap.size 25 5 9 Try.underlying25 Try.underlying5 Try.underlying9 u3 _ hown
      clear hown
      go_wp2
      go_ret
      exact ⟨rfl, hbel⟩
end Go.Proofs.Ytcbhaafemepdhaa.Bt
