import Derived.Test.YtimmeclclilpdaaGreatDoorRows
import Derived.Test.YtimmeclclilpdaaGreatDoorBy
import Derived.Test.YtimmeclclilpdaaGreatDoorHf
import Derived.WalkKit
import Derived.ProofKit
import Derived.Deep.AppendLies
import Derived.WalkSpells
import Derived.Laws.NewBlocks
import Derived.Laws.BytesArg
namespace Go.Proofs.YtimmeclclilpdaaGreatDoor.Bt
open Go.RowKit
theorem info5 : (Tryz.prog.info? 5).map (fun i => (i.zero, i.size, i.bytes)) = some (some (.int .u8 0), 1, 1) := by kernel_rfl

def bitI (n k : Nat) : Int := (48 + bits BinOp.and IntKind.u8 ((n : Int) / 2 ^ k) 1) % 256
def bits8 (n : Nat) : List Int := [bitI n 7, bitI n 6, bitI n 5, bitI n 4, bitI n 3, bitI n 2, bitI n 1, bitI n 0]
def bitsTo (s : ByteArray) (k : Nat) : List Int := (s.data.toList.take k).flatMap fun b => bits8 b.toNat
theorem bitsTo_length (s : ByteArray) (k : Nat) (h : k ≤ s.size) : (bitsTo s k).length = 8 * k := by
  unfold bitsTo
  rw [List.length_flatMap]
  have : ((s.data.toList.take k).map fun b => (bits8 b.toNat).length) = (s.data.toList.take k).map fun _ => 8 := rfl
  rw [this]
  rw [List.map_const', List.sum_replicate_nat, List.length_take]
  have : s.data.toList.length = s.size := by simp
  omega
theorem bitsTo_succ (s : ByteArray) (k : Nat) (h : k < s.size) : bitsTo s (k + 1) = bitsTo s k ++ bits8 (s[k]'h).toNat := by
  unfold bitsTo
  have e : s.data.toList.take (k + 1) = s.data.toList.take k ++ [s[k]] := by
    rw [List.take_succ_eq_append_getElem (by simpa using h)]; rfl
  rw [e, List.flatMap_append]
  simp

def B8 (n j : Nat) : Prop := (bits8 n).take (j + 1) = (bits8 n).take j ++ [(48 + bits BinOp.and IntKind.u8 ((n : Int) / 2 ^ (7 - j)) 1) % 256]
theorem b8 (n j : Nat) (h : j < 8) : B8 n j := by
  unfold B8
  match j, h with
  | 0, _ => rfl
  | 1, _ => rfl
  | 2, _ => rfl
  | 3, _ => rfl
  | 4, _ => rfl
  | 5, _ => rfl
  | 6, _ => rfl
  | 7, _ => rfl

def zeros256 : Array Value := Array.replicate 256 (.int .u8 0)
theorem zero36 (w : World) : Sem.run Tryz.prog (zeroValue 142) w = .ok (.agg zeros256) w := by kernel_rfl
theorem flat_at (f : UInt8 → List Int) (hf : ∀ b, (f b).length = 8) : ∀ (l : List UInt8) (i : Nat), (l.flatMap f)[i]? = (l[i / 8]?).bind fun b => (f b)[i % 8]?
  | [], i => by simp
  | b :: l, i => by
    rw [List.flatMap_cons]
    by_cases h : i < 8
    · rw [List.getElem?_append_left (by rw [hf]; exact h), Nat.div_eq_of_lt h, Nat.mod_eq_of_lt h]
      simp
    · rw [List.getElem?_append_right (by rw [hf]; omega), hf, flat_at f hf l (i - 8), show i / 8 = (i - 8) / 8 + 1 by omega, show (i - 8) % 8 = i % 8 by omega]
      simp
theorem bits8_at (n r : Nat) (h : r < 8) : (bits8 n)[r]? = some (bitI n (7 - r)) := by
  match r, h with
  | 0, _ => rfl
  | 1, _ => rfl
  | 2, _ => rfl
  | 3, _ => rfl
  | 4, _ => rfl
  | 5, _ => rfl
  | 6, _ => rfl
  | 7, _ => rfl
theorem bitsTo_at (s : ByteArray) (hs : s.size = 32) (i : Nat) (h : i / 8 < s.size) : (bitsTo s 32).getD i 0 = bitI (s[i / 8]'h).toNat (7 - i % 8) := by
  have hl : s.data.toList.length = s.size := by simp
  have e : s.data.toList.take 32 = s.data.toList := List.take_of_length_le (by omega)
  have e2 : s.data.toList[i / 8]? = some (s[i / 8]'h) := by rw [List.getElem?_eq_getElem (by omega)]; rfl
  unfold bitsTo
  rw [e, List.getD_eq_getElem?_getD, flat_at _ (fun _ => rfl), e2]
  simp [bits8_at _ (i % 8) (Nat.mod_lt _ (by decide))]

set_option maxRecDepth 100000 in
set_option maxHeartbeats 400000 in
theorem implHashBits_yes (s : ByteArray) (w : World) (hs : s.size = 32) :
    Calls Tryz.prog 100 #[.string s] w fun e w' => e = .returned (.tuple #[.string (strOfNums (bitsTo s 32)), .int .i64 0]) ∧ Below w.heap.size w w' := by
  have hs1 : (s.size : Int) ≤ 32 := by omega
  have hs2 : ((s.size : Int) != 32) = false := by simp; omega
  have HS : Hid (s.size = 32) := hs
  have hz := zero36 w
  clear hs
  go_enter Tryz.func100, Tryz.ntmps100
  go_wp2_with (go_at_call 71; refine (Hf.hashFault_ok s _ HS.out).mono ?_; rintro e w' ⟨rfl, rfl⟩)
  clear hz
  go_loopw [12] (fun i wr => ∃ k : Nat, ∃ A : Array Value, k ≤ 256 ∧ i = .int .i64 k ∧ wr = w.alloc (.cells A 142) ∧ Hid (A.size = 256 ∧ ∀ j, j < k → A[j]? = some (.int .u8 ((bitsTo s 32).getD j 0)))) (fun i _ => 256 - (intOf i).toNat)
  case atStart => exact ⟨0, zeros256, by omega, rfl, rfl, by unfold zeros256; simp, fun j hj => absurd hj (by omega)⟩
  case round =>
    obtain ⟨k, A, hk, rfl, rfl, hA⟩ := hrel
    by_cases hlt : k < 256
    · have h1 : (k : Int) / 8 < s.size := by have := HS.out; omega
      have h2 : k / 8 < s.size := by have := HS.out; omega
      obtain ⟨x, hx⟩ : ∃ x, A[k]? = some x := ⟨_, Array.getElem?_eq_getElem (by rw [hA.out.1]; exact hlt)⟩
      have hA' : Hid ((A.setIfInBounds k (.int .u8 ((48 + bits BinOp.and IntKind.u8 (((s[k / 8]'h2).toNat : Int) / 2 ^ (7 - k % 8)) 1) % 256))).size = 256 ∧ ∀ j, j < k + 1 → (A.setIfInBounds k (.int .u8 ((48 + bits BinOp.and IntKind.u8 (((s[k / 8]'h2).toNat : Int) / 2 ^ (7 - k % 8)) 1) % 256)))[j]? = some (.int .u8 ((bitsTo s 32).getD j 0))) := by
        refine ⟨by rw [Array.size_setIfInBounds]; exact hA.out.1, fun j hj => ?_⟩
        rw [Array.getElem?_setIfInBounds]
        by_cases e : k = j
        · subst e
          rw [if_pos rfl, if_pos (by rw [hA.out.1]; exact hlt), bitsTo_at s HS.out k h2]
          rfl
        · rw [if_neg e]
          exact hA.out.2 j (by omega)
      go_wp2_with fail
      go_roundw
      case rel => exact ⟨k + 1, _, by omega, by go_num, rfl, hA'⟩
      case measure => simp [intOf]; omega
    · obtain rfl : k = 256 := by omega
      have hcv : (convert 22 9 (.slice (some ⟨w.heap.size, 0, none⟩) 256 256)).run Tryz.prog (w.alloc (.cells A 142)) = .ok (.string (strOfNums (bitsTo s 32))) (w.alloc (.cells A 142)) := by
        refine run_convert_bytes_arg _ 22 5 Tryz.underlying22 Tryz.underlying5 w.heap.size 0 256 256 _ (bitsTo_length s 32 (by have := HS.out; omega)) (fun i hi => ?_) 9 Tryz.underlying9
        rw [Nat.zero_add, World.cell?_alloc_at _ _ _ _ rfl]
        exact hA.out.2 i hi
      go_wp2_with fail
      go_ret2
      exact ⟨rfl, (Below.refl _ _).alloc (Nat.le_refl _) _⟩

theorem ret_code {s : ByteArray} {a b : Int} (h : a = b) : Ending.returned (.tuple #[.string s, .int .i64 a]) = .returned (.tuple #[.string s, .int .i64 b]) := by rw [h]
/-- Both HashBits, at a text that is no hash. -/
def badCode (s : ByteArray) : Int := if 65536 < s.size then 2 else 1
end Go.Proofs.YtimmeclclilpdaaGreatDoor.Bt
