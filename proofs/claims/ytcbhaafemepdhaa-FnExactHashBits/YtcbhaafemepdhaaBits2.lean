import Derived.Test.YtcbhaafemepdhaaBits
import Derived.Laws.NewBlocks
namespace Go.Proofs.Ytcbhaafemepdhaa.Bt
open Go.RowKit

def zeros256 : Array Value := Array.replicate 256 (.int .u8 0)
theorem zero36 (w : World) : Sem.run Try.prog (zeroValue 36) w = .ok (.agg zeros256) w := by kernel_rfl
theorem flat_at (f : UInt8 → List Int) (hf : ∀ b, (f b).length = 8) : ∀ (l : List UInt8) (i : Nat), (l.flatMap f)[i]? = (l[i / 8]?).bind fun b => (f b)[i % 8]?
  | [], i => by simp
  | b :: l, i => by
    rw [List.flatMap_cons]
    by_cases h : i < 8
    · rw [List.getElem?_append_left (by rw [hf]; exact h), Nat.div_eq_of_lt h, Nat.mod_eq_of_lt h]
      simp
    · rw [List.getElem?_append_right (by rw [hf]; omega), hf, flat_at f hf l (i - 8), show i / 8 = (i - 8) / 8 + 1 by omega, show (i - 8) % 8 = i % 8 by omega]
      simp
theorem bits8_at (n r : Nat) (h : r < 8) : (bits8 n)[r]? = some (bitI n (7 - r)) := by
  match r, h with
  | 0, _ => rfl
  | 1, _ => rfl
  | 2, _ => rfl
  | 3, _ => rfl
  | 4, _ => rfl
  | 5, _ => rfl
  | 6, _ => rfl
  | 7, _ => rfl
theorem bitsTo_at (s : ByteArray) (hs : s.size = 32) (i : Nat) (h : i / 8 < s.size) : (bitsTo s 32).getD i 0 = bitI (s[i / 8]'h).toNat (7 - i % 8) := by
  have hl : s.data.toList.length = s.size := by simp
  have e : s.data.toList.take 32 = s.data.toList := List.take_of_length_le (by omega)
  have e2 : s.data.toList[i / 8]? = some (s[i / 8]'h) := by rw [List.getElem?_eq_getElem (by omega)]; rfl
  unfold bitsTo
  rw [e, List.getD_eq_getElem?_getD, flat_at _ (fun _ => rfl), e2]
  simp [bits8_at _ (i % 8) (Nat.mod_lt _ (by decide))]

set_option maxRecDepth 100000 in
set_option maxHeartbeats 400000 in
theorem implHashBits_yes (s : ByteArray) (w : World) (hs : s.size = 32) :
    Calls Try.prog 19 #[.string s] w fun e w' => e = .returned (.tuple #[.string (strOfNums (bitsTo s 32)), .int .i64 0]) ∧ Below w.heap.size w w' := by
  have hs1 : (s.size : Int) ≤ 32 := by omega
  have hs2 : ((s.size : Int) != 32) = false := by simp; omega
  have HS : Hid (s.size = 32) := hs
  have hz := zero36 w
  clear hs
  go_enter Try.func19, Try.ntmps19
  go_wp2_with fail
  clear hz
  go_loopw [12] (fun i wr => ∃ k : Nat, ∃ A : Array Value, k ≤ 256 ∧ i = .int .i64 k ∧ wr = w.alloc (.cells A 36) ∧ Hid (A.size = 256 ∧ ∀ j, j < k → A[j]? = some (.int .u8 ((bitsTo s 32).getD j 0)))) (fun i _ => 256 - (intOf i).toNat)
  case atStart => exact ⟨0, zeros256, by omega, rfl, rfl, by unfold zeros256; simp, fun j hj => absurd hj (by omega)⟩
  case round =>
    obtain ⟨k, A, hk, rfl, rfl, hA⟩ := hrel
    by_cases hlt : k < 256
    · have h1 : (k : Int) / 8 < s.size := by have := HS.out; omega
      have h2 : k / 8 < s.size := by have := HS.out; omega
      obtain ⟨x, hx⟩ : ∃ x, A[k]? = some x := ⟨_, Array.getElem?_eq_getElem (by rw [hA.out.1]; exact hlt)⟩
      have hA' : Hid ((A.setIfInBounds k (.int .u8 ((48 + bits BinOp.and IntKind.u8 (((s[k / 8]'h2).toNat : Int) / 2 ^ (7 - k % 8)) 1) % 256))).size = 256 ∧ ∀ j, j < k + 1 → (A.setIfInBounds k (.int .u8 ((48 + bits BinOp.and IntKind.u8 (((s[k / 8]'h2).toNat : Int) / 2 ^ (7 - k % 8)) 1) % 256)))[j]? = some (.int .u8 ((bitsTo s 32).getD j 0))) := by
        refine ⟨by rw [Array.size_setIfInBounds]; exact hA.out.1, fun j hj => ?_⟩
        rw [Array.getElem?_setIfInBounds]
        by_cases e : k = j
        · subst e
          rw [if_pos rfl, if_pos (by rw [hA.out.1]; exact hlt), bitsTo_at s HS.out k h2]
          rfl
        · rw [if_neg e]
          exact hA.out.2 j (by omega)
      go_wp2_with fail
      go_roundw
      case rel => exact ⟨k + 1, _, by omega, by go_num, rfl, hA'⟩
      case measure => simp [intOf]; omega
    · obtain rfl : k = 256 := by omega
      have hcv : (convert 25 9 (.slice (some ⟨w.heap.size, 0, none⟩) 256 256)).run Try.prog (w.alloc (.cells A 36)) = .ok (.string (strOfNums (bitsTo s 32))) (w.alloc (.cells A 36)) := by
        refine run_convert_bytes_arg _ 25 5 Try.underlying25 Try.underlying5 w.heap.size 0 256 256 _ (bitsTo_length s 32 (by have := HS.out; omega)) (fun i hi => ?_) 9 Try.underlying9
        rw [Nat.zero_add, World.cell?_alloc_at _ _ _ _ rfl]
        exact hA.out.2 i hi
      go_wp2_with fail
      go_ret2
      exact ⟨rfl, (Below.refl _ _).alloc (Nat.le_refl _) _⟩

theorem ret_code {s : ByteArray} {a b : Int} (h : a = b) : Ending.returned (.tuple #[.string s, .int .i64 a]) = .returned (.tuple #[.string s, .int .i64 b]) := by rw [h]
/-- Both HashBits, at a text that is no hash. -/
def badCode (s : ByteArray) : Int := if 65536 < s.size then 2 else 1
theorem implHashBits_no (s : ByteArray) (w : World) (hs : s.size ≤ maxLen) (h : s.size ≠ 32) :
    Calls Try.prog 19 #[.string s] w fun e w' => e = .returned (.tuple #[.string ⟨#[]⟩, .int .i64 (badCode s)]) ∧ w' = w := by
  unfold maxLen at hs
  by_cases hb : 65536 < s.size
  · have hc : badCode s = 2 := if_pos hb
    have h1 : (65536 : Int) < (s.size : Int) := by omega
    go_enter Try.func19, Try.ntmps19
    go_wp2
    go_ret2
    exact ⟨ret_code hc.symm, rfl⟩
  · have hc : badCode s = 1 := if_neg hb
    have h1 : (s.size : Int) ≤ 65536 := by omega
    have h2 : ((s.size : Int) != 32) = true := by rw [bne_iff_ne]; omega
    go_enter Try.func19, Try.ntmps19
    go_wp2
    go_ret2
    exact ⟨ret_code hc.symm, rfl⟩
theorem specHashBits_no (s : ByteArray) (w : World) (hs : s.size ≤ maxLen) (h : s.size ≠ 32) :
    Calls Try.prog 18 #[.string s] w fun e w' => e = .returned (.tuple #[.string ⟨#[]⟩, .int .i64 (badCode s)]) ∧ w' = w := by
  unfold maxLen at hs
  by_cases hb : 65536 < s.size
  · have hc : badCode s = 2 := if_pos hb
    have h1 : (65536 : Int) < (s.size : Int) := by omega
    go_enter Try.func18, Try.ntmps18
    go_wp2
    go_ret2
    exact ⟨ret_code hc.symm, rfl⟩
  · have hc : badCode s = 1 := if_neg hb
    have h1 : (s.size : Int) ≤ 65536 := by omega
    have h2 : ((s.size : Int) != 32) = true := by rw [bne_iff_ne]; omega
    go_enter Try.func18, Try.ntmps18
    go_wp2
    go_ret2
    exact ⟨ret_code hc.symm, rfl⟩
theorem specHashBits_yes (s : ByteArray) (w : World) (hs : s.size = 32) :
    Calls Try.prog 18 #[.string s] w fun e w' => e = .returned (.tuple #[.string (strOfNums (bitsTo s 32)), .int .i64 0]) ∧ Below w.heap.size w w' := by
  have hs1 : (s.size : Int) ≤ 32 := by omega
  have hs2 : ((s.size : Int) != 32) = false := by simp; omega
  have HS : Hid (s.size = 32) := hs
  clear hs
  go_enter Try.func18, Try.ntmps18
  go_wp2_with (go_at_call 27; refine (l01Bits_any _ _ HS.out).mono ?_; rintro e w' ⟨rfl, hbel⟩)
  go_ret2
  exact ⟨rfl, hbel⟩
end Go.Proofs.Ytcbhaafemepdhaa.Bt
