/- What both ReadHash functions read: digits, two a byte. -/
import Derived.Test.YtjggfholjdplbabDoorRows
import Derived.Test.YtjggfholjdplbabDoorBy
import Derived.WalkKit
import Derived.ProofKit
import Derived.WalkSpells
import Derived.Deep.AppendLies
import Derived.Laws.NewBlocks
import Derived.Laws.BytesArg
namespace Go.Proofs.YtjggfholjdplbabDoor.Rd
open Go.RowKit
theorem info5 : (Tryd.prog.info? 5).map (fun i => (i.zero, i.size, i.bytes)) = some (some (.int .u8 0), 1, 1) := by kernel_rfl

def nibI (n : Int) : Int := if 48 ≤ n ∧ n ≤ 57 then n - 48 else if 97 ≤ n ∧ n ≤ 102 then n - 87 else -1
theorem nib_range (n : Int) : -1 ≤ nibI n ∧ nibI n ≤ 15 := by unfold nibI; split <;> (try split) <;> omega
theorem regions (n : Int) : n ≤ 47 ∨ (48 ≤ n ∧ n ≤ 57) ∨ (58 ≤ n ∧ n ≤ 96) ∨ (97 ≤ n ∧ n ≤ 102) ∨ 103 ≤ n := by omega
theorem ret_int {a b : Int} (h : a = b) : Ending.returned (.int .i64 a) = .returned (.int .i64 b) := by rw [h]
theorem digitValue_any (n : Int) (h0 : 0 ≤ n) (h1 : n ≤ 255) (w : World) :
    Calls Tryd.prog 16 #[.int .u8 n] w fun e w' => e = .returned (.int .i64 (nibI n)) ∧ w' = w := by
  rcases regions n with h | ⟨h, h'⟩ | ⟨h, h'⟩ | ⟨h, h'⟩ | h
  all_goals
    go_enter Tryd.func16, Tryd.ntmps16
    go_wp2
    go_ret
    exact ⟨ret_int (by unfold nibI; split <;> (try split) <;> omega), rfl⟩

def byteAt (s : ByteArray) (i : Nat) : Int := ((s.data.toList.getD i 0).toNat : Int)
theorem byteAt_eq (s : ByteArray) (i : Nat) (h : i < s.size) : byteAt s i = ((s[i]'h).toNat : Int) := by
  have : i < s.data.toList.length := by simpa using h
  unfold byteAt
  simp only [List.getD_eq_getElem?_getD, List.getElem?_eq_getElem this]
  rfl
def nb (s : ByteArray) (i : Nat) : Int := nibI (byteAt s i)
theorem nb_eq (s : ByteArray) (i : Nat) (h : i < s.size) : nibI ((s[i]'h).toNat : Int) = nb s i := by unfold nb; rw [byteAt_eq s i h]
/-- The bytes that the first 2k digits tell. -/
def readTo (s : ByteArray) (k : Nat) : List Int := (List.range k).map fun q => 16 * nb s (2 * q) + nb s (2 * q + 1)
theorem readTo_length (s : ByteArray) (k : Nat) : (readTo s k).length = k := by simp [readTo]
theorem readTo_succ (s : ByteArray) (k : Nat) : readTo s (k + 1) = readTo s k ++ [16 * nb s (2 * k) + nb s (2 * k + 1)] := by simp [readTo, List.range_succ]
/-- All of the text's signs are digits. -/
def allB (s : ByteArray) : Bool := (List.range 64).all fun i => decide (0 ≤ nb s i)
/-- What both answer at a text of 64 bytes. -/
def answer (s : ByteArray) : Value := if allB s then .tuple #[.string (strOfNums (readTo s 32)), .int .i64 0] else .tuple #[.string ⟨#[]⟩, .int .i64 3]
theorem answer_no (s : ByteArray) (i : Nat) (h : i < 64) (hn : nb s i < 0) : answer s = .tuple #[.string ⟨#[]⟩, .int .i64 3] := by
  unfold answer allB; rw [if_neg]; simp only [List.all_eq_true, List.mem_range, decide_eq_true_eq]; intro h'; have := h' i h; omega
theorem answer_yes (s : ByteArray) (h : ∀ i, i < 64 → 0 ≤ nb s i) : answer s = .tuple #[.string (strOfNums (readTo s 32)), .int .i64 0] := by
  unfold answer allB; rw [if_pos]; simp only [List.all_eq_true, List.mem_range, decide_eq_true_eq]; exact h
theorem ret_val {a b : Value} (h : a = b) : Ending.returned a = .returned b := by rw [h]

def zeros32 : Array Value := Array.replicate 32 (.int .u8 0)
theorem zero34 (w : World) : Sem.run Tryd.prog (zeroValue 37) w = .ok (.agg zeros32) w := by kernel_rfl
def cellAt (s : ByteArray) (k j : Nat) : Int := if 2 * j + 2 ≤ k then 16 * nb s (2 * j) + nb s (2 * j + 1) else if 2 * j + 1 ≤ k then nb s (2 * j) else 0
def Cells (s : ByteArray) (k : Nat) (A : Array Value) : Prop := A.size = 32 ∧ ∀ j, j < 32 → A[j]? = some (.int .u8 (cellAt s k j))
theorem cells_zero (s : ByteArray) : Cells s 0 zeros32 := by
  refine ⟨by unfold zeros32; simp, fun j hj => ?_⟩
  have : cellAt s 0 j = 0 := by unfold cellAt; rw [if_neg (by omega), if_neg (by omega)]
  rw [this]
  unfold zeros32
  simp [hj]

theorem or_join (x y : Int) (h0 : 0 ≤ x) (h1 : x ≤ 15) (h2 : 0 ≤ y) (h3 : y ≤ 15) : bits BinOp.or IntKind.u8 (x * 16 % 256) y = 16 * x + y := by
  rw [u8_or _ _ (by omega) (by omega) h2 (by omega), nat_join 4 _ _ (by omega) (by omega)]
  omega
theorem cells_step (s : ByteArray) (k : Nat) (A : Array Value) (hk : k < 64) (hA : Cells s k A) (hall : ∀ j, j < k → 0 ≤ nb s j) (h0 : 0 ≤ nb s k) :
    Cells s (k + 1) (A.setIfInBounds (k / 2) (.int .u8 (bits BinOp.or IntKind.u8 (cellAt s k (k / 2) * 16 % 256) (nb s k)))) := by
  refine ⟨by rw [Array.size_setIfInBounds]; exact hA.1, fun j hj => ?_⟩
  have hr : -1 ≤ nb s k ∧ nb s k ≤ 15 := nib_range _
  rw [Array.getElem?_setIfInBounds]
  by_cases e : k / 2 = j
  · rw [if_pos e, if_pos (by rw [hA.1]; omega), e]
    congr 2
    by_cases ev : k = 2 * j
    · have c1 : cellAt s k j = 0 := by unfold cellAt; rw [if_neg (by omega), if_neg (by omega)]
      have c2 : cellAt s (k + 1) j = nb s k := by unfold cellAt; rw [if_neg (by omega), if_pos (by omega), ev]
      rw [c1, c2, or_join 0 _ (by omega) (by omega) h0 (by omega)]
      omega
    · obtain rfl : k = 2 * j + 1 := by omega
      have c1 : cellAt s (2 * j + 1) j = nb s (2 * j) := by unfold cellAt; rw [if_neg (by omega), if_pos (by omega)]
      have c2 : cellAt s (2 * j + 1 + 1) j = 16 * nb s (2 * j) + nb s (2 * j + 1) := by unfold cellAt; rw [if_pos (by omega)]
      have hr2 : -1 ≤ nb s (2 * j) ∧ nb s (2 * j) ≤ 15 := nib_range _
      have := hall (2 * j) (by omega)
      rw [c1, c2, or_join _ _ this (by omega) h0 (by omega)]
  · rw [if_neg e, hA.2 j hj]
    congr 2
    unfold cellAt
    by_cases a : 2 * j + 2 ≤ k
    · rw [if_pos a, if_pos (by omega)]
    · rw [if_neg a, if_neg (show ¬ 2 * j + 2 ≤ k + 1 by omega)]
      by_cases b : 2 * j + 1 ≤ k
      · rw [if_pos b, if_pos (by omega)]
      · rw [if_neg b, if_neg (by omega)]

set_option maxRecDepth 100000 in
set_option maxHeartbeats 800000 in
theorem implReadHash_yes (s : ByteArray) (w : World) (hs : s.size = 64) :
    Calls Tryd.prog 6 #[.string s] w fun e w' => e = .returned (answer s) ∧ Below w.heap.size w w' := by
  have hs1 : (s.size : Int) ≤ 64 := by omega
  have hs2 : ((s.size : Int) != 64) = false := by simp; omega
  have hs3 : (64 : Int) ≤ (s.size : Int) := by omega
  have HS : Hid (s.size = 64) := hs
  have hz := zero34 w
  clear hs
  go_enter Tryd.func6, Tryd.ntmps6
  go_wp2_with fail
  clear hz
  go_loopw [15] (fun i wr => ∃ k : Nat, ∃ A : Array Value, k ≤ 64 ∧ i = .int .i64 k ∧ wr = w.alloc (.cells A 37) ∧ Cells s k A ∧ Hid (∀ j, j < k → 0 ≤ nb s j)) (fun i _ => 64 - (intOf i).toNat)
  case atStart => exact ⟨0, zeros32, by omega, rfl, rfl, cells_zero s, fun j hj => absurd hj (by omega)⟩
  case round =>
    obtain ⟨k, A, hk, rfl, rfl, hA, hall⟩ := hrel
    by_cases hlt : k < 64
    · have h1 : k < s.size := by have := HS.out; omega
      have b1 := (s[k]'h1).toNat_lt
      have e1 := nb_eq s k h1
      have r1 : -1 ≤ nb s k ∧ nb s k ≤ 15 := nib_range _
      by_cases n1 : nb s k < 0
      · have HA : Hid (answer s = .tuple #[.string ⟨#[]⟩, .int .i64 3]) := answer_no s k (by omega) n1
        go_wp2_with (go_at_call 16; refine (digitValue_any _ (by omega) (by omega) _).mono ?_; rintro e w' ⟨rfl, rfl⟩)
        go_ret2
        exact ⟨ret_val HA.out.symm, (Below.refl _ _).alloc (Nat.le_refl _) _⟩
      have hx : A[k / 2]? = some (.int .u8 (cellAt s k (k / 2))) := hA.2 (k / 2) (by omega)
      go_wp2_with (go_at_call 16; refine (digitValue_any _ (by omega) (by omega) _).mono ?_; rintro e w' ⟨rfl, rfl⟩)
      go_roundw
      case rel =>
        refine ⟨k + 1, _, by omega, by go_num, rfl, ?_, ?_⟩
        · exact cells_step s k A hlt hA hall.out n1
        · intro j hj
          by_cases e : j < k
          · exact hall.out j e
          · obtain rfl : j = k := by omega
            omega
      case measure => simp [intOf]; omega
    · obtain rfl : k = 64 := by omega
      have HA : Hid (answer s = .tuple #[.string (strOfNums (readTo s 32)), .int .i64 0]) := answer_yes s hall.out
      have hcv : (convert 22 9 (.slice (some ⟨w.heap.size, 0, none⟩) 32 32)).run Tryd.prog (w.alloc (.cells A 37)) = .ok (.string (strOfNums (readTo s 32))) (w.alloc (.cells A 37)) := by
        refine run_convert_bytes_arg _ 22 5 Tryd.underlying22 Tryd.underlying5 w.heap.size 0 32 32 _ (readTo_length s 32) (fun i hi => ?_) 9 Tryd.underlying9
        rw [Nat.zero_add, World.cell?_alloc_at _ _ _ _ rfl, hA.2 i hi]
        have : cellAt s 64 i = 16 * nb s (2 * i) + nb s (2 * i + 1) := by unfold cellAt; rw [if_pos (by omega)]
        rw [this]
        simp [readTo, List.getD_eq_getElem?_getD, hi]
      go_wp2_with fail
      go_ret2
      exact ⟨ret_val HA.out.symm, (Below.refl _ _).alloc (Nat.le_refl _) _⟩

theorem ret_code {s : ByteArray} {a b : Int} (h : a = b) : Ending.returned (.tuple #[.string s, .int .i64 a]) = .returned (.tuple #[.string s, .int .i64 b]) := by rw [h]
/-- Both ReadHash, at a text of another length. -/
def badCode (s : ByteArray) : Int := if 65536 < s.size then 2 else 3
end Go.Proofs.YtjggfholjdplbabDoor.Rd
