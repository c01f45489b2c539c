/- What both ReadHash functions read: digits, two a byte. -/
import Derived.Test.YtcbhaafemepdhaaRows
import Derived.Test.YtcbhaafemepdhaaBy
import Derived.WalkKit
import Derived.ProofKit
import Derived.WalkSpells
import Derived.Deep.AppendLies
namespace Go.Proofs.Ytcbhaafemepdhaa.Rd
open Go.RowKit
theorem info5 : (Try.prog.info? 5).map (fun i => (i.zero, i.size, i.bytes)) = some (some (.int .u8 0), 1, 1) := by kernel_rfl

def nibI (n : Int) : Int := if 48 ≤ n ∧ n ≤ 57 then n - 48 else if 97 ≤ n ∧ n ≤ 102 then n - 87 else -1
theorem nib_range (n : Int) : -1 ≤ nibI n ∧ nibI n ≤ 15 := by unfold nibI; split <;> (try split) <;> omega
theorem regions (n : Int) : n ≤ 47 ∨ (48 ≤ n ∧ n ≤ 57) ∨ (58 ≤ n ∧ n ≤ 96) ∨ (97 ≤ n ∧ n ≤ 102) ∨ 103 ≤ n := by omega
theorem ret_int {a b : Int} (h : a = b) : Ending.returned (.int .i64 a) = .returned (.int .i64 b) := by rw [h]
theorem l01Nibble_any (n : Int) (h0 : 0 ≤ n) (h1 : n ≤ 255) (w : World) :
    Calls Try.prog 24 #[.int .u8 n] w fun e w' => e = .returned (.int .i64 (nibI n)) ∧ w' = w := by
  rcases regions n with h | ⟨h, h'⟩ | ⟨h, h'⟩ | ⟨h, h'⟩ | h
  all_goals
    go_enter Try.func24, Try.ntmps24
    go_wp2
    go_ret
    exact ⟨ret_int (by unfold nibI; split <;> (try split) <;> omega), rfl⟩
theorem digitValue_any (n : Int) (h0 : 0 ≤ n) (h1 : n ≤ 255) (w : World) :
    Calls Try.prog 25 #[.int .u8 n] w fun e w' => e = .returned (.int .i64 (nibI n)) ∧ w' = w := by
  rcases regions n with h | ⟨h, h'⟩ | ⟨h, h'⟩ | ⟨h, h'⟩ | h
  all_goals
    go_enter Try.func25, Try.ntmps25
    go_wp2
    go_ret
    exact ⟨ret_int (by unfold nibI; split <;> (try split) <;> omega), rfl⟩

def byteAt (s : ByteArray) (i : Nat) : Int := ((s.data.toList.getD i 0).toNat : Int)
theorem byteAt_eq (s : ByteArray) (i : Nat) (h : i < s.size) : byteAt s i = ((s[i]'h).toNat : Int) := by
  have : i < s.data.toList.length := by simpa using h
  unfold byteAt
  simp only [List.getD_eq_getElem?_getD, List.getElem?_eq_getElem this]
  rfl
def nb (s : ByteArray) (i : Nat) : Int := nibI (byteAt s i)
theorem nb_eq (s : ByteArray) (i : Nat) (h : i < s.size) : nibI ((s[i]'h).toNat : Int) = nb s i := by unfold nb; rw [byteAt_eq s i h]
/-- The bytes that the first 2k digits tell. -/
def readTo (s : ByteArray) (k : Nat) : List Int := (List.range k).map fun q => 16 * nb s (2 * q) + nb s (2 * q + 1)
theorem readTo_length (s : ByteArray) (k : Nat) : (readTo s k).length = k := by simp [readTo]
theorem readTo_succ (s : ByteArray) (k : Nat) : readTo s (k + 1) = readTo s k ++ [16 * nb s (2 * k) + nb s (2 * k + 1)] := by simp [readTo, List.range_succ]
/-- All of the text's signs are digits. -/
def allB (s : ByteArray) : Bool := (List.range 64).all fun i => decide (0 ≤ nb s i)
/-- What both answer at a text of 64 bytes. -/
def answer (s : ByteArray) : Value := if allB s then .tuple #[.string (strOfNums (readTo s 32)), .int .i64 0] else .tuple #[.string ⟨#[]⟩, .int .i64 3]
theorem answer_no (s : ByteArray) (i : Nat) (h : i < 64) (hn : nb s i < 0) : answer s = .tuple #[.string ⟨#[]⟩, .int .i64 3] := by
  unfold answer allB; rw [if_neg]; simp only [List.all_eq_true, List.mem_range, decide_eq_true_eq]; intro h'; have := h' i h; omega
theorem answer_yes (s : ByteArray) (h : ∀ i, i < 64 → 0 ≤ nb s i) : answer s = .tuple #[.string (strOfNums (readTo s 32)), .int .i64 0] := by
  unfold answer allB; rw [if_pos]; simp only [List.all_eq_true, List.mem_range, decide_eq_true_eq]; exact h
theorem ret_val {a b : Value} (h : a = b) : Ending.returned a = .returned b := by rw [h]

set_option maxHeartbeats 800000 in
theorem specReadHash_yes (s : ByteArray) (w : World) (hs : s.size = 64) :
    Calls Try.prog 12 #[.string s] w fun e w' => e = .returned (answer s) ∧ Below w.heap.size w w' := by
  obtain ⟨i0, hi, hz0, hz1, hz2⟩ := info_parts info5
  have hs1 : (s.size : Int) ≤ 64 := by omega
  have hs2 : ((s.size : Int) != 64) = false := by simp; omega
  have hs3 : (64 : Int) ≤ (s.size : Int) := by omega
  have HS : Hid (s.size = 64) := hs
  clear hs
  go_enter Try.func12, Try.ntmps12
  go_wp2_with fail
  go_loopw [4, 5] (fun v i wr => ∃ k : Nat, k ≤ 32 ∧ i = .int .i64 (2 * (k : Int)) ∧ By.OwnB 5 wr w.heap.size v (readTo s k) ∧ Below w.heap.size w wr ∧ Hid (∀ j, j < 2 * k → 0 ≤ nb s j)) (fun _ i _ => 64 - (intOf i).toNat)
  case atStart => exact ⟨0, by omega, rfl, By.own_made 5 w w.heap.size #[] 0 (Nat.le_refl _) (by simp [maxLen]) rfl, (Below.refl _ _).alloc (Nat.le_refl _) _, fun j hj => absurd hj (by omega)⟩
  case round =>
    obtain ⟨k, hk, rfl, hown, hbel, hall⟩ := hrel
    by_cases hlt : k < 32
    · have hl : (readTo s k).length + 1 ≤ 140737488355328 := by rw [readTo_length]; omega
      have hB := hbel.size
      have h1 : 2 * k < s.size := by have := HS.out; omega
      have h2 : 2 * k + 1 < s.size := by have := HS.out; omega
      have b1 := (s[2 * k]'h1).toNat_lt
      have b2 := (s[2 * k + 1]'h2).toNat_lt
      have e1 := nb_eq s (2 * k) h1
      have e2 := nb_eq s (2 * k + 1) h2
      have r1 : -1 ≤ nb s (2 * k) ∧ nb s (2 * k) ≤ 15 := nib_range _
      have r2 : -1 ≤ nb s (2 * k + 1) ∧ nb s (2 * k + 1) ≤ 15 := nib_range _
      by_cases n1 : nb s (2 * k) < 0
      · have HA : Hid (answer s = .tuple #[.string ⟨#[]⟩, .int .i64 3]) := answer_no s (2 * k) (by omega) n1
        go_wp2_with (go_at_call 24; refine (l01Nibble_any _ (by omega) (by omega) _).mono ?_; rintro e w' ⟨rfl, rfl⟩)
        go_ret2
        exact ⟨ret_val HA.out.symm, hbel⟩
      by_cases n2 : nb s (2 * k + 1) < 0
      · have HA : Hid (answer s = .tuple #[.string ⟨#[]⟩, .int .i64 3]) := answer_no s (2 * k + 1) (by omega) n2
        go_wp2_with (go_at_call 24; refine (l01Nibble_any _ (by omega) (by omega) _).mono ?_; rintro e w' ⟨rfl, rfl⟩)
        go_ret2
        exact ⟨ret_val HA.out.symm, hbel⟩
      have hsn : Hid (readTo s (k + 1) = readTo s k ++ [16 * nb s (2 * k) + nb s (2 * k + 1)]) := readTo_succ s k
      go_wp2_with (first | (go_at_call 24; refine (l01Nibble_any _ (by omega) (by omega) _).mono ?_; rintro e w' ⟨rfl, rfl⟩) | (at_builtin; go_must (refine By.wpList_append_byte (by rfl) _ _ 25 (by rfl) 5 i0 Try.underlying25 hi hz0 hz1 hz2 w.heap.size w _ _ _ _ (by rfl) hown hbel hB (by rfl) hl ?_; intro v' w' hown' hbel' hB')))
      rw [← hsn.out] at hown'
      clear hown hbel
      go_wp2
      go_roundw
      case rel => exact ⟨k + 1, by omega, by go_num, hown', hbel', fun j hj => by by_cases e : j < 2 * k; exact hall.out j e; by_cases e' : j = 2 * k; (subst e'; omega); (obtain rfl : j = 2 * k + 1 := by omega); omega⟩
      case measure => simp [intOf]; omega
    · obtain rfl : k = 32 := by omega
      have HA : Hid (answer s = .tuple #[.string (strOfNums (readTo s 32)), .int .i64 0]) := answer_yes s hall.out
      have hcv := By.run_convert_own (P := Try.prog) wr w.heap.size 25 5 9 Try.underlying25 Try.underlying5 Try.underlying9 u4 _ hown
      clear hown
      go_wp2
      go_ret2
      exact ⟨ret_val HA.out.symm, hbel⟩
end Go.Proofs.Ytcbhaafemepdhaa.Rd
