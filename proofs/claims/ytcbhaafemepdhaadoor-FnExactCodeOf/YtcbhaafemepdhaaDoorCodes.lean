/- What both CodeWord and both CodeOf functions answer, where the table of words is as the program's text lays it. -/
import Derived.Test.YtcbhaafemepdhaaDoorRows
import Derived.WalkKit
import Derived.ProofKit
import Derived.WalkSpells
namespace Go.Proofs.YtcbhaafemepdhaaDoor.Cd
open Go.RowKit

def words : List (List UInt8) := [[111, 107], [98, 97, 100], [108, 111, 110, 103], [102, 111, 114, 109], [114, 97, 110, 103, 101], [110, 111, 110, 101], [109, 97, 110, 121], [102, 117, 108, 108], [115, 117, 109], [116, 119, 105, 99, 101], [112, 114, 111, 111, 102], [114, 111, 111, 116], [115, 105, 103, 110, 101, 100], [117, 115, 101, 100], [112, 114, 105, 109, 97, 114, 121], [97, 103, 97, 105, 110], [108, 97, 116, 101], [118, 105, 101, 119], [104, 101, 108, 100], [113, 117, 111, 114, 117, 109]]
def wordAt (i : Nat) : ByteArray := ⟨(words.getD i []).toArray⟩
/-- The table as the walks ask it. -/
def Tab (w : World) : Prop := ∀ i, i < 20 → w.cell? ⟨0, i, none⟩ = some (.string (wordAt i))
def wordOf (n : Int) : ByteArray := if 0 ≤ n ∧ n < 20 then wordAt n.toNat else ⟨#[]⟩
theorem ret_str {a b : ByteArray} (h : a = b) : Ending.returned (.string a) = .returned (.string b) := by rw [h]
def wordVals : List Value := words.map fun l => .string ⟨l.toArray⟩
theorem wordVals_length : wordVals.length = 20 := by decide +kernel
theorem at_word (k : Nat) (h : k < wordVals.length) : wordVals[k] = .string (wordAt k) := by
  have hk : k < words.length := by simpa [wordVals] using h
  simp [wordVals, wordAt, List.getD_eq_getElem?_getD, List.getElem?_eq_getElem hk]

set_option maxHeartbeats 1000000 in
theorem specCodeWord_any (n : Int) (w : World) :
    Calls Tryd.prog 14 #[.int .i64 n] w fun e w' => e = .returned (.string (wordOf n)) ∧ Below w.heap.size w w' := by
  by_cases h0 : n < 0
  · have HW : Hid (wordOf n = ⟨#[]⟩) := if_neg (by omega)
    go_enter Tryd.func14, Tryd.ntmps14
    go_wp2
    go_ret
    exact ⟨ret_str HW.out.symm, (Below.refl _ _).alloc (Nat.le_refl _) _⟩
  by_cases h1 : 20 ≤ n
  · have HW : Hid (wordOf n = ⟨#[]⟩) := if_neg (by omega)
    go_enter Tryd.func14, Tryd.ntmps14
    go_wp2
    go_ret
    exact ⟨ret_str HW.out.symm, (Below.refl _ _).alloc (Nat.le_refl _) _⟩
  have HW : Hid (wordOf n = wordAt n.toNat) := if_pos (by omega)
  have h2 : 0 ≤ n := by omega
  have h3 : n < 20 := by omega
  go_enter Tryd.func14, Tryd.ntmps14
  go_wp2
  go_ret
  exact ⟨(congrArg Ending.returned (at_word n.toNat (by rw [wordVals_length]; omega))).trans (ret_str HW.out.symm), (Below.refl _ _).alloc (Nat.le_refl _) _⟩

set_option maxHeartbeats 1000000 in
theorem implCodeWord_any (n : Int) (w : World) (hT : Tab w) :
    Calls Tryd.prog 15 #[.int .i64 n] w fun e w' => e = .returned (.string (wordOf n)) ∧ w' = w := by
  by_cases h0 : n < 0
  · have HW : Hid (wordOf n = ⟨#[]⟩) := if_neg (by omega)
    go_enter Tryd.func15, Tryd.ntmps15
    go_wp2
    go_ret
    exact ⟨ret_str HW.out.symm, rfl⟩
  by_cases h1 : 20 ≤ n
  · have HW : Hid (wordOf n = ⟨#[]⟩) := if_neg (by omega)
    go_enter Tryd.func15, Tryd.ntmps15
    go_wp2
    go_ret
    exact ⟨ret_str HW.out.symm, rfl⟩
  have HW : Hid (wordOf n = wordAt n.toNat) := if_pos (by omega)
  have hc := hT n.toNat (by omega)
  go_enter Tryd.func15, Tryd.ntmps15
  go_wp2
  go_ret
  exact ⟨ret_str HW.out.symm, rfl⟩

theorem tab_below {w w' : World} {B : Nat} (h : Tab w) (hb : Below B w w') (hB : 0 < B) : Tab w' := fun i hi => (hb.cell (p := ⟨0, i, none⟩) hB).trans (h i hi)

/-- The first word from k on that is s: what both CodeOf answer. -/
def codeFrom (s : ByteArray) : Nat → Nat → Int
  | 0, _ => -1
  | fuel + 1, k => if wordAt k = s then (k : Int) else codeFrom s fuel (k + 1)
theorem codeFrom_hit (s : ByteArray) (f k : Nat) (h : wordAt k = s) (hf : 0 < f) : codeFrom s f k = k := by
  cases f with
  | zero => omega
  | succ f => exact if_pos h
theorem codeFrom_miss (s : ByteArray) (f k : Nat) (h : ¬ wordAt k = s) : codeFrom s (f + 1) k = codeFrom s f (k + 1) := if_neg h
theorem texts_ne {a b : ByteArray} (h : ¬ a = b) : (a.toList == b.toList) = false := by
  rw [beq_eq_false_iff_ne, ByteArray.toList_eq, ByteArray.toList_eq]
  exact fun e => h (WideShapes.bytes_inj e)
theorem ret_int {a b : Int} (h : a = b) : Ending.returned (.int .i64 a) = .returned (.int .i64 b) := by rw [h]

set_option maxHeartbeats 400000 in
theorem implCodeOf_any (s : ByteArray) (w : World) (hT : Tab w) :
    Calls Tryd.prog 17 #[.string s] w fun e w' => e = .returned (.int .i64 (codeFrom s 20 0)) ∧ w' = w := by
  go_enter Tryd.func17, Tryd.ntmps17
  go_wp2_with fail
  go_loop [4] (fun i => ∃ k : Nat, k ≤ 20 ∧ i = .int .i64 k ∧ Hid (codeFrom s (20 - k) k = codeFrom s 20 0)) (fun i => 20 - (intOf i).toNat)
  case atStart => exact ⟨0, by omega, rfl, rfl⟩
  case round =>
    obtain ⟨k, hk, rfl, hH⟩ := hrel
    by_cases hlt : k < 20
    · have hc := hT k hlt
      by_cases he : wordAt k = s
      · have HN : Hid (codeFrom s 20 0 = k) := by show codeFrom s 20 0 = k; rw [← hH.out, codeFrom_hit s _ k he (by omega)]
        go_wp2
        go_ret
        exact ⟨ret_int HN.out.symm, rfl⟩
      · have HN : Hid (codeFrom s (20 - (k + 1)) (k + 1) = codeFrom s 20 0) := by
          show codeFrom s (20 - (k + 1)) (k + 1) = codeFrom s 20 0
          rw [← hH.out, show 20 - k = (20 - (k + 1)) + 1 by omega, codeFrom_miss s _ k he]
        have hf1 : ((wordAt k).toList == s.toList) = false := texts_ne he
        go_wp2
        go_round
        case rel => exact ⟨k + 1, by omega, by go_num, HN⟩
        case measure => simp [intOf]; omega
    · obtain rfl : k = 20 := by omega
      have HN : Hid (codeFrom s 20 0 = -1) := hH.out.symm
      go_wp2
      go_ret
      exact ⟨ret_int HN.out.symm, rfl⟩

set_option maxHeartbeats 400000 in
theorem specCodeOf_any (s : ByteArray) (w : World) :
    Calls Tryd.prog 16 #[.string s] w fun e w' => e = .returned (.int .i64 (codeFrom s 20 0)) ∧ Below w.heap.size w w' := by
  go_enter Tryd.func16, Tryd.ntmps16
  go_wp2_with fail
  go_loopw [3] (fun i wr => ∃ k : Nat, k ≤ 20 ∧ i = .int .i64 k ∧ Below w.heap.size w wr ∧ Hid (codeFrom s (20 - k) k = codeFrom s 20 0)) (fun i _ => 20 - (intOf i).toNat)
  case atStart => exact ⟨0, by omega, rfl, Below.refl _ _, rfl⟩
  case round =>
    obtain ⟨k, hk, rfl, hbel, hH⟩ := hrel
    by_cases hlt : k < 20
    · have hwo : wordOf (k : Int) = wordAt k := if_pos (by omega)
      by_cases he : wordAt k = s
      · have HN : Hid (codeFrom s 20 0 = k) := by show codeFrom s 20 0 = k; rw [← hH.out, codeFrom_hit s _ k he (by omega)]
        go_wp2_with (go_at_call 14; refine (specCodeWord_any _ _).mono ?_; rintro e w' ⟨rfl, hb1⟩)
        go_ret
        exact ⟨ret_int HN.out.symm, hbel.trans (hb1.mono hbel.size)⟩
      · have HN : Hid (codeFrom s (20 - (k + 1)) (k + 1) = codeFrom s 20 0) := by
          show codeFrom s (20 - (k + 1)) (k + 1) = codeFrom s 20 0
          rw [← hH.out, show 20 - k = (20 - (k + 1)) + 1 by omega, codeFrom_miss s _ k he]
        have hf1 : ((wordAt k).toList == s.toList) = false := texts_ne he
        go_wp2_with (go_at_call 14; refine (specCodeWord_any _ _).mono ?_; rintro e w' ⟨rfl, hb1⟩)
        go_roundw
        case rel => exact ⟨k + 1, by omega, by go_num, hbel.trans (hb1.mono hbel.size), HN⟩
        case measure => simp [intOf]; omega
    · obtain rfl : k = 20 := by omega
      have HN : Hid (codeFrom s 20 0 = -1) := hH.out.symm
      go_wp2
      go_ret
      exact ⟨ret_int HN.out.symm, hbel⟩
end Go.Proofs.YtcbhaafemepdhaaDoor.Cd
