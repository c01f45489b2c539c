/- Both HashText functions, at every text. -/
import Derived.Test.YtjggfholjdplbaaHex3
namespace Go.Proofs.Ytjggfholjdplbaa.Hx
open Go.RowKit

theorem ret_code {s : ByteArray} {a b : Int} (h : a = b) : Ending.returned (.tuple #[.string s, .int .i64 a]) = .returned (.tuple #[.string s, .int .i64 b]) := by rw [h]
/-- Both HashText, at a text that is no hash. -/
def badCode (s : ByteArray) : Int := if 65536 < s.size then 2 else 1
theorem implHashText_no (s : ByteArray) (w : World) (h : s.size ≠ 32) :
    Calls Try.prog 11 #[.string s] w fun e w' => e = .returned (.tuple #[.string ⟨#[]⟩, .int .i64 (badCode s)]) ∧ w' = w := by
  have HE : Hid (Hf.hf s = badCode s) := by show _ = _; unfold Hf.hf badCode; rw [if_neg h]
  have HN : Hid ((badCode s != 0) = true) := by show _ = _; unfold badCode; split <;> rfl
  go_enter Try.func11, Try.ntmps11
  go_wp2_with fail
  refine (Hf.hashFault_any s _).mono ?_
  rintro e w1 ⟨rfl, rfl⟩
  rw [HE.out]
  have hn := HN.out
  obtain ⟨c, HC⟩ : ∃ c, Hid (badCode s = c) := ⟨_, rfl⟩
  rw [HC.out] at hn ⊢
  go_wp2_with fail
  go_ret2
  exact ⟨ret_code HC.out.symm, rfl⟩
theorem specHashText_no (s : ByteArray) (w : World) (hs : s.size ≤ maxLen) (h : s.size ≠ 32) :
    Calls Try.prog 10 #[.string s] w fun e w' => e = .returned (.tuple #[.string ⟨#[]⟩, .int .i64 (badCode s)]) ∧ w' = w := by
  unfold maxLen at hs
  by_cases hb : 65536 < s.size
  · have hc : badCode s = 2 := if_pos hb
    have h1 : (65536 : Int) < (s.size : Int) := by omega
    go_enter Try.func10, Try.ntmps10
    go_wp2
    go_ret2
    exact ⟨ret_code hc.symm, rfl⟩
  · have hc : badCode s = 1 := if_neg hb
    have h1 : (s.size : Int) ≤ 65536 := by omega
    have h2 : ((s.size : Int) != 32) = true := by rw [bne_iff_ne]; omega
    go_enter Try.func10, Try.ntmps10
    go_wp2
    go_ret2
    exact ⟨ret_code hc.symm, rfl⟩
theorem specHashText_yes (s : ByteArray) (w : World) (hs : s.size = 32) :
    Calls Try.prog 10 #[.string s] w fun e w' => e = .returned (.tuple #[.string (strOfNums (hexTo s 32)), .int .i64 0]) ∧ Below w.heap.size w w' := by
  have hs1 : (s.size : Int) ≤ 32 := by omega
  have hs2 : ((s.size : Int) != 32) = false := by simp; omega
  have HS : Hid (s.size = 32) := hs
  clear hs
  go_enter Try.func10, Try.ntmps10
  go_wp2_with (go_at_call 16; refine (l01Hex_any _ _ HS.out).mono ?_; rintro e w' ⟨rfl, hbel⟩)
  go_ret2
  exact ⟨rfl, hbel⟩
end Go.Proofs.Ytjggfholjdplbaa.Hx
