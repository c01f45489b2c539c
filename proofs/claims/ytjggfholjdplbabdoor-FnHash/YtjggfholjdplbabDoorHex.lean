/- What both HashText functions gather: two digits a byte. -/
import Derived.Test.YtjggfholjdplbabDoorRows
import Derived.Test.YtjggfholjdplbabDoorBy
import Derived.Test.YtjggfholjdplbabDoorHf
import Derived.WalkKit
import Derived.ProofKit
import Derived.WalkSpells
import Derived.Deep.AppendLies
import Derived.Deep.RegionLaw
namespace Go.Proofs.YtjggfholjdplbabDoor.Hx
open Go.RowKit
theorem info5 : (Tryd.prog.info? 5).map (fun i => (i.zero, i.size, i.bytes)) = some (some (.int .u8 0), 1, 1) := by kernel_rfl

abbrev digits : ByteArray := ⟨#[48, 49, 50, 51, 52, 53, 54, 55, 56, 57, 97, 98, 99, 100, 101, 102]⟩
def digI (n : Nat) : Int := ((digits.data.toList.getD n 0).toNat : Int)
def hex2 (n : Nat) : List Int := [digI (n / 16), digI (n % 16)]
def hexTo (s : ByteArray) (k : Nat) : List Int := (s.data.toList.take k).flatMap fun b => hex2 b.toNat
theorem hexTo_length (s : ByteArray) (k : Nat) (h : k ≤ s.size) : (hexTo s k).length = 2 * k := by
  unfold hexTo
  rw [List.length_flatMap]
  have : ((s.data.toList.take k).map fun b => (hex2 b.toNat).length) = (s.data.toList.take k).map fun _ => 2 := rfl
  rw [this, List.map_const', List.sum_replicate_nat, List.length_take]
  have : s.data.toList.length = s.size := by simp
  omega
theorem hexTo_succ (s : ByteArray) (k : Nat) (h : k < s.size) : hexTo s (k + 1) = hexTo s k ++ hex2 (s[k]'h).toNat := by
  unfold hexTo
  have e : s.data.toList.take (k + 1) = s.data.toList.take k ++ [s[k]] := by
    rw [List.take_succ_eq_append_getElem (by simpa using h)]; rfl
  rw [e, List.flatMap_append]
  simp

theorem digI_at (n : Nat) (h : n < digits.size) : ((digits[n]'h).toNat : Int) = digI n := by
  have : n < digits.data.toList.length := h
  unfold digI
  simp only [List.getD_eq_getElem?_getD, List.getElem?_eq_getElem this]
  rfl
theorem own_step {w' : World} {B : Nat} {v' : Value} (s : ByteArray) (k : Nat) (hlt : k < s.size) (a b : Nat) (ha : a = (s[k]'hlt).toNat / 16) (hb : b = (s[k]'hlt).toNat % 16) (p1 : a < digits.size) (p2 : b < digits.size)
    (h : By.OwnB 5 w' B v' (hexTo s k ++ [((digits[a]'p1).toNat : Int), ((digits[b]'p2).toNat : Int)])) : By.OwnB 5 w' B v' (hexTo s (k + 1)) := by
  rw [hexTo_succ s k hlt]
  rw [digI_at, digI_at] at h
  subst ha hb
  exact h

def zeros64 : Array Value := Array.replicate 64 (.int .u8 0)
theorem make64 (w : World) : Sem.run Tryd.prog (Instr.makeSlice 22 (.int .i64 0) (.int .i64 64)) w = .ok (.slice (some ⟨w.heap.size, 0, none⟩) 0 64) (w.alloc (.cells zeros64 5)) := by kernel_rfl
theorem zeros64_size : zeros64.size = 64 := by unfold zeros64; simp

set_option maxHeartbeats 800000 in
theorem implHashText_yes (s : ByteArray) (w : World) (hs : s.size = 32) :
    Calls Tryd.prog 5 #[.string s] w fun e w' => e = .returned (.tuple #[.string (strOfNums (hexTo s 32)), .int .i64 0]) ∧ Below w.heap.size w w' := by
  obtain ⟨i0, hi, hz0, hz1, hz2⟩ := info_parts info5
  have hs1 : (s.size : Int) ≤ 32 := by omega
  have hs2 : ((s.size : Int) != 32) = false := by simp; omega
  have HS : Hid (s.size = 32) := hs
  have hmk := make64 w
  clear hs
  go_enter Tryd.func5, Tryd.ntmps5
  go_wp2_with fail
  refine (Hf.hashFault_ok s _ HS.out).mono ?_
  rintro e w1 ⟨rfl, rfl⟩
  go_wp2_with fail
  clear hmk
  go_loopw [5, 13] (fun v i wr => ∃ k : Nat, k ≤ 32 ∧ i = .int .i64 k ∧ By.OwnB 5 wr w.heap.size v (hexTo s k) ∧ Below w.heap.size w wr) (fun _ i _ => 32 - (intOf i).toNat)
  case atStart => exact ⟨0, by omega, rfl, By.own_made 5 w w.heap.size zeros64 64 (Nat.le_refl _) (by simp [maxLen]) zeros64_size, (Below.refl _ _).alloc (Nat.le_refl _) _⟩
  case round =>
    obtain ⟨k, hk, rfl, hown, hbel⟩ := hrel
    by_cases hlt : k < 32
    · have hlt' : k < s.size := by have := HS.out; omega
      have hl : (hexTo s k).length + 2 ≤ 140737488355328 := by rw [hexTo_length s k (by omega)]; omega
      have hB := hbel.size
      have hb0 : (0 : Int) ≤ (k : Int) := by omega
      have hb1 : (k : Int) < (s.size : Int) := by omega
      have hn := (s[k]'hlt').toNat_lt
      have hd1 : ((s[k]'hlt').toNat : Int) / 16 < 16 := by omega
      have hd2 : (0 : Int) ≤ ((s[k]'hlt').toNat : Int) / 16 := by omega
      have hd3 : ((s[k]'hlt').toNat : Int) % 16 < 16 := by omega
      have hd4 : (0 : Int) ≤ ((s[k]'hlt').toNat : Int) % 16 := by omega
      have hw2 : bits BinOp.and IntKind.u8 ((s[k]'hlt').toNat : Int) 15 = ((s[k]'hlt').toNat : Int) % 16 := u8_and15 _ (by omega) (by omega)
      go_wp2_with fail
      go_region_law ((refine By.step_append_two (by rfl) _ _ 22 (by rfl) 5 i0 Tryd.underlying22 hi hz0 hz1 hz2 w.heap.size w wr _ _ _ _ (by rfl) hown hbel hB (by rfl) hl ?_; intro v' w' hown' hbel' hB'))
      all_goals
        have hown2 := own_step s k hlt' _ _ (by omega) (by omega) _ _ hown'
        clear hown hown' hbel hw2
        go_wp2
        go_roundw
        case rel => exact ⟨k + 1, by omega, by go_num, hown2, hbel'⟩
        case measure => simp [intOf]; omega
    · obtain rfl : k = 32 := by omega
      have hcv := By.run_convert_own (P := Tryd.prog) wr w.heap.size 22 5 9 Tryd.underlying22 Tryd.underlying5 Tryd.underlying9 u5 _ hown
      clear hown
      go_wp2
      go_ret2
      exact ⟨rfl, hbel⟩
end Go.Proofs.YtjggfholjdplbabDoor.Hx
