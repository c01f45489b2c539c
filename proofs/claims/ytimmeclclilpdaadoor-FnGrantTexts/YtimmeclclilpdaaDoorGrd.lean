/- Grants' texts: digits, the texts of both sides, both GrantText functions. -/
import Derived.Test.YtimmeclclilpdaaDoorGrb
import Derived.Test.YtimmeclclilpdaaDoorShb
import Derived.Test.YtimmeclclilpdaaDoorShelfI
import Derived.Test.YtimmeclclilpdaaDoorSl
import Derived.Test.YtimmeclclilpdaaDoorAp
import Derived.Test.YtimmeclclilpdaaDoorQc
import Derived.Lib.AppendIntMem
import Derived.Deep.Cut
import Derived.Deep.RegionLaw
import Derived.Deep.RegionWith
namespace Go.Proofs.YtimmeclclilpdaaDoor.Gr12
open Go.RowKit Go.Sort Go.Proofs.YtimmeclclilpdaaDoor.Bd12 Go.Proofs.YtimmeclclilpdaaDoor.Ap
open Go.Lib (decDigits itoa)
open Go.Proofs.YtimmeclclilpdaaDoor.Rq (inB opB ret_bool)

/-- The table of powers of ten is as it is laid. -/
def PTab (w : World) : Prop := Lib.TabIs Tryd.prog w "internal/strconv.uint64pow10" .u64 Lib.pow10Tab
theorem PTab.below {w w' : World} (h : PTab w) (hb : Below w.heap.size w w') : PTab w' := Lib.tabBelow_of_tabIs h w' hb
theorem ret_str {a b : ByteArray} (h : a = b) : Ending.returned (.string a) = .returned (.string b) := by rw [h]
theorem grow_below (w : World) (k : Nat) (os : Array Obj) : Below w.heap.size w (grow (w.drewN k) os) := by
  refine ⟨rfl, rfl, rfl, by simp [grow, World.drewN], fun b hb => ?_⟩
  simp [grow, World.drewN, Array.getElem?_append, hb]
theorem itoa_any (n : Int) (h0 : -9223372036854775808 ≤ n) (h1 : n ≤ 9223372036854775807) (w : World) (ht : PTab w) :
    Calls Tryd.prog 55 #[.int .i64 n] w fun e w' => e = .returned (.string (baL (itoa n))) ∧ Below w.heap.size w w' :=
  (Sf.itoa_laid n h0 h1 w ht).mono fun e w' ⟨he, k, os, hw⟩ => ⟨he, by rw [hw]; exact grow_below w k os⟩
theorem own_one' (w : World) (B : Nat) (z : Int) (hB : B ≤ w.heap.size) : By.OwnB 5 (w.alloc (.cells #[.int .u8 z] 5)) B (.slice (some ⟨w.heap.size, 0, none⟩) 1 1) [z] := by
  refine ⟨rfl, .inr ⟨w.heap.size, 1, #[.int .u8 z], rfl, hB, heap_alloc_new w _, Nat.le_refl _, by unfold maxLen; decide, rfl, rfl⟩⟩
theorem conv1 (W : World) (g B : Nat) (z : Int) (h : By.OwnB 5 W B (.slice (some ⟨g, 0, none⟩) 1 1) [z]) : (convert 22 9 (.slice (some ⟨g, 0, none⟩) 1 1)).run Tryd.prog W = .ok (.string (strOfNums [z])) W := by
  exact By.run_convert_own (P := Tryd.prog) W B 22 5 9 Tryd.underlying22 Tryd.underlying5 Tryd.underlying9 _ [z] h
theorem one_list (z : Nat) (_h : z < 256) : strOfNums [(z : Int)] = baL [UInt8.ofNat z] := by
  unfold strOfNums baL
  simp
theorem baL_app (a b : List UInt8) : baL a ++ baL b = baL (a ++ b) := by
  unfold baL
  apply ByteArray.ext
  simp
theorem baL_size (a : List UInt8) : (baL a).size = a.length := by unfold baL; simp [ByteArray.size]
set_option maxRecDepth 100000 in
set_option maxHeartbeats 1600000 in
theorem l00Digits_any : ∀ (f n : Nat) (w : World), n < 10 ^ f → f ≤ 18 →
    Calls Tryd.prog 58 #[.int .i64 n] w fun e w' => e = .returned (.string (baL (decDigits n))) ∧ Below w.heap.size w w'
  | 0, n, w, h, _ => by
    obtain rfl : n = 0 := by simpa using h
    have hcv := conv1 (w.alloc (.cells #[.int .u8 48] 5)) w.heap.size w.heap.size 48 (own_one' w _ 48 (Nat.le_refl _))
    have HE : Hid (strOfNums [48] = baL (decDigits 0)) := by show _ = _; rw [dec_lt (by decide)]; exact one_list 48 (by decide)
    go_enter Tryd.func58, Tryd.ntmps58
    go_wp2_with fail
    go_ret
    exact ⟨ret_str HE.out, bel1 _ _⟩
  | f + 1, n, w, h, hf => by
    have hn18 : n < 10 ^ 18 := Nat.lt_of_lt_of_le h (Nat.pow_le_pow_right (by decide) hf)
    have hn : n < 1000000000000000000 := hn18
    have hm : ((n : Int) == -9223372036854775808) = false := by rw [beq_eq_false_iff_ne]; omega
    have h0 : ¬ (n : Int) < 0 := by omega
    have hnI : (n : Int) ≤ 999999999999999999 := by omega
    have hnJ : (0 : Int) ≤ (n : Int) := by omega
    by_cases h10 : n < 10
    · have h10' : (n : Int) < 10 := by omega
      have hcv := conv1 (w.alloc (.cells #[.int .u8 (48 + (n : Int))] 5)) w.heap.size w.heap.size (48 + (n : Int)) (own_one' w _ _ (Nat.le_refl _))
      have HE : Hid (strOfNums [48 + (n : Int)] = baL (decDigits n)) := by
        show _ = _
        rw [dec_lt h10, show (48 + (n : Int)) = ((48 + n : Nat) : Int) by omega]
        exact one_list (48 + n) (by omega)
      clear hn18 h
      go_enter Tryd.func58, Tryd.ntmps58
      go_wp2_with fail
      go_ret
      exact ⟨ret_str HE.out, bel1 _ _⟩
    · have h10' : ¬ (n : Int) < 10 := by omega
      have HI : Hid (∀ W (z : Int), z = ((n / 10 : Nat) : Int) → Calls Tryd.prog 58 #[.int .i64 z] W fun e w' => e = .returned (.string (baL (decDigits (n / 10)))) ∧ Below W.heap.size W w') := fun W z hz => by
        rw [hz]
        exact l00Digits_any f (n / 10) W (by rw [Nat.pow_succ] at h; omega) (by omega)
      have ez : (IntKind.u8.wrap (IntKind.i64.wrap (48 + (n : Int).tmod 10))) = ((48 + n % 10 : Nat) : Int) := by
        rw [Int.tmod_eq_emod_of_nonneg hnJ, IntKind.wrap_u8, IntKind.wrap_i64]; omega
      have ew : IntKind.i64.wrap ((n : Int) / 10) = ((n / 10 : Nat) : Int) := by rw [IntKind.wrap_i64]; omega
      have HE : Hid (baL (decDigits (n / 10)) ++ strOfNums [(IntKind.u8.wrap (IntKind.i64.wrap (48 + (n : Int).tmod 10)))] = baL (decDigits n)) := by
        show _ = _
        rw [dec_ge h10, ez, one_list (48 + n % 10) (by omega), baL_app]
      have HL : Hid ((decDigits (n / 10)).length ≤ 18) := dec_len 17 _ (by omega)
      have hs1 : (strOfNums [(IntKind.u8.wrap (IntKind.i64.wrap (48 + (n : Int).tmod 10)))]).size = 1 := by rw [strOfNums_size]; rfl
      have hsz : ¬ 9223372036854775807 < (baL (decDigits (n / 10))).size + (strOfNums [(IntKind.u8.wrap (IntKind.i64.wrap (48 + (n : Int).tmod 10)))]).size := by rw [hs1, baL_size]; have := HL.out; omega
      have HW : Hid (IntKind.i64.wrap ((n : Int) / 10) = ((n / 10 : Nat) : Int)) := ew
      have hcv0 := conv1 (w.alloc (.cells #[.int .u8 (IntKind.u8.wrap (IntKind.i64.wrap (48 + (n : Int).tmod 10)))] 5)) w.heap.size w.heap.size (IntKind.u8.wrap (IntKind.i64.wrap (48 + (n : Int).tmod 10))) (own_one' w _ _ (Nat.le_refl _))
      have hcv1 := conv1 (w.alloc (.cells #[.int .u8 (IntKind.u8.wrap (IntKind.i64.wrap (48 + (n : Int).tmod 10)))] 5)).drew w.heap.size w.heap.size (IntKind.u8.wrap (IntKind.i64.wrap (48 + (n : Int).tmod 10))) (own_one' w _ _ (Nat.le_refl _))
      generalize baL (decDigits (n / 10)) = a at HI HE hsz
      clear hn18 h HL hs1 ez ew
      go_enter Tryd.func58, Tryd.ntmps58
      go_upto_region 7 with fail
      go_region_law (go_simp; go_at_call 58; refine (HI.out _ _ HW.out).mono ?_; rintro e w1 ⟨rfl, b1⟩; (first | (with_reducible (have hA := ordA rfl b1); obtain ⟨o1, g1, B1⟩ := hA; have hc1 := conv1 w1 _ _ _ o1) | (with_reducible (have hA := ordB rfl b1); obtain ⟨g1, B1⟩ := hA; have hc1 := conv1 (w1.alloc (.cells #[.int .u8 (IntKind.u8.wrap (IntKind.i64.wrap (48 + (n : Int).tmod 10)))] 5)) w1.heap.size w1.heap.size _ (own_one' w1 _ _ (Nat.le_refl _)))); try go_simp)
      all_goals
        go_wp2_with fail
        go_ret
        exact ⟨ret_str HE.out, by first | exact g1 | exact g1.alloc B1 _⟩
end Go.Proofs.YtimmeclclilpdaaDoor.Gr12
