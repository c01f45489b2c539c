/- The way up from a piece: impl.proofSize, provedRoot, the specification's l09Up. -/
import Derived.Test.YtgakmjonfecnhaaDoorPy
namespace Go.Proofs.YtgakmjonfecnhaaDoor.Pw
open Go.RowKit Go.Proofs.YtgakmjonfecnhaaDoor.Sl Go.Proofs.YtgakmjonfecnhaaDoor.By Go.Proofs.YtgakmjonfecnhaaDoor.Ap Go.Proofs.YtgakmjonfecnhaaDoor.Tx Go.Proofs.YtgakmjonfecnhaaDoor.Sh Go.Proofs.YtgakmjonfecnhaaDoor.Ho Go.Proofs.YtgakmjonfecnhaaDoor.Se Go.Proofs.YtgakmjonfecnhaaDoor.Ka Go.Proofs.YtgakmjonfecnhaaDoor.Sx Go.Proofs.YtgakmjonfecnhaaDoor.Pf Go.Proofs.YtgakmjonfecnhaaDoor.Px Go.Proofs.YtgakmjonfecnhaaDoor.Py

/-- How many roots stand beside the way up. -/
def szP : Nat → Nat → Nat → Nat
  | 0, _, _ => 0
  | f + 1, k, n => if n = 1 then 0 else if k < half n then szP f k (half n) + 1 else szP f (k - half n) (n - half n) + 1
theorem szP_one {f k n : Nat} (h : n = 1) : szP (f + 1) k n = 0 := if_pos h
theorem szP_left {f k n : Nat} (h : n ≠ 1) (hk : k < half n) : szP (f + 1) k n = szP f k (half n) + 1 := by show (if _ then _ else _) = _; rw [if_neg h, if_pos hk]
theorem szP_right {f k n : Nat} (h : n ≠ 1) (hk : ¬ k < half n) : szP (f + 1) k n = szP f (k - half n) (n - half n) + 1 := by show (if _ then _ else _) = _; rw [if_neg h, if_neg hk]
theorem szP_le : ∀ (f k n : Nat), szP f k n ≤ f
  | 0, _, _ => Nat.le_refl _
  | f + 1, k, n => by
    by_cases h : n = 1
    · rw [szP_one h]; omega
    · by_cases hk : k < half n
      · rw [szP_left h hk]; have := szP_le f k (half n); omega
      · rw [szP_right h hk]; have := szP_le f (k - half n) (n - half n); omega
def upF : Nat → ByteArray → Nat → Nat → List ByteArray → ByteArray
  | 0, h, _, _, _ => h
  | f + 1, h, k, n, ps => if n = 1 then h else
      if k < half n then node (upF f h k (half n) (ps.take (ps.length - 1))) (tnth ps (ps.length - 1))
      else node (tnth ps (ps.length - 1)) (upF f h (k - half n) (n - half n) (ps.take (ps.length - 1)))
theorem upF_one {f k n : Nat} {h : ByteArray} {ps : List ByteArray} (hn : n = 1) : upF (f + 1) h k n ps = h := if_pos hn
theorem upF_left {f k n : Nat} {h : ByteArray} {ps : List ByteArray} (hn : n ≠ 1) (hk : k < half n) : upF (f + 1) h k n ps = node (upF f h k (half n) (ps.take (ps.length - 1))) (tnth ps (ps.length - 1)) := by show (if _ then _ else _) = _; rw [if_neg hn, if_pos hk]
theorem upF_right {f k n : Nat} {h : ByteArray} {ps : List ByteArray} (hn : n ≠ 1) (hk : ¬ k < half n) : upF (f + 1) h k n ps = node (tnth ps (ps.length - 1)) (upF f h (k - half n) (n - half n) (ps.take (ps.length - 1))) := by show (if _ then _ else _) = _; rw [if_neg hn, if_neg hk]
set_option maxRecDepth 100000 in
set_option maxHeartbeats 800000 in
theorem proofSize_any : ∀ (f k n : Nat) (w : World), k < n → n ≤ f → f ≤ 64 →
    Calls Tryd.prog 75 #[.int .i64 k, .int .i64 n] w fun e w' => e = .returned (.int .i64 (szP f k n)) ∧ w = w'
  | 0, k, n, w, h1, h2, _ => by omega
  | f + 1, k, n, w, h1, h2, hf => by
    by_cases hone : n = 1
    · have HE : Hid (szP (f + 1) k n = 0) := szP_one hone
      rw [HE.out]
      subst hone
      clear HE h2 hf
      go_enter Tryd.func75, Tryd.ntmps75
      go_wp2_with fail
      go_ret
      exact ⟨rfl, rfl⟩
    · obtain ⟨q1, q2, q3⟩ := half_lt (show 2 ≤ n by omega)
      have HF : Hid (Calls Tryd.prog 98 #[.int .i64 n] w fun e w' => e = .returned (.int .i64 (half n)) ∧ w = w') := forkOf_any n w (by omega) (by omega)
      have hn1 : ((n : Int) == 1) = false := by rw [beq_eq_false_iff_ne]; omega
      by_cases hk : k < half n
      · have HE : Hid (szP (f + 1) k n = szP f k (half n) + 1) := szP_left hone hk
        have HL : Hid (Calls Tryd.prog 75 #[.int .i64 k, .int .i64 (half n)] w fun e w' => e = .returned (.int .i64 (szP f k (half n))) ∧ w = w') := proofSize_any f k (half n) w hk (by omega) (by omega)
        have hz := szP_le f k (half n)
        rw [HE.out]
        generalize szP f k (half n) = z at HL hz
        generalize half n = m at q1 q2 q3 HF HL hk
        have p0 : (k : Int) < (m : Int) := by omega
        clear HE h2 hone
        go_enter Tryd.func75, Tryd.ntmps75
        go_wp2_with fail
        refine HF.out.mono ?_
        rintro e w1 ⟨rfl, rfl⟩
        go_wp2_with fail
        refine HL.out.mono ?_
        rintro e w1 ⟨rfl, rfl⟩
        go_wp2_with fail
        go_ret
        exact ⟨retI (by omega), rfl⟩
      · have HE : Hid (szP (f + 1) k n = szP f (k - half n) (n - half n) + 1) := szP_right hone hk
        have HL0 := proofSize_any f (k - half n) (n - half n) w (by omega) (by omega) (by omega)
        rw [show ((k - half n : Nat) : Int) = (k : Int) - (half n : Int) by omega, show ((n - half n : Nat) : Int) = (n : Int) - (half n : Int) by omega] at HL0
        have HL : Hid (Calls Tryd.prog 75 #[.int .i64 ((k : Int) - (half n : Int)), .int .i64 ((n : Int) - (half n : Int))] w fun e w' => e = .returned (.int .i64 (szP f (k - half n) (n - half n))) ∧ w = w') := HL0
        have hz := szP_le f (k - half n) (n - half n)
        rw [HE.out]
        generalize szP f (k - half n) (n - half n) = z at HL hz
        generalize half n = m at q1 q2 q3 HF HL hk
        have p0 : ¬ (k : Int) < (m : Int) := by omega
        have w1 : IntKind.i64.wrap ((k : Int) - (m : Int)) = (k : Int) - (m : Int) := by rw [IntKind.wrap_i64]; omega
        have w2 : IntKind.i64.wrap ((n : Int) - (m : Int)) = (n : Int) - (m : Int) := by rw [IntKind.wrap_i64]; omega
        have w3 : wrap64 ((k : Int) - (m : Int)) = (k : Int) - (m : Int) := by unfold wrap64; omega
        have w4 : wrap64 ((n : Int) - (m : Int)) = (n : Int) - (m : Int) := by unfold wrap64; omega
        clear HE h2 hone HL0
        go_enter Tryd.func75, Tryd.ntmps75
        go_wp2_with fail
        refine HF.out.mono ?_
        rintro e w1 ⟨rfl, rfl⟩
        go_wp2_with fail
        refine HL.out.mono ?_
        rintro e w1 ⟨rfl, rfl⟩
        go_wp2_with fail
        go_ret
        exact ⟨retI (by omega), rfl⟩
end Go.Proofs.YtgakmjonfecnhaaDoor.Pw
