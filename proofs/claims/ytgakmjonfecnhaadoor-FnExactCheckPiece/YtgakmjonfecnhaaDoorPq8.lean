/- The way up from a piece, with its proof: impl.provedRoot, the specification's l09Up. -/
import Derived.Test.YtgakmjonfecnhaaDoorPw
import Derived.Deep.RegionLaw
namespace Go.Proofs.YtgakmjonfecnhaaDoor.Pw
open Go.RowKit Go.Proofs.YtgakmjonfecnhaaDoor.Sl Go.Proofs.YtgakmjonfecnhaaDoor.By Go.Proofs.YtgakmjonfecnhaaDoor.Ap Go.Proofs.YtgakmjonfecnhaaDoor.Tx Go.Proofs.YtgakmjonfecnhaaDoor.Sh Go.Proofs.YtgakmjonfecnhaaDoor.Ho Go.Proofs.YtgakmjonfecnhaaDoor.Se Go.Proofs.YtgakmjonfecnhaaDoor.Ka Go.Proofs.YtgakmjonfecnhaaDoor.Sx Go.Proofs.YtgakmjonfecnhaaDoor.Pf Go.Proofs.YtgakmjonfecnhaaDoor.Px Go.Proofs.YtgakmjonfecnhaaDoor.Py

theorem upF_size : ∀ (f : Nat) (h : ByteArray) (k n : Nat) (ps : List ByteArray), k < n → n ≤ f → h.size = 32 → (∀ p ∈ ps, p.size = 32) → ps.length = szP f k n → (upF f h k n ps).size = 32
  | 0, h, k, n, ps, h1, h2, _, _, _ => by omega
  | f + 1, h, k, n, ps, h1, h2, hh, hs, hz => by
    by_cases hone : n = 1
    · rw [upF_one hone]; exact hh
    · obtain ⟨q1, q2, _⟩ := half_lt (show 2 ≤ n by omega)
      by_cases hk : k < half n
      · rw [szP_left hone hk] at hz
        rw [upF_left hone hk]
        have a1 := upF_size f h k (half n) (ps.take (ps.length - 1)) hk (by omega) hh (fun p hp => hs p (List.mem_of_mem_take hp)) (by rw [List.length_take]; omega)
        have a2 := hs _ (tnth_mem (show ps.length - 1 < ps.length by omega))
        exact node_size _ _ (by omega) (by omega)
      · rw [szP_right hone hk] at hz
        rw [upF_right hone hk]
        have a1 := upF_size f h (k - half n) (n - half n) (ps.take (ps.length - 1)) (by omega) (by omega) hh (fun p hp => hs p (List.mem_of_mem_take hp)) (by rw [List.length_take]; omega)
        have a2 := hs _ (tnth_mem (show ps.length - 1 < ps.length by omega))
        exact node_size _ _ (by omega) (by omega)
set_option maxRecDepth 100000 in
set_option maxHeartbeats 3200000 in
theorem provedRoot_any : ∀ (f : Nat) (h : ByteArray) (k n : Nat) (ps : List ByteArray) (v : Value) (w : World), RowT w v ps → k < n → n ≤ f → f ≤ 64 → h.size = 32 → (∀ p ∈ ps, p.size = 32) → ps.length = szP f k n → KTab w → 0 < w.heap.size →
    Calls Tryd.prog 76 #[.string h, .int .i64 k, .int .i64 n, v] w fun e w' => e = .returned (.string (upF f h k n ps)) ∧ Below w.heap.size w w'
  | 0, h, k, n, ps, v, w, _, h1, h2, _, _, _, _, _, _ => by omega
  | f + 1, h, k, n, ps, v, w, hr, h1, h2, hf, hh, hs, hz, hK, hp => by
    have HR : Hid (RowT w v ps) := hr
    obtain ⟨a, cap, rfl, hrow⟩ := hr
    by_cases hone : n = 1
    · have HE : Hid (upF (f + 1) h k n ps = h) := upF_one hone
      rw [HE.out]
      subst hone
      clear HE h2 hf hh hs hz hK hp HR hrow
      go_enter Tryd.func76, Tryd.ntmps76
      go_wp2_with fail
      go_ret
      exact ⟨rfl, Below.refl _ _⟩
    · obtain ⟨q1, q2, q3⟩ := half_lt (show 2 ≤ n by omega)
      have HF : Hid (Calls Tryd.prog 98 #[.int .i64 n] w fun e w' => e = .returned (.int .i64 (half n)) ∧ w = w') := forkOf_any n w (by omega) (by omega)
      have hn1 : ((n : Int) == 1) = false := by rw [beq_eq_false_iff_ne]; omega
      have hpos : 1 ≤ ps.length := by
        by_cases hk : k < half n
        · rw [szP_left hone hk] at hz; omega
        · rw [szP_right hone hk] at hz; omega
      have hcap := rowT_cap HR.out hpos
      have hle : ps.length ≤ 64 := by have := szP_le (f + 1) k n; omega
      have a2 := hs _ (tnth_mem (show ps.length - 1 < ps.length by omega))
      rcases hrow with hrow | ⟨b, off, rfl, hc, hb, hcell⟩
      · rw [hrow] at hpos; exact absurd hpos (by simp)
      have hcl := hcell (ps.length - 1) (by omega)
      have G0 : Hid (Below w.heap.size w w.drew) := (Below.refl _ _).drew
      by_cases hk : k < half n
      · have HE : Hid (upF (f + 1) h k n ps = node (upF f h k (half n) (ps.take (ps.length - 1))) (tnth ps (ps.length - 1))) := upF_left hone hk
        have hz2 : (ps.take (ps.length - 1)).length = szP f k (half n) := by rw [szP_left hone hk] at hz; rw [List.length_take]; omega
        have HU : Hid (∀ W, Below w.heap.size w W → Calls Tryd.prog 76 #[.string h, .int .i64 k, .int .i64 (half n), .slice (some ⟨b, off, none⟩) (ps.length - 1) cap] W fun e w' => e = .returned (.string (upF f h k (half n) (ps.take (ps.length - 1)))) ∧ Below w.heap.size w w') := fun W hW =>
          (provedRoot_any f h k (half n) (ps.take (ps.length - 1)) _ W ((rowT_take HR.out (by omega)).below hW) hk (by omega) (by omega) hh (fun p hp => hs p (List.mem_of_mem_take hp)) hz2 (hK.below hW hp) (Nat.lt_of_lt_of_le hp hW.size)).mono fun e w' ⟨h1, h2⟩ => ⟨h1, hW.trans (h2.mono hW.size)⟩
        have a1 := upF_size f h k (half n) (ps.take (ps.length - 1)) hk (by omega) hh (fun p hp => hs p (List.mem_of_mem_take hp)) hz2
        obtain ⟨q, hq⟩ : ∃ q, ps.length = q + 1 := ⟨ps.length - 1, by omega⟩
        rw [show ps.length - 1 = q by omega] at HE HU a1 a2 hcl
        rw [hq] at hc hle hcap ⊢
        have HCL : Hid (∀ W, Below w.heap.size w W → W.cell? ⟨b, off + q, none⟩ = some (.string (tnth ps q))) := fun W hW => (hW.cell (p := ⟨b, off + q, none⟩) hb).trans hcl
        generalize tnth ps q = l at HE HCL hcl a2
        generalize upF f h k (half n) (ps.take q) = r at HE HU a1
        have HN : Hid (∀ W, Below w.heap.size w W → Calls Tryd.prog 91 #[.string r, .string l] W fun e w' => e = .returned (.string (node r l)) ∧ Below w.heap.size w w') := fun W hW =>
          (nodeOf_any r l W (by omega) (by omega) (hK.below hW hp) (Nat.lt_of_lt_of_le hp hW.size)).mono fun e w' ⟨h1, h2⟩ => ⟨h1, hW.trans (h2.mono hW.size)⟩
        rw [HE.out]
        have cd : w.drew.cell? ⟨b, off + q, none⟩ = some (.string l) := HCL.out _ G0.out
        clear HE hz hz2 hs hh hK HR hcell a1 a2 hq hone hpos hf h2
        generalize half n = m at q1 q2 q3 HF HU hk
        have p0 : (k : Int) < (m : Int) := by omega
        have p1 : (q : Int) ≤ (cap : Int) := by omega
        have p2 : (q : Int) + 1 ≤ (cap : Int) := by omega
        have p3 : (q : Int) < 64 := by omega
        have p5 : (q : Int) < (q : Int) + 1 := by omega
        go_enter Tryd.func76, Tryd.ntmps76
        go_wp2_with (first | (go_at_call 98; refine HF.out.mono ?_; rintro e w1 ⟨rfl, rfl⟩) | fail)
        go_region_law (first
          | (go_simp; go_at_call 91; refine (HN.out _ g3).mono ?_; rintro e w4 ⟨rfl, g4⟩; try go_simp)
          | (go_simp; go_at_call 76; refine (HU.out _ G0.out).mono ?_; rintro e w3 ⟨rfl, g3⟩; have c3 := HCL.out _ g3; try go_simp))
        all_goals
          go_wp2_with fail
          go_ret
          exact ⟨rfl, g4⟩
      · have HE : Hid (upF (f + 1) h k n ps = node (tnth ps (ps.length - 1)) (upF f h (k - half n) (n - half n) (ps.take (ps.length - 1)))) := upF_right hone hk
        have hz2 : (ps.take (ps.length - 1)).length = szP f (k - half n) (n - half n) := by rw [szP_right hone hk] at hz; rw [List.length_take]; omega
        have HU : Hid (∀ W, Below w.heap.size w W → Calls Tryd.prog 76 #[.string h, .int .i64 ((k : Int) - (half n : Int)), .int .i64 ((n : Int) - (half n : Int)), .slice (some ⟨b, off, none⟩) (ps.length - 1) cap] W fun e w' => e = .returned (.string (upF f h (k - half n) (n - half n) (ps.take (ps.length - 1)))) ∧ Below w.heap.size w w') := fun W hW => by
          have := (provedRoot_any f h (k - half n) (n - half n) (ps.take (ps.length - 1)) _ W ((rowT_take HR.out (by omega)).below hW) (by omega) (by omega) (by omega) hh (fun p hp => hs p (List.mem_of_mem_take hp)) hz2 (hK.below hW hp) (Nat.lt_of_lt_of_le hp hW.size)).mono (R' := fun e w' => e = .returned (.string (upF f h (k - half n) (n - half n) (ps.take (ps.length - 1)))) ∧ Below w.heap.size w w') fun e w' ⟨h1, h2⟩ => ⟨h1, hW.trans (h2.mono hW.size)⟩
          rwa [show ((k - half n : Nat) : Int) = (k : Int) - (half n : Int) by omega, show ((n - half n : Nat) : Int) = (n : Int) - (half n : Int) by omega] at this
        have a1 := upF_size f h (k - half n) (n - half n) (ps.take (ps.length - 1)) (by omega) (by omega) hh (fun p hp => hs p (List.mem_of_mem_take hp)) hz2
        obtain ⟨q, hq⟩ : ∃ q, ps.length = q + 1 := ⟨ps.length - 1, by omega⟩
        rw [show ps.length - 1 = q by omega] at HE HU a1 a2 hcl
        rw [hq] at hc hle hcap ⊢
        have HCL : Hid (∀ W, Below w.heap.size w W → W.cell? ⟨b, off + q, none⟩ = some (.string (tnth ps q))) := fun W hW => (hW.cell (p := ⟨b, off + q, none⟩) hb).trans hcl
        generalize tnth ps q = l at HE HCL hcl a2
        generalize upF f h (k - half n) (n - half n) (ps.take q) = r at HE HU a1
        have HN : Hid (∀ W, Below w.heap.size w W → Calls Tryd.prog 91 #[.string l, .string r] W fun e w' => e = .returned (.string (node l r)) ∧ Below w.heap.size w w') := fun W hW =>
          (nodeOf_any l r W (by omega) (by omega) (hK.below hW hp) (Nat.lt_of_lt_of_le hp hW.size)).mono fun e w' ⟨h1, h2⟩ => ⟨h1, hW.trans (h2.mono hW.size)⟩
        rw [HE.out]
        have cd : w.drew.cell? ⟨b, off + q, none⟩ = some (.string l) := HCL.out _ G0.out
        clear HE hz hz2 hs hh hK HR hcell a1 a2 hq hone hpos
        generalize half n = m at q1 q2 q3 HF HU hk
        have p0 : ¬ (k : Int) < (m : Int) := by omega
        have p1 : (q : Int) ≤ (cap : Int) := by omega
        have p2 : (q : Int) + 1 ≤ (cap : Int) := by omega
        have p3 : (q : Int) < 64 := by omega
        have p5 : (q : Int) < (q : Int) + 1 := by omega
        have u1 : IntKind.i64.wrap ((k : Int) - (m : Int)) = (k : Int) - (m : Int) := by rw [IntKind.wrap_i64]; omega
        have u2 : IntKind.i64.wrap ((n : Int) - (m : Int)) = (n : Int) - (m : Int) := by rw [IntKind.wrap_i64]; omega
        clear h2 hf
        go_enter Tryd.func76, Tryd.ntmps76
        go_wp2_with (first | (go_at_call 98; refine HF.out.mono ?_; rintro e w1 ⟨rfl, rfl⟩) | fail)
        go_region_law (first
          | (go_simp; go_at_call 91; refine (HN.out _ g3).mono ?_; rintro e w4 ⟨rfl, g4⟩; try go_simp)
          | (go_simp; go_at_call 76; refine (HU.out _ G0.out).mono ?_; rintro e w3 ⟨rfl, g3⟩; have c3 := HCL.out _ g3; try go_simp))
        all_goals
          go_wp2_with fail
          go_ret
          exact ⟨rfl, g4⟩
end Go.Proofs.YtgakmjonfecnhaaDoor.Pw
