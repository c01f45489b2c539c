/- CheckPiece: both functions. -/
import Derived.Test.YtgakmjonfecnhaaDoorPq8
namespace Go.Proofs.YtgakmjonfecnhaaDoor.Pw
open Go.RowKit Go.Proofs.YtgakmjonfecnhaaDoor.Sl Go.Proofs.YtgakmjonfecnhaaDoor.By Go.Proofs.YtgakmjonfecnhaaDoor.Ap Go.Proofs.YtgakmjonfecnhaaDoor.Tx Go.Proofs.YtgakmjonfecnhaaDoor.Sh Go.Proofs.YtgakmjonfecnhaaDoor.Ho Go.Proofs.YtgakmjonfecnhaaDoor.Se Go.Proofs.YtgakmjonfecnhaaDoor.Ka Go.Proofs.YtgakmjonfecnhaaDoor.Sx Go.Proofs.YtgakmjonfecnhaaDoor.Pf Go.Proofs.YtgakmjonfecnhaaDoor.Px Go.Proofs.YtgakmjonfecnhaaDoor.Py

theorem ret_sb {a b : ByteArray} {c d : Bool} (h1 : a = b) (h2 : c = d) : Ending.returned (.tuple #[.string a, .bool c]) = .returned (.tuple #[.string b, .bool d]) := by rw [h1, h2]
set_option maxRecDepth 100000 in
set_option maxHeartbeats 3200000 in
theorem l09Up_any : ∀ (f : Nat) (h : ByteArray) (k n : Nat) (ps : List ByteArray) (v : Value) (w : World), RowT w v ps → k < n → n ≤ f → f ≤ 64 → h.size = 32 → (∀ p ∈ ps, p.size = 32) → ps.length ≤ 4096 →
    Calls Tryd.prog 72 #[.string h, .int .i64 k, .int .i64 n, v] w fun e w' => ∃ x, e = .returned (.tuple #[.string x, .bool (decide (ps.length = szP f k n))]) ∧ (x.size ≤ 32 ∧ (ps.length = szP f k n → x = upF f h k n ps)) ∧ Below w.heap.size w w'
  | 0, h, k, n, ps, v, w, _, h1, h2, _, _, _, _ => by omega
  | f + 1, h, k, n, ps, v, w, hr, h1, h2, hf, hh, hs, hle => by
    have HR : Hid (RowT w v ps) := hr
    obtain ⟨a, cap, rfl, hrow⟩ := hr
    by_cases hone : n = 1
    · have HE : Hid (upF (f + 1) h k n ps = h ∧ szP (f + 1) k n = 0) := ⟨upF_one hone, szP_one hone⟩
      have HH : Hid (h.size ≤ 32) := by show _ ≤ _; omega
      rw [HE.out.1, HE.out.2]
      subst hone
      have HQ : Hid (((ps.length : Int) == 0) = decide (ps.length = 0)) := by
        show _ = _
        rw [Bool.eq_iff_iff, beq_iff_eq, decide_eq_true_eq]; omega
      clear HE h2 hf hh hs HR hrow
      go_enter Tryd.func72, Tryd.ntmps72
      go_wp2_with fail
      go_ret2
      exact ⟨h, ret_sb rfl (by first | exact HQ.out | (rw [← HQ.out]) | simp), ⟨HH.out, fun _ => rfl⟩, Below.refl _ _⟩
    · obtain ⟨q1, q2, q3⟩ := half_lt (show 2 ≤ n by omega)
      have hn1 : ((n : Int) == 1) = false := by rw [beq_eq_false_iff_ne]; omega
      by_cases hpos : ps.length = 0
      · have HE : Hid (decide (ps.length = szP (f + 1) k n) = false) := by
          show _ = _
          rw [decide_eq_false_iff_not]
          by_cases hk : k < half n
          · rw [szP_left hone hk]; omega
          · rw [szP_right hone hk]; omega
        have HE2 : Hid (¬ ps.length = szP (f + 1) k n) := of_decide_eq_false HE.out
        rw [HE.out, hpos]
        clear HE hf hh hs HR hrow q1 q2 q3 h2 hone
        go_enter Tryd.func72, Tryd.ntmps72
        go_wp2_with fail
        go_ret2
        exact ⟨⟨#[]⟩, rfl, ⟨by decide, fun h => absurd (by rw [hpos]; exact h) HE2.out⟩, Below.refl _ _⟩
      have HF : Hid (Calls Tryd.prog 97 #[.int .i64 n] w fun e w' => e = .returned (.int .i64 (half n)) ∧ w = w') := l09Half_any n w (by omega) (by omega)
      have hcap := rowT_cap HR.out (by omega)
      have a2 := hs _ (tnth_mem (show ps.length - 1 < ps.length by omega))
      rcases hrow with hrow | ⟨b, off, rfl, hc, hb, hcell⟩
      · rw [hrow] at hpos; exact absurd rfl hpos
      have hcl := hcell (ps.length - 1) (by omega)
      obtain ⟨q, hq⟩ : ∃ q, ps.length = q + 1 := ⟨ps.length - 1, by omega⟩
      rw [show ps.length - 1 = q by omega] at a2 hcl
      by_cases hk : k < half n
      · have HE : Hid (upF (f + 1) h k n ps = node (upF f h k (half n) (ps.take q)) (tnth ps q)) := by
          have := upF_left (f := f) (h := h) (ps := ps) hone hk
          rwa [show ps.length - 1 = q by omega] at this
        have hz : Hid ((ps.length = szP (f + 1) k n) ↔ ((ps.take q).length = szP f k (half n))) := by
          show _ ↔ _
          rw [szP_left hone hk, List.length_take]; omega
        have HU0 := l09Up_any f h k (half n) (ps.take q) _ w (rowT_take HR.out (show q ≤ ps.length by omega)) hk (by omega) (by omega) hh (fun p hp => hs p (List.mem_of_mem_take hp)) (by rw [List.length_take]; omega)
        have HU : Hid (Calls Tryd.prog 72 #[.string h, .int .i64 k, .int .i64 (half n), .slice (some ⟨b, off, none⟩) q cap] w fun e w' => ∃ x, e = .returned (.tuple #[.string x, .bool (decide ((ps.take q).length = szP f k (half n)))]) ∧ (x.size ≤ 32 ∧ ((ps.take q).length = szP f k (half n) → x = upF f h k (half n) (ps.take q))) ∧ Below w.heap.size w w') := HU0
        have HB : Hid (decide (ps.length = szP (f + 1) k n) = decide ((ps.take q).length = szP f k (half n))) := by
          show _ = _
          rw [Bool.eq_iff_iff, decide_eq_true_eq, decide_eq_true_eq]; exact hz.out
        rw [HB.out]
        have HZ : Hid ((ps.length = szP (f + 1) k n) → ((ps.take q).length = szP f k (half n))) := fun h => hz.out.1 h
        generalize decide ((ps.take q).length = szP f k (half n)) = bb at HU
        rw [hq] at hc hle hcap
        rw [HE.out]
        have hsl : Value.slice (some ⟨b, off, none⟩) ps.length cap = .slice (some ⟨b, off, none⟩) (q + 1) cap := by rw [hq]
        rw [hsl]
        have HL : Hid (∀ x : ByteArray, x.size ≤ 32 → ∀ W, Calls Tryd.prog 64 #[.string x, .string (tnth ps q)] W fun e w' => e = .returned (.string (node x (tnth ps q))) ∧ Below W.heap.size W w') := fun x hx W => l03Node_any x (tnth ps q) W (by omega) (by omega)
        have HNS : Hid (∀ x : ByteArray, x.size ≤ 32 → (node x (tnth ps q)).size ≤ 32) := fun x hx => by have := node_size x (tnth ps q) hx (by omega); omega
        generalize tnth ps q = l at HL HNS hcl
        clear HE hz hs hh HR hcell a2 hq hone hpos hf h2 HU0 HB hsl
        generalize half n = m at q1 q2 q3 HF HU hk HZ
        have p0 : (k : Int) < (m : Int) := by omega
        have p1 : (q : Int) ≤ (cap : Int) := by omega
        have p2 : (q : Int) + 1 ≤ (cap : Int) := by omega
        have p3 : (q : Int) < 4096 := by omega
        have p5 : (q : Int) < (q : Int) + 1 := by omega
        have p6 : ((q : Int) + 1 == 0) = false := by rw [beq_eq_false_iff_ne]; omega
        go_enter Tryd.func72, Tryd.ntmps72
        go_wp2_with fail
        refine HF.out.mono ?_
        rintro e w1 ⟨rfl, rfl⟩
        go_wp2_with fail
        refine HU.out.mono ?_
        rintro e w2 ⟨x, rfl, hx, b2⟩
        have HXX : Hid (x.size ≤ 32 ∧ ((ps.take q).length = szP f k m → x = upF f h k m (ps.take q))) := hx
        clear hx
        go_wp2_with fail
        refine (HL.out x HXX.out.1 _).mono ?_
        rintro e w3 ⟨rfl, b3⟩
        go_wp2_with fail
        go_ret2
        exact ⟨node x l, rfl, ⟨HNS.out x HXX.out.1, fun hh => by rw [HXX.out.2 (HZ.out hh)]⟩, b2.trans (b3.mono b2.size)⟩
      · have HE : Hid (upF (f + 1) h k n ps = node (tnth ps q) (upF f h (k - half n) (n - half n) (ps.take q))) := by
          have := upF_right (f := f) (h := h) (ps := ps) hone hk
          rwa [show ps.length - 1 = q by omega] at this
        have hz : Hid ((ps.length = szP (f + 1) k n) ↔ ((ps.take q).length = szP f (k - half n) (n - half n))) := by
          show _ ↔ _
          rw [szP_right hone hk, List.length_take]; omega
        have HU0 := l09Up_any f h (k - half n) (n - half n) (ps.take q) _ w (rowT_take HR.out (show q ≤ ps.length by omega)) (by omega) (by omega) (by omega) hh (fun p hp => hs p (List.mem_of_mem_take hp)) (by rw [List.length_take]; omega)
        rw [show ((k - half n : Nat) : Int) = (k : Int) - (half n : Int) by omega, show ((n - half n : Nat) : Int) = (n : Int) - (half n : Int) by omega] at HU0
        have HU : Hid (Calls Tryd.prog 72 #[.string h, .int .i64 ((k : Int) - (half n : Int)), .int .i64 ((n : Int) - (half n : Int)), .slice (some ⟨b, off, none⟩) q cap] w fun e w' => ∃ x, e = .returned (.tuple #[.string x, .bool (decide ((ps.take q).length = szP f (k - half n) (n - half n)))]) ∧ (x.size ≤ 32 ∧ ((ps.take q).length = szP f (k - half n) (n - half n) → x = upF f h (k - half n) (n - half n) (ps.take q))) ∧ Below w.heap.size w w') := HU0
        have HB : Hid (decide (ps.length = szP (f + 1) k n) = decide ((ps.take q).length = szP f (k - half n) (n - half n))) := by
          show _ = _
          rw [Bool.eq_iff_iff, decide_eq_true_eq, decide_eq_true_eq]; exact hz.out
        rw [HB.out]
        have HZ : Hid ((ps.length = szP (f + 1) k n) → ((ps.take q).length = szP f (k - half n) (n - half n))) := fun h => hz.out.1 h
        generalize decide ((ps.take q).length = szP f (k - half n) (n - half n)) = bb at HU
        rw [hq] at hc hle hcap
        rw [HE.out]
        have hsl : Value.slice (some ⟨b, off, none⟩) ps.length cap = .slice (some ⟨b, off, none⟩) (q + 1) cap := by rw [hq]
        rw [hsl]
        have HL : Hid (∀ x : ByteArray, x.size ≤ 32 → ∀ W, Calls Tryd.prog 64 #[.string (tnth ps q), .string x] W fun e w' => e = .returned (.string (node (tnth ps q) x)) ∧ Below W.heap.size W w') := fun x hx W => l03Node_any (tnth ps q) x W (by omega) (by omega)
        have HNS : Hid (∀ x : ByteArray, x.size ≤ 32 → (node (tnth ps q) x).size ≤ 32) := fun x hx => by have := node_size (tnth ps q) x (by omega) hx; omega
        generalize tnth ps q = l at HL HNS hcl
        clear HE hz hs hh HR hcell a2 hq hone hpos HU0 HB hsl
        generalize half n = m at q1 q2 q3 HF HU hk HZ
        have p0 : ¬ (k : Int) < (m : Int) := by omega
        have p1 : (q : Int) ≤ (cap : Int) := by omega
        have p2 : (q : Int) + 1 ≤ (cap : Int) := by omega
        have p3 : (q : Int) < 4096 := by omega
        have p5 : (q : Int) < (q : Int) + 1 := by omega
        have p6 : ((q : Int) + 1 == 0) = false := by rw [beq_eq_false_iff_ne]; omega
        have u3 : wrap64 ((k : Int) - (m : Int)) = (k : Int) - (m : Int) := by unfold wrap64; omega
        have u4 : wrap64 ((n : Int) - (m : Int)) = (n : Int) - (m : Int) := by unfold wrap64; omega
        clear hf h2
        go_enter Tryd.func72, Tryd.ntmps72
        go_wp2_with fail
        refine HF.out.mono ?_
        rintro e w1 ⟨rfl, rfl⟩
        go_wp2_with fail
        refine HU.out.mono ?_
        rintro e w2 ⟨x, rfl, hx, b2⟩
        have HXX : Hid (x.size ≤ 32 ∧ ((ps.take q).length = szP f (k - m) (n - m) → x = upF f h (k - m) (n - m) (ps.take q))) := hx
        clear hx
        go_wp2_with fail
        refine (HL.out x HXX.out.1 _).mono ?_
        rintro e w3 ⟨rfl, b3⟩
        go_wp2_with fail
        go_ret2
        exact ⟨node l x, rfl, ⟨HNS.out x HXX.out.1, fun hh => by rw [HXX.out.2 (HZ.out hh)]⟩, b2.trans (b3.mono b2.size)⟩
end Go.Proofs.YtgakmjonfecnhaaDoor.Pw
