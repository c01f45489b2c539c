/- impl.CheckSignature. -/
import Derived.Test.YtiflfcpoajijaaaGreatDoorJMakeCertificate20
namespace Go.Proofs.YtiflfcpoajijaaaGreatDoor.Cs
open Go.RowKit Go.Proofs.YtiflfcpoajijaaaGreatDoor.Sl Go.Proofs.YtiflfcpoajijaaaGreatDoor.By Go.Proofs.YtiflfcpoajijaaaGreatDoor.Ap Go.Proofs.YtiflfcpoajijaaaGreatDoor.Tx Go.Proofs.YtiflfcpoajijaaaGreatDoor.Sh Go.Proofs.YtiflfcpoajijaaaGreatDoor.Ho Go.Proofs.YtiflfcpoajijaaaGreatDoor.Se Go.Proofs.YtiflfcpoajijaaaGreatDoor.Ka Go.Proofs.YtiflfcpoajijaaaGreatDoor.Sx Go.Proofs.YtiflfcpoajijaaaGreatDoor.Hf Go.Proofs.YtiflfcpoajijaaaGreatDoor.Sa Go.Proofs.YtiflfcpoajijaaaGreatDoor.Kx Go.Proofs.YtiflfcpoajijaaaGreatDoor.Mb Go.Proofs.YtiflfcpoajijaaaGreatDoor.Sg

/-- The box of the signature. -/
def bxo (i : Int) (ua ub uc : Value) : Obj := .cells #[.int .i64 i, ua, ub, uc] 37
set_option maxRecDepth 100000 in
set_option maxHeartbeats 1600000 in
theorem implCheckSignature_any (root msg : ByteArray) (i : Int) (ua ub uc : Value) (ta tb tc : List ByteArray) (w : World) (ra : RowT w ua ta) (rb : RowT w ub tb) (rc : RowT w uc tc) (la : ta.length ≤ maxLen) (lb : tb.length ≤ maxLen) (lc : tc.length ≤ maxLen) (za : ∀ t ∈ ta, t.size ≤ maxLen) (zb : ∀ t ∈ tb, t.size ≤ maxLen) (zc : ∀ t ∈ tc, t.size ≤ maxLen) (hK : KTab w) (hp : 0 < w.heap.size) :
    Calls Tryz.prog 58 #[.string root, .string msg, .agg #[.int .i64 i, ua, ub, uc]] w fun e w' => e = .returned (.int .i64 (vC root msg i ta tb tc)) ∧ Below w.heap.size w w' := by
  have HR : Hid (RowT w ua ta ∧ RowT w ub tb ∧ RowT w uc tc) := ⟨ra, rb, rc⟩
  have HLZ : Hid ((ta.length ≤ maxLen ∧ tb.length ≤ maxLen ∧ tc.length ≤ maxLen) ∧ (∀ t ∈ ta, t.size ≤ maxLen) ∧ (∀ t ∈ tb, t.size ≤ maxLen) ∧ ∀ t ∈ tc, t.size ≤ maxLen) := ⟨⟨la, lb, lc⟩, za, zb, zc⟩
  obtain ⟨a1, c1, rfl, _⟩ := ra
  obtain ⟨a2, c2, rfl, _⟩ := rb
  obtain ⟨a3, c3, rfl, _⟩ := rc
  have H0 : Hid (KTab (w.alloc (bxo i (.slice a1 ta.length c1) (.slice a2 tb.length c2) (.slice a3 tc.length c3))) ∧ 0 < (w.alloc (bxo i (.slice a1 ta.length c1) (.slice a2 tb.length c2) (.slice a3 tc.length c3))).heap.size) := ⟨hK.below (bel_new _ _) hp, by rw [size_new]; omega⟩
  have HB : Hid (∀ W, Below (w.alloc (bxo i (.slice a1 ta.length c1) (.slice a2 tb.length c2) (.slice a3 tc.length c3))).heap.size (w.alloc (bxo i (.slice a1 ta.length c1) (.slice a2 tb.length c2) (.slice a3 tc.length c3))) W → W.heap[w.heap.size]? = some (.cells #[.int .i64 i, .slice a1 ta.length c1, .slice a2 tb.length c2, .slice a3 tc.length c3] 37 (0, 0)) ∧ Below w.heap.size w W ∧ KTab W ∧ 0 < W.heap.size) := fun W hW => by
    have hb := (bel_new w (bxo i (.slice a1 ta.length c1) (.slice a2 tb.length c2) (.slice a3 tc.length c3))).trans (hW.mono (by rw [size_new]; omega))
    exact ⟨(hW.block _ (by rw [size_new]; omega)).trans (blk_new _ _ _), hb, hK.below hb hp, Nat.lt_of_lt_of_le hp hb.size⟩
  clear la lb lc za zb zc hK hp
  unfold bxo at H0 HB
  by_cases hm : 65530 < msg.size
  · have HE : Hid (vC root msg i ta tb tc = 2) := if_pos (.inl hm)
    have HM : Hid (mbOut msg = ⟨#[]⟩ ∧ mbCode msg = 2) := ⟨if_pos hm, if_pos hm⟩
    clear hm
    go_enter Tryz.func58, Tryz.ntmps58
    go_wp2_with fail
    refine (implMessageBits_any msg _ H0.out.1 H0.out.2).mono ?_
    rintro e w1 ⟨rfl, b1⟩
    rw [HM.out.1, HM.out.2]
    obtain ⟨_, G1, _⟩ := HB.out w1 b1
    clear b1
    go_wp2_with fail
    go_ret
    exact ⟨Hf.ret_int HE.out.symm, G1⟩
  have HM : Hid (mbOut msg = mbits msg ∧ mbCode msg = 0) := ⟨if_neg hm, if_neg hm⟩
  by_cases hr : 65536 < root.size
  · have HE : Hid (vC root msg i ta tb tc = 2) := if_pos (.inr hr)
    have HF : Hid (hf root = 2) := hf_long hr
    clear hm hr
    go_enter Tryz.func58, Tryz.ntmps58
    go_wp2_with fail
    refine (implMessageBits_any msg _ H0.out.1 H0.out.2).mono ?_
    rintro e w1 ⟨rfl, b1⟩
    rw [HM.out.1, HM.out.2]
    obtain ⟨_, G1, _⟩ := HB.out w1 b1
    clear b1
    go_wp2_with fail
    refine (hashFault_any root w1).mono ?_
    rintro e w2 ⟨rfl, rfl⟩
    rw [HF.out]
    go_wp2_with fail
    go_ret
    exact ⟨Hf.ret_int HE.out.symm, G1⟩
  have hno : ¬ (65530 < msg.size ∨ 65536 < root.size) := fun h => h.elim hm hr
  by_cases h32 : root.size = 32
  · have HF : Hid (hf root = 0) := hf_ok h32
    obtain ⟨ba, HA⟩ : ∃ ba, Hid (hsB ta 32 = ba) := ⟨_, rfl⟩
    obtain ⟨bb, HBB⟩ : ∃ bb, Hid (hsB tb 32 = bb) := ⟨_, rfl⟩
    obtain ⟨bc, HCC⟩ : ∃ bc, Hid (hsB tc 3 = bc) := ⟨_, rfl⟩
    have HOK : Hid (∀ W, Below w.heap.size w W → (Calls Tryz.prog 89 #[.slice a1 ta.length c1, .int .i64 32] W fun e w' => e = .returned (.bool ba) ∧ W = w') ∧ (Calls Tryz.prog 89 #[.slice a2 tb.length c2, .int .i64 32] W fun e w' => e = .returned (.bool bb) ∧ W = w') ∧ (Calls Tryz.prog 89 #[.slice a3 tc.length c3, .int .i64 3] W fun e w' => e = .returned (.bool bc) ∧ W = w')) := fun W hW => by
      rw [← HA.out, ← HBB.out, ← HCC.out]
      exact ⟨hashesOK_any _ ta 32 W (HR.out.1.below hW) HLZ.out.1.1 HLZ.out.2.1, hashesOK_any _ tb 32 W (HR.out.2.1.below hW) HLZ.out.1.2.1 HLZ.out.2.2.1, hashesOK_any _ tc 3 W (HR.out.2.2.below hW) HLZ.out.1.2.2 HLZ.out.2.2.2⟩
    cases ba with
    | false =>
      have HE : Hid (vC root msg i ta tb tc = 1) := by show _ = _; unfold vC; rw [if_neg hno, if_neg (fun h => by rw [HA.out] at h; exact absurd h.2.1 (by decide))]
      clear hm hr hno h32
      go_enter Tryz.func58, Tryz.ntmps58
      go_wp2_with fail
      refine (implMessageBits_any msg _ H0.out.1 H0.out.2).mono ?_
      rintro e w1 ⟨rfl, b1⟩
      rw [HM.out.1, HM.out.2]
      obtain ⟨X1, G1, _⟩ := HB.out w1 b1
      have x1 := (blk_cell X1 1 (x := .slice a1 ta.length c1) rfl).1
      clear b1 X1
      go_wp2_with fail
      refine (hashFault_any root w1).mono ?_
      rintro e w2 ⟨rfl, rfl⟩
      rw [HF.out]
      go_wp2_with fail
      refine (HOK.out w1 G1).1.mono ?_
      rintro e w2 ⟨rfl, rfl⟩
      go_wp2_with fail
      go_ret
      exact ⟨Hf.ret_int HE.out.symm, G1⟩
    | true =>
    cases bb with
    | false =>
      have HE : Hid (vC root msg i ta tb tc = 1) := by show _ = _; unfold vC; rw [if_neg hno, if_neg (fun h => by rw [HBB.out] at h; exact absurd h.2.2.1 (by decide))]
      clear hm hr hno h32
      go_enter Tryz.func58, Tryz.ntmps58
      go_wp2_with fail
      refine (implMessageBits_any msg _ H0.out.1 H0.out.2).mono ?_
      rintro e w1 ⟨rfl, b1⟩
      rw [HM.out.1, HM.out.2]
      obtain ⟨X1, G1, _⟩ := HB.out w1 b1
      have x1 := (blk_cell X1 1 (x := .slice a1 ta.length c1) rfl).1
      have x2 := (blk_cell X1 2 (x := .slice a2 tb.length c2) rfl).1
      clear b1 X1
      go_wp2_with fail
      refine (hashFault_any root w1).mono ?_
      rintro e w2 ⟨rfl, rfl⟩
      rw [HF.out]
      go_wp2_with fail
      refine (HOK.out w1 G1).1.mono ?_
      rintro e w2 ⟨rfl, rfl⟩
      go_wp2_with fail
      refine (HOK.out w1 G1).2.1.mono ?_
      rintro e w2 ⟨rfl, rfl⟩
      go_wp2_with fail
      go_ret
      exact ⟨Hf.ret_int HE.out.symm, G1⟩
    | true =>
    cases bc with
    | false =>
      have HE : Hid (vC root msg i ta tb tc = 1) := by show _ = _; unfold vC; rw [if_neg hno, if_neg (fun h => by rw [HCC.out] at h; exact absurd h.2.2.2 (by decide))]
      clear hm hr hno h32
      go_enter Tryz.func58, Tryz.ntmps58
      go_wp2_with fail
      refine (implMessageBits_any msg _ H0.out.1 H0.out.2).mono ?_
      rintro e w1 ⟨rfl, b1⟩
      rw [HM.out.1, HM.out.2]
      obtain ⟨X1, G1, _⟩ := HB.out w1 b1
      have x1 := (blk_cell X1 1 (x := .slice a1 ta.length c1) rfl).1
      have x2 := (blk_cell X1 2 (x := .slice a2 tb.length c2) rfl).1
      have x3 := (blk_cell X1 3 (x := .slice a3 tc.length c3) rfl).1
      clear b1 X1
      go_wp2_with fail
      refine (hashFault_any root w1).mono ?_
      rintro e w2 ⟨rfl, rfl⟩
      rw [HF.out]
      go_wp2_with fail
      refine (HOK.out w1 G1).1.mono ?_
      rintro e w2 ⟨rfl, rfl⟩
      go_wp2_with fail
      refine (HOK.out w1 G1).2.1.mono ?_
      rintro e w2 ⟨rfl, rfl⟩
      go_wp2_with fail
      refine (HOK.out w1 G1).2.2.mono ?_
      rintro e w2 ⟨rfl, rfl⟩
      go_wp2_with fail
      go_ret
      exact ⟨Hf.ret_int HE.out.symm, G1⟩
    | true =>
    have hyes : root.size = 32 ∧ hsB ta 32 = true ∧ hsB tb 32 = true ∧ hsB tc 3 = true := ⟨h32, HA.out, HBB.out, HCC.out⟩
    obtain ⟨bi, HII⟩ : ∃ bi, Hid (inR i 0 7 = bi) := ⟨_, rfl⟩
    cases bi with
    | false =>
      have HE : Hid (vC root msg i ta tb tc = 4) := by show _ = _; unfold vC; rw [if_neg hno, if_pos hyes, if_neg (by rw [HII.out]; decide)]
      clear hm hr hno h32 hyes
      go_enter Tryz.func58, Tryz.ntmps58
      go_wp2_with fail
      refine (implMessageBits_any msg _ H0.out.1 H0.out.2).mono ?_
      rintro e w1 ⟨rfl, b1⟩
      rw [HM.out.1, HM.out.2]
      obtain ⟨X1, G1, _⟩ := HB.out w1 b1
      have x0 := (blk_cell X1 0 (x := .int .i64 i) rfl).1
      have x1 := (blk_cell X1 1 (x := .slice a1 ta.length c1) rfl).1
      have x2 := (blk_cell X1 2 (x := .slice a2 tb.length c2) rfl).1
      have x3 := (blk_cell X1 3 (x := .slice a3 tc.length c3) rfl).1
      clear b1 X1
      go_wp2_with fail
      refine (hashFault_any root w1).mono ?_
      rintro e w2 ⟨rfl, rfl⟩
      rw [HF.out]
      go_wp2_with fail
      refine (HOK.out w1 G1).1.mono ?_
      rintro e w2 ⟨rfl, rfl⟩
      go_wp2_with fail
      refine (HOK.out w1 G1).2.1.mono ?_
      rintro e w2 ⟨rfl, rfl⟩
      go_wp2_with fail
      refine (HOK.out w1 G1).2.2.mono ?_
      rintro e w2 ⟨rfl, rfl⟩
      go_wp2_with fail
      refine (keyIndexOK_any i w1).mono ?_
      rintro e w2 ⟨rfl, rfl⟩
      rw [HII.out]
      go_wp2_with fail
      go_ret
      exact ⟨Hf.ret_int HE.out.symm, G1⟩
    | true =>
      obtain ⟨i1, i2⟩ := inR_nat HII.out
      obtain ⟨i, rfl⟩ := Int.eq_ofNat_of_zero_le i1
      obtain ⟨cc, HCV⟩ : ∃ cc : Int, Hid ((if (upR msg i ta tb tc).toList = root.toList then (0 : Int) else 12) = cc) := ⟨_, rfl⟩
      have HE : Hid (vC root msg i ta tb tc = cc) := by show _ = _; unfold vC; rw [if_neg hno, if_pos hyes, if_pos HII.out, Int.toNat_natCast]; exact HCV.out
      have HK : Hid (i < 8 ∧ (keyH (pairTo (dig msg) ta tb 32)).size = 32) := ⟨by omega, key_size msg HA.out HBB.out⟩
      have HUP : Hid (upR msg i ta tb tc = climb (keyH (pairTo (dig msg) ta tb 32)) i tc) := rfl
      clear hm hr hno h32 hyes i1 i2
      go_enter Tryz.func58, Tryz.ntmps58
      go_wp2_with fail
      refine (implMessageBits_any msg _ H0.out.1 H0.out.2).mono ?_
      rintro e w1 ⟨rfl, b1⟩
      rw [HM.out.1, HM.out.2]
      obtain ⟨X1, G1, K1, P1⟩ := HB.out w1 b1
      have x0 := (blk_cell X1 0 (x := .int .i64 (i : Int)) rfl).1
      have x1 := (blk_cell X1 1 (x := .slice a1 ta.length c1) rfl).1
      have x2 := (blk_cell X1 2 (x := .slice a2 tb.length c2) rfl).1
      have x3 := (blk_cell X1 3 (x := .slice a3 tc.length c3) rfl).1
      have HX1 : Hid (w1.heap[w.heap.size]? = some (.cells #[.int .i64 (i : Int), .slice a1 ta.length c1, .slice a2 tb.length c2, .slice a3 tc.length c3] 37 (0, 0))) := X1
      clear b1 X1
      go_wp2_with fail
      refine (hashFault_any root w1).mono ?_
      rintro e w2 ⟨rfl, rfl⟩
      rw [HF.out]
      go_wp2_with fail
      refine (HOK.out w1 G1).1.mono ?_
      rintro e w2 ⟨rfl, rfl⟩
      go_wp2_with fail
      refine (HOK.out w1 G1).2.1.mono ?_
      rintro e w2 ⟨rfl, rfl⟩
      go_wp2_with fail
      refine (HOK.out w1 G1).2.2.mono ?_
      rintro e w2 ⟨rfl, rfl⟩
      go_wp2_with fail
      refine (keyIndexOK_any i w1).mono ?_
      rintro e w2 ⟨rfl, rfl⟩
      rw [HII.out]
      have G1d := G1.drew
      have HSK : Hid (Calls Tryz.prog 91 #[.string (mbits msg), .agg #[.int .i64 (i : Int), .slice a1 ta.length c1, .slice a2 tb.length c2, .slice a3 tc.length c3]] w1.drew fun e w' => e = .returned (.string (keyH (pairTo (dig msg) ta tb 32))) ∧ Below w1.drew.heap.size w1.drew w') :=
        signedKey_any msg (mbits msg) i _ _ _ ta tb tc w1.drew rfl (HR.out.1.below G1d) (HR.out.2.1.below G1d) (HR.out.2.2.below G1d) (hs_get HA.out).1 (hs_get HBB.out).1 (hs_get HA.out).2 (hs_get HBB.out).2 K1 P1
      have HRA : Hid (∀ (h : ByteArray) (W : World), Below w.heap.size w W → KTab W → 0 < W.heap.size → h.size = 32 → Calls Tryz.prog 90 #[.string h, .int .i64 (i : Int), .slice a3 tc.length c3] W fun e w' => e = .returned (.string (climb h i tc)) ∧ Below W.heap.size W w') := fun h W hW h1 h2 h3 => rootAbove_any tc h i _ W (HR.out.2.2.below hW) (hs_get HCC.out).2 h3 HK.out.1 h1 h2
      generalize keyH (pairTo (dig msg) ta tb 32) = kk at HSK HK HUP
      have hpx : w.heap.size < w1.heap.size := by have := HX1.out; exact (Array.getElem?_eq_some_iff.1 this).1
      by_cases hq : (upR msg i ta tb tc).toList = root.toList
      · rw [if_pos hq] at HCV
        have hqq : ((climb kk i tc).toList == root.toList) = true := by rw [← HUP.out]; simpa using hq
        go_wp2_with fail
        go_region_law (first
          | (go_simp; go_at_call 91; refine HSK.out.mono ?_; rintro e w3 ⟨rfl, b3⟩; have g3 := (ordB rfl b3).1; have y0 := (blk_cell ((g3.block _ hpx).trans HX1.out) 0 (x := .int .i64 (i : Int)) rfl).1; have y3 := (blk_cell ((g3.block _ hpx).trans HX1.out) 3 (x := .slice a3 tc.length c3) rfl).1; have g4 := G1.trans (g3.mono G1.size); clear b3; try go_simp)
          | (go_simp; go_at_call 90; refine (HRA.out kk _ g4 (K1.below g3 P1) (Nat.lt_of_lt_of_le P1 g3.size) HK.out.2).mono ?_; rintro e w5 ⟨rfl, b5⟩; have g5 := g4.trans (b5.mono g4.size); clear b5; try go_simp))
        all_goals
          go_wp2_with fail
          go_ret
          exact ⟨Hf.ret_int (by rw [HE.out]; exact HCV.out), g5⟩
      · rw [if_neg hq] at HCV
        have hqq : ((climb kk i tc).toList == root.toList) = false := by rw [← HUP.out]; simpa using hq
        go_wp2_with fail
        go_region_law (first
          | (go_simp; go_at_call 91; refine HSK.out.mono ?_; rintro e w3 ⟨rfl, b3⟩; have g3 := (ordB rfl b3).1; have y0 := (blk_cell ((g3.block _ hpx).trans HX1.out) 0 (x := .int .i64 (i : Int)) rfl).1; have y3 := (blk_cell ((g3.block _ hpx).trans HX1.out) 3 (x := .slice a3 tc.length c3) rfl).1; have g4 := G1.trans (g3.mono G1.size); clear b3; try go_simp)
          | (go_simp; go_at_call 90; refine (HRA.out kk _ g4 (K1.below g3 P1) (Nat.lt_of_lt_of_le P1 g3.size) HK.out.2).mono ?_; rintro e w5 ⟨rfl, b5⟩; have g5 := g4.trans (b5.mono g4.size); clear b5; try go_simp))
        all_goals
          go_wp2_with fail
          go_ret
          exact ⟨Hf.ret_int (by rw [HE.out]; exact HCV.out), g5⟩
  · have HE : Hid (vC root msg i ta tb tc = 1) := by show _ = _; unfold vC; rw [if_neg hno, if_neg (fun h => h32 h.1)]
    have HF : Hid (hf root = 1) := hf_bad hr h32
    clear hm hr hno h32
    go_enter Tryz.func58, Tryz.ntmps58
    go_wp2_with fail
    refine (implMessageBits_any msg _ H0.out.1 H0.out.2).mono ?_
    rintro e w1 ⟨rfl, b1⟩
    rw [HM.out.1, HM.out.2]
    obtain ⟨_, G1, _⟩ := HB.out w1 b1
    clear b1
    go_wp2_with fail
    refine (hashFault_any root w1).mono ?_
    rintro e w2 ⟨rfl, rfl⟩
    rw [HF.out]
    go_wp2_with fail
    go_ret
    exact ⟨Hf.ret_int HE.out.symm, G1⟩
end Go.Proofs.YtiflfcpoajijaaaGreatDoor.Cs
