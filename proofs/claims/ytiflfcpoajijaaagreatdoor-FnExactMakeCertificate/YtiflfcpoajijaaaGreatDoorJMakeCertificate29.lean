/- The specification's CheckSignature. -/
import Derived.Test.YtiflfcpoajijaaaGreatDoorJMakeCertificate20
namespace Go.Proofs.YtiflfcpoajijaaaGreatDoor.Cs
open Go.RowKit Go.Proofs.YtiflfcpoajijaaaGreatDoor.Sl Go.Proofs.YtiflfcpoajijaaaGreatDoor.By Go.Proofs.YtiflfcpoajijaaaGreatDoor.Ap Go.Proofs.YtiflfcpoajijaaaGreatDoor.Tx Go.Proofs.YtiflfcpoajijaaaGreatDoor.Sh Go.Proofs.YtiflfcpoajijaaaGreatDoor.Ho Go.Proofs.YtiflfcpoajijaaaGreatDoor.Se Go.Proofs.YtiflfcpoajijaaaGreatDoor.Ka Go.Proofs.YtiflfcpoajijaaaGreatDoor.Sx Go.Proofs.YtiflfcpoajijaaaGreatDoor.Hf Go.Proofs.YtiflfcpoajijaaaGreatDoor.Sa Go.Proofs.YtiflfcpoajijaaaGreatDoor.Kx Go.Proofs.YtiflfcpoajijaaaGreatDoor.Mb Go.Proofs.YtiflfcpoajijaaaGreatDoor.Sg Go.Proofs.YtiflfcpoajijaaaGreatDoor.Fu

theorem OwnF.mono {w : World} {B B' : Nat} {v : Value} {zs : List Int} (h : OwnF w B v zs) (hb : B' ≤ B) : OwnF w B' v zs := by
  rcases h with h | ⟨g, e, hB, hg, hc⟩
  · exact .inl (own_le h hb)
  · exact .inr ⟨g, e, by omega, hg, hc⟩
theorem allTo_two (ts : List ByteArray) (a c : ByteArray) : allTo (ts ++ [a, c]) = allTo ts ++ bys a ++ bys c := by
  rw [show ts ++ [a, c] = (ts ++ [a]) ++ [c] by rw [List.append_assoc]; rfl, allTo_snoc, allTo_snoc]
/-- The way up, step by step. -/
def clTo (h : ByteArray) (i : Nat) (tc : List ByteArray) : Nat → ByteArray
  | 0 => h
  | m + 1 => stepUp (clTo h i tc m) (i / 2 ^ m) (tnth tc m)
theorem clTo_size (h : ByteArray) (i : Nat) (tc : List ByteArray) (h1 : h.size = 32) (h2 : ∀ t ∈ tc, t.size = 32) : ∀ m, m ≤ tc.length → (clTo h i tc m).size = 32
  | 0, _ => h1
  | m + 1, hm => stepUp_size _ _ _ (clTo_size h i tc h1 h2 m (by omega)) (h2 _ (tnth_mem (by omega)))
theorem clTo_all (h : ByteArray) (i : Nat) (tc : List ByteArray) (h3 : tc.length = 3) : clTo h i tc 3 = climb h i tc := by
  match tc, h3 with
  | [p, q, r], _ =>
    show stepUp (stepUp (stepUp h (i / 2 ^ 0) p) (i / 2 ^ 1) q) (i / 2 ^ 2) r = stepUp (stepUp (stepUp h i p) (i / 2) q) (i / 2 / 2) r
    rw [Nat.pow_zero, Nat.div_one, Nat.pow_one, Nat.div_div_eq_div_mul]
set_option maxRecDepth 100000 in
set_option maxHeartbeats 3200000 in
/-- Where all is well formed: the way up is taken. -/
theorem specCheck_go (root msg : ByteArray) (i : Nat) (ua ub uc : Value) (ta tb tc : List ByteArray) (w : World) (ra : RowT w ua ta) (rb : RowT w ub tb) (rc : RowT w uc tc) (hm : msg.size ≤ 65530) (h32 : root.size = 32) (hA : hsB ta 32 = true) (hB : hsB tb 32 = true) (hC : hsB tc 3 = true) (hi : i < 8) (la : ta.length ≤ maxLen) (lb : tb.length ≤ maxLen) (lc : tc.length ≤ maxLen) (za : ∀ t ∈ ta, t.size ≤ maxLen) (zb : ∀ t ∈ tb, t.size ≤ maxLen) (zc : ∀ t ∈ tc, t.size ≤ maxLen) (cc : Int) (hcc : (if (upR msg i ta tb tc).toList = root.toList then (0 : Int) else 12) = cc) :
    Calls Tryz.prog 41 #[.string root, .string msg, .agg #[.int .i64 i, ua, ub, uc]] w fun e w' => e = .returned (.int .i64 cc) ∧ Below w.heap.size w w' := by
  obtain ⟨i0, hi0, hz0, hz1, hz2⟩ := info_parts info5
  obtain ⟨lA, sA⟩ := hs_get hA
  obtain ⟨lB, sB⟩ := hs_get hB
  obtain ⟨lC, sC⟩ := hs_get hC
  have HR : Hid (RowT w ua ta ∧ RowT w ub tb ∧ RowT w uc tc) := ⟨ra, rb, rc⟩
  have HLZ : Hid ((ta.length ≤ maxLen ∧ tb.length ≤ maxLen ∧ tc.length ≤ maxLen) ∧ (∀ t ∈ ta, t.size ≤ maxLen) ∧ (∀ t ∈ tb, t.size ≤ maxLen) ∧ ∀ t ∈ tc, t.size ≤ maxLen) := ⟨⟨la, lb, lc⟩, za, zb, zc⟩
  obtain ⟨a1, c1, rfl, ra⟩ := ra
  obtain ⟨a2, c2, rfl, rb⟩ := rb
  obtain ⟨a3, c3, rfl, rc⟩ := rc
  rcases ra with ra | ⟨b1, o1, rfl, _, hw1, hcell1⟩
  · rw [ra] at lA; cases lA
  rcases rb with rb | ⟨b2, o2, rfl, _, hw2, hcell2⟩
  · rw [rb] at lB; cases lB
  rcases rc with rc | ⟨b3, o3, rfl, _, hw3, hcell3⟩
  · rw [rc] at lC; cases lC
  rw [lA] at HR ⊢
  rw [lB] at HR ⊢
  rw [lC] at HR ⊢
  have HC : Hid ((∀ j, j < 32 → w.cell? ⟨b1, o1 + j, none⟩ = some (.string (tnth ta j))) ∧ (∀ j, j < 32 → w.cell? ⟨b2, o2 + j, none⟩ = some (.string (tnth tb j))) ∧ (∀ j, j < 3 → w.cell? ⟨b3, o3 + j, none⟩ = some (.string (tnth tc j))) ∧ b1 < w.heap.size ∧ b2 < w.heap.size ∧ b3 < w.heap.size) := ⟨fun j hj => hcell1 j (by omega), fun j hj => hcell2 j (by omega), fun j hj => hcell3 j (by omega), hw1, hw2, hw3⟩
  have HZ : Hid ((∀ t ∈ ta, t.size = 32) ∧ (∀ t ∈ tb, t.size = 32) ∧ (∀ t ∈ tc, t.size = 32) ∧ ta.length = 32 ∧ tb.length = 32 ∧ tc.length = 3 ∧ i < 8 ∧ msg.size ≤ 65530) := ⟨sA, sB, sC, lA, lB, lC, hi, hm⟩
  have HKZ : Hid ((keyH (pairTo (dig msg) ta tb 32)).size = 32) := key_size msg hA hB
  have HOK : Hid (∀ W, Below w.heap.size w W → (Calls Tryz.prog 72 #[.slice (some ⟨b1, o1, none⟩) 32 c1, .int .i64 32] W fun e w' => e = .returned (.bool true) ∧ W = w') ∧ (Calls Tryz.prog 72 #[.slice (some ⟨b2, o2, none⟩) 32 c2, .int .i64 32] W fun e w' => e = .returned (.bool true) ∧ W = w') ∧ (Calls Tryz.prog 72 #[.slice (some ⟨b3, o3, none⟩) 3 c3, .int .i64 3] W fun e w' => e = .returned (.bool true) ∧ W = w')) := fun W hW => by
    have h1 := l03Hashes_any _ ta 32 W (HR.out.1.below hW) HLZ.out.1.1 HLZ.out.2.1
    have h2 := l03Hashes_any _ tb 32 W (HR.out.2.1.below hW) HLZ.out.1.2.1 HLZ.out.2.2.1
    have h3 := l03Hashes_any _ tc 3 W (HR.out.2.2.below hW) HLZ.out.1.2.2 HLZ.out.2.2.2
    rw [hA] at h1
    rw [hB] at h2
    rw [hC] at h3
    exact ⟨h1, h2, h3⟩
  have HCV : Hid ((if (upR msg i ta tb tc).toList = root.toList then (0 : Int) else 12) = cc) := hcc
  have hm1 : ¬ (65530 : Int) < (msg.size : Int) := by omega
  have hr1 : ¬ (65536 : Int) < (root.size : Int) := by omega
  have hr2 : ((root.size : Int) != 32) = false := by simp; omega
  have hi7 : (i : Int) ≤ 7 := by omega
  have hi0' : (0 : Int) ≤ (i : Int) := by omega
  have HIN : Hid (inR (i : Int) 0 7 = true) := by show _ = _; unfold inR; rw [decide_eq_true hi0', decide_eq_true hi7]; rfl
  have HB : Hid (∀ W, Below (w.heap.size + 1) (w.alloc (.cells #[.int .i64 (i : Int), .slice (some ⟨b1, o1, none⟩) 32 c1, .slice (some ⟨b2, o2, none⟩) 32 c2, .slice (some ⟨b3, o3, none⟩) 3 c3] 37)) W → W.heap[w.heap.size]? = some (.cells #[.int .i64 (i : Int), .slice (some ⟨b1, o1, none⟩) 32 c1, .slice (some ⟨b2, o2, none⟩) 32 c2, .slice (some ⟨b3, o3, none⟩) 3 c3] 37 (0, 0)) ∧ Below w.heap.size w W ∧ w.heap.size + 1 ≤ W.heap.size) := fun W hW => by
    have hs := hW.size
    rw [size_new] at hs
    exact ⟨(hW.block _ (by omega)).trans (blk_new _ _ _), (bel_new w _).trans (hW.mono (by omega)), hs⟩
  have H0 : Hid (Below (w.heap.size + 1) (w.alloc (.cells #[.int .i64 (i : Int), .slice (some ⟨b1, o1, none⟩) 32 c1, .slice (some ⟨b2, o2, none⟩) 32 c2, .slice (some ⟨b3, o3, none⟩) 3 c3] 37)) (w.alloc (.cells #[.int .i64 (i : Int), .slice (some ⟨b1, o1, none⟩) 32 c1, .slice (some ⟨b2, o2, none⟩) 32 c2, .slice (some ⟨b3, o3, none⟩) 3 c3] 37)) ∧ (w.alloc (.cells #[.int .i64 (i : Int), .slice (some ⟨b1, o1, none⟩) 32 c1, .slice (some ⟨b2, o2, none⟩) 32 c2, .slice (some ⟨b3, o3, none⟩) 3 c3] 37)).heap.size = w.heap.size + 1) := ⟨Below.refl _ _, size_new _ _⟩
  clear hcell1 hcell2 hcell3 hw1 hw2 hw3 hA hB hC sA sB sC lA lB lC la lb lc za zb zc hm h32 hi hcc
  go_enter Tryz.func41, Tryz.ntmps41
  go_wp2_with fail
  refine (HOK.out _ (bel_new w _)).1.mono ?_
  rintro e w9 ⟨rfl, rfl⟩
  go_wp2_with fail
  refine (HOK.out _ (bel_new w _)).2.1.mono ?_
  rintro e w9 ⟨rfl, rfl⟩
  go_wp2_with fail
  refine (HOK.out _ (bel_new w _)).2.2.mono ?_
  rintro e w9 ⟨rfl, rfl⟩
  go_wp2_with fail
  refine (l01In_any (i : Int) 0 7 _).mono ?_
  rintro e w9 ⟨rfl, rfl⟩
  rw [HIN.out]
  go_wp2_with fail
  refine (l03Bits_any msg _ HZ.out.2.2.2.2.2.2.2).mono ?_
  rintro e w1 ⟨rfl, bl1⟩
  rw [H0.out.2] at bl1
  obtain ⟨bs, HBS⟩ : ∃ bs, Hid (bs = mbits msg) := ⟨_, rfl⟩
  rw [← HBS.out]
  generalize w.alloc (.cells #[.int .i64 (i : Int), .slice (some ⟨b1, o1, none⟩) 32 c1, .slice (some ⟨b2, o2, none⟩) 32 c2, .slice (some ⟨b3, o3, none⟩) 3 c3] 37) = wz at HB H0 bl1
  have hk0 := Lib.run_convert_bytes_const (P := Tryz.prog) w1 22 5 #[.int .u8 107, .int .u8 101, .int .u8 121] 3 3 Tryz.underlying22 Tryz.underlying5
  have F1 : Hid (OwnF (w1.alloc (.cells #[.int .u8 107, .int .u8 101, .int .u8 121] 5 (3, 4))) (w.heap.size + 1) (.slice (some ⟨w1.heap.size, 0, none⟩) 3 3) (allTo (pairTo (dig msg) ta tb 0))) := OwnF.mono (full_lit w1 [107, 101, 121] 3 rfl _ rfl _) (HB.out w1 bl1).2.2
  have G1 : Hid (Below (w.heap.size + 1) wz (w1.alloc (.cells #[.int .u8 107, .int .u8 101, .int .u8 121] 5 (3, 4))))   := bl1.alloc (HB.out w1 bl1).2.2 _
  clear bl1
  go_wp2_with fail
  clear hk0
  go_loopw [8, 9] (fun u j wr => ∃ k : Nat, k ≤ 32 ∧ j = .int .i64 k ∧ OwnF wr (w.heap.size + 1) u (allTo (pairTo (dig msg) ta tb k)) ∧ Below (w.heap.size + 1) wz wr) (fun _ j _ => 32 - (intOf j).toNat)
  case atStart => exact ⟨0, by omega, rfl, F1.out, G1.out⟩
  case round =>
    clear F1 G1
    obtain ⟨k, hk, rfl, ho, hb⟩ := hrel
    obtain ⟨X0, G0, L0⟩ := HB.out wr hb
    by_cases hlt : k < 32
    · have hlt' : decide ((k : Int) < 32) = true := by rw [decide_eq_true_eq]; omega
      have hk32 : (k : Int) < 32 := by omega
      have HF : Hid (∀ W, Below (w.heap.size + 1) wz W → W.cell? ⟨w.heap.size, 1, none⟩ = some (.slice (some ⟨b1, o1, none⟩) 32 c1) ∧ W.cell? ⟨w.heap.size, 2, none⟩ = some (.slice (some ⟨b2, o2, none⟩) 32 c2) ∧ W.cell? ⟨b1, o1 + k, none⟩ = some (.string (tnth ta k)) ∧ W.cell? ⟨b2, o2 + k, none⟩ = some (.string (tnth tb k))) := fun W hW => by
        obtain ⟨Y0, Y1, _⟩ := HB.out W hW
        exact ⟨(blk_cell Y0 1 rfl).1, (blk_cell Y0 2 rfl).1, (Y1.cell (p := ⟨b1, o1 + k, none⟩) HC.out.2.2.2.1).trans (HC.out.1 k hlt), (Y1.cell (p := ⟨b2, o2 + k, none⟩) HC.out.2.2.2.2.1).trans (HC.out.2.1 k hlt)⟩
      have HE : Hid (allTo (pairTo (dig msg) ta tb (k + 1)) = allTo (pairTo (dig msg) ta tb k) ++ bys (pl0 (hashS (bys (tnth ta k))) (tnth tb k) (bn (dig msg) k)) ++ bys (pl1 (hashS (bys (tnth ta k))) (tnth tb k) (bn (dig msg) k))) := allTo_two _ _ _
      have s1 : (tnth ta k).size = 32 := HZ.out.1 _ (tnth_mem (by have := HZ.out; omega))
      have s2 : (tnth tb k).size = 32 := HZ.out.2.1 _ (tnth_mem (by have := HZ.out; omega))
      have HT : Hid ((bys (tnth ta k)).length ≤ 65536 ∧ (hashS (bys (tnth ta k))).size = 32 ∧ (tnth tb k).size = 32) := ⟨by rw [bys_length, s1]; decide, hash32 s1, s2⟩
      have HL : Hid ((allTo (pairTo (dig msg) ta tb k)).length ≤ 100000) := by
        show _ ≤ _
        rw [allTo_len _ (pairTo_all _ ta tb HZ.out.1 HZ.out.2.1 k (by have := HZ.out; omega) (by have := HZ.out; omega)), pairTo_length]
        omega
      have hsz : bs.size = 32 := by rw [HBS.out]; exact mbits_size msg
      have hb1' : k < bs.size := by omega
      have hb2' : (k : Int) < (bs.size : Int) := by omega
      have h3 := mb_at msg bs HBS.out k hlt hb1'
      have h4 := bn_two (dig msg) k
      rw [h4.2] at h3
      have h5 := h4.1
      obtain ⟨x1, x2, x3, x4⟩ := HF.out wr hb
      clear s1 s2 hsz h4 X0
      generalize bn (dig msg) k = bb at HE h3 h5
      generalize tnth ta k = t1 at x3 HF HE HT
      generalize tnth tb k = t2 at x4 HF HE HT
      obtain ⟨v4, w4, hcv, r4, b4⟩ := bytes_run t1 wr
      have R4 : Hid (RowB w4 v4 (bys t1)) := r4
      have B4 : Hid (Below wr.heap.size wr w4) := b4
      clear r4 b4
      go_wp2_with fail
      refine (hash1_any v4 _ w4 R4.out HT.out.1).mono ?_
      rintro e w5 ⟨rfl, b5⟩
      have B5 := B4.out.trans (b5.mono B4.out.size)
      have g5 := hb.trans (B5.mono L0)
      have q5 := OwnF.below ho B5
      have L5 := (HB.out w5 g5).2.2
      obtain ⟨y1, y2, y3, y4⟩ := HF.out w5 g5
      clear b5 B5 x1 x2 x3 x4 ho hb hcv B4 R4 L0 G0
      generalize hashS (bys t1) = t3 at HE HT
      rcases h5 with e0 | e1
      · subst e0
        have hbv : (((bs[k]'hb1').toNat : Int) == 48) = true := by rw [h3]; decide
        have HE2 : Hid (allTo (pairTo (dig msg) ta tb (k + 1)) = allTo (pairTo (dig msg) ta tb k) ++ bys t3 ++ bys t2) := HE.out
        clear h3
        go_wp2_with fail
        go_region_law (first
          | (refine step_strF (by rfl) _ _ 22 9 (by rfl) Tryz.underlying22 Tryz.underlying9 hi0 hz0 hz1 hz2 (w.heap.size + 1) _ _ t3 _ (by rfl) (by rfl) (OwnF.drew q5) L5 (by have := HL.out; have := HT.out; omega) (by have := HT.out; omega) ?_; intro v6 w6 q6 b6; have g6 := g5.drew.trans b6; obtain ⟨z1, z2, z3, z4⟩ := HF.out w6 g6; have L6 := (HB.out w6 g6).2.2)
          | (refine step_strF (by rfl) _ _ 22 9 (by rfl) Tryz.underlying22 Tryz.underlying9 hi0 hz0 hz1 hz2 (w.heap.size + 1) _ _ t2 _ (by rfl) (by rfl) q6 L6 (by rw [List.length_append, bys_length]; have := HL.out; have := HT.out; omega) (by have := HT.out; omega) ?_; intro v7 w7 q7 b7; have g7 := g6.trans b7))
        all_goals
          rw [← HE2.out] at q7
          go_wp2_with fail
          exact ⟨⟨k + 1, by omega, by go_num, q7, g7⟩, by simp [intOf]; omega⟩
      · subst e1
        have hbv : (((bs[k]'hb1').toNat : Int) == 48) = false := by rw [h3]; decide
        have HE2 : Hid (allTo (pairTo (dig msg) ta tb (k + 1)) = allTo (pairTo (dig msg) ta tb k) ++ bys t2 ++ bys t3) := HE.out
        clear h3
        go_wp2_with (at_builtin; first
          | (refine list_strF (by rfl) _ _ 22 9 (by rfl) Tryz.underlying22 Tryz.underlying9 hi0 hz0 hz1 hz2 (w.heap.size + 1) w5 _ t2 _ (by rfl) (by rfl) q5 L5 (by have := HL.out; have := HT.out; omega) (by have := HT.out; omega) ?_; intro v6 w6 q6 b6; have g6 := g5.trans b6; have L6 := (HB.out w6 g6).2.2)
          | (refine list_strF (by rfl) _ _ 22 9 (by rfl) Tryz.underlying22 Tryz.underlying9 hi0 hz0 hz1 hz2 (w.heap.size + 1) w6 _ t3 _ (by rfl) (by rfl) q6 L6 (by rw [List.length_append, bys_length]; have := HL.out; have := HT.out; omega) (by have := HT.out; omega) ?_; intro v7 w7 q7 b7; have g7 := g6.trans b7))
        rw [← HE2.out] at q7
        exact ⟨⟨k + 1, by omega, by go_num, q7, g7⟩, by simp [intOf]; omega⟩
    · obtain rfl : k = 32 := by omega
      have HN : Hid ((allTo (pairTo (dig msg) ta tb 32)).length ≤ 65536 ∧ ∀ z ∈ allTo (pairTo (dig msg) ta tb 32), 0 ≤ z ∧ z ≤ 255) := ⟨by rw [allTo_len _ (pairTo_all _ ta tb HZ.out.1 HZ.out.2.1 32 (by have := HZ.out; omega) (by have := HZ.out; omega)), pairTo_length]; decide, allTo_range _⟩
      have HKE : Hid (hashS (allTo (pairTo (dig msg) ta tb 32)) = keyH (pairTo (dig msg) ta tb 32)) := rfl
      have HUP : Hid (upR msg i ta tb tc = clTo (keyH (pairTo (dig msg) ta tb 32)) i tc 3) := (clTo_all _ i tc HZ.out.2.2.2.2.2.1).symm
      clear X0
      go_wp2_with fail
      refine (hash1_any _ _ wr (OwnF.rowB ho HN.out.2) HN.out.1).mono ?_
      rintro e w3 ⟨rfl, bl3⟩
      rw [HKE.out]
      have g3 := hb.trans (bl3.mono L0)
      obtain ⟨X3, G3, L3⟩ := HB.out w3 g3
      have x0 := (blk_cell X3 0 (x := .int .i64 (i : Int)) rfl).1
      clear bl3 HN HKE ho hb G0 L0 X3
      generalize keyH (pairTo (dig msg) ta tb 32) = kk at HUP HKZ
      have G3' : Hid (Below (w.heap.size + 1) wz w3) := g3
      clear g3 G3 L3
      go_wp2_with fail
      clear x0
      go_loopw [11, 12, 13] (fun h q j wr => ∃ m : Nat, m ≤ 3 ∧ h = .string (clTo kk i tc m) ∧ q = .int .i64 ((i / 2 ^ m : Nat) : Int) ∧ j = .int .i64 m ∧ Below (w.heap.size + 1) wz wr) (fun _ _ j _ => 3 - (intOf j).toNat)
      case atStart => exact ⟨0, by omega, rfl, val_eq (by rw [Nat.pow_zero, Nat.div_one]), rfl, G3'.out⟩
      case round =>
        clear G3'
        obtain ⟨m, hm, rfl, rfl, rfl, hb⟩ := hrel
        obtain ⟨X0, G0, L0⟩ := HB.out wr hb
        by_cases hlt : m < 3
        · have x3 := (blk_cell X0 3 (x := .slice (some ⟨b3, o3, none⟩) 3 c3) rfl).1
          have x4 : wr.cell? ⟨b3, o3 + m, none⟩ = some (.string (tnth tc m)) := (G0.cell (p := ⟨b3, o3 + m, none⟩) HC.out.2.2.2.2.2).trans (HC.out.2.2.1 m hlt)
          have hm3 : (m : Int) < 3 := by omega
          have HS : Hid (clTo kk i tc (m + 1) = if (i / 2 ^ m) % 2 = 0 then node (clTo kk i tc m) (tnth tc m) else node (tnth tc m) (clTo kk i tc m)) := rfl
          have HSZ : Hid ((clTo kk i tc m).size ≤ 30000 ∧ (tnth tc m).size ≤ 30000) := ⟨by rw [clTo_size kk i tc HKZ.out HZ.out.2.2.1 m (by have := HZ.out; omega)]; decide, by rw [HZ.out.2.2.1 _ (tnth_mem (by have := HZ.out; omega))]; decide⟩
          have HD : Hid (i / 2 ^ m / 2 = i / 2 ^ (m + 1)) := by show _ = _; rw [Nat.div_div_eq_div_mul, ← Nat.pow_succ]
          have hq8 : i / 2 ^ m < 8 := Nat.lt_of_le_of_lt (Nat.div_le_self _ _) HZ.out.2.2.2.2.2.2.1
          clear X0
          generalize clTo kk i tc m = hh1 at HS HSZ
          generalize tnth tc m = pp at x4 HS HSZ
          generalize i / 2 ^ m = qq at HS HD hq8
          have hq8' : (qq : Int) < 8 := by omega
          by_cases hpar : qq % 2 = 0
          · have hpar' : ((qq : Int) % 2 == 0) = true := by simp; omega
            rw [if_pos hpar] at HS
            clear hpar
            go_wp2_with fail
            refine (l03Node_any hh1 pp wr HSZ.out.1 HSZ.out.2).mono ?_
            rintro e w5 ⟨rfl, b5⟩
            have g5 := hb.trans (b5.mono L0)
            rw [← HS.out]
            clear b5
            go_wp2_with fail
            exact ⟨⟨m + 1, by omega, rfl, val_eq (by rw [← HD.out]; omega), by go_num, g5⟩, by simp [intOf]; omega⟩
          · have hpar' : ((qq : Int) % 2 == 0) = false := by simp; omega
            rw [if_neg hpar] at HS
            clear hpar
            go_wp2_with fail
            refine (l03Node_any pp hh1 wr HSZ.out.2 HSZ.out.1).mono ?_
            rintro e w5 ⟨rfl, b5⟩
            have g5 := hb.trans (b5.mono L0)
            rw [← HS.out]
            clear b5
            go_wp2_with fail
            exact ⟨⟨m + 1, by omega, rfl, val_eq (by rw [← HD.out]; omega), by go_num, g5⟩, by simp [intOf]; omega⟩
        · obtain rfl : m = 3 := by omega
          obtain ⟨hf3, HH3⟩ : ∃ hf3, Hid (clTo kk i tc 3 = hf3) := ⟨_, rfl⟩
          rw [HH3.out]
          by_cases hq : (upR msg i ta tb tc).toList = root.toList
          · have hqq : (hf3.toList == root.toList) = true := by rw [← HH3.out, ← HUP.out]; simpa using hq
            rw [if_pos hq] at HCV
            clear hq X0
            go_wp2_with fail
            go_ret
            exact ⟨Hf.ret_int HCV.out, G0⟩
          · have hqq : (hf3.toList == root.toList) = false := by rw [← HH3.out, ← HUP.out]; simpa using hq
            rw [if_neg hq] at HCV
            clear hq X0
            go_wp2_with fail
            go_ret
            exact ⟨Hf.ret_int HCV.out, G0⟩
end Go.Proofs.YtiflfcpoajijaaaGreatDoor.Cs
