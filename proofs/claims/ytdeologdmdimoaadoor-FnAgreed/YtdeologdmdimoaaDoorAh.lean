/- Readings that are drawn. -/
import Derived.Test.YtdeologdmdimoaaDoorAg
namespace Go.Proofs.YtdeologdmdimoaaDoor.Ag
open Go.RowKit Go.Proofs.YtdeologdmdimoaaDoor.Sl Go.Proofs.YtdeologdmdimoaaDoor.By Go.Proofs.YtdeologdmdimoaaDoor.Ap Go.Proofs.YtdeologdmdimoaaDoor.Rr Go.Proofs.YtdeologdmdimoaaDoor.Gn Go.Proofs.YtdeologdmdimoaaDoor.Sh Go.Proofs.YtdeologdmdimoaaDoor.Mr Go.Proofs.YtdeologdmdimoaaDoor.Rw Go.Proofs.YtdeologdmdimoaaDoor.Rs Go.Proofs.YtdeologdmdimoaaDoor.Rm Go.Proofs.YtdeologdmdimoaaDoor.Cn Go.Proofs.YtdeologdmdimoaaDoor.Md Go.Proofs.YtdeologdmdimoaaDoor.Is
open Go.Proofs.YtdeologdmdimoaaDoor.Tkb (OwnR info_r list_rd OwnR.made OwnR.below OwnR.lt own_kept OwnR.mono OwnR.alloc cl fm_at)
open Go.Proofs.YtdeologdmdimoaaDoor.Rg (bel_new lt_at)

/-! draws -/
theorem quo_n {n : Int} (h : n = 1 ∨ n = 4 ∨ n = 7) : ∃ f : Nat, (n - 1).tdiv 3 = (f : Int) ∧ n = 3 * (f : Int) + 1 ∧ f ≤ 2 := by
  rcases h with rfl | rfl | rfl
  · exact ⟨0, by decide, by decide, by decide⟩
  · exact ⟨1, by decide, by decide, by decide⟩
  · exact ⟨2, by decide, by decide, by decide⟩
set_option maxRecDepth 100000 in
set_option maxHeartbeats 1600000 in
theorem readings_any (n f p B K : Nat) (xs : List Int) (w : World) (h : Gn.Src B w p xs K) (hB : B ≤ p) (hK : K ≤ 1000000) (hx : xs.length ≤ 1048576) (hn : n = 3 * f + 1) (hf : f ≤ 2) :
    Calls Tryd.prog 34 #[.pointer (some ⟨p, 0, none⟩), .int .i64 n] w fun e w' => ∃ v us, e = .returned v ∧ OwnR w' w.heap.size v us ∧ us.length = 2 * f + 1 ∧ Fine n n (us.map cv) ∧ Gn.Src B w' p xs (K + 9) ∧ w.grownBy w' (some p) := by
  have hp := h.lt
  have hq : ((n : Int) - 1).tdiv 3 = (f : Int) := by subst hn; rw [show (((3 * f + 1 : Nat)) : Int) - 1 = 3 * (f : Int) by omega]; rw [Int.mul_tdiv_cancel_left _ (by decide)]
  obtain ⟨i0, hi0, hz0, hz1, hz2⟩ := info_parts info_r
  have hn7 : n ≤ 7 := by omega
  have hn1 : 1 ≤ n := by omega
  have HN : Hid (∀ _ : Unit, n = 3 * f + 1) := fun _ => hn
  clear hn
  have S0 : Hid (Gn.Src B (w.alloc (.cells #[] 40)) p xs K) := h.alloc hB _
  have G0 : Hid (w.grownBy (w.alloc (.cells #[] 40)) (some p)) := grown_alloc (grown_refl _ _) _
  have O0 : Hid (OwnR (w.alloc (.cells #[] 40)) w.heap.size (.slice (some ⟨w.heap.size, 0, none⟩) 0 0) []) := OwnR.made w _ (Nat.le_refl _)
  clear h
  go_enter Tryd.func34, Tryd.ntmps34
  go_wp2_with fail
  refine (next_any n p B K xs _ S0.out hB (by omega) hx (by omega) (by omega)).mono ?_
  rintro e w1 ⟨sk, rfl, hsk, s1, g1⟩
  have S1 : Hid (Gn.Src B w1 p xs (K + 1)) := s1
  have G1 : Hid (w.grownBy w1 (some p)) := grown_trans G0.out g1
  have O1 : Hid (OwnR w1 w.heap.size (.slice (some ⟨w.heap.size, 0, none⟩) 0 0) []) := own_kept O0.out g1 hp
  clear s1 g1 S0 G0 O0
  go_wp2_with fail
  go_loopw [6, 8] (fun out i wr => ∃ (j : Nat) (us : List Gr.Rd), i = .int .i64 (j : Int) ∧ Hid (OwnR wr w.heap.size out us) ∧ Hid (us.length + (if sk < j ∧ 1 < n then 1 else 0) = j ∧ us.length ≤ 2 * f + 1) ∧ Hid (Fine n j (us.map cv)) ∧ Hid (Gn.Src B wr p xs (K + 1 + us.length)) ∧ Hid (w.grownBy wr (some p))) (fun _ i _ => 8 - (intOf i).toNat)
  case atStart => exact ⟨0, [], rfl, O1, ⟨by simp, by simp⟩, Fine.nil _ _, S1, G1⟩
  case round =>
    clear S1 G1 O1
    obtain ⟨j, us, rfl, HO, HC, HF, HS, HG⟩ := hrel
    obtain ⟨ao, co, rfl⟩ := Rg.RowG.slice (Tkb.OwnR.row HO.out)
    have hc1 := HC.out.1
    have hc2 := HC.out.2
    by_cases hlt : us.length < 2 * f + 1
    · have hlt' : (us.length : Int) < 2 * (f : Int) + 1 := by omega
      have hj6 : j ≤ 6 ∧ (j < n ∨ j = sk) := by
        have hn := HN.out ()
        by_cases hs : sk < j ∧ 1 < n
        · rw [if_pos hs] at hc1; omega
        · rw [if_neg hs] at hc1; omega
      by_cases hsk2 : j = sk ∧ 1 < n
      · have q1 : ((j : Int) == (sk : Int)) = true := by simp; omega
        have q2 : (1 : Int) < (n : Int) := by omega
        have hj6' := hj6.1
        have HC2 : Hid (us.length + (if sk < j + 1 ∧ 1 < n then 1 else 0) = j + 1 ∧ us.length ≤ 2 * f + 1) := by
          refine ⟨?_, hc2⟩
          rw [if_neg (by omega)] at hc1
          rw [if_pos (by omega)]
          omega
        have HF2 : Hid (Fine n ((j : Int) + 1) (us.map cv)) := HF.out.le (by omega)
        clear hc1 hc2 HC HF hsk2 hj6
        go_wp2_with fail
        exact ⟨⟨j + 1, us, by go_num, HO, HC2, by show Fine _ _ _; rw [show ((j + 1 : Nat) : Int) = (j : Int) + 1 by omega]; exact HF2.out, HS, HG⟩, by simp [intOf]; omega⟩
      · have hjn : j < n := by
          have hn := HN.out ()
          by_cases hs : sk < j ∧ 1 < n
          · rw [if_pos hs] at hc1; omega
          · rw [if_neg hs] at hc1; omega
        have q0 : (((j : Int) == (sk : Int)) && decide ((1 : Int) < (n : Int))) = false := by
          rw [Bool.and_eq_false_iff]
          by_cases e : j = sk
          · right; simp; omega
          · left; simp; omega
        have HC2 : Hid (∀ z : Gr.Rd, (us ++ [z]).length + (if sk < j + 1 ∧ 1 < n then 1 else 0) = j + 1 ∧ (us ++ [z]).length ≤ 2 * f + 1) := fun z => by
          rw [List.length_append]
          simp only [List.length_cons, List.length_nil]
          by_cases hs : sk < j ∧ 1 < n
          · rw [if_pos hs] at hc1; rw [if_pos (by omega)]; omega
          · rw [if_neg hs] at hc1; rw [if_neg (by omega)]; omega
        have HJ : Hid (∀ _ : Unit, j ≤ 6 ∧ j < n) := fun _ => ⟨hj6.1, hjn⟩
        have hul : us.length ≤ 1000000 := by omega
        have hKu : K + 1 + us.length ≤ 1000000000 := by omega
        clear hc1 hc2 HC
        by_cases e : j = sk
        · have q2 : ¬ (1 : Int) < (n : Int) := by omega
          subst e
          have q1 : ((j : Int) == (j : Int)) = true := by simp
          clear hsk2 hjn q0 hlt
          go_wp2_with fail
          refine (next_any 100 p B (K + 1 + us.length) xs _ HS.out hB hKu hx (by decide) (by decide)).mono ?_
          rintro e w2 ⟨x, rfl, hxx, s2, g2⟩
          have S2 : Hid (Gn.Src B w2 p xs (K + 1 + us.length + 1)) := s2
          have G2 : Hid (w.grownBy w2 (some p)) := grown_trans HG.out g2
          have O2 : Hid (OwnR w2 w.heap.size (.slice ao us.length co) us) := own_kept HO.out g2 hp
          have HFS : Hid (Fine n ((j : Int) + 1) ((us ++ [(⟨(j : Int), (x : Int), rmk j x⟩ : Gr.Rd)]).map cv)) := by
            show Fine _ _ _
            rw [List.map_append]
            exact HF.out.snoc (x := (x : Int)) (HJ.out ()).1 (by have := (HJ.out ()).2; omega) ⟨by omega, by omega⟩
          have HMK := l04Reading_any j (x : Int) w2 (by have := (HJ.out ()).1; omega)
          obtain ⟨mk, HM⟩ : ∃ mk, Hid (rmk j (x : Int) = mk) := ⟨_, rfl⟩
          rw [HM.out] at HMK HFS
          clear s2 g2 HO HF HS HG
          go_wp2_with fail
          refine HMK.mono ?_
          rintro e w3 ⟨rfl, b3⟩
          have S3 : Hid (Gn.Src B w3 p xs (K + 1 + us.length + 1)) := S2.out.kept (b3.block p S2.out.lt) (fun k hk => b3.block k (by have := S2.out.lt; omega))
          have G3 : Hid (w.grownBy w3 (some p)) := grown_trans G2.out ⟨b3.os, b3.tape, b3.output, b3.size, fun k hk _ => b3.block k hk⟩
          have O3 : OwnR w3 w.heap.size (.slice ao us.length co) us := O2.out.below b3
          have hw3 : w.heap.size ≤ w3.heap.size := G3.out.size
          clear b3 S2 G2 O2 HMK
          go_wp2_with (at_builtin; go_must (refine list_rd (by rfl) _ _ 35 (by rfl) i0 Tryd.underlying35 hi0 hz0 hz1 hz2 w.heap.size w3 w3 _ us ⟨(j : Int), (x : Int), mk⟩ (by rfl) O3 (Below.refl _ _) hw3 _ (by rfl) rfl hul ?_; intro v4 w4 o4 b4 k4))
          have S4 : Hid (Gn.Src B w4 p xs (K + 1 + (us ++ [(⟨(j : Int), (x : Int), mk⟩ : Gr.Rd)]).length)) := by
            rw [List.length_append]
            exact S3.out.kept (b4.block p hp) (fun k hk => b4.block k (by omega))
          have G4 : Hid (w.grownBy w4 (some p)) := ⟨b4.os.trans G3.out.os, b4.tape.trans G3.out.tape, b4.output.trans G3.out.output, Nat.le_trans G3.out.size b4.size, fun k hk hne => (b4.block k hk).trans (G3.out.block k hk hne)⟩
          exact ⟨⟨j + 1, _, by go_num, o4, HC2.out _, by show Fine _ _ _; rw [show ((j + 1 : Nat) : Int) = (j : Int) + 1 by omega]; exact HFS.out, S4, G4⟩, by have := (HJ.out ()).1; simp [intOf]; omega⟩
        · have q1 : ((j : Int) == (sk : Int)) = false := by simp; omega
          clear hsk2 hjn q0 hlt e
          go_wp2_with fail
          refine (next_any 100 p B (K + 1 + us.length) xs _ HS.out hB hKu hx (by decide) (by decide)).mono ?_
          rintro e w2 ⟨x, rfl, hxx, s2, g2⟩
          have S2 : Hid (Gn.Src B w2 p xs (K + 1 + us.length + 1)) := s2
          have G2 : Hid (w.grownBy w2 (some p)) := grown_trans HG.out g2
          have O2 : Hid (OwnR w2 w.heap.size (.slice ao us.length co) us) := own_kept HO.out g2 hp
          have HFS : Hid (Fine n ((j : Int) + 1) ((us ++ [(⟨(j : Int), (x : Int), rmk j x⟩ : Gr.Rd)]).map cv)) := by
            show Fine _ _ _
            rw [List.map_append]
            exact HF.out.snoc (x := (x : Int)) (HJ.out ()).1 (by have := (HJ.out ()).2; omega) ⟨by omega, by omega⟩
          have HMK := l04Reading_any j (x : Int) w2 (by have := (HJ.out ()).1; omega)
          obtain ⟨mk, HM⟩ : ∃ mk, Hid (rmk j (x : Int) = mk) := ⟨_, rfl⟩
          rw [HM.out] at HMK HFS
          clear s2 g2 HO HF HS HG
          go_wp2_with fail
          refine HMK.mono ?_
          rintro e w3 ⟨rfl, b3⟩
          have S3 : Hid (Gn.Src B w3 p xs (K + 1 + us.length + 1)) := S2.out.kept (b3.block p S2.out.lt) (fun k hk => b3.block k (by have := S2.out.lt; omega))
          have G3 : Hid (w.grownBy w3 (some p)) := grown_trans G2.out ⟨b3.os, b3.tape, b3.output, b3.size, fun k hk _ => b3.block k hk⟩
          have O3 : OwnR w3 w.heap.size (.slice ao us.length co) us := O2.out.below b3
          have hw3 : w.heap.size ≤ w3.heap.size := G3.out.size
          clear b3 S2 G2 O2 HMK
          go_wp2_with (at_builtin; go_must (refine list_rd (by rfl) _ _ 35 (by rfl) i0 Tryd.underlying35 hi0 hz0 hz1 hz2 w.heap.size w3 w3 _ us ⟨(j : Int), (x : Int), mk⟩ (by rfl) O3 (Below.refl _ _) hw3 _ (by rfl) rfl hul ?_; intro v4 w4 o4 b4 k4))
          have S4 : Hid (Gn.Src B w4 p xs (K + 1 + (us ++ [(⟨(j : Int), (x : Int), mk⟩ : Gr.Rd)]).length)) := by
            rw [List.length_append]
            exact S3.out.kept (b4.block p hp) (fun k hk => b4.block k (by omega))
          have G4 : Hid (w.grownBy w4 (some p)) := ⟨b4.os.trans G3.out.os, b4.tape.trans G3.out.tape, b4.output.trans G3.out.output, Nat.le_trans G3.out.size b4.size, fun k hk hne => (b4.block k hk).trans (G3.out.block k hk hne)⟩
          exact ⟨⟨j + 1, _, by go_num, o4, HC2.out _, by show Fine _ _ _; rw [show ((j + 1 : Nat) : Int) = (j : Int) + 1 by omega]; exact HFS.out, S4, G4⟩, by have := (HJ.out ()).1; simp [intOf]; omega⟩
    · have hlt' : ¬ (us.length : Int) < 2 * (f : Int) + 1 := by omega
      have HL : Hid (us.length = 2 * f + 1) := by show _ = _; omega
      have HFN : Hid (Fine n n (us.map cv)) := HF.out.le (by
        have hn := HN.out ()
        by_cases hs : sk < j ∧ 1 < n
        · rw [if_pos hs] at hc1; omega
        · rw [if_neg hs] at hc1; omega)
      have HSE : Hid (Gn.Src B wr p xs (K + 9)) := by
        obtain ⟨v, a, s, q1, q2, q3, q4⟩ := HS.out
        exact ⟨v, a, s, q1, q2, by omega, q4⟩
      clear hc1 hc2
      go_wp2_with fail
      go_ret
      exact ⟨_, rfl, us, HO.out, HL.out, HFN.out, HSE.out, HG.out⟩
set_option maxHeartbeats 400000 in
theorem ReadingsOf_any (n f : Nat) (v : Value) (xs : List Int) (w : World) (h : RowB w v xs) (hx : xs.length ≤ 1048576) (hn : n = 3 * f + 1) (hf : f ≤ 2) :
    Calls Tryd.prog 13 #[v, .int .i64 n] w fun e w' => ∃ v' us, e = .returned v' ∧ OwnR w' w.heap.size v' us ∧ us.length = 2 * f + 1 ∧ Fine n n (us.map cv) ∧ Below w.heap.size w w' := by
  have HR : Hid (RowB w v xs) := h
  have HN : Hid (∀ _ : Unit, n = 3 * f + 1) := fun _ => hn
  clear h hn
  go_enter Tryd.func13, Tryd.ntmps13
  go_wp2_with fail
  refine (source_any _ xs _ HR.out hx).mono ?_
  rintro e w1 ⟨rfl, s1, b1⟩
  have hp1 := s1.lt
  have S1 : Hid (Gn.Src w.heap.size w1 w.heap.size xs 0) := s1
  clear s1
  go_wp2_with fail
  refine (readings_any n f w.heap.size w.heap.size 0 xs _ S1.out (Nat.le_refl _) (by decide) hx (HN.out ()) hf).mono ?_
  rintro e w2 ⟨v2, us, rfl, o2, hl, hfi, _, g2⟩
  have O2 : Hid (OwnR w2 w.heap.size v2 us) := OwnR.mono o2 b1.size
  have B2 : Below w.heap.size w w2 := ⟨g2.os.trans b1.os, g2.tape.trans b1.tape, g2.output.trans b1.output, Nat.le_trans b1.size g2.size, fun k hk => (below_kept g2 (Nat.le_refl _) hp1 k hk).trans (b1.block k hk)⟩
  have HF : Hid (us.length = 2 * f + 1 ∧ Fine n n (us.map cv)) := ⟨hl, hfi⟩
  clear o2 g2 b1 hl hfi S1
  go_wp2_with fail
  go_ret
  exact ⟨_, us, rfl, O2.out, HF.out.1, HF.out.2, B2⟩
end Go.Proofs.YtdeologdmdimoaaDoor.Ag
