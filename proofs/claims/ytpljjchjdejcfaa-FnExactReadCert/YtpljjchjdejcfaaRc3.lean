/- Certificates are read: ReadCert of the program. -/
import Derived.Test.YtpljjchjdejcfaaRc2
namespace Go.Proofs.Ytpljjchjdejcfaa.Rc
open Go.RowKit Go.Proofs.Ytpljjchjdejcfaa.Sl Go.Proofs.Ytpljjchjdejcfaa.By Go.Proofs.Ytpljjchjdejcfaa.Ap Go.Proofs.Ytpljjchjdejcfaa.Rq Go.Proofs.Ytpljjchjdejcfaa.Rr Go.Proofs.Ytpljjchjdejcfaa.Of Go.Proofs.Ytpljjchjdejcfaa.Om Go.Proofs.Ytpljjchjdejcfaa.Ms Go.Proofs.Ytpljjchjdejcfaa.Gm Go.Proofs.Ytpljjchjdejcfaa.Cb
open Go.Proofs.Ytpljjchjdejcfaa.Tx (RowT tnth)
open Go.Proofs.Ytpljjchjdejcfaa.Tl (OwnS)
open Go.Proofs.Ytpljjchjdejcfaa.Rl (rdC rdL implReadList_any)
open Go.Proofs.Ytpljjchjdejcfaa.Rg (RowG RowG.slice RowG.at lt_at mem_at bel_new)

theorem ret_cc {a : ByteArray} {b : ByteArray} {v : Value} {c d : Int} (h : a = b ∧ c = d) : Ending.returned (.tuple #[.agg #[.string a, v], .int .i64 c]) = .returned (.tuple #[crtV b v, .int .i64 d]) := by rw [h.1, h.2]; rfl
theorem rdC_cases (xs : List Int) : rdC xs = 0 ∨ rdC xs = 2 ∨ rdC xs = 3 := by
  unfold Rl.rdC Rl.rlC
  split
  · exact .inr (.inl rfl)
  · split
    · exact .inl rfl
    · exact .inr (.inr rfl)
set_option maxRecDepth 100000 in
set_option maxHeartbeats 1600000 in
theorem implReadCert_any (v : Value) (xs : List Int) (w : World) (h : RowB w v xs) (hl : xs.length ≤ 1048576) :
    Calls Try.prog 30 #[v] w fun e w' => ∃ vp, e = .returned (.tuple #[crtV (rcBd xs) vp, .int .i64 (rcCode xs)]) ∧ OwnM w' w.heap.size vp (rcMs xs) ∧ Below w.heap.size w w' := by
  have hr : ∀ x ∈ xs, 0 ≤ x ∧ x ≤ 255 := by obtain ⟨_, _, _, _, h⟩ := h; exact h
  have HSM : Hid (∀ t ∈ rdL xs, t.size ≤ 65535) := rdL_size xs hr
  have HLL : Hid ((rdL xs).length ≤ 65535) := Rl.rdL_small xs hr
  have HRL := implReadList_any v xs (w.alloc (.cells #[.string ⟨#[]⟩, .slice none 0 0] 40)) (h.below (bel_new _ _)) hl
  clear hr h
  go_enter Try.func30, Try.ntmps30
  go_wp2_with fail
  refine HRL.mono ?_
  rintro e w1 ⟨v1, rfl, o1, b1⟩
  have K0 : Hid (w1.heap[w.heap.size]? = some (.cells #[.string ⟨#[]⟩, .slice none 0 0] 40 (0, 0))) := (b1.block w.heap.size (by simp)).trans (heap_alloc_new w _)
  have KB : Hid (Below w.heap.size w w1) := (bel_new w _).trans (b1.mono (by simp))
  have O1 : Hid (OwnS w1 (w.alloc (.cells #[.string ⟨#[]⟩, .slice none 0 0] 40)).heap.size v1 (rdL xs)) := o1
  clear b1 o1 HRL
  by_cases h0 : rdC xs = 0
  · have hRT := Tl.OwnS.row O1.out
    rw [h0]
    obtain ⟨a, cap, rfl, hh⟩ := hRT
    have HHH : Hid (rdL xs = [] ∨ ∃ b off, a = some ⟨b, off, none⟩ ∧ (rdL xs).length ≤ cap ∧ b < w1.heap.size ∧ ∀ i, i < (rdL xs).length → w1.cell? ⟨b, off + i, none⟩ = some (.string (tnth (rdL xs) i))) := hh
    clear hh O1
    cases hL : rdL xs with
    | nil =>
      have HN : Hid (rcBd xs = ⟨#[]⟩ ∧ rcMs xs = [] ∧ rcCode xs = 3) := by
        have h1 := rc_no (xs := xs) (by unfold rcOK; rw [hL]; simp)
        rw [if_pos h0] at h1
        exact h1
      clear hL h0 HHH HSM HLL
      obtain ⟨m0, n0⟩ := blk_cell K0.out 0 (x := .string ⟨#[]⟩) rfl
      obtain ⟨m1, n1⟩ := blk_cell K0.out 1 (x := .slice none 0 0) rfl
      have AF : ((w1.setCell ⟨w.heap.size, 0, none⟩ (.string ⟨#[]⟩)).setCell ⟨w.heap.size, 1, none⟩ (.slice none 0 0)).heap[w.heap.size]? = some (.cells #[.string ⟨#[]⟩, .slice none 0 0] 40 (0, 0)) := (blk_set (blk_set K0.out 0 (.string ⟨#[]⟩)) 1 (.slice none 0 0))
      have GF : Hid (Below w.heap.size w ((w1.setCell ⟨w.heap.size, 0, none⟩ (.string ⟨#[]⟩)).setCell ⟨w.heap.size, 1, none⟩ (.slice none 0 0))) := (Below.setCell (Below.setCell KB.out (p := ⟨w.heap.size, 0, none⟩) (Nat.le_refl _) (.string ⟨#[]⟩)) (p := ⟨w.heap.size, 1, none⟩) (Nat.le_refl _) (.slice none 0 0))
      go_wp2_with fail
      generalize ((w1.setCell ⟨w.heap.size, 0, none⟩ (.string ⟨#[]⟩)).setCell ⟨w.heap.size, 1, none⟩ (.slice none 0 0)) = wf at AF GF ⊢
      have d0 := (blk_cell AF 0 (x := .string ⟨#[]⟩) rfl).1
      have d1 := (blk_cell AF 1 (x := .slice none 0 0) rfl).1
      exact bodyPost_ret (v := .tuple #[.agg #[.string ⟨#[]⟩, .slice none 0 0], .int .i64 3]) (by simp [results, Try.results30, go_sem, d0, d1]) rfl ⟨_, ret_cc ⟨HN.out.1.symm, HN.out.2.2.symm⟩, by rw [HN.out.2.1]; exact OwnM.nil _ _, GF.out⟩
    | cons t0 ts =>
      have HL : Hid (rdL xs = t0 :: ts) := hL
      rw [hL] at HHH HSM HLL
      clear hL
      obtain ⟨b, off, rfl, hc, hbl, hcell⟩ := (HHH.out.resolve_left (by simp))
      clear HHH
      have c0 : w1.cell? ⟨b, off, none⟩ = some (.string t0) := hcell 0 (by simp)
      have hc1 : ts.length + 1 ≤ cap := by simpa using hc
      have HR1 : RowT w1 (.slice (some ⟨b, off + 1, none⟩) ts.length (cap - 1)) ts := by
        refine ⟨_, _, rfl, .inr ⟨b, off + 1, rfl, by omega, hbl, fun i hi => ?_⟩⟩
        have := hcell (i + 1) (by simp; omega)
        rw [show off + 1 + i = off + (i + 1) by omega, this]
        rfl
      have hlen : ts.length + 1 ≤ 65535 := by have := HLL.out; simpa using this
      have HRM := readMessages_any _ ts w1 HR1 (by omega) (fun t ht => by have := HSM.out t (List.mem_cons_of_mem _ ht); omega)
      have HRMM : Hid (Calls Try.prog 68 #[.slice (some ⟨b, off + 1, none⟩) ts.length (cap - 1)] w1 fun e w' => ∃ v', e = .returned (.tuple #[v', .bool (allOK ts)]) ∧ OwnM w' w1.heap.size v' (rmOut ts) ∧ Below w1.heap.size w1 w') := HRM
      clear hcell hc HR1 HRM HSM HLL
      have HRM0 : Hid (ts.length = 0 → Calls Try.prog 68 #[.slice (some ⟨b, off, none⟩) ts.length 0] w1 fun e w' => ∃ v', e = .returned (.tuple #[v', .bool (allOK ts)]) ∧ OwnM w' w1.heap.size v' (rmOut ts) ∧ Below w1.heap.size w1 w') := fun h => readMessages_any _ ts w1 ⟨_, _, rfl, .inl (List.length_eq_zero_iff.1 h)⟩ (by omega) (fun t ht => by rw [List.length_eq_zero_iff.1 h] at ht; cases ht)
      rw [List.length_cons]
      go_wp2_with fail
      all_goals
        first
          | (with_reducible refine HRMM.out.mono ?_)
          | (with_reducible refine (HRM0.out (by omega)).mono ?_)
        rintro e w2 ⟨v2, rfl, o2, b2⟩
        have c2 : w2.cell? ⟨b, off, none⟩ = some (.string t0) := (b2.cell (p := ⟨b, off, none⟩) hbl).trans c0
        have k0l := (Array.getElem?_eq_some_iff.1 K0.out).1
        have K02 : Hid (w2.heap[w.heap.size]? = some (.cells #[.string ⟨#[]⟩, .slice none 0 0] 40 (0, 0))) := (b2.block _ k0l).trans K0.out
        have KB2 : Hid (Below w.heap.size w w2) := KB.out.trans (b2.mono KB.out.size)
        obtain ⟨a2, cap2, rfl⟩ := RowG.slice (OwnM.row o2)
        have O2 : Hid (OwnM w2 w.heap.size (.slice a2 (rmOut ts).length cap2) (rmOut ts)) := o2.mono KB.out.size
        clear o2 b2 c0 k0l K0 KB HRMM HRM0
        obtain ⟨mm, HMM⟩ : ∃ mm, Hid (rmOut ts = mm) := ⟨_, rfl⟩
        rw [HMM.out] at O2 ⊢
        have k2l := (Array.getElem?_eq_some_iff.1 K02.out).1
        have K03 : Hid ((w2.alloc (.cells #[.string t0, .slice a2 mm.length cap2] 40)).heap[w.heap.size]? = some (.cells #[.string ⟨#[]⟩, .slice none 0 0] 40 (0, 0))) := (Below.heap_alloc w2 _ _ k2l).trans K02.out
        have X3 : Hid ((w2.alloc (.cells #[.string t0, .slice a2 mm.length cap2] 40)).heap[w2.heap.size]? = some (.cells #[.string t0, .slice a2 mm.length cap2] 40 (0, 0))) := heap_alloc_new w2 _
        have KB3 : Hid (Below w.heap.size w (w2.alloc (.cells #[.string t0, .slice a2 mm.length cap2] 40))) := KB2.out.alloc KB2.out.size _
        have O3 : Hid (OwnM (w2.alloc (.cells #[.string t0, .slice a2 mm.length cap2] 40)) w.heap.size (.slice a2 mm.length cap2) mm) := O2.out.alloc _
        have hml : Hid (mm.length ≤ 1048576) := by show _ ≤ _; rw [← HMM.out]; unfold rmOut msOf; split <;> simp; omega
        clear K02 KB2 O2 k2l
        cases ha : allOK ts with
        | false =>
          have HN : Hid (rcBd xs = ⟨#[]⟩ ∧ rcMs xs = [] ∧ rcCode xs = 3) := by
            have h1 := rc_no (xs := xs) (by unfold rcOK; rw [HL.out]; simp [ha])
            rw [if_pos h0] at h1
            exact h1
          clear h0 HL X3 O3
          go_upto_region 8 with fail
          generalize w2.alloc (.cells #[.string t0, .slice a2 mm.length cap2] 40) = w3 at K03 KB3 ⊢
          clear c2
          obtain ⟨m0, n0⟩ := blk_cell K03.out 0 (x := .string ⟨#[]⟩) rfl
          obtain ⟨m1, n1⟩ := blk_cell K03.out 1 (x := .slice none 0 0) rfl
          have AF : ((w3.setCell ⟨w.heap.size, 0, none⟩ (.string ⟨#[]⟩)).setCell ⟨w.heap.size, 1, none⟩ (.slice none 0 0)).heap[w.heap.size]? = some (.cells #[.string ⟨#[]⟩, .slice none 0 0] 40 (0, 0)) := (blk_set (blk_set K03.out 0 (.string ⟨#[]⟩)) 1 (.slice none 0 0))
          have GF : Hid (Below w.heap.size w ((w3.setCell ⟨w.heap.size, 0, none⟩ (.string ⟨#[]⟩)).setCell ⟨w.heap.size, 1, none⟩ (.slice none 0 0))) := (Below.setCell (Below.setCell KB3.out (p := ⟨w.heap.size, 0, none⟩) (Nat.le_refl _) (.string ⟨#[]⟩)) (p := ⟨w.heap.size, 1, none⟩) (Nat.le_refl _) (.slice none 0 0))
          go_wp2_with fail
          generalize ((w3.setCell ⟨w.heap.size, 0, none⟩ (.string ⟨#[]⟩)).setCell ⟨w.heap.size, 1, none⟩ (.slice none 0 0)) = wf at AF GF ⊢
          have d0 := (blk_cell AF 0 (x := .string ⟨#[]⟩) rfl).1
          have d1 := (blk_cell AF 1 (x := .slice none 0 0) rfl).1
          exact bodyPost_ret (v := .tuple #[.agg #[.string ⟨#[]⟩, .slice none 0 0], .int .i64 3]) (by simp [results, Try.results30, go_sem, d0, d1]) rfl ⟨_, ret_cc ⟨HN.out.1.symm, HN.out.2.2.symm⟩, by rw [HN.out.2.1]; exact OwnM.nil _ _, GF.out⟩
        | true =>
          have HMT : Hid (mm = msOf ts) := by show _ = _; rw [← HMM.out]; unfold rmOut; rw [ha]; rfl
          go_upto_region 8 with fail
          obtain ⟨x3, HX3⟩ : ∃ x3, Hid (w2.heap.size = x3) := ⟨_, rfl⟩
          rw [HX3.out] at X3 ⊢
          generalize w2.alloc (.cells #[.string t0, .slice a2 mm.length cap2] 40) = w3 at K03 KB3 X3 O3 ⊢
          have HCF := certFormed_any t0 (.slice a2 mm.length cap2) mm w3 (OwnM.row O3.out) hml.out
          unfold crtV at HCF
          have x0 := (blk_cell X3.out 0 (x := .string t0) rfl).1
          have x1 := (blk_cell X3.out 1 (x := .slice a2 mm.length cap2) rfl).1
          clear c2
          go_wp2_with fail
          refine HCF.mono ?_
          rintro e w4 ⟨rfl, b4⟩
          have k3l := (Array.getElem?_eq_some_iff.1 K03.out).1
          have x3l := (Array.getElem?_eq_some_iff.1 X3.out).1
          have K04 : Hid (w4.heap[w.heap.size]? = some (.cells #[.string ⟨#[]⟩, .slice none 0 0] 40 (0, 0))) := (b4.block _ k3l).trans K03.out
          have X4 : Hid (w4.heap[x3]? = some (.cells #[.string t0, .slice a2 mm.length cap2] 40 (0, 0))) := (b4.block _ x3l).trans X3.out
          have KB4 : Hid (Below w.heap.size w w4) := KB3.out.trans (b4.mono KB3.out.size)
          have O4 : Hid (OwnM w4 w.heap.size (.slice a2 mm.length cap2) mm) := O3.out.below b4
          clear b4 K03 X3 KB3 O3 HCF k3l x3l x0 x1
          cases hf : cfB mm with
          | false =>
            have HN : Hid (rcBd xs = ⟨#[]⟩ ∧ rcMs xs = [] ∧ rcCode xs = 3) := by
              have h1 := rc_no (xs := xs) (by unfold rcOK; rw [HL.out]; simp [ha, ← HMT.out, hf])
              rw [if_pos h0] at h1
              exact h1
            clear h0 HL X4 O4
            obtain ⟨m0, n0⟩ := blk_cell K04.out 0 (x := .string ⟨#[]⟩) rfl
            obtain ⟨m1, n1⟩ := blk_cell K04.out 1 (x := .slice none 0 0) rfl
            have AF : ((w4.setCell ⟨w.heap.size, 0, none⟩ (.string ⟨#[]⟩)).setCell ⟨w.heap.size, 1, none⟩ (.slice none 0 0)).heap[w.heap.size]? = some (.cells #[.string ⟨#[]⟩, .slice none 0 0] 40 (0, 0)) := (blk_set (blk_set K04.out 0 (.string ⟨#[]⟩)) 1 (.slice none 0 0))
            have GF : Hid (Below w.heap.size w ((w4.setCell ⟨w.heap.size, 0, none⟩ (.string ⟨#[]⟩)).setCell ⟨w.heap.size, 1, none⟩ (.slice none 0 0))) := (Below.setCell (Below.setCell KB4.out (p := ⟨w.heap.size, 0, none⟩) (Nat.le_refl _) (.string ⟨#[]⟩)) (p := ⟨w.heap.size, 1, none⟩) (Nat.le_refl _) (.slice none 0 0))
            go_wp2_with fail
            generalize ((w4.setCell ⟨w.heap.size, 0, none⟩ (.string ⟨#[]⟩)).setCell ⟨w.heap.size, 1, none⟩ (.slice none 0 0)) = wf at AF GF ⊢
            have d0 := (blk_cell AF 0 (x := .string ⟨#[]⟩) rfl).1
            have d1 := (blk_cell AF 1 (x := .slice none 0 0) rfl).1
            exact bodyPost_ret (v := .tuple #[.agg #[.string ⟨#[]⟩, .slice none 0 0], .int .i64 3]) (by simp [results, Try.results30, go_sem, d0, d1]) rfl ⟨_, ret_cc ⟨HN.out.1.symm, HN.out.2.2.symm⟩, by rw [HN.out.2.1]; exact OwnM.nil _ _, GF.out⟩
          | true =>
            have HN : Hid (rcBd xs = t0 ∧ rcMs xs = mm ∧ rcCode xs = 0) := by
              have h1 := rc_yes h0 HL.out ha (by rw [← HMT.out]; exact hf)
              rw [← HMT.out] at h1
              exact h1
            have HAW : Hid (∀ g, (Value.slice a2 mm.length cap2).ownBlock = some g → g ≠ w.heap.size) := fun g hg e => by
              subst e
              obtain ⟨_, h | ⟨g', cap', cur, he, _, hgg, _⟩⟩ := O4.out
              · rw [h.1] at hg; simp [Value.ownBlock] at hg
              · rw [he] at hg
                simp [Value.ownBlock] at hg
                subst hg
                rw [K04.out] at hgg
                simp at hgg
            clear h0 HL
            have p0 := (blk_cell X4.out 0 (x := .string t0) rfl).1
            have p1 := (blk_cell X4.out 1 (x := .slice a2 mm.length cap2) rfl).1
            obtain ⟨m0, n0⟩ := blk_cell K04.out 0 (x := .string ⟨#[]⟩) rfl
            obtain ⟨m1, n1⟩ := blk_cell K04.out 1 (x := .slice none 0 0) rfl
            have AF : ((w4.setCell ⟨w.heap.size, 0, none⟩ (.string t0)).setCell ⟨w.heap.size, 1, none⟩ (.slice a2 mm.length cap2)).heap[w.heap.size]? = some (.cells #[.string t0, .slice a2 mm.length cap2] 40 (0, 0)) := (blk_set (blk_set K04.out 0 (.string t0)) 1 (.slice a2 mm.length cap2))
            have GF : Hid (Below w.heap.size w ((w4.setCell ⟨w.heap.size, 0, none⟩ (.string t0)).setCell ⟨w.heap.size, 1, none⟩ (.slice a2 mm.length cap2))) := (Below.setCell (Below.setCell KB4.out (p := ⟨w.heap.size, 0, none⟩) (Nat.le_refl _) (.string t0)) (p := ⟨w.heap.size, 1, none⟩) (Nat.le_refl _) (.slice a2 mm.length cap2))
            have OF : Hid (OwnM ((w4.setCell ⟨w.heap.size, 0, none⟩ (.string t0)).setCell ⟨w.heap.size, 1, none⟩ (.slice a2 mm.length cap2)) w.heap.size (.slice a2 mm.length cap2) mm) := O4.out.kept fun g hg => (blk_far (HAW.out g hg) 1 _).trans (blk_far (HAW.out g hg) 0 _)
            go_wp2_with fail
            generalize ((w4.setCell ⟨w.heap.size, 0, none⟩ (.string t0)).setCell ⟨w.heap.size, 1, none⟩ (.slice a2 mm.length cap2)) = wf at AF GF OF ⊢
            have d0 := (blk_cell AF 0 (x := .string t0) rfl).1
            have d1 := (blk_cell AF 1 (x := .slice a2 mm.length cap2) rfl).1
            exact bodyPost_ret (v := .tuple #[.agg #[.string t0, .slice a2 mm.length cap2], .int .i64 0]) (by simp [results, Try.results30, go_sem, d0, d1]) rfl ⟨_, ret_cc ⟨HN.out.1.symm, HN.out.2.2.symm⟩, by rw [HN.out.2.1]; exact OF.out, GF.out⟩
  · have hne : (rdC xs != 0) = true := by simp [h0]
    have HN : Hid (rcBd xs = ⟨#[]⟩ ∧ rcMs xs = [] ∧ rcCode xs = rdC xs) := by
      have h1 := rc_no (xs := xs) (by unfold rcOK; simp [h0])
      rw [if_neg h0] at h1
      exact h1
    clear O1 h0 HSM HLL
    generalize rdC xs = cd at HN hne
    obtain ⟨m0, n0⟩ := blk_cell K0.out 0 (x := .string ⟨#[]⟩) rfl
    obtain ⟨m1, n1⟩ := blk_cell K0.out 1 (x := .slice none 0 0) rfl
    have AF : ((w1.setCell ⟨w.heap.size, 0, none⟩ (.string ⟨#[]⟩)).setCell ⟨w.heap.size, 1, none⟩ (.slice none 0 0)).heap[w.heap.size]? = some (.cells #[.string ⟨#[]⟩, .slice none 0 0] 40 (0, 0)) := (blk_set (blk_set K0.out 0 (.string ⟨#[]⟩)) 1 (.slice none 0 0))
    have GF : Hid (Below w.heap.size w ((w1.setCell ⟨w.heap.size, 0, none⟩ (.string ⟨#[]⟩)).setCell ⟨w.heap.size, 1, none⟩ (.slice none 0 0))) := (Below.setCell (Below.setCell KB.out (p := ⟨w.heap.size, 0, none⟩) (Nat.le_refl _) (.string ⟨#[]⟩)) (p := ⟨w.heap.size, 1, none⟩) (Nat.le_refl _) (.slice none 0 0))
    go_wp2_with fail
    generalize ((w1.setCell ⟨w.heap.size, 0, none⟩ (.string ⟨#[]⟩)).setCell ⟨w.heap.size, 1, none⟩ (.slice none 0 0)) = wf at AF GF ⊢
    have d0 := (blk_cell AF 0 (x := .string ⟨#[]⟩) rfl).1
    have d1 := (blk_cell AF 1 (x := .slice none 0 0) rfl).1
    exact bodyPost_ret (v := .tuple #[.agg #[.string ⟨#[]⟩, .slice none 0 0], .int .i64 cd]) (by simp [results, Try.results30, go_sem, d0, d1]) rfl ⟨_, ret_cc ⟨HN.out.1.symm, HN.out.2.2.symm⟩, by rw [HN.out.2.1]; exact OwnM.nil _ _, GF.out⟩
end Go.Proofs.Ytpljjchjdejcfaa.Rc
