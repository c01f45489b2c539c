/- Texts put together: Rc3, Rc4. -/
import Derived.Test.YtondmbeccpekiaaGreatDoorH34
/- Certificates are read: ReadCert of the program. -/
namespace Go.Proofs.YtondmbeccpekiaaGreatDoor.Rc
open Go.RowKit Go.Proofs.YtondmbeccpekiaaGreatDoor.Sl Go.Proofs.YtondmbeccpekiaaGreatDoor.By Go.Proofs.YtondmbeccpekiaaGreatDoor.Ap Go.Proofs.YtondmbeccpekiaaGreatDoor.Rq Go.Proofs.YtondmbeccpekiaaGreatDoor.Rr Go.Proofs.YtondmbeccpekiaaGreatDoor.Of Go.Proofs.YtondmbeccpekiaaGreatDoor.Om Go.Proofs.YtondmbeccpekiaaGreatDoor.Ms Go.Proofs.YtondmbeccpekiaaGreatDoor.Gm Go.Proofs.YtondmbeccpekiaaGreatDoor.Cb
open Go.Proofs.YtondmbeccpekiaaGreatDoor.Ty (RowT tnth)
open Go.Proofs.YtondmbeccpekiaaGreatDoor.Tl (OwnS)
open Go.Proofs.YtondmbeccpekiaaGreatDoor.Rl (rdC rdL implReadList_any)
open Go.Proofs.YtondmbeccpekiaaGreatDoor.Rg (RowG RowG.slice RowG.at lt_at mem_at bel_new)

theorem ret_cc {a : ByteArray} {b : ByteArray} {v : Value} {c d : Int} (h : a = b ∧ c = d) : Ending.returned (.tuple #[.agg #[.string a, v], .int .i64 c]) = .returned (.tuple #[crtV b v, .int .i64 d]) := by rw [h.1, h.2]; rfl
set_option maxRecDepth 100000 in
set_option maxHeartbeats 1600000 in
theorem implReadCert_any (v : Value) (xs : List Int) (w : World) (h : RowB w v xs) (hl : xs.length ≤ 1048576) :
    Calls Tryz.prog 186 #[v] w fun e w' => ∃ vp, e = .returned (.tuple #[crtV (rcBd xs) vp, .int .i64 (rcCode xs)]) ∧ OwnM w' w.heap.size vp (rcMs xs) ∧ Below w.heap.size w w' := by
  have hr : ∀ x ∈ xs, 0 ≤ x ∧ x ≤ 255 := by obtain ⟨_, _, _, _, h⟩ := h; exact h
  have HSM : Hid (∀ t ∈ rdL xs, t.size ≤ 65535) := rdL_size xs hr
  have HLL : Hid ((rdL xs).length ≤ 65535) := Rl.rdL_small xs hr
  have HRL := implReadList_any v xs (w.alloc (.cells #[.string ⟨#[]⟩, .slice none 0 0] 87)) (h.below (bel_new _ _)) hl
  clear hr h
  go_enter Tryz.func186, Tryz.ntmps186
  go_wp2_with fail
  refine HRL.mono ?_
  rintro e w1 ⟨v1, rfl, o1, b1⟩
  have K0 : Hid (w1.heap[w.heap.size]? = some (.cells #[.string ⟨#[]⟩, .slice none 0 0] 87 (0, 0))) := (b1.block w.heap.size (by simp)).trans (heap_alloc_new w _)
  have KB : Hid (Below w.heap.size w w1) := (bel_new w _).trans (b1.mono (by simp))
  have O1 : Hid (OwnS w1 (w.alloc (.cells #[.string ⟨#[]⟩, .slice none 0 0] 87)).heap.size v1 (rdL xs)) := o1
  clear b1 o1 HRL
  by_cases h0 : rdC xs = 0
  · have hRT := Tl.OwnS.row O1.out
    rw [h0]
    obtain ⟨a, cap, rfl, hh⟩ := hRT
    have HHH : Hid (rdL xs = [] ∨ ∃ b off, a = some ⟨b, off, none⟩ ∧ (rdL xs).length ≤ cap ∧ b < w1.heap.size ∧ ∀ i, i < (rdL xs).length → w1.cell? ⟨b, off + i, none⟩ = some (.string (tnth (rdL xs) i))) := hh
    clear hh O1
    cases hL : rdL xs with
    | nil =>
      have HN : Hid (rcBd xs = ⟨#[]⟩ ∧ rcMs xs = [] ∧ rcCode xs = 3) := by
        have h1 := rc_no (xs := xs) (by unfold rcOK; rw [hL]; simp)
        rw [if_pos h0] at h1
        exact h1
      clear hL h0 HHH HSM HLL
      obtain ⟨m0, n0⟩ := blk_cell K0.out 0 (x := .string ⟨#[]⟩) rfl
      obtain ⟨m1, n1⟩ := blk_cell K0.out 1 (x := .slice none 0 0) rfl
      have AF : ((w1.setCell ⟨w.heap.size, 0, none⟩ (.string ⟨#[]⟩)).setCell ⟨w.heap.size, 1, none⟩ (.slice none 0 0)).heap[w.heap.size]? = some (.cells #[.string ⟨#[]⟩, .slice none 0 0] 87 (0, 0)) := (blk_set (blk_set K0.out 0 (.string ⟨#[]⟩)) 1 (.slice none 0 0))
      have GF : Hid (Below w.heap.size w ((w1.setCell ⟨w.heap.size, 0, none⟩ (.string ⟨#[]⟩)).setCell ⟨w.heap.size, 1, none⟩ (.slice none 0 0))) := (Below.setCell (Below.setCell KB.out (p := ⟨w.heap.size, 0, none⟩) (Nat.le_refl _) (.string ⟨#[]⟩)) (p := ⟨w.heap.size, 1, none⟩) (Nat.le_refl _) (.slice none 0 0))
      go_wp2_with fail
      generalize ((w1.setCell ⟨w.heap.size, 0, none⟩ (.string ⟨#[]⟩)).setCell ⟨w.heap.size, 1, none⟩ (.slice none 0 0)) = wf at AF GF ⊢
      have d0 := (blk_cell AF 0 (x := .string ⟨#[]⟩) rfl).1
      have d1 := (blk_cell AF 1 (x := .slice none 0 0) rfl).1
      exact bodyPost_ret (v := .tuple #[.agg #[.string ⟨#[]⟩, .slice none 0 0], .int .i64 3]) (by simp [results, Tryz.results186, go_sem, d0, d1]) rfl ⟨_, ret_cc ⟨HN.out.1.symm, HN.out.2.2.symm⟩, by rw [HN.out.2.1]; exact OwnM.nil _ _, GF.out⟩
    | cons t0 ts =>
      have HL : Hid (rdL xs = t0 :: ts) := hL
      rw [hL] at HHH HSM HLL
      clear hL
      obtain ⟨b, off, rfl, hc, hbl, hcell⟩ := (HHH.out.resolve_left (by simp))
      clear HHH
      have c0 : w1.cell? ⟨b, off, none⟩ = some (.string t0) := hcell 0 (by simp)
      have hc1 : ts.length + 1 ≤ cap := by simpa using hc
      have HR1 : RowT w1 (.slice (some ⟨b, off + 1, none⟩) ts.length (cap - 1)) ts := by
        refine ⟨_, _, rfl, .inr ⟨b, off + 1, rfl, by omega, hbl, fun i hi => ?_⟩⟩
        have := hcell (i + 1) (by simp; omega)
        rw [show off + 1 + i = off + (i + 1) by omega, this]
        rfl
      have hlen : ts.length + 1 ≤ 65535 := by have := HLL.out; simpa using this
      have HRM := readMessages_any _ ts w1 HR1 (by omega) (fun t ht => by have := HSM.out t (List.mem_cons_of_mem _ ht); omega)
      have HRMM : Hid (Calls Tryz.prog 195 #[.slice (some ⟨b, off + 1, none⟩) ts.length (cap - 1)] w1 fun e w' => ∃ v', e = .returned (.tuple #[v', .bool (allOK ts)]) ∧ OwnM w' w1.heap.size v' (rmOut ts) ∧ Below w1.heap.size w1 w') := HRM
      clear hcell hc HR1 HRM HSM HLL
      have HRM0 : Hid (ts.length = 0 → Calls Tryz.prog 195 #[.slice (some ⟨b, off, none⟩) ts.length 0] w1 fun e w' => ∃ v', e = .returned (.tuple #[v', .bool (allOK ts)]) ∧ OwnM w' w1.heap.size v' (rmOut ts) ∧ Below w1.heap.size w1 w') := fun h => readMessages_any _ ts w1 ⟨_, _, rfl, .inl (List.length_eq_zero_iff.1 h)⟩ (by omega) (fun t ht => by rw [List.length_eq_zero_iff.1 h] at ht; cases ht)
      rw [List.length_cons]
      go_wp2_with fail
      all_goals
        first
          | (with_reducible refine HRMM.out.mono ?_)
          | (with_reducible refine (HRM0.out (by omega)).mono ?_)
        rintro e w2 ⟨v2, rfl, o2, b2⟩
        have c2 : w2.cell? ⟨b, off, none⟩ = some (.string t0) := (b2.cell (p := ⟨b, off, none⟩) hbl).trans c0
        have k0l := (Array.getElem?_eq_some_iff.1 K0.out).1
        have K02 : Hid (w2.heap[w.heap.size]? = some (.cells #[.string ⟨#[]⟩, .slice none 0 0] 87 (0, 0))) := (b2.block _ k0l).trans K0.out
        have KB2 : Hid (Below w.heap.size w w2) := KB.out.trans (b2.mono KB.out.size)
        obtain ⟨a2, cap2, rfl⟩ := RowG.slice (OwnM.row o2)
        have O2 : Hid (OwnM w2 w.heap.size (.slice a2 (rmOut ts).length cap2) (rmOut ts)) := o2.mono KB.out.size
        clear o2 b2 c0 k0l K0 KB HRMM HRM0
        obtain ⟨mm, HMM⟩ : ∃ mm, Hid (rmOut ts = mm) := ⟨_, rfl⟩
        rw [HMM.out] at O2 ⊢
        have k2l := (Array.getElem?_eq_some_iff.1 K02.out).1
        have K03 : Hid ((w2.alloc (.cells #[.string t0, .slice a2 mm.length cap2] 87)).heap[w.heap.size]? = some (.cells #[.string ⟨#[]⟩, .slice none 0 0] 87 (0, 0))) := (Below.heap_alloc w2 _ _ k2l).trans K02.out
        have X3 : Hid ((w2.alloc (.cells #[.string t0, .slice a2 mm.length cap2] 87)).heap[w2.heap.size]? = some (.cells #[.string t0, .slice a2 mm.length cap2] 87 (0, 0))) := heap_alloc_new w2 _
        have KB3 : Hid (Below w.heap.size w (w2.alloc (.cells #[.string t0, .slice a2 mm.length cap2] 87))) := KB2.out.alloc KB2.out.size _
        have O3 : Hid (OwnM (w2.alloc (.cells #[.string t0, .slice a2 mm.length cap2] 87)) w.heap.size (.slice a2 mm.length cap2) mm) := O2.out.alloc _
        have hml : Hid (mm.length ≤ 1048576) := by show _ ≤ _; rw [← HMM.out]; unfold rmOut msOf; split <;> simp; omega
        clear K02 KB2 O2 k2l
        cases ha : allOK ts with
        | false =>
          have HN : Hid (rcBd xs = ⟨#[]⟩ ∧ rcMs xs = [] ∧ rcCode xs = 3) := by
            have h1 := rc_no (xs := xs) (by unfold rcOK; rw [HL.out]; simp [ha])
            rw [if_pos h0] at h1
            exact h1
          clear h0 HL X3 O3
          go_upto_region 8 with fail
          generalize w2.alloc (.cells #[.string t0, .slice a2 mm.length cap2] 87) = w3 at K03 KB3 ⊢
          clear c2
          obtain ⟨m0, n0⟩ := blk_cell K03.out 0 (x := .string ⟨#[]⟩) rfl
          obtain ⟨m1, n1⟩ := blk_cell K03.out 1 (x := .slice none 0 0) rfl
          have AF : ((w3.setCell ⟨w.heap.size, 0, none⟩ (.string ⟨#[]⟩)).setCell ⟨w.heap.size, 1, none⟩ (.slice none 0 0)).heap[w.heap.size]? = some (.cells #[.string ⟨#[]⟩, .slice none 0 0] 87 (0, 0)) := (blk_set (blk_set K03.out 0 (.string ⟨#[]⟩)) 1 (.slice none 0 0))
          have GF : Hid (Below w.heap.size w ((w3.setCell ⟨w.heap.size, 0, none⟩ (.string ⟨#[]⟩)).setCell ⟨w.heap.size, 1, none⟩ (.slice none 0 0))) := (Below.setCell (Below.setCell KB3.out (p := ⟨w.heap.size, 0, none⟩) (Nat.le_refl _) (.string ⟨#[]⟩)) (p := ⟨w.heap.size, 1, none⟩) (Nat.le_refl _) (.slice none 0 0))
          go_wp2_with fail
          generalize ((w3.setCell ⟨w.heap.size, 0, none⟩ (.string ⟨#[]⟩)).setCell ⟨w.heap.size, 1, none⟩ (.slice none 0 0)) = wf at AF GF ⊢
          have d0 := (blk_cell AF 0 (x := .string ⟨#[]⟩) rfl).1
          have d1 := (blk_cell AF 1 (x := .slice none 0 0) rfl).1
          exact bodyPost_ret (v := .tuple #[.agg #[.string ⟨#[]⟩, .slice none 0 0], .int .i64 3]) (by simp [results, Tryz.results186, go_sem, d0, d1]) rfl ⟨_, ret_cc ⟨HN.out.1.symm, HN.out.2.2.symm⟩, by rw [HN.out.2.1]; exact OwnM.nil _ _, GF.out⟩
        | true =>
          have HMT : Hid (mm = msOf ts) := by show _ = _; rw [← HMM.out]; unfold rmOut; rw [ha]; rfl
          go_upto_region 8 with fail
          obtain ⟨x3, HX3⟩ : ∃ x3, Hid (w2.heap.size = x3) := ⟨_, rfl⟩
          rw [HX3.out] at X3 ⊢
          generalize w2.alloc (.cells #[.string t0, .slice a2 mm.length cap2] 87) = w3 at K03 KB3 X3 O3 ⊢
          have HCF := certFormed_any t0 (.slice a2 mm.length cap2) mm w3 (OwnM.row O3.out) hml.out
          unfold crtV at HCF
          have x0 := (blk_cell X3.out 0 (x := .string t0) rfl).1
          have x1 := (blk_cell X3.out 1 (x := .slice a2 mm.length cap2) rfl).1
          clear c2
          go_wp2_with fail
          refine HCF.mono ?_
          rintro e w4 ⟨rfl, b4⟩
          have k3l := (Array.getElem?_eq_some_iff.1 K03.out).1
          have x3l := (Array.getElem?_eq_some_iff.1 X3.out).1
          have K04 : Hid (w4.heap[w.heap.size]? = some (.cells #[.string ⟨#[]⟩, .slice none 0 0] 87 (0, 0))) := (b4.block _ k3l).trans K03.out
          have X4 : Hid (w4.heap[x3]? = some (.cells #[.string t0, .slice a2 mm.length cap2] 87 (0, 0))) := (b4.block _ x3l).trans X3.out
          have KB4 : Hid (Below w.heap.size w w4) := KB3.out.trans (b4.mono KB3.out.size)
          have O4 : Hid (OwnM w4 w.heap.size (.slice a2 mm.length cap2) mm) := O3.out.below b4
          clear b4 K03 X3 KB3 O3 HCF k3l x3l x0 x1
          cases hf : cfB mm with
          | false =>
            have HN : Hid (rcBd xs = ⟨#[]⟩ ∧ rcMs xs = [] ∧ rcCode xs = 3) := by
              have h1 := rc_no (xs := xs) (by unfold rcOK; rw [HL.out]; simp [ha, ← HMT.out, hf])
              rw [if_pos h0] at h1
              exact h1
            clear h0 HL X4 O4
            obtain ⟨m0, n0⟩ := blk_cell K04.out 0 (x := .string ⟨#[]⟩) rfl
            obtain ⟨m1, n1⟩ := blk_cell K04.out 1 (x := .slice none 0 0) rfl
            have AF : ((w4.setCell ⟨w.heap.size, 0, none⟩ (.string ⟨#[]⟩)).setCell ⟨w.heap.size, 1, none⟩ (.slice none 0 0)).heap[w.heap.size]? = some (.cells #[.string ⟨#[]⟩, .slice none 0 0] 87 (0, 0)) := (blk_set (blk_set K04.out 0 (.string ⟨#[]⟩)) 1 (.slice none 0 0))
            have GF : Hid (Below w.heap.size w ((w4.setCell ⟨w.heap.size, 0, none⟩ (.string ⟨#[]⟩)).setCell ⟨w.heap.size, 1, none⟩ (.slice none 0 0))) := (Below.setCell (Below.setCell KB4.out (p := ⟨w.heap.size, 0, none⟩) (Nat.le_refl _) (.string ⟨#[]⟩)) (p := ⟨w.heap.size, 1, none⟩) (Nat.le_refl _) (.slice none 0 0))
            go_wp2_with fail
            generalize ((w4.setCell ⟨w.heap.size, 0, none⟩ (.string ⟨#[]⟩)).setCell ⟨w.heap.size, 1, none⟩ (.slice none 0 0)) = wf at AF GF ⊢
            have d0 := (blk_cell AF 0 (x := .string ⟨#[]⟩) rfl).1
            have d1 := (blk_cell AF 1 (x := .slice none 0 0) rfl).1
            exact bodyPost_ret (v := .tuple #[.agg #[.string ⟨#[]⟩, .slice none 0 0], .int .i64 3]) (by simp [results, Tryz.results186, go_sem, d0, d1]) rfl ⟨_, ret_cc ⟨HN.out.1.symm, HN.out.2.2.symm⟩, by rw [HN.out.2.1]; exact OwnM.nil _ _, GF.out⟩
          | true =>
            have HN : Hid (rcBd xs = t0 ∧ rcMs xs = mm ∧ rcCode xs = 0) := by
              have h1 := rc_yes h0 HL.out ha (by rw [← HMT.out]; exact hf)
              rw [← HMT.out] at h1
              exact h1
            have HAW : Hid (∀ g, (Value.slice a2 mm.length cap2).ownBlock = some g → g ≠ w.heap.size) := fun g hg e => by
              subst e
              obtain ⟨_, h | ⟨g', cap', cur, he, _, hgg, _⟩⟩ := O4.out
              · rw [h.1] at hg; simp [Value.ownBlock] at hg
              · rw [he] at hg
                simp [Value.ownBlock] at hg
                subst hg
                rw [K04.out] at hgg
                simp at hgg
            clear h0 HL
            have p0 := (blk_cell X4.out 0 (x := .string t0) rfl).1
            have p1 := (blk_cell X4.out 1 (x := .slice a2 mm.length cap2) rfl).1
            obtain ⟨m0, n0⟩ := blk_cell K04.out 0 (x := .string ⟨#[]⟩) rfl
            obtain ⟨m1, n1⟩ := blk_cell K04.out 1 (x := .slice none 0 0) rfl
            have AF : ((w4.setCell ⟨w.heap.size, 0, none⟩ (.string t0)).setCell ⟨w.heap.size, 1, none⟩ (.slice a2 mm.length cap2)).heap[w.heap.size]? = some (.cells #[.string t0, .slice a2 mm.length cap2] 87 (0, 0)) := (blk_set (blk_set K04.out 0 (.string t0)) 1 (.slice a2 mm.length cap2))
            have GF : Hid (Below w.heap.size w ((w4.setCell ⟨w.heap.size, 0, none⟩ (.string t0)).setCell ⟨w.heap.size, 1, none⟩ (.slice a2 mm.length cap2))) := (Below.setCell (Below.setCell KB4.out (p := ⟨w.heap.size, 0, none⟩) (Nat.le_refl _) (.string t0)) (p := ⟨w.heap.size, 1, none⟩) (Nat.le_refl _) (.slice a2 mm.length cap2))
            have OF : Hid (OwnM ((w4.setCell ⟨w.heap.size, 0, none⟩ (.string t0)).setCell ⟨w.heap.size, 1, none⟩ (.slice a2 mm.length cap2)) w.heap.size (.slice a2 mm.length cap2) mm) := O4.out.kept fun g hg => (blk_far (HAW.out g hg) 1 _).trans (blk_far (HAW.out g hg) 0 _)
            go_wp2_with fail
            generalize ((w4.setCell ⟨w.heap.size, 0, none⟩ (.string t0)).setCell ⟨w.heap.size, 1, none⟩ (.slice a2 mm.length cap2)) = wf at AF GF OF ⊢
            have d0 := (blk_cell AF 0 (x := .string t0) rfl).1
            have d1 := (blk_cell AF 1 (x := .slice a2 mm.length cap2) rfl).1
            exact bodyPost_ret (v := .tuple #[.agg #[.string t0, .slice a2 mm.length cap2], .int .i64 0]) (by simp [results, Tryz.results186, go_sem, d0, d1]) rfl ⟨_, ret_cc ⟨HN.out.1.symm, HN.out.2.2.symm⟩, by rw [HN.out.2.1]; exact OF.out, GF.out⟩
  · have hne : (rdC xs != 0) = true := by simp [h0]
    have HN : Hid (rcBd xs = ⟨#[]⟩ ∧ rcMs xs = [] ∧ rcCode xs = rdC xs) := by
      have h1 := rc_no (xs := xs) (by unfold rcOK; simp [h0])
      rw [if_neg h0] at h1
      exact h1
    clear O1 h0 HSM HLL
    generalize rdC xs = cd at HN hne
    obtain ⟨m0, n0⟩ := blk_cell K0.out 0 (x := .string ⟨#[]⟩) rfl
    obtain ⟨m1, n1⟩ := blk_cell K0.out 1 (x := .slice none 0 0) rfl
    have AF : ((w1.setCell ⟨w.heap.size, 0, none⟩ (.string ⟨#[]⟩)).setCell ⟨w.heap.size, 1, none⟩ (.slice none 0 0)).heap[w.heap.size]? = some (.cells #[.string ⟨#[]⟩, .slice none 0 0] 87 (0, 0)) := (blk_set (blk_set K0.out 0 (.string ⟨#[]⟩)) 1 (.slice none 0 0))
    have GF : Hid (Below w.heap.size w ((w1.setCell ⟨w.heap.size, 0, none⟩ (.string ⟨#[]⟩)).setCell ⟨w.heap.size, 1, none⟩ (.slice none 0 0))) := (Below.setCell (Below.setCell KB.out (p := ⟨w.heap.size, 0, none⟩) (Nat.le_refl _) (.string ⟨#[]⟩)) (p := ⟨w.heap.size, 1, none⟩) (Nat.le_refl _) (.slice none 0 0))
    go_wp2_with fail
    generalize ((w1.setCell ⟨w.heap.size, 0, none⟩ (.string ⟨#[]⟩)).setCell ⟨w.heap.size, 1, none⟩ (.slice none 0 0)) = wf at AF GF ⊢
    have d0 := (blk_cell AF 0 (x := .string ⟨#[]⟩) rfl).1
    have d1 := (blk_cell AF 1 (x := .slice none 0 0) rfl).1
    exact bodyPost_ret (v := .tuple #[.agg #[.string ⟨#[]⟩, .slice none 0 0], .int .i64 cd]) (by simp [results, Tryz.results186, go_sem, d0, d1]) rfl ⟨_, ret_cc ⟨HN.out.1.symm, HN.out.2.2.symm⟩, by rw [HN.out.2.1]; exact OwnM.nil _ _, GF.out⟩
end Go.Proofs.YtondmbeccpekiaaGreatDoor.Rc

/- Certificates are read: ReadCert of the specification. -/
namespace Go.Proofs.YtondmbeccpekiaaGreatDoor.Rc
open Go.RowKit Go.Proofs.YtondmbeccpekiaaGreatDoor.Sl Go.Proofs.YtondmbeccpekiaaGreatDoor.By Go.Proofs.YtondmbeccpekiaaGreatDoor.Ap Go.Proofs.YtondmbeccpekiaaGreatDoor.Rq Go.Proofs.YtondmbeccpekiaaGreatDoor.Rr Go.Proofs.YtondmbeccpekiaaGreatDoor.Of Go.Proofs.YtondmbeccpekiaaGreatDoor.Om Go.Proofs.YtondmbeccpekiaaGreatDoor.Ms Go.Proofs.YtondmbeccpekiaaGreatDoor.Gm Go.Proofs.YtondmbeccpekiaaGreatDoor.Cb
open Go.Proofs.YtondmbeccpekiaaGreatDoor.Ty (RowT tnth)
open Go.Proofs.YtondmbeccpekiaaGreatDoor.Tl (OwnS)
open Go.Proofs.YtondmbeccpekiaaGreatDoor.Rl (rdC rdL rdOk rdOut)
open Go.Proofs.YtondmbeccpekiaaGreatDoor.Rg (RowG RowG.slice RowG.at lt_at mem_at bel_new)

theorem rd_short {xs : List Int} (h : xs.length ≤ 65536) : rdC xs = (if rdOk xs then 0 else 3) ∧ rdL xs = rdOut xs := by
  unfold Rl.rdC Rl.rdL Rl.rlC Rl.rlO Rl.rdOut Rl.rlC
  rw [decide_eq_false (by omega)]
  cases rdOk xs <;> simp
noncomputable def good (t : ByteArray) : Bool := okT1 t && ((mOf t).kd == 2)
theorem good_all {ts : List ByteArray} (h : ts.length ≤ 7) : (allOK ts && cfB (msOf ts)) = ts.all good := by
  rw [Bool.eq_iff_iff]
  unfold allOK cfB msOf
  rw [List.length_map, decide_eq_true h, Bool.true_and, Bool.and_eq_true, List.all_eq_true, List.all_eq_true, List.all_eq_true]
  constructor
  · rintro ⟨h1, h2⟩ t ht
    have h3 := h2 (mOf t) (List.mem_map.2 ⟨t, ht, rfl⟩)
    unfold mOK at h3
    rw [Bool.and_eq_true] at h3
    unfold good
    rw [h1 t ht, h3.1]
    rfl
  · intro h1
    refine ⟨fun t ht => ?_, fun x hx => ?_⟩
    · have := h1 t ht
      unfold good at this
      rw [Bool.and_eq_true] at this
      exact this.1
    · obtain ⟨t, ht, rfl⟩ := List.mem_map.1 hx
      have h2 := h1 t ht
      unfold good at h2
      rw [Bool.and_eq_true] at h2
      have h3 : cOf t = 0 := by have := h2.1; unfold okT1 at this; simpa using this
      unfold mOK
      rw [h2.2, ok_right t h3]
      rfl
theorem good_step {ts : List ByteArray} {k : Nat} (h : k < ts.length) : (ts.drop k).all good = (good (tnth ts k) && (ts.drop (k + 1)).all good) := by
  have e := at_some h
  obtain ⟨hk, e2⟩ := List.getElem?_eq_some_iff.1 e
  rw [List.drop_eq_getElem_cons hk, List.all_cons, e2]
theorem own_ne {w : World} {B x : Nat} {v : Value} {ms : List Mg} {cs : Array Value} (h : OwnM w B v ms) (hx : w.heap[x]? = some (.cells cs 87 (0, 0))) : some x ≠ v.ownBlock := by
  intro e
  obtain ⟨_, h | ⟨g', cap', cur, he, _, hgg, _⟩⟩ := h
  · rw [h.1] at e; simp [Value.ownBlock] at e
  · rw [he] at e
    simp [Value.ownBlock] at e
    subst e
    rw [hx] at hgg
    simp at hgg
theorem ret_cb {a : ByteArray} {b : ByteArray} {v : Value} {c d : Bool} (h : a = b ∧ c = d) : Ending.returned (.tuple #[.agg #[.string a, v], .bool c]) = .returned (.tuple #[crtV b v, .bool d]) := by rw [h.1, h.2]; rfl
theorem in_any (x a b : Int) (w : World) : Calls Tryz.prog 29 #[.int .i64 x, .int .i64 a, .int .i64 b] w fun e w' => e = .returned (.bool (inB x a b)) ∧ w = w' := (Rq.l01In_any x a b w).mono fun _ _ h => ⟨h.1, h.2.symm⟩
set_option maxRecDepth 100000 in
set_option maxHeartbeats 3200000 in
theorem l06Read_any (s : ByteArray) (w : World) (hs : s.size ≤ 65536) :
    Calls Tryz.prog 95 #[.string s] w fun e w' => ∃ vp, e = .returned (.tuple #[crtV (rcBd (bys s)) vp, .bool (rcOK (bys s))]) ∧ OwnM w' w.heap.size vp (rcMs (bys s)) ∧ Below w.heap.size w w' := by
  obtain ⟨i0, hi0, hz0, hz1, hz2⟩ := info_parts info_m
  have hxl : (bys s).length ≤ 65536 := by rw [bys_length]; exact hs
  have HSM : Hid (∀ t ∈ rdL (bys s), t.size ≤ 65535) := rdL_size (bys s) (bys_range s)
  have HRD : Hid (rdC (bys s) = (if rdOk (bys s) then 0 else 3) ∧ rdL (bys s) = rdOut (bys s)) := rd_short hxl
  have HRL := Go.Proofs.YtondmbeccpekiaaGreatDoor.Rl.l02ReadList_any s (w.alloc (.cells #[.string ⟨#[]⟩, .slice none 0 0] 87)) hs
  generalize bys s = xs at HSM HRD HRL hxl ⊢
  rw [← HRD.out.2] at HRL
  clear hs
  go_enter Tryz.func95, Tryz.ntmps95
  go_wp2_with fail
  refine HRL.mono ?_
  rintro e w1 ⟨v1, rfl, o1, b1⟩
  have K0 : Hid (w1.heap[w.heap.size]? = some (.cells #[.string ⟨#[]⟩, .slice none 0 0] 87 (0, 0))) := (b1.block w.heap.size (by simp)).trans (heap_alloc_new w _)
  have KB : Hid (Below w.heap.size w w1) := (bel_new w _).trans (b1.mono (by simp))
  have O1 : Hid (OwnS w1 (w.alloc (.cells #[.string ⟨#[]⟩, .slice none 0 0] 87)).heap.size v1 (rdL xs)) := o1
  clear b1 o1 HRL
  cases hok : rdOk xs with
  | false =>
    have HN : Hid (rcBd xs = ⟨#[]⟩ ∧ rcMs xs = [] ∧ rcOK xs = false) := by
      have h1 : rcOK xs = false := by unfold rcOK; rw [HRD.out.1, hok]; rfl
      exact ⟨(rc_no h1).1, (rc_no h1).2.1, h1⟩
    clear O1 HSM HRD hok
    obtain ⟨m0, n0⟩ := blk_cell K0.out 0 (x := .string ⟨#[]⟩) rfl
    obtain ⟨m1, n1⟩ := blk_cell K0.out 1 (x := .slice none 0 0) rfl
    have AF : ((w1.setCell ⟨w.heap.size, 0, none⟩ (.string ⟨#[]⟩)).setCell ⟨w.heap.size, 1, none⟩ (.slice none 0 0)).heap[w.heap.size]? = some (.cells #[.string ⟨#[]⟩, .slice none 0 0] 87 (0, 0)) := (blk_set (blk_set K0.out 0 (.string ⟨#[]⟩)) 1 (.slice none 0 0))
    have GF : Hid (Below w.heap.size w ((w1.setCell ⟨w.heap.size, 0, none⟩ (.string ⟨#[]⟩)).setCell ⟨w.heap.size, 1, none⟩ (.slice none 0 0))) := (Below.setCell (Below.setCell KB.out (p := ⟨w.heap.size, 0, none⟩) (Nat.le_refl _) (.string ⟨#[]⟩)) (p := ⟨w.heap.size, 1, none⟩) (Nat.le_refl _) (.slice none 0 0))
    go_wp2_with fail
    generalize ((w1.setCell ⟨w.heap.size, 0, none⟩ (.string ⟨#[]⟩)).setCell ⟨w.heap.size, 1, none⟩ (.slice none 0 0)) = wf at AF GF ⊢
    have d0 := (blk_cell AF 0 (x := .string ⟨#[]⟩) rfl).1
    have d1 := (blk_cell AF 1 (x := .slice none 0 0) rfl).1
    exact bodyPost_ret (v := .tuple #[.agg #[.string ⟨#[]⟩, .slice none 0 0], .bool false]) (by simp [results, Tryz.results95, go_sem, d0, d1]) rfl ⟨_, ret_cb ⟨HN.out.1.symm, HN.out.2.2.symm⟩, by rw [HN.out.2.1]; exact OwnM.nil _ _, GF.out⟩
  | true =>
    have h0 : rdC xs = 0 := by rw [HRD.out.1, hok]; rfl
    have hRT := Tl.OwnS.row O1.out
    obtain ⟨a, cap, rfl, hh⟩ := hRT
    have HHH : Hid (rdL xs = [] ∨ ∃ b off, a = some ⟨b, off, none⟩ ∧ (rdL xs).length ≤ cap ∧ b < w1.heap.size ∧ ∀ i, i < (rdL xs).length → w1.cell? ⟨b, off + i, none⟩ = some (.string (tnth (rdL xs) i))) := hh
    clear hh O1 hok HRD
    obtain ⟨ts0, HT0⟩ : ∃ ts0, Hid (rdL xs = ts0) := ⟨_, rfl⟩
    rw [HT0.out] at HHH HSM ⊢
    cases hin : inB (ts0.length : Int) 1 8 with
    | false =>
      have HN : Hid (rcBd xs = ⟨#[]⟩ ∧ rcMs xs = [] ∧ rcOK xs = false) := by
        have h1 : rcOK xs = false := by
          unfold rcOK
          rw [HT0.out, h0]
          cases ts0 with
          | nil => rfl
          | cons t ts =>
            have : ¬ ts.length ≤ 7 := by
              unfold inB at hin
              simp only [decide_eq_false_iff_not] at hin
              simp at hin
              omega
            simp only
            have h2 : cfB (msOf ts) = false := by
              unfold cfB msOf
              rw [List.length_map, decide_eq_false this]
              rfl
            rw [h2]
            simp
        exact ⟨(rc_no h1).1, (rc_no h1).2.1, h1⟩
      clear HHH HSM h0
      go_upto_region 3 with (go_at_call 29; refine (in_any _ _ _ _).mono ?_; rintro e w2 ⟨rfl, rfl⟩; rw [hin])
      obtain ⟨m0, n0⟩ := blk_cell K0.out 0 (x := .string ⟨#[]⟩) rfl
      obtain ⟨m1, n1⟩ := blk_cell K0.out 1 (x := .slice none 0 0) rfl
      have AF : ((w1.setCell ⟨w.heap.size, 0, none⟩ (.string ⟨#[]⟩)).setCell ⟨w.heap.size, 1, none⟩ (.slice none 0 0)).heap[w.heap.size]? = some (.cells #[.string ⟨#[]⟩, .slice none 0 0] 87 (0, 0)) := (blk_set (blk_set K0.out 0 (.string ⟨#[]⟩)) 1 (.slice none 0 0))
      have GF : Hid (Below w.heap.size w ((w1.setCell ⟨w.heap.size, 0, none⟩ (.string ⟨#[]⟩)).setCell ⟨w.heap.size, 1, none⟩ (.slice none 0 0))) := (Below.setCell (Below.setCell KB.out (p := ⟨w.heap.size, 0, none⟩) (Nat.le_refl _) (.string ⟨#[]⟩)) (p := ⟨w.heap.size, 1, none⟩) (Nat.le_refl _) (.slice none 0 0))
      go_wp2_with fail
      generalize ((w1.setCell ⟨w.heap.size, 0, none⟩ (.string ⟨#[]⟩)).setCell ⟨w.heap.size, 1, none⟩ (.slice none 0 0)) = wf at AF GF ⊢
      have d0 := (blk_cell AF 0 (x := .string ⟨#[]⟩) rfl).1
      have d1 := (blk_cell AF 1 (x := .slice none 0 0) rfl).1
      exact bodyPost_ret (v := .tuple #[.agg #[.string ⟨#[]⟩, .slice none 0 0], .bool false]) (by simp [results, Tryz.results95, go_sem, d0, d1]) rfl ⟨_, ret_cb ⟨HN.out.1.symm, HN.out.2.2.symm⟩, by rw [HN.out.2.1]; exact OwnM.nil _ _, GF.out⟩
    | true =>
      obtain ⟨t0, ts, rfl⟩ : ∃ t0 ts, ts0 = t0 :: ts := by
        cases ts0 with
        | nil => simp [inB] at hin
        | cons t ts => exact ⟨t, ts, rfl⟩
      have hl7 : ts.length ≤ 7 := by
        unfold inB at hin
        simp only [decide_eq_true_eq] at hin
        simp at hin
        omega
      obtain ⟨b, off, rfl, hc, hbl, hcell⟩ := (HHH.out.resolve_left (by simp))
      have HCELL : Hid (∀ i, i < ts.length → w1.cell? ⟨b, off + (i + 1), none⟩ = some (.string (tnth ts i))) := fun i hi => by
        rw [hcell (i + 1) (by simp; omega)]
        rfl
      have c0 : w1.cell? ⟨b, off, none⟩ = some (.string t0) := hcell 0 (by simp)
      have HSZ : Hid (∀ i, i < ts.length → (tnth ts i).size ≤ 65535) := fun i hi => HSM.out _ (List.mem_cons_of_mem _ (List.mem_of_getElem? (at_some hi)))
      have HRC : Hid (rcOK xs = ts.all good ∧ (rcOK xs = true → rcBd xs = t0 ∧ rcMs xs = msOf ts)) := by
        have h1 : rcOK xs = (allOK ts && cfB (msOf ts)) := by unfold rcOK; rw [HT0.out, h0]; simp
        refine ⟨h1.trans (good_all hl7), fun h => ?_⟩
        rw [h1, Bool.and_eq_true] at h
        have := rc_yes h0 HT0.out h.1 h.2
        exact ⟨this.1, this.2.1⟩
      clear hcell HHH HSM h0 hc
      rw [List.length_cons] at hin ⊢
      have hin2 : inB ((ts.length : Int) + 1) 1 8 = true := by simpa using hin
      have k0l := (Array.getElem?_eq_some_iff.1 K0.out).1
      obtain ⟨W2, HW2⟩ : ∃ W2, Hid (W2 = (w1.alloc (.cells #[] 59)).alloc (.cells #[.string t0, .slice (some ⟨w1.heap.size, 0, none⟩) 0 0] 87)) := ⟨_, rfl⟩
      have e1 : (w1.alloc (.cells #[] 59)).heap.size = w1.heap.size + 1 := by simp
      have B2 : Hid (Below w1.heap.size w1 W2) := by show Below _ _ _; rw [HW2.out]; exact (bel_new w1 _).alloc (by rw [e1]; omega) _
      have X2 : Hid (W2.heap[w1.heap.size + 1]? = some (.cells #[.string t0, .slice (some ⟨w1.heap.size, 0, none⟩) 0 0] 87 (0, 0))) := by
        show _ = _
        have := heap_alloc_new (w1.alloc (.cells #[] 59)) (.cells #[.string t0, .slice (some ⟨w1.heap.size, 0, none⟩) 0 0] 87)
        rw [e1] at this
        rw [HW2.out]
        exact this
      have O2 : Hid (OwnM W2 w1.heap.size (.slice (some ⟨w1.heap.size, 0, none⟩) 0 0) []) := by show OwnM _ _ _ _; rw [HW2.out]; exact (OwnM.made w1 w1.heap.size (Nat.le_refl _)).alloc _
      go_upto_region 6 with (go_at_call 29; refine (in_any _ _ _ _).mono ?_; rintro e w2 ⟨rfl, rfl⟩; first | rw [hin2] | rw [hin])
      rw [← HW2.out]
      clear HW2 e1 c0 hin hin2
      go_loopw [7] (fun i wr => ∃ (k : Nat) (ap : Option Addr) (cp : Nat), k ≤ ts.length ∧ i = .int .i64 ((k : Int) + 1) ∧ Hid (wr.heap[w1.heap.size + 1]? = some (.cells #[.string t0, .slice ap k cp] 87 (0, 0)) ∧ OwnM wr w1.heap.size (.slice ap k cp) (msOf (ts.take k)) ∧ rcOK xs = (ts.drop k).all good ∧ Below w1.heap.size w1 wr)) (fun i _ => ts.length + 1 - (intOf i).toNat)
      case atStart => exact ⟨0, _, _, by omega, rfl, ⟨X2.out, O2.out, by rw [List.drop_zero]; exact HRC.out.1, B2.out⟩⟩
      case round =>
        clear X2 O2 B2
        obtain ⟨k, ap, cp, hk, rfl, HI⟩ := hrel
        have KWr : Hid (wr.heap[w.heap.size]? = some (.cells #[.string ⟨#[]⟩, .slice none 0 0] 87 (0, 0)) ∧ Below w.heap.size w wr) := ⟨(HI.out.2.2.2.block _ k0l).trans K0.out, KB.out.trans (HI.out.2.2.2.mono KB.out.size)⟩
        by_cases hlt : k < ts.length
        · have c1 : wr.cell? ⟨b, off + (k + 1), none⟩ = some (.string (tnth ts k)) := (HI.out.2.2.2.cell (p := ⟨b, off + (k + 1), none⟩) hbl).trans (HCELL.out k hlt)
          have hsz := HSZ.out k hlt
          have HGS : Hid (rcOK xs = (good (tnth ts k) && (ts.drop (k + 1)).all good)) := HI.out.2.2.1.trans (good_step hlt)
          have HMSP : Hid (msOf (ts.take (k + 1)) = msOf (ts.take k) ++ [mOf (tnth ts k)]) := ms_step hlt
          have HLN : Hid ((msOf (ts.take k)).length = k) := by show _ = _; unfold msOf; rw [List.length_map, List.length_take]; omega
          have hk1 : (k : Int) + 1 < (ts.length : Int) + 1 := by omega
          have HRM := l02ReadMessage_any (tnth ts k) wr (by omega)
          have HGD : Hid (good (tnth ts k) = (decide (cOf (tnth ts k) = 0) && ((mOf (tnth ts k)).kd == 2))) := rfl
          clear hsz
          generalize tnth ts k = t at c1 HGS HMSP HRM HGD
          go_wp2_with fail
          refine HRM.mono ?_
          rintro e w3 ⟨⟨m, rfl, hm⟩, b3⟩
          have HMM : Hid (cOf t = 0 → m = mOf t) := hm
          have x2l := (Array.getElem?_eq_some_iff.1 HI.out.1).1
          have kwl := (Array.getElem?_eq_some_iff.1 KWr.out.1).1
          have b4 := b3.alloc b3.size (.cells #[.int .i64 m.kd, .int .i64 m.vw, .int .i64 m.sq, .int .i64 m.fr, .string m.dg, .string m.bd, .string m.mc] 59)
          have H4 : Hid ((w3.alloc (.cells #[.int .i64 m.kd, .int .i64 m.vw, .int .i64 m.sq, .int .i64 m.fr, .string m.dg, .string m.bd, .string m.mc] 59)).heap[w1.heap.size + 1]? = some (.cells #[.string t0, .slice ap k cp] 87 (0, 0)) ∧ OwnM (w3.alloc (.cells #[.int .i64 m.kd, .int .i64 m.vw, .int .i64 m.sq, .int .i64 m.fr, .string m.dg, .string m.bd, .string m.mc] 59)) w1.heap.size (.slice ap k cp) (msOf (ts.take k)) ∧ Below w1.heap.size w1 (w3.alloc (.cells #[.int .i64 m.kd, .int .i64 m.vw, .int .i64 m.sq, .int .i64 m.fr, .string m.dg, .string m.bd, .string m.mc] 59)) ∧ (w3.alloc (.cells #[.int .i64 m.kd, .int .i64 m.vw, .int .i64 m.sq, .int .i64 m.fr, .string m.dg, .string m.bd, .string m.mc] 59)).heap[w.heap.size]? = some (.cells #[.string ⟨#[]⟩, .slice none 0 0] 87 (0, 0)) ∧ Below w.heap.size w (w3.alloc (.cells #[.int .i64 m.kd, .int .i64 m.vw, .int .i64 m.sq, .int .i64 m.fr, .string m.dg, .string m.bd, .string m.mc] 59)) ∧ (w3.alloc (.cells #[.int .i64 m.kd, .int .i64 m.vw, .int .i64 m.sq, .int .i64 m.fr, .string m.dg, .string m.bd, .string m.mc] 59)).heap[w3.heap.size]? = some (.cells #[.int .i64 m.kd, .int .i64 m.vw, .int .i64 m.sq, .int .i64 m.fr, .string m.dg, .string m.bd, .string m.mc] 59 (0, 0))) := ⟨(b4.block _ x2l).trans HI.out.1, HI.out.2.1.below b4, HI.out.2.2.2.trans (b4.mono HI.out.2.2.2.size), (b4.block _ kwl).trans KWr.out.1, KWr.out.2.trans (b4.mono KWr.out.2.size), heap_alloc_new w3 _⟩
          clear b3 b4 hm HRM c1 HI KWr x2l kwl
          unfold oneV
          go_upto_region 9 with fail
          obtain ⟨x3, HX3⟩ : ∃ x3, Hid (w3.heap.size = x3) := ⟨_, rfl⟩
          rw [HX3.out] at H4 ⊢
          generalize w3.alloc (.cells #[.int .i64 m.kd, .int .i64 m.vw, .int .i64 m.sq, .int .i64 m.fr, .string m.dg, .string m.bd, .string m.mc] 59) = w4 at H4 ⊢
          have y0 := (blk_cell H4.out.2.2.2.2.2 0 (x := .int .i64 m.kd) rfl).1
          have y1 := (blk_cell H4.out.2.2.2.2.2 1 (x := .int .i64 m.vw) rfl).1
          have y2 := (blk_cell H4.out.2.2.2.2.2 2 (x := .int .i64 m.sq) rfl).1
          have y3 := (blk_cell H4.out.2.2.2.2.2 3 (x := .int .i64 m.fr) rfl).1
          have y4 := (blk_cell H4.out.2.2.2.2.2 4 (x := .string m.dg) rfl).1
          have y5 := (blk_cell H4.out.2.2.2.2.2 5 (x := .string m.bd) rfl).1
          have y6 := (blk_cell H4.out.2.2.2.2.2 6 (x := .string m.mc) rfl).1
          by_cases hc0 : cOf t = 0
          · have hmm := HMM.out hc0
            rw [← hmm] at HMSP HGD
            rw [decide_eq_true hc0, Bool.true_and] at HGD
            rw [decide_eq_true hc0]
            by_cases hkd : m.kd = 2
            · have hk2 : (m.kd != 2) = false := by simp [hkd]
              have HA : Hid (rcOK xs = (ts.drop (k + 1)).all good) := by show _ = _; rw [HGS.out, HGD.out, hkd]; rfl
              obtain ⟨z1, _⟩ := blk_cell H4.out.1 1 (x := .slice ap k cp) rfl
              have hne := own_ne H4.out.2.1 H4.out.1
              have hx6l := (Array.getElem?_eq_some_iff.1 H4.out.1).1
              clear hkd hmm HMM HGS HGD
              go_wp2_with (at_builtin; go_must (refine list_msg (by rfl) _ _ 32 (by rfl) i0 Tryz.underlying32 hi0 hz0 hz1 hz2 w1.heap.size w1 w4 _ _ m (by rfl) H4.out.2.1 H4.out.2.2.1 H4.out.2.2.1.size _ (by rfl) (by rfl) (by have := HLN.out; omega) ?_; intro v5 w5 o5 b5 k5; obtain ⟨s5, t5⟩ := blk_cell ((k5 _ hx6l hne).1.trans H4.out.1) 1 (x := .slice ap k cp) rfl; have hne5 := (k5 _ hx6l hne).2; obtain ⟨a5, cap5, rfl⟩ := RowG.slice (OwnM.row o5)))
              have hL5 : (msOf (ts.take k) ++ [m]).length = k + 1 := by rw [List.length_append, HLN.out]; rfl
              rw [hL5] at o5 hne5
              rw [HLN.out]
              have X5 : Hid (w5.heap[w1.heap.size + 1]? = some (.cells #[.string t0, .slice ap k cp] 87 (0, 0))) := (k5 _ hx6l hne).1.trans H4.out.1
              refine ⟨⟨k + 1, a5, cap5, by omega, by go_num, ⟨blk_set X5.out 1 _, ?_, HA.out, ?_⟩⟩, by simp [intOf]; omega⟩
              · rw [HMSP.out]
                exact o5.kept fun g hg => blk_far (fun e => hne5 (by rw [hg, e])) 1 _
              · exact Below.setCell b5 (p := ⟨w1.heap.size + 1, 1, none⟩) (by show _ ≤ w1.heap.size + 1; omega) _
            · have hk2 : (m.kd != 2) = true := by simp [hkd]
              have HN : Hid (rcBd xs = ⟨#[]⟩ ∧ rcMs xs = [] ∧ rcOK xs = false) := by
                have h1 : rcOK xs = false := by rw [HGS.out, HGD.out]; simp [hkd]
                exact ⟨(rc_no h1).1, (rc_no h1).2.1, h1⟩
              clear hkd hmm HMM HGS HGD
              obtain ⟨m0, n0⟩ := blk_cell H4.out.2.2.2.1 0 (x := .string ⟨#[]⟩) rfl
              obtain ⟨m1, n1⟩ := blk_cell H4.out.2.2.2.1 1 (x := .slice none 0 0) rfl
              have AF : ((w4.setCell ⟨w.heap.size, 0, none⟩ (.string ⟨#[]⟩)).setCell ⟨w.heap.size, 1, none⟩ (.slice none 0 0)).heap[w.heap.size]? = some (.cells #[.string ⟨#[]⟩, .slice none 0 0] 87 (0, 0)) := (blk_set (blk_set H4.out.2.2.2.1 0 (.string ⟨#[]⟩)) 1 (.slice none 0 0))
              have GF : Hid (Below w.heap.size w ((w4.setCell ⟨w.heap.size, 0, none⟩ (.string ⟨#[]⟩)).setCell ⟨w.heap.size, 1, none⟩ (.slice none 0 0))) := (Below.setCell (Below.setCell H4.out.2.2.2.2.1 (p := ⟨w.heap.size, 0, none⟩) (Nat.le_refl _) (.string ⟨#[]⟩)) (p := ⟨w.heap.size, 1, none⟩) (Nat.le_refl _) (.slice none 0 0))
              go_wp2_with fail
              generalize ((w4.setCell ⟨w.heap.size, 0, none⟩ (.string ⟨#[]⟩)).setCell ⟨w.heap.size, 1, none⟩ (.slice none 0 0)) = wf at AF GF ⊢
              have d0 := (blk_cell AF 0 (x := .string ⟨#[]⟩) rfl).1
              have d1 := (blk_cell AF 1 (x := .slice none 0 0) rfl).1
              exact bodyPost_ret (v := .tuple #[.agg #[.string ⟨#[]⟩, .slice none 0 0], .bool false]) (by simp [results, Tryz.results95, go_sem, d0, d1]) rfl ⟨_, ret_cb ⟨HN.out.1.symm, HN.out.2.2.symm⟩, by rw [HN.out.2.1]; exact OwnM.nil _ _, GF.out⟩
          · rw [decide_eq_false hc0, Bool.false_and] at HGD
            rw [decide_eq_false hc0]
            have HN : Hid (rcBd xs = ⟨#[]⟩ ∧ rcMs xs = [] ∧ rcOK xs = false) := by
              have h1 : rcOK xs = false := by rw [HGS.out, HGD.out]; rfl
              exact ⟨(rc_no h1).1, (rc_no h1).2.1, h1⟩
            clear HMM HGS HGD
            obtain ⟨m0, n0⟩ := blk_cell H4.out.2.2.2.1 0 (x := .string ⟨#[]⟩) rfl
            obtain ⟨m1, n1⟩ := blk_cell H4.out.2.2.2.1 1 (x := .slice none 0 0) rfl
            have AF : ((w4.setCell ⟨w.heap.size, 0, none⟩ (.string ⟨#[]⟩)).setCell ⟨w.heap.size, 1, none⟩ (.slice none 0 0)).heap[w.heap.size]? = some (.cells #[.string ⟨#[]⟩, .slice none 0 0] 87 (0, 0)) := (blk_set (blk_set H4.out.2.2.2.1 0 (.string ⟨#[]⟩)) 1 (.slice none 0 0))
            have GF : Hid (Below w.heap.size w ((w4.setCell ⟨w.heap.size, 0, none⟩ (.string ⟨#[]⟩)).setCell ⟨w.heap.size, 1, none⟩ (.slice none 0 0))) := (Below.setCell (Below.setCell H4.out.2.2.2.2.1 (p := ⟨w.heap.size, 0, none⟩) (Nat.le_refl _) (.string ⟨#[]⟩)) (p := ⟨w.heap.size, 1, none⟩) (Nat.le_refl _) (.slice none 0 0))
            go_wp2_with fail
            generalize ((w4.setCell ⟨w.heap.size, 0, none⟩ (.string ⟨#[]⟩)).setCell ⟨w.heap.size, 1, none⟩ (.slice none 0 0)) = wf at AF GF ⊢
            have d0 := (blk_cell AF 0 (x := .string ⟨#[]⟩) rfl).1
            have d1 := (blk_cell AF 1 (x := .slice none 0 0) rfl).1
            exact bodyPost_ret (v := .tuple #[.agg #[.string ⟨#[]⟩, .slice none 0 0], .bool false]) (by simp [results, Tryz.results95, go_sem, d0, d1]) rfl ⟨_, ret_cb ⟨HN.out.1.symm, HN.out.2.2.symm⟩, by rw [HN.out.2.1]; exact OwnM.nil _ _, GF.out⟩
        · obtain rfl : k = ts.length := by omega
          have h1 : rcOK xs = true := by rw [HI.out.2.2.1, List.drop_length]; rfl
          have HN : Hid (rcBd xs = t0 ∧ rcMs xs = msOf ts ∧ rcOK xs = true) := ⟨(HRC.out.2 h1).1, (HRC.out.2 h1).2, h1⟩
          have OW : Hid (OwnM wr w1.heap.size (.slice ap ts.length cp) (msOf ts)) := by have := HI.out.2.1; rw [List.take_length] at this; exact this
          have HAW : Hid (∀ g, (Value.slice ap ts.length cp).ownBlock = some g → g ≠ w.heap.size) := fun g hg e => own_ne OW.out KWr.out.1 (by rw [hg, e])
          clear h1
          have p0 := (blk_cell HI.out.1 0 (x := .string t0) rfl).1
          have p1 := (blk_cell HI.out.1 1 (x := .slice ap ts.length cp) rfl).1
          obtain ⟨m0, n0⟩ := blk_cell KWr.out.1 0 (x := .string ⟨#[]⟩) rfl
          obtain ⟨m1, n1⟩ := blk_cell KWr.out.1 1 (x := .slice none 0 0) rfl
          have AF : ((wr.setCell ⟨w.heap.size, 0, none⟩ (.string t0)).setCell ⟨w.heap.size, 1, none⟩ (.slice ap ts.length cp)).heap[w.heap.size]? = some (.cells #[.string t0, .slice ap ts.length cp] 87 (0, 0)) := (blk_set (blk_set KWr.out.1 0 (.string t0)) 1 (.slice ap ts.length cp))
          have GF : Hid (Below w.heap.size w ((wr.setCell ⟨w.heap.size, 0, none⟩ (.string t0)).setCell ⟨w.heap.size, 1, none⟩ (.slice ap ts.length cp))) := (Below.setCell (Below.setCell KWr.out.2 (p := ⟨w.heap.size, 0, none⟩) (Nat.le_refl _) (.string t0)) (p := ⟨w.heap.size, 1, none⟩) (Nat.le_refl _) (.slice ap ts.length cp))
          have OF : Hid (OwnM ((wr.setCell ⟨w.heap.size, 0, none⟩ (.string t0)).setCell ⟨w.heap.size, 1, none⟩ (.slice ap ts.length cp)) w.heap.size (.slice ap ts.length cp) (msOf ts)) := (OW.out.mono KB.out.size).kept fun g hg => (blk_far (HAW.out g hg) 1 _).trans (blk_far (HAW.out g hg) 0 _)
          go_wp2_with fail
          generalize ((wr.setCell ⟨w.heap.size, 0, none⟩ (.string t0)).setCell ⟨w.heap.size, 1, none⟩ (.slice ap ts.length cp)) = wf at AF GF OF ⊢
          have d0 := (blk_cell AF 0 (x := .string t0) rfl).1
          have d1 := (blk_cell AF 1 (x := .slice ap ts.length cp) rfl).1
          exact bodyPost_ret (v := .tuple #[.agg #[.string t0, .slice ap ts.length cp], .bool true]) (by simp [results, Tryz.results95, go_sem, d0, d1]) rfl ⟨_, ret_cb ⟨HN.out.1.symm, HN.out.2.2.symm⟩, by rw [HN.out.2.1]; exact OF.out, GF.out⟩
end Go.Proofs.YtondmbeccpekiaaGreatDoor.Rc
