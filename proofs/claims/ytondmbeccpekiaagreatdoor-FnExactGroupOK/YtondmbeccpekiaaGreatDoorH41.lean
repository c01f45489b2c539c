/- Texts put together: Yh, Ze. -/
import Derived.Test.YtondmbeccpekiaaGreatDoorH40
import Derived.Test.YtondmbeccpekiaaGreatDoorH7
/- Right replicas: the program's ReplicaOK. -/
namespace Go.Proofs.YtondmbeccpekiaaGreatDoor.Yr
open Go.RowKit Go.Proofs.YtondmbeccpekiaaGreatDoor.Rg Go.Proofs.YtondmbeccpekiaaGreatDoor.Gm Go.Proofs.YtondmbeccpekiaaGreatDoor.Ty Go.Proofs.YtondmbeccpekiaaGreatDoor.Tm Go.Proofs.YtondmbeccpekiaaGreatDoor.Sh
open Go.Proofs.YtondmbeccpekiaaGreatDoor.Vt (bOf bOf_true bOf_false bOf_iff bOf_eq sg sg_from frn msk msk_step or_add pow_le7 Rise crtB CertP crt_q q_pos allBelow_any with_any implCertOK_any ballotOf_any l06Cert_any)
open Go.Proofs.YtondmbeccpekiaaGreatDoor.Bw (bdP bdB implBodyOK_any l06Body_any)
open Go.Proofs.YtondmbeccpekiaaGreatDoor.Bd (dOut)
open Go.Proofs.YtondmbeccpekiaaGreatDoor.Wc (cfB vcC vcL cfL implViewCerts_any l06Certs_any OwnC)
open Go.Proofs.YtondmbeccpekiaaGreatDoor.Qm (qOut inB)

theorem okN_iff {id n : Int} : okN id n = true ↔ (fCode n = 0 ∧ 0 ≤ id ∧ id ≤ n - 1) := by
  unfold okN inB
  rw [Bool.and_eq_true, decide_eq_true_eq, decide_eq_true_eq]
theorem inB_iff {x a b : Int} : inB x a b = true ↔ (a ≤ x ∧ x ≤ b) := by unfold inB; rw [decide_eq_true_eq]
theorem rep_parts {r : Rp} : RepP r ↔ (okN r.id r.n = true ∧ inB r.vw 0 20 = true ∧ r.ss.length = 8 ∧ slB r.n r.vw r.ss = true ∧ r.cs.length = 8 ∧ plB r.n r.vw r.cs = true ∧ r.lg.length ≤ 8 ∧ bOf (∀ t ∈ r.lg, bdP r.n t = true) = true ∧ chB r.n r.vw r.ch = true) := by
  constructor
  · rintro ⟨h1, h2, ⟨h3, h4⟩, ⟨h5, h6⟩, ⟨h7, h8⟩, h9, h10⟩
    exact ⟨okN_iff.2 h1, inB_iff.2 h2, h3, bOf_true fun k s hk hx => h4 k s (by omega) hx, h5, bOf_true fun k s hk hx => h6 k s (by omega) hx, h7, bOf_true h8, bOf_true ⟨h9, h10⟩⟩
  · rintro ⟨h1, h2, h3, h4, h5, h6, h7, h8, h9⟩
    have g4 := bOf_iff.1 h4
    have g6 := bOf_iff.1 h6
    have g9 := bOf_iff.1 h9
    exact ⟨okN_iff.1 h1, inB_iff.1 h2, ⟨h3, fun k s hk hx => g4 k s (by omega) hx⟩, ⟨h5, fun k s hk hx => g6 k s (by omega) hx⟩, ⟨h7, bOf_iff.1 h8⟩, g9.1, g9.2⟩
set_option maxRecDepth 100000 in
set_option maxHeartbeats 1600000 in
theorem implReplicaOK_any (r : Rp) (vs vc vl vh : Value) (w : World) (h : RepR w r vs vc vl vh) (hz : Zr 1048576 r) (hK : KTab w) (hp : 0 < w.heap.size) :
    Calls Tryz.prog 76 #[.agg #[.int .i64 r.id, .int .i64 r.n, .int .i64 r.vw, .bool r.ac, vs, vc, vl, vh]] w fun e w' => e = .returned (.bool (repB r)) ∧ Below w.heap.size w w' := by
  have HR : Hid (RepR w r vs vc vl vh) := h
  have HZ : Hid (Zr 1048576 r) := hz
  obtain ⟨ax, ks, rfl⟩ := RowG.slice h.s
  obtain ⟨ac, kc, rfl⟩ := RowG.slice h.c
  obtain ⟨al, kl, rfl, _⟩ := h.l
  obtain ⟨ah, kh, rfl⟩ := RowG.slice h.h
  have GK : Hid (∀ W, Below w.heap.size w W → KTab W ∧ 0 < W.heap.size) := fun W hW => ⟨hK.below hW hp, Nat.lt_of_lt_of_le hp hW.size⟩
  have HP : Hid (∀ W, Below (w.alloc (.cells #[.int .i64 r.id, .int .i64 r.n, .int .i64 r.vw, .bool r.ac, .slice ax r.ss.length ks, .slice ac r.cs.length kc, .slice al r.lg.length kl, .slice ah r.ch.length kh] 55)).heap.size (w.alloc (.cells #[.int .i64 r.id, .int .i64 r.n, .int .i64 r.vw, .bool r.ac, .slice ax r.ss.length ks, .slice ac r.cs.length kc, .slice al r.lg.length kl, .slice ah r.ch.length kh] 55)) W → (W.cell? ⟨w.heap.size, 0, none⟩ = some (.int .i64 r.id) ∧ W.cell? ⟨w.heap.size, 1, none⟩ = some (.int .i64 r.n) ∧ W.cell? ⟨w.heap.size, 2, none⟩ = some (.int .i64 r.vw) ∧ W.cell? ⟨w.heap.size, 3, none⟩ = some (.bool r.ac) ∧ W.cell? ⟨w.heap.size, 4, none⟩ = some (.slice ax r.ss.length ks) ∧ W.cell? ⟨w.heap.size, 5, none⟩ = some (.slice ac r.cs.length kc) ∧ W.cell? ⟨w.heap.size, 6, none⟩ = some (.slice al r.lg.length kl) ∧ W.cell? ⟨w.heap.size, 7, none⟩ = some (.slice ah r.ch.length kh)) ∧ Below w.heap.size w W) := fun W hW => by
    have h1 := (hW.block w.heap.size (by simp)).trans (heap_alloc_new w _)
    exact ⟨⟨(blk_cell h1 0 rfl).1, (blk_cell h1 1 rfl).1, (blk_cell h1 2 rfl).1, (blk_cell h1 3 rfl).1, (blk_cell h1 4 rfl).1, (blk_cell h1 5 rfl).1, (blk_cell h1 6 rfl).1, (blk_cell h1 7 rfl).1⟩, (bel_new w _).trans (hW.mono (by simp))⟩
  clear h hK hp hz
  obtain ⟨bb, HBB⟩ : ∃ bb, Hid (repB r = bb) := ⟨_, rfl⟩
  rw [HBB.out]
  have HN : Hid (∀ _ : Unit, ¬ RepP r → bb = false) := fun _ hh => by rw [← HBB.out]; exact bOf_false hh
  have HNO : Hid (∀ W, Calls Tryz.prog 36 #[.int .i64 r.n, .int .i64 r.id] W fun e w' => e = .returned (.bool (okN r.id r.n)) ∧ W = w') := fun W => isNode_any r.id r.n W
  have HWI : Hid (∀ W, Calls Tryz.prog 73 #[.int .i64 r.vw, .int .i64 0, .int .i64 20] W fun e w' => e = .returned (.bool (inB r.vw 0 20)) ∧ W = w') := fun W => Qm.within_any r.vw 0 20 W
  have HSL : Hid (fCode r.n = 0 → ∀ W, Below w.heap.size w W → Calls Tryz.prog 106 #[.agg #[.int .i64 r.id, .int .i64 r.n, .int .i64 r.vw, .bool r.ac, .slice ax r.ss.length ks, .slice ac r.cs.length kc, .slice al r.lg.length kl, .slice ah r.ch.length kh]] W fun e w' => e = .returned (.bool (slB r.n r.vw r.ss)) ∧ Below W.heap.size W w') := fun hf W hW => slotsOK_any r _ _ _ _ W (HR.out.below hW) HZ.out.s HZ.out.sz hf (GK.out W hW).1 (GK.out W hW).2
  have HPL : Hid (∀ W, Below w.heap.size w W → Calls Tryz.prog 107 #[.agg #[.int .i64 r.id, .int .i64 r.n, .int .i64 r.vw, .bool r.ac, .slice ax r.ss.length ks, .slice ac r.cs.length kc, .slice al r.lg.length kl, .slice ah r.ch.length kh]] W fun e w' => e = .returned (.bool (plB r.n r.vw r.cs)) ∧ Below W.heap.size W w') := fun W hW => placedCertsOK_any r _ _ _ _ W (HR.out.below hW) HZ.out.c HZ.out.cz (GK.out W hW).1 (GK.out W hW).2
  have HLG : Hid (fCode r.n = 0 → ∀ W, Below w.heap.size w W → Calls Tryz.prog 108 #[.int .i64 r.n, .slice al r.lg.length kl] W fun e w' => e = .returned (.bool (bOf (∀ t ∈ r.lg, bdP r.n t = true))) ∧ Below W.heap.size W w') := fun hf W hW => bodiesOK_any r.n _ r.lg W (HR.out.l.below hW) HZ.out.l HZ.out.lz hf (GK.out W hW).1 (GK.out W hW).2
  have HCH : Hid (fCode r.n = 0 → ∀ W, Below w.heap.size w W → Calls Tryz.prog 109 #[.agg #[.int .i64 r.id, .int .i64 r.n, .int .i64 r.vw, .bool r.ac, .slice ax r.ss.length ks, .slice ac r.cs.length kc, .slice al r.lg.length kl, .slice ah r.ch.length kh]] W fun e w' => e = .returned (.bool (chB r.n r.vw r.ch)) ∧ Below W.heap.size W w') := fun hf W hW => changesOK_any r _ _ _ _ W (HR.out.below hW) HZ.out.h HZ.out.hz hf (GK.out W hW).1 (GK.out W hW).2
  go_enter Tryz.func76, Tryz.ntmps76
  go_upto_region 1 with fail
  generalize w.alloc (.cells #[.int .i64 r.id, .int .i64 r.n, .int .i64 r.vw, .bool r.ac, .slice ax r.ss.length ks, .slice ac r.cs.length kc, .slice al r.lg.length kl, .slice ah r.ch.length kh] 55) = wb at HP ⊢
  obtain ⟨⟨r0, r1, r2, r3, r4, r5, r6, r7⟩, RB⟩ := HP.out wb (Below.refl _ _)
  have G0 : Hid (Below w.heap.size w wb) := RB
  have E0 : Hid (Below wb.heap.size wb wb) := Below.refl _ _
  clear RB
  cases h1 : okN r.id r.n with
  | false =>
    have HF : Hid (bb = false) := HN.out () fun hh => by have := (rep_parts.1 hh).1; rw [h1] at this; cases this
    rw [h1] at HNO
    clear h1
    go_wp2_with fail
    refine (HNO.out _).mono ?_
    rintro e _ ⟨rfl, rfl⟩
    go_wp2_with fail
    go_ret
    exact ⟨ret_b HF.out.symm, G0.out⟩
  | true =>
    have Ah1 : Hid (okN r.id r.n = true) := h1
    rw [h1] at HNO
    clear h1
    have hf : fCode r.n = 0 := (okN_iff.1 Ah1.out).1
    have HSL2 := HSL.out hf
    have HLG2 := HLG.out hf
    have HCH2 := HCH.out hf
    have HSL3 : Hid (∀ W, Below w.heap.size w W → Calls Tryz.prog 106 #[.agg #[.int .i64 r.id, .int .i64 r.n, .int .i64 r.vw, .bool r.ac, .slice ax r.ss.length ks, .slice ac r.cs.length kc, .slice al r.lg.length kl, .slice ah r.ch.length kh]] W fun e w' => e = .returned (.bool (slB r.n r.vw r.ss)) ∧ Below W.heap.size W w') := HSL2
    have HLG3 : Hid (∀ W, Below w.heap.size w W → Calls Tryz.prog 108 #[.int .i64 r.n, .slice al r.lg.length kl] W fun e w' => e = .returned (.bool (bOf (∀ t ∈ r.lg, bdP r.n t = true))) ∧ Below W.heap.size W w') := HLG2
    have HCH3 : Hid (∀ W, Below w.heap.size w W → Calls Tryz.prog 109 #[.agg #[.int .i64 r.id, .int .i64 r.n, .int .i64 r.vw, .bool r.ac, .slice ax r.ss.length ks, .slice ac r.cs.length kc, .slice al r.lg.length kl, .slice ah r.ch.length kh]] W fun e w' => e = .returned (.bool (chB r.n r.vw r.ch)) ∧ Below W.heap.size W w') := HCH2
    clear hf HSL HLG HCH HSL2 HLG2 HCH2
    have HSL := HSL3
    clear HSL3
    have HLG := HLG3
    clear HLG3
    have HCH := HCH3
    clear HCH3
    cases h2 : inB r.vw 0 20 with
    | false =>
      have HF : Hid (bb = false) := HN.out () fun hh => by have := (rep_parts.1 hh).2.1; rw [h2] at this; cases this
      rw [h2] at HWI
      clear h2
      go_wp2_with fail
      refine (HNO.out _).mono ?_
      rintro e _ ⟨rfl, rfl⟩
      go_wp2_with fail
      refine (HWI.out _).mono ?_
      rintro e _ ⟨rfl, rfl⟩
      go_wp2_with fail
      go_ret
      exact ⟨ret_b HF.out.symm, G0.out⟩
    | true =>
      have Ah2 : Hid (inB r.vw 0 20 = true) := h2
      rw [h2] at HWI
      clear h2
      by_cases h3 : r.ss.length = 8
      rotate_left
      · have HF : Hid (bb = false) := HN.out () fun hh => h3 (rep_parts.1 hh).2.2.1
        have h3a : ((r.ss.length : Int) == 8) = false := by simpa using (by omega : ¬ (r.ss.length : Int) = 8)
        have h3b : (r.ss.length == 8) = false := by simpa using h3
        clear h3
        go_wp2_with fail
        refine (HNO.out _).mono ?_
        rintro e _ ⟨rfl, rfl⟩
        go_wp2_with fail
        refine (HWI.out _).mono ?_
        rintro e _ ⟨rfl, rfl⟩
        go_wp2_with fail
        go_ret
        exact ⟨ret_b HF.out.symm, G0.out⟩
      have Ah3 : Hid (r.ss.length = 8) := h3
      have h3a : ((r.ss.length : Int) == 8) = true := by simpa using (by omega : (r.ss.length : Int) = 8)
      have h3b : (r.ss.length == 8) = true := by simpa using h3
      clear h3
      cases h4 : slB r.n r.vw r.ss with
      | false =>
        have HF : Hid (bb = false) := HN.out () fun hh => by have := (rep_parts.1 hh).2.2.2.1; rw [h4] at this; cases this
        rw [h4] at HSL
        clear h4
        go_wp2_with fail
        refine (HNO.out _).mono ?_
        rintro e _ ⟨rfl, rfl⟩
        go_wp2_with fail
        refine (HWI.out _).mono ?_
        rintro e _ ⟨rfl, rfl⟩
        go_wp2_with fail
        refine (HSL.out _ G0.out).mono ?_
        rintro e y1 ⟨rfl, b1⟩
        have E1 : Hid (Below wb.heap.size wb y1) := E0.out.trans (b1.mono E0.out.size)
        clear b1 r0 r1 r2 r3 r4 r5 r6 r7
        obtain ⟨⟨r0, r1, r2, r3, r4, r5, r6, r7⟩, RB⟩ := HP.out y1 E1.out
        have G1 : Hid (Below w.heap.size w y1) := RB
        clear RB
        go_wp2_with fail
        go_ret
        exact ⟨ret_b HF.out.symm, G1.out⟩
      | true =>
        have Ah4 : Hid (slB r.n r.vw r.ss = true) := h4
        rw [h4] at HSL
        clear h4
        by_cases h5 : r.cs.length = 8
        rotate_left
        · have HF : Hid (bb = false) := HN.out () fun hh => h5 (rep_parts.1 hh).2.2.2.2.1
          have h5a : ((r.cs.length : Int) == 8) = false := by simpa using (by omega : ¬ (r.cs.length : Int) = 8)
          have h5b : (r.cs.length == 8) = false := by simpa using h5
          clear h5
          go_wp2_with fail
          refine (HNO.out _).mono ?_
          rintro e _ ⟨rfl, rfl⟩
          go_wp2_with fail
          refine (HWI.out _).mono ?_
          rintro e _ ⟨rfl, rfl⟩
          go_wp2_with fail
          refine (HSL.out _ G0.out).mono ?_
          rintro e y1 ⟨rfl, b1⟩
          have E1 : Hid (Below wb.heap.size wb y1) := E0.out.trans (b1.mono E0.out.size)
          clear b1 r0 r1 r2 r3 r4 r5 r6 r7
          obtain ⟨⟨r0, r1, r2, r3, r4, r5, r6, r7⟩, RB⟩ := HP.out y1 E1.out
          have G1 : Hid (Below w.heap.size w y1) := RB
          clear RB
          go_wp2_with fail
          go_ret
          exact ⟨ret_b HF.out.symm, G1.out⟩
        have Ah5 : Hid (r.cs.length = 8) := h5
        have h5a : ((r.cs.length : Int) == 8) = true := by simpa using (by omega : (r.cs.length : Int) = 8)
        have h5b : (r.cs.length == 8) = true := by simpa using h5
        clear h5
        cases h6 : plB r.n r.vw r.cs with
        | false =>
          have HF : Hid (bb = false) := HN.out () fun hh => by have := (rep_parts.1 hh).2.2.2.2.2.1; rw [h6] at this; cases this
          rw [h6] at HPL
          clear h6
          go_wp2_with fail
          refine (HNO.out _).mono ?_
          rintro e _ ⟨rfl, rfl⟩
          go_wp2_with fail
          refine (HWI.out _).mono ?_
          rintro e _ ⟨rfl, rfl⟩
          go_wp2_with fail
          refine (HSL.out _ G0.out).mono ?_
          rintro e y1 ⟨rfl, b1⟩
          have E1 : Hid (Below wb.heap.size wb y1) := E0.out.trans (b1.mono E0.out.size)
          clear b1 r0 r1 r2 r3 r4 r5 r6 r7
          obtain ⟨⟨r0, r1, r2, r3, r4, r5, r6, r7⟩, RB⟩ := HP.out y1 E1.out
          have G1 : Hid (Below w.heap.size w y1) := RB
          clear RB
          go_wp2_with fail
          refine (HPL.out _ G1.out).mono ?_
          rintro e y2 ⟨rfl, b2⟩
          have E2 : Hid (Below wb.heap.size wb y2) := E1.out.trans (b2.mono E1.out.size)
          clear b2 r0 r1 r2 r3 r4 r5 r6 r7
          obtain ⟨⟨r0, r1, r2, r3, r4, r5, r6, r7⟩, RB⟩ := HP.out y2 E2.out
          have G2 : Hid (Below w.heap.size w y2) := RB
          clear RB
          go_wp2_with fail
          go_ret
          exact ⟨ret_b HF.out.symm, G2.out⟩
        | true =>
          have Ah6 : Hid (plB r.n r.vw r.cs = true) := h6
          rw [h6] at HPL
          clear h6
          by_cases h7 : r.lg.length ≤ 8
          rotate_left
          · have HF : Hid (bb = false) := HN.out () fun hh => h7 (rep_parts.1 hh).2.2.2.2.2.2.1
            have h7a : ¬ (r.lg.length : Int) ≤ 8 := by omega
            go_wp2_with fail
            refine (HNO.out _).mono ?_
            rintro e _ ⟨rfl, rfl⟩
            go_wp2_with fail
            refine (HWI.out _).mono ?_
            rintro e _ ⟨rfl, rfl⟩
            go_wp2_with fail
            refine (HSL.out _ G0.out).mono ?_
            rintro e y1 ⟨rfl, b1⟩
            have E1 : Hid (Below wb.heap.size wb y1) := E0.out.trans (b1.mono E0.out.size)
            clear b1 r0 r1 r2 r3 r4 r5 r6 r7
            obtain ⟨⟨r0, r1, r2, r3, r4, r5, r6, r7⟩, RB⟩ := HP.out y1 E1.out
            have G1 : Hid (Below w.heap.size w y1) := RB
            clear RB
            go_wp2_with fail
            refine (HPL.out _ G1.out).mono ?_
            rintro e y2 ⟨rfl, b2⟩
            have E2 : Hid (Below wb.heap.size wb y2) := E1.out.trans (b2.mono E1.out.size)
            clear b2 r0 r1 r2 r3 r4 r5 r6 r7
            obtain ⟨⟨r0, r1, r2, r3, r4, r5, r6, r7⟩, RB⟩ := HP.out y2 E2.out
            have G2 : Hid (Below w.heap.size w y2) := RB
            clear RB
            go_wp2_with fail
            go_ret
            exact ⟨ret_b HF.out.symm, G2.out⟩
          have Ah7 : Hid (r.lg.length ≤ 8) := h7
          have h7a : (r.lg.length : Int) ≤ 8 := by omega
          cases h8 : bOf (∀ t ∈ r.lg, bdP r.n t = true) with
          | false =>
            have HF : Hid (bb = false) := HN.out () fun hh => by have := (rep_parts.1 hh).2.2.2.2.2.2.2.1; rw [h8] at this; cases this
            rw [h8] at HLG
            clear h8
            go_wp2_with fail
            refine (HNO.out _).mono ?_
            rintro e _ ⟨rfl, rfl⟩
            go_wp2_with fail
            refine (HWI.out _).mono ?_
            rintro e _ ⟨rfl, rfl⟩
            go_wp2_with fail
            refine (HSL.out _ G0.out).mono ?_
            rintro e y1 ⟨rfl, b1⟩
            have E1 : Hid (Below wb.heap.size wb y1) := E0.out.trans (b1.mono E0.out.size)
            clear b1 r0 r1 r2 r3 r4 r5 r6 r7
            obtain ⟨⟨r0, r1, r2, r3, r4, r5, r6, r7⟩, RB⟩ := HP.out y1 E1.out
            have G1 : Hid (Below w.heap.size w y1) := RB
            clear RB
            go_wp2_with fail
            refine (HPL.out _ G1.out).mono ?_
            rintro e y2 ⟨rfl, b2⟩
            have E2 : Hid (Below wb.heap.size wb y2) := E1.out.trans (b2.mono E1.out.size)
            clear b2 r0 r1 r2 r3 r4 r5 r6 r7
            obtain ⟨⟨r0, r1, r2, r3, r4, r5, r6, r7⟩, RB⟩ := HP.out y2 E2.out
            have G2 : Hid (Below w.heap.size w y2) := RB
            clear RB
            go_wp2_with fail
            refine (HLG.out _ G2.out).mono ?_
            rintro e y3 ⟨rfl, b3⟩
            have E3 : Hid (Below wb.heap.size wb y3) := E2.out.trans (b3.mono E2.out.size)
            clear b3 r0 r1 r2 r3 r4 r5 r6 r7
            obtain ⟨⟨r0, r1, r2, r3, r4, r5, r6, r7⟩, RB⟩ := HP.out y3 E3.out
            have G3 : Hid (Below w.heap.size w y3) := RB
            clear RB
            go_wp2_with fail
            go_ret
            exact ⟨ret_b HF.out.symm, G3.out⟩
          | true =>
            have Ah8 : Hid (bOf (∀ t ∈ r.lg, bdP r.n t = true) = true) := h8
            rw [h8] at HLG
            clear h8
            have HE : Hid (bb = chB r.n r.vw r.ch) := by
              show _ = _
              rw [← HBB.out]
              cases h9 : chB r.n r.vw r.ch with
              | false => exact bOf_false fun hh => by have := (rep_parts.1 hh).2.2.2.2.2.2.2.2; rw [h9] at this; cases this
              | true => exact bOf_true (rep_parts.2 ⟨Ah1.out, Ah2.out, Ah3.out, Ah4.out, Ah5.out, Ah6.out, Ah7.out, Ah8.out, h9⟩)
            go_wp2_with fail
            refine (HNO.out _).mono ?_
            rintro e _ ⟨rfl, rfl⟩
            go_wp2_with fail
            refine (HWI.out _).mono ?_
            rintro e _ ⟨rfl, rfl⟩
            go_wp2_with fail
            refine (HSL.out _ G0.out).mono ?_
            rintro e y1 ⟨rfl, b1⟩
            have E1 : Hid (Below wb.heap.size wb y1) := E0.out.trans (b1.mono E0.out.size)
            clear b1 r0 r1 r2 r3 r4 r5 r6 r7
            obtain ⟨⟨r0, r1, r2, r3, r4, r5, r6, r7⟩, RB⟩ := HP.out y1 E1.out
            have G1 : Hid (Below w.heap.size w y1) := RB
            clear RB
            go_wp2_with fail
            refine (HPL.out _ G1.out).mono ?_
            rintro e y2 ⟨rfl, b2⟩
            have E2 : Hid (Below wb.heap.size wb y2) := E1.out.trans (b2.mono E1.out.size)
            clear b2 r0 r1 r2 r3 r4 r5 r6 r7
            obtain ⟨⟨r0, r1, r2, r3, r4, r5, r6, r7⟩, RB⟩ := HP.out y2 E2.out
            have G2 : Hid (Below w.heap.size w y2) := RB
            clear RB
            go_wp2_with fail
            refine (HLG.out _ G2.out).mono ?_
            rintro e y3 ⟨rfl, b3⟩
            have E3 : Hid (Below wb.heap.size wb y3) := E2.out.trans (b3.mono E2.out.size)
            clear b3 r0 r1 r2 r3 r4 r5 r6 r7
            obtain ⟨⟨r0, r1, r2, r3, r4, r5, r6, r7⟩, RB⟩ := HP.out y3 E3.out
            have G3 : Hid (Below w.heap.size w y3) := RB
            clear RB
            go_wp2_with fail
            refine (HCH.out _ G3.out).mono ?_
            rintro e y4 ⟨rfl, b4⟩
            have E4 : Hid (Below wb.heap.size wb y4) := E3.out.trans (b4.mono E3.out.size)
            clear b4 r0 r1 r2 r3 r4 r5 r6 r7
            obtain ⟨⟨r0, r1, r2, r3, r4, r5, r6, r7⟩, RB⟩ := HP.out y4 E4.out
            have G4 : Hid (Below w.heap.size w y4) := RB
            clear RB
            go_wp2_with fail
            go_ret
            exact ⟨ret_b HE.out.symm, G4.out⟩
end Go.Proofs.YtondmbeccpekiaaGreatDoor.Yr

/- Right groups: the program. -/
namespace Go.Proofs.YtondmbeccpekiaaGreatDoor.Zg
open Go.RowKit Go.Proofs.YtondmbeccpekiaaGreatDoor.Rg Go.Proofs.YtondmbeccpekiaaGreatDoor.Gm Go.Proofs.YtondmbeccpekiaaGreatDoor.Ty Go.Proofs.YtondmbeccpekiaaGreatDoor.Tm Go.Proofs.YtondmbeccpekiaaGreatDoor.Sh Go.Proofs.YtondmbeccpekiaaGreatDoor.Yr
open Go.Proofs.YtondmbeccpekiaaGreatDoor.Vt (bOf bOf_true bOf_false bOf_iff bOf_eq sg)
open Go.Proofs.YtondmbeccpekiaaGreatDoor.Qm (qOut inB)

def lastF (fa : List Int) : Nat → Int
  | 0 => -1
  | k + 1 => fa.getD k 0
def OneF (n : Int) (fa : List Int) (k : Nat) (x : Int) : Prop := lastF fa k + 1 ≤ x ∧ x ≤ n - 1
def FaP (n : Int) (fa : List Int) : Prop := (fa.length : Int) ≤ fOut n ∧ ∀ k x, k < fa.length → fa[k]? = some x → OneF n fa k x
noncomputable def faB (n : Int) (fa : List Int) : Bool := bOf (fCode n = 0 ∧ FaP n fa)
theorem lastF_step {fa : List Int} {k : Nat} {x : Int} (h : fa[k]? = some x) : lastF fa (k + 1) = x := by
  show fa.getD k 0 = x
  rw [List.getD_eq_getElem?_getD, h]; rfl
theorem lastF_low {n : Int} {fa : List Int} : ∀ {k : Nat}, k ≤ fa.length → (∀ j x, j < k → fa[j]? = some x → OneF n fa j x) → -1 ≤ lastF fa k ∧ (k = 0 ∨ lastF fa k ≤ n - 1)
  | 0, _, _ => ⟨by show (-1 : Int) ≤ -1; omega, .inl rfl⟩
  | k + 1, hk, h => by
    obtain ⟨x, hx⟩ := Rg.get_at (show k < fa.length by omega)
    obtain ⟨h1, h2⟩ := h k x (by omega) hx
    have h3 := (lastF_low (show k ≤ fa.length by omega) fun j y hj hy => h j y (by omega) hy).1
    rw [lastF_step hx]
    exact ⟨by omega, .inr h2⟩
def PcP (n : Int) (x : Pc) : Prop := (0 ≤ x.t ∧ x.t ≤ n - 1) ∧ sg n x.m = true
def RsP (n : Int) (k : Nat) (r : Rp) : Prop := r.id = (k : Int) ∧ r.n = n ∧ repB r = true
noncomputable def rsB (n : Int) (rs : List Rp) : Bool := bOf (∀ k r, k < rs.length → rs[k]? = some r → RsP n k r)
noncomputable def wiB (n : Int) (wi : List Pc) : Bool := bOf (∀ x ∈ wi, PcP n x)
noncomputable def seB (n : Int) (se : List Mg) : Bool := bOf (∀ x ∈ se, sg n x = true)
def GrpP (g : Gp) : Prop := faB g.n g.fa = true ∧ (g.rs.length : Int) = g.n ∧ g.wi.length ≤ 400 ∧ g.se.length ≤ 4096 ∧ rsB g.n g.rs = true ∧ wiB g.n g.wi = true ∧ seB g.n g.se = true
noncomputable def grpB (g : Gp) : Bool := bOf (GrpP g)
theorem rsB_no {n : Int} {rs : List Rp} {k : Nat} {r : Rp} (hx : rs[k]? = some r) (h : ¬ RsP n k r) : rsB n rs = false := bOf_false fun hh => h (hh k r (lt_at hx) hx)
theorem wiB_no {n : Int} {wi : List Pc} {k : Nat} {x : Pc} (hx : wi[k]? = some x) (h : ¬ PcP n x) : wiB n wi = false := bOf_false fun hh => h (hh x (mem_at hx))
theorem seB_no {n : Int} {se : List Mg} {k : Nat} {x : Mg} (hx : se[k]? = some x) (h : ¬ sg n x = true) : seB n se = false := bOf_false fun hh => h (hh x (mem_at hx))
theorem f_out {n : Int} (h : fCode n = 0) : 0 ≤ fOut n ∧ fOut n ≤ 2 := by
  rcases f_cases n with rfl | rfl | rfl | ⟨_, _, _, _, hd⟩
  · decide
  · decide
  · decide
  · rw [hd] at h; cases h
set_option maxRecDepth 100000 in
set_option maxHeartbeats 3200000 in
theorem faultyOK_any (n : Int) (v : Value) (fa : List Int) (w : World) (h : RowN w v fa) (hl : fa.length ≤ 1048576) :
    Calls Tryz.prog 39 #[.int .i64 n, v] w fun e w' => e = .returned (.bool (faB n fa)) ∧ w = w' := by
  have HR : Hid (RowN w v fa) := h
  obtain ⟨a, cap, rfl⟩ := RowG.slice h
  clear h
  obtain ⟨bb, HBB⟩ : ∃ bb, Hid (faB n fa = bb) := ⟨_, rfl⟩
  rw [HBB.out]
  have HN : Hid (∀ _ : Unit, ¬ (fCode n = 0 ∧ FaP n fa) → bb = false) := fun _ hh => by rw [← HBB.out]; exact bOf_false hh
  have HFO := implFaultsOf_any n w
  by_cases hf : fCode n = 0
  rotate_left
  · have h4 : fCode n = 4 := Wc.f_four hf
    have HF : Hid (bb = false) := HN.out () fun hh => hf hh.1
    rw [h4] at HFO
    clear hf h4
    go_enter Tryz.func39, Tryz.ntmps39
    go_wp2_with fail
    refine HFO.mono ?_
    rintro e w1 ⟨rfl, hw⟩
    rw [hw]
    clear hw
    go_wp2_with fail
    go_ret
    exact ⟨ret_b HF.out.symm, rfl⟩
  have hn7 := f_small hf
  have hfo := f_out hf
  have HF0 : Hid (fCode n = 0) := hf
  rw [hf] at HFO
  clear hf
  by_cases hlen : (fa.length : Int) ≤ fOut n
  rotate_left
  · have hlen' : fOut n < (fa.length : Int) := by omega
    have HF : Hid (bb = false) := HN.out () fun hh => hlen hh.2.1
    clear hlen
    go_enter Tryz.func39, Tryz.ntmps39
    go_wp2_with fail
    refine HFO.mono ?_
    rintro e w1 ⟨rfl, hw⟩
    rw [hw]
    clear hw
    go_wp2_with fail
    go_ret
    exact ⟨ret_b HF.out.symm, rfl⟩
  have hlen' : ¬ fOut n < (fa.length : Int) := by omega
  have HLE : Hid ((fa.length : Int) ≤ fOut n) := hlen
  clear hlen
  go_enter Tryz.func39, Tryz.ntmps39
  go_wp2_with fail
  refine HFO.mono ?_
  rintro e w1 ⟨rfl, hw⟩
  rw [hw]
  clear hw w1
  go_wp2_with fail
  go_loopw [7, 25] (fun l i wr => ∃ (k : Nat) (y : Int), k ≤ fa.length ∧ l = .int .i64 y ∧ -1 ≤ y ∧ y ≤ 6 ∧ i = .int .i64 k ∧ Hid (y = lastF fa k) ∧ Hid (∀ j x, j < k → fa[j]? = some x → OneF n fa j x) ∧ wr = w) (fun _ i _ => fa.length - (intOf i).toNat)
  case atStart => exact ⟨0, -1, by omega, rfl, by omega, by omega, rfl, rfl, fun j x hj => by omega, rfl⟩
  case round =>
    obtain ⟨k, y, hk, rfl, hy0, hy6, rfl, HL, HJ, hwr⟩ := hrel
    rw [hwr]
    clear hwr wr
    by_cases hlt : k < fa.length
    · obtain ⟨x, hx⟩ := Rg.get_at hlt
      obtain ⟨b, off, rfl, hbl, c0⟩ := RowG.at HR.out rfl hx
      unfold EI at c0
      rw [Nat.mul_one] at c0
      have HWI : Hid (Calls Tryz.prog 73 #[.int .i64 x, .int .i64 (y + 1), .int .i64 (n - 1)] w fun e w' => e = .returned (.bool (inB x (y + 1) (n - 1))) ∧ w = w') := Qm.within_any x (y + 1) (n - 1) w
      cases hin : inB x (y + 1) (n - 1) with
      | false =>
        have HF : Hid (bb = false) := HN.out () fun hh => by
          have h1 := hh.2.2 k x hlt hx
          have h2 : inB x (y + 1) (n - 1) = true := inB_iff.2 ⟨by rw [HL.out]; exact h1.1, h1.2⟩
          rw [hin] at h2
          cases h2
        rw [hin] at HWI
        clear hin hx
        go_wp2_with fail
        refine HWI.out.mono ?_
        rintro e w2 ⟨rfl, rfl⟩
        go_wp2_with fail
        go_ret
        exact ⟨ret_b HF.out.symm, rfl⟩
      | true =>
        have h1 := inB_iff.1 hin
        have HO : Hid (OneF n fa k x) := ⟨by rw [← HL.out]; exact h1.1, h1.2⟩
        have HU : Hid (∀ j z, j < k + 1 → fa[j]? = some z → OneF n fa j z) := upto_succ HJ.out hx HO.out
        have HL2 : Hid (x = lastF fa (k + 1)) := (lastF_step hx).symm
        have hx1 : -1 ≤ x ∧ x ≤ 6 := by omega
        rw [hin] at HWI
        clear hin hx h1
        go_wp2_with fail
        refine HWI.out.mono ?_
        rintro e w2 ⟨rfl, rfl⟩
        go_wp2_with fail
        exact ⟨⟨k + 1, x, by omega, rfl, hx1.1, hx1.2, by go_num, HL2, HU, by first | rfl | trivial⟩, by simp [intOf]; omega⟩
    · obtain rfl : k = fa.length := by omega
      have HT : Hid (bb = true) := by show _ = _; rw [← HBB.out]; exact bOf_true ⟨HF0.out, HLE.out, HJ.out⟩
      go_wp2_with fail
      go_ret
      exact ⟨ret_b HT.out.symm, rfl⟩
set_option maxRecDepth 100000 in
set_option maxHeartbeats 3200000 in
theorem replicasOK_any (g : Gp) (vf vr vw vs : Value) (w : World) (h : GrpR w g vf vr vw vs) (hz : Zq 1048576 g) (hK : KTab w) (hp : 0 < w.heap.size) :
    Calls Tryz.prog 40 #[.agg #[.int .i64 g.n, vf, vr, vw, vs]] w fun e w' => e = .returned (.bool (rsB g.n g.rs)) ∧ Below w.heap.size w w' := by
  have HR : Hid (RowR w vr g.rs) := h.r
  have HZ0 : Hid (Zq 1048576 g) := hz
  have hl := hz.r
  obtain ⟨af, kf, rfl⟩ := RowG.slice h.f
  obtain ⟨ar, kr, rfl⟩ := RowG.slice h.r
  obtain ⟨aw, kw, rfl⟩ := RowG.slice h.p
  obtain ⟨az, kz, rfl⟩ := RowG.slice h.s
  have GK : Hid (∀ W, Below w.heap.size w W → KTab W ∧ 0 < W.heap.size) := fun W hW => ⟨hK.below hW hp, Nat.lt_of_lt_of_le hp hW.size⟩
  have HP : Hid (∀ W, Below (w.alloc (.cells #[.int .i64 g.n, .slice af g.fa.length kf, .slice ar g.rs.length kr, .slice aw g.wi.length kw, .slice az g.se.length kz] 34)).heap.size (w.alloc (.cells #[.int .i64 g.n, .slice af g.fa.length kf, .slice ar g.rs.length kr, .slice aw g.wi.length kw, .slice az g.se.length kz] 34)) W → (W.cell? ⟨w.heap.size, 0, none⟩ = some (.int .i64 g.n) ∧ W.cell? ⟨w.heap.size, 1, none⟩ = some (.slice af g.fa.length kf) ∧ W.cell? ⟨w.heap.size, 2, none⟩ = some (.slice ar g.rs.length kr) ∧ W.cell? ⟨w.heap.size, 3, none⟩ = some (.slice aw g.wi.length kw) ∧ W.cell? ⟨w.heap.size, 4, none⟩ = some (.slice az g.se.length kz)) ∧ Below w.heap.size w W) := fun W hW => by
    have h1 := (hW.block w.heap.size (by simp)).trans (heap_alloc_new w _)
    exact ⟨⟨(blk_cell h1 0 rfl).1, (blk_cell h1 1 rfl).1, (blk_cell h1 2 rfl).1, (blk_cell h1 3 rfl).1, (blk_cell h1 4 rfl).1⟩, (bel_new w _).trans (hW.mono (by simp))⟩
  clear h hK hp hz
  obtain ⟨bb, HBB⟩ : ∃ bb, Hid (rsB g.n g.rs = bb) := ⟨_, rfl⟩
  rw [HBB.out]
  go_enter Tryz.func40, Tryz.ntmps40
  go_upto_region 1 with fail
  generalize w.alloc (.cells #[.int .i64 g.n, .slice af g.fa.length kf, .slice ar g.rs.length kr, .slice aw g.wi.length kw, .slice az g.se.length kz] 34) = wb at HP ⊢
  obtain ⟨⟨g0, g1, g2, g3, g4⟩, RB⟩ := HP.out wb (Below.refl _ _)
  go_wp2_with fail
  clear g0 g1 g2 g3 g4 RB
  go_loopw [8] (fun i wr => ∃ k : Nat, k ≤ g.rs.length ∧ i = .int .i64 k ∧ Hid ((∀ j s, j < k → g.rs[j]? = some s → RsP g.n j s) ∧ Below wb.heap.size wb wr)) (fun i _ => g.rs.length - (intOf i).toNat)
  case atStart => exact ⟨0, by omega, rfl, ⟨fun j x hj => by omega, Below.refl _ _⟩⟩
  case round =>
    obtain ⟨k, hk, rfl, HZ⟩ := hrel
    by_cases hlt : k < g.rs.length
    · obtain ⟨x, hx⟩ := Rg.get_at hlt
      have WR : Below w.heap.size w wr := (HP.out _ HZ.out.2).2
      obtain ⟨b, off, rfl, hbl, u4, u5, u6, u7, c0, c1, c2, c3, c4, c5, c6, c7, rr⟩ := RowG.at (HR.out.below WR) rfl hx
      obtain ⟨a4, k4, rfl⟩ := RowG.slice rr.s
      obtain ⟨a5, k5, rfl⟩ := RowG.slice rr.c
      obtain ⟨a6, k6, rfl, _⟩ := rr.l
      obtain ⟨a7, k7, rfl⟩ := RowG.slice rr.h
      have HX : Hid (g.rs[k]? = some x) := hx
      have hzx := HZ0.out.rz x (mem_at hx)
      have HA : Hid (∀ W, Below (wr.alloc (.cells #[.int .i64 x.id, .int .i64 x.n, .int .i64 x.vw, .bool x.ac, .slice a4 x.ss.length k4, .slice a5 x.cs.length k5, .slice a6 x.lg.length k6, .slice a7 x.ch.length k7] 55)).heap.size (wr.alloc (.cells #[.int .i64 x.id, .int .i64 x.n, .int .i64 x.vw, .bool x.ac, .slice a4 x.ss.length k4, .slice a5 x.cs.length k5, .slice a6 x.lg.length k6, .slice a7 x.ch.length k7] 55)) W → (W.cell? ⟨wr.heap.size, 0, none⟩ = some (.int .i64 x.id) ∧ W.cell? ⟨wr.heap.size, 1, none⟩ = some (.int .i64 x.n) ∧ W.cell? ⟨wr.heap.size, 2, none⟩ = some (.int .i64 x.vw) ∧ W.cell? ⟨wr.heap.size, 3, none⟩ = some (.bool x.ac) ∧ W.cell? ⟨wr.heap.size, 4, none⟩ = some (.slice a4 x.ss.length k4) ∧ W.cell? ⟨wr.heap.size, 5, none⟩ = some (.slice a5 x.cs.length k5) ∧ W.cell? ⟨wr.heap.size, 6, none⟩ = some (.slice a6 x.lg.length k6) ∧ W.cell? ⟨wr.heap.size, 7, none⟩ = some (.slice a7 x.ch.length k7)) ∧ Below wb.heap.size wb W ∧ Below wr.heap.size wr W) := fun W hW => by
        have h1 := (hW.block wr.heap.size (by simp)).trans (heap_alloc_new wr _)
        have h3 := (bel_new wr _).trans (hW.mono (by simp))
        exact ⟨⟨(blk_cell h1 0 rfl).1, (blk_cell h1 1 rfl).1, (blk_cell h1 2 rfl).1, (blk_cell h1 3 rfl).1, (blk_cell h1 4 rfl).1, (blk_cell h1 5 rfl).1, (blk_cell h1 6 rfl).1, (blk_cell h1 7 rfl).1⟩, HZ.out.2.trans (h3.mono HZ.out.2.size), h3⟩
      have HRO : Hid (∀ W, Below wr.heap.size wr W → Calls Tryz.prog 76 #[.agg #[.int .i64 x.id, .int .i64 x.n, .int .i64 x.vw, .bool x.ac, .slice a4 x.ss.length k4, .slice a5 x.cs.length k5, .slice a6 x.lg.length k6, .slice a7 x.ch.length k7]] W fun e w' => e = .returned (.bool (repB x)) ∧ Below W.heap.size W w') := fun W hW => by
        have hG := GK.out W (WR.trans (hW.mono WR.size))
        exact implReplicaOK_any x _ _ _ _ W (rr.below hW) hzx hG.1 hG.2
      have HN : Hid (∀ _ : Unit, ¬ RsP g.n k x → bb = false) := fun _ hh => by rw [← HBB.out]; exact rsB_no HX.out hh
      have HY : Hid (RsP g.n k x → ∀ j s, j < k + 1 → g.rs[j]? = some s → RsP g.n j s) := fun hh => upto_succ HZ.out.1 HX.out hh
      clear hx hzx rr WR
      go_upto_region 4 with fail
      generalize wr.alloc (.cells #[.int .i64 x.id, .int .i64 x.n, .int .i64 x.vw, .bool x.ac, .slice a4 x.ss.length k4, .slice a5 x.cs.length k5, .slice a6 x.lg.length k6, .slice a7 x.ch.length k7] 55) = wa at HA ⊢
      clear c0 c1 c2 c3 c4 c5 c6 c7
      obtain ⟨⟨c0, c1, c2, c3, c4, c5, c6, c7⟩, A1, A2⟩ := HA.out wa (Below.refl _ _)
      obtain ⟨⟨g0, g1, g2, g3, g4⟩, RB⟩ := HP.out wa A1
      have WA : Hid (Below wr.heap.size wr wa) := A2
      have F1 : Hid (Below wb.heap.size wb wa) := A1
      have G1 : Hid (Below w.heap.size w wa) := RB
      clear A1 A2 RB
      by_cases q0 : x.id = (k : Int)
      rotate_left
      · have e0 : (x.id != (k : Int)) = true := by simpa using q0
        have HF : Hid (bb = false) := HN.out () fun hh => q0 hh.1
        clear q0
        go_wp2_with fail
        go_ret
        exact ⟨ret_b HF.out.symm, G1.out⟩
      have e0 : (x.id != (k : Int)) = false := by simpa using q0
      have Q0 : Hid (x.id = (k : Int)) := q0
      clear q0
      by_cases q1 : x.n = g.n
      rotate_left
      · have e1 : (x.n != g.n) = true := by simpa using q1
        have HF : Hid (bb = false) := HN.out () fun hh => q1 hh.2.1
        clear q1
        go_wp2_with fail
        go_ret
        exact ⟨ret_b HF.out.symm, G1.out⟩
      have e1 : (x.n != g.n) = false := by simpa using q1
      have Q1 : Hid (x.n = g.n) := q1
      clear q1
      cases hs : repB x with
      | false =>
        have HF : Hid (bb = false) := HN.out () fun hh => by have := hh.2.2; rw [hs] at this; cases this
        rw [hs] at HRO
        clear hs
        go_wp2_with fail
        refine (HRO.out _ WA.out).mono ?_
        rintro e w2 ⟨rfl, b2⟩
        have G2 : Hid (Below w.heap.size w w2) := G1.out.trans (b2.mono G1.out.size)
        clear b2
        go_wp2_with fail
        go_ret
        exact ⟨ret_b HF.out.symm, G2.out⟩
      | true =>
        have HU : Hid (∀ j s, j < k + 1 → g.rs[j]? = some s → RsP g.n j s) := HY.out ⟨Q0.out, Q1.out, hs⟩
        rw [hs] at HRO
        clear hs
        go_wp2_with fail
        refine (HRO.out _ WA.out).mono ?_
        rintro e w2 ⟨rfl, b2⟩
        have F2 : Hid (Below wb.heap.size wb w2) := F1.out.trans (b2.mono F1.out.size)
        clear b2
        go_wp2_with fail
        exact ⟨⟨k + 1, by omega, by go_num, ⟨HU.out, F2.out⟩⟩, by simp [intOf]; omega⟩
    · obtain rfl : k = g.rs.length := by omega
      have HT : Hid (bb = true) := by show _ = _; rw [← HBB.out]; exact bOf_true HZ.out.1
      have G0 : Hid (Below w.heap.size w wr) := (HP.out _ HZ.out.2).2
      go_wp2_with fail
      go_ret
      exact ⟨ret_b HT.out.symm, G0.out⟩
set_option maxRecDepth 100000 in
set_option maxHeartbeats 3200000 in
theorem badParcel_any (n : Int) (x : Pc) (p : Nat) (w : World) (hc : w.cell? ⟨p, 0, none⟩ = some (.int .i64 n)) (hK : KTab w) (hp : 0 < w.heap.size) :
    Calls Tryz.prog 35 #[.agg #[.int .i64 x.t, .int .i64 x.m.kd, .int .i64 x.m.vw, .int .i64 x.m.sq, .int .i64 x.m.fr, .string x.m.dg, .string x.m.bd, .string x.m.mc], .pointer (some ⟨p, 0, none⟩)] w fun e w' => e = .returned (.bool (!(okN x.t n && sg n x.m))) ∧ Below w.heap.size w w' := by
  have hpl : p < w.heap.size := World.block_lt_of_cell? w _ hc
  have HP : Hid (∀ W, Below (w.alloc (.cells #[.int .i64 x.t, .int .i64 x.m.kd, .int .i64 x.m.vw, .int .i64 x.m.sq, .int .i64 x.m.fr, .string x.m.dg, .string x.m.bd, .string x.m.mc] 61)).heap.size (w.alloc (.cells #[.int .i64 x.t, .int .i64 x.m.kd, .int .i64 x.m.vw, .int .i64 x.m.sq, .int .i64 x.m.fr, .string x.m.dg, .string x.m.bd, .string x.m.mc] 61)) W → (W.cell? ⟨w.heap.size, 0, none⟩ = some (.int .i64 x.t) ∧ W.cell? ⟨w.heap.size, 1, none⟩ = some (.int .i64 x.m.kd) ∧ W.cell? ⟨w.heap.size, 2, none⟩ = some (.int .i64 x.m.vw) ∧ W.cell? ⟨w.heap.size, 3, none⟩ = some (.int .i64 x.m.sq) ∧ W.cell? ⟨w.heap.size, 4, none⟩ = some (.int .i64 x.m.fr) ∧ W.cell? ⟨w.heap.size, 5, none⟩ = some (.string x.m.dg) ∧ W.cell? ⟨w.heap.size, 6, none⟩ = some (.string x.m.bd) ∧ W.cell? ⟨w.heap.size, 7, none⟩ = some (.string x.m.mc)) ∧ W.cell? ⟨p, 0, none⟩ = some (.int .i64 n) ∧ Below w.heap.size w W) := fun W hW => by
    have h1 := (hW.block w.heap.size (by simp)).trans (heap_alloc_new w _)
    have h3 := (bel_new w _).trans (hW.mono (by simp))
    exact ⟨⟨(blk_cell h1 0 rfl).1, (blk_cell h1 1 rfl).1, (blk_cell h1 2 rfl).1, (blk_cell h1 3 rfl).1, (blk_cell h1 4 rfl).1, (blk_cell h1 5 rfl).1, (blk_cell h1 6 rfl).1, (blk_cell h1 7 rfl).1⟩, (h3.cell (p := ⟨p, 0, none⟩) hpl).trans hc, h3⟩
  have GK : Hid (∀ W, Below w.heap.size w W → KTab W ∧ 0 < W.heap.size) := fun W hW => ⟨hK.below hW hp, Nat.lt_of_lt_of_le hp hW.size⟩
  have HNO : Hid (∀ W, Calls Tryz.prog 36 #[.int .i64 n, .int .i64 x.t] W fun e w' => e = .returned (.bool (okN x.t n)) ∧ W = w') := fun W => isNode_any x.t n W
  have HMS : Hid (∀ W, Below w.heap.size w W → Calls Tryz.prog 37 #[.int .i64 n, .agg #[.int .i64 x.m.kd, .int .i64 x.m.vw, .int .i64 x.m.sq, .int .i64 x.m.fr, .string x.m.dg, .string x.m.bd, .string x.m.mc]] W fun e w' => e = .returned (.bool (sg n x.m)) ∧ Below W.heap.size W w') := fun W hW => Si.implMessageSigned_any n x.m.kd x.m.vw x.m.sq x.m.fr x.m.dg x.m.bd x.m.mc W (GK.out W hW).1 (GK.out W hW).2
  clear hK hp hc hpl
  go_enter Tryz.func35, Tryz.ntmps35
  go_upto_region 1 with fail
  generalize w.alloc (.cells #[.int .i64 x.t, .int .i64 x.m.kd, .int .i64 x.m.vw, .int .i64 x.m.sq, .int .i64 x.m.fr, .string x.m.dg, .string x.m.bd, .string x.m.mc] 61) = wb at HP ⊢
  obtain ⟨⟨x0, x1, x2, x3, x4, x5, x6, x7⟩, y0, B0⟩ := HP.out wb (Below.refl _ _)
  have G0 : Hid (Below w.heap.size w wb) := B0
  clear B0
  cases h1 : okN x.t n with
  | false =>
    rw [h1] at HNO
    have E1 : Hid (_ = _) := h1
    clear h1
    go_wp2_with fail
    refine (HNO.out _).mono ?_
    rintro e _ ⟨rfl, rfl⟩
    go_wp2_with fail
    go_ret
    exact ⟨by rw [E1.out]; rfl, G0.out⟩
  | true =>
    rw [h1] at HNO
    have E1 : Hid (_ = _) := h1
    clear h1
    obtain ⟨o, ho⟩ : ∃ o, sg n x.m = o := ⟨_, rfl⟩
    rw [ho] at HMS
    have HO : Hid (sg n x.m = o) := ho
    clear ho
    go_wp2_with fail
    refine (HNO.out _).mono ?_
    rintro e _ ⟨rfl, rfl⟩
    go_wp2_with fail
    refine (HMS.out _ G0.out).mono ?_
    rintro e w2 ⟨rfl, b2⟩
    have G2 : Hid (Below w.heap.size w w2) := G0.out.trans (b2.mono G0.out.size)
    clear b2
    go_wp2_with fail
    go_ret
    exact ⟨by rw [E1.out, HO.out]; cases o <;> rfl, G2.out⟩
set_option maxRecDepth 100000 in
set_option maxHeartbeats 3200000 in
theorem badMessage_any (n : Int) (x : Mg) (p : Nat) (w : World) (hc : w.cell? ⟨p, 0, none⟩ = some (.int .i64 n)) (hK : KTab w) (hp : 0 < w.heap.size) :
    Calls Tryz.prog 38 #[.agg #[.int .i64 x.kd, .int .i64 x.vw, .int .i64 x.sq, .int .i64 x.fr, .string x.dg, .string x.bd, .string x.mc], .pointer (some ⟨p, 0, none⟩)] w fun e w' => e = .returned (.bool (!sg n x)) ∧ Below w.heap.size w w' := by
  have hpl : p < w.heap.size := World.block_lt_of_cell? w _ hc
  have HP : Hid (∀ W, Below (w.alloc (.cells #[.int .i64 x.kd, .int .i64 x.vw, .int .i64 x.sq, .int .i64 x.fr, .string x.dg, .string x.bd, .string x.mc] 59)).heap.size (w.alloc (.cells #[.int .i64 x.kd, .int .i64 x.vw, .int .i64 x.sq, .int .i64 x.fr, .string x.dg, .string x.bd, .string x.mc] 59)) W → (W.cell? ⟨w.heap.size, 0, none⟩ = some (.int .i64 x.kd) ∧ W.cell? ⟨w.heap.size, 1, none⟩ = some (.int .i64 x.vw) ∧ W.cell? ⟨w.heap.size, 2, none⟩ = some (.int .i64 x.sq) ∧ W.cell? ⟨w.heap.size, 3, none⟩ = some (.int .i64 x.fr) ∧ W.cell? ⟨w.heap.size, 4, none⟩ = some (.string x.dg) ∧ W.cell? ⟨w.heap.size, 5, none⟩ = some (.string x.bd) ∧ W.cell? ⟨w.heap.size, 6, none⟩ = some (.string x.mc)) ∧ W.cell? ⟨p, 0, none⟩ = some (.int .i64 n) ∧ Below w.heap.size w W) := fun W hW => by
    have h1 := (hW.block w.heap.size (by simp)).trans (heap_alloc_new w _)
    have h3 := (bel_new w _).trans (hW.mono (by simp))
    exact ⟨⟨(blk_cell h1 0 rfl).1, (blk_cell h1 1 rfl).1, (blk_cell h1 2 rfl).1, (blk_cell h1 3 rfl).1, (blk_cell h1 4 rfl).1, (blk_cell h1 5 rfl).1, (blk_cell h1 6 rfl).1⟩, (h3.cell (p := ⟨p, 0, none⟩) hpl).trans hc, h3⟩
  have GK : Hid (∀ W, Below w.heap.size w W → KTab W ∧ 0 < W.heap.size) := fun W hW => ⟨hK.below hW hp, Nat.lt_of_lt_of_le hp hW.size⟩
  have HMS : Hid (∀ W, Below w.heap.size w W → Calls Tryz.prog 37 #[.int .i64 n, .agg #[.int .i64 x.kd, .int .i64 x.vw, .int .i64 x.sq, .int .i64 x.fr, .string x.dg, .string x.bd, .string x.mc]] W fun e w' => e = .returned (.bool (sg n x)) ∧ Below W.heap.size W w') := fun W hW => Si.implMessageSigned_any n x.kd x.vw x.sq x.fr x.dg x.bd x.mc W (GK.out W hW).1 (GK.out W hW).2
  clear hK hp hc hpl
  go_enter Tryz.func38, Tryz.ntmps38
  go_upto_region 1 with fail
  generalize w.alloc (.cells #[.int .i64 x.kd, .int .i64 x.vw, .int .i64 x.sq, .int .i64 x.fr, .string x.dg, .string x.bd, .string x.mc] 59) = wb at HP ⊢
  obtain ⟨⟨x0, x1, x2, x3, x4, x5, x6⟩, y0, B0⟩ := HP.out wb (Below.refl _ _)
  have G0 : Hid (Below w.heap.size w wb) := B0
  clear B0
  obtain ⟨o, ho⟩ : ∃ o, sg n x = o := ⟨_, rfl⟩
  rw [ho] at HMS
  have HO : Hid (sg n x = o) := ho
  clear ho
  go_wp2_with fail
  refine (HMS.out _ G0.out).mono ?_
  rintro e w2 ⟨rfl, b2⟩
  have G2 : Hid (Below w.heap.size w w2) := G0.out.trans (b2.mono G0.out.size)
  clear b2
  go_wp2_with fail
  go_ret
  exact ⟨by rw [HO.out]; rfl, G2.out⟩
end Go.Proofs.YtondmbeccpekiaaGreatDoor.Zg
