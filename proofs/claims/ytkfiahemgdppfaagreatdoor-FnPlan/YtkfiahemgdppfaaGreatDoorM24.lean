/- Texts put together: Pr, Ps8, Sat, La, SlRow. -/
import Derived.Test.YtkfiahemgdppfaaGreatDoorM23
import Derived.Test.YtkfiahemgdppfaaGreatDoorM1
import Derived.Test.YtkfiahemgdppfaaGreatDoorM0
import Derived.OpenShut
/- The plan of a quorum: l06Plan of the specification. -/
namespace Go.Proofs.YtkfiahemgdppfaaGreatDoor.Pl
open Go.RowKit Go.Proofs.YtkfiahemgdppfaaGreatDoor.Sl Go.Proofs.YtkfiahemgdppfaaGreatDoor.By Go.Proofs.YtkfiahemgdppfaaGreatDoor.Ap Go.Proofs.YtkfiahemgdppfaaGreatDoor.Gm Go.Proofs.YtkfiahemgdppfaaGreatDoor.Sh Go.Proofs.YtkfiahemgdppfaaGreatDoor.Vt Go.Proofs.YtkfiahemgdppfaaGreatDoor.Tm Go.Proofs.YtkfiahemgdppfaaGreatDoor.Wc
open Go.Proofs.YtkfiahemgdppfaaGreatDoor.Rc (OwnM OwnM.row OwnM.kept OwnM.lt OwnM.below OwnM.mono Kq)
open Go.Proofs.YtkfiahemgdppfaaGreatDoor.Tl (OwnS)
open Go.Proofs.YtkfiahemgdppfaaGreatDoor.Qm (qOut inB)
open Go.Proofs.YtkfiahemgdppfaaGreatDoor.Rg (RowG RowG.slice RowG.at lt_at mem_at blk_cell blk_set blk_far bel_new)

set_option maxRecDepth 100000 in
set_option maxHeartbeats 6400000 in
theorem l06Plan_any (n view : Int) (v : Value) (ms : List Mg) (w : World) (hf : fCode n = 0) (h : Row w v ms) (hlq : (ms.length : Int) = qOut n) :
    Calls Tryz.prog 25 #[.int .i64 n, .int .i64 view, v] w fun e w' => ∃ u, e = .returned (.tuple #[u, .bool (caB n view ms)]) ∧ OwnS w' w.heap.size u (psL n view ms) ∧ Below w.heap.size w w' := by
  obtain ⟨i0, hi0, hz0, hz1, hz2⟩ := info_parts Ty.info9
  have HR : Hid (Row w v ms) := h
  obtain ⟨a, cap, rfl⟩ := RowG.slice h
  have HQM := Qm.l06Quorum_any n w hf
  have HFC : Hid (fCode n = 0 ∧ (ms.length : Int) = qOut n) := ⟨hf, hlq⟩
  have h5 : ms.length ≤ 5 := by have := (q_pos hf).2; omega
  have hlq' : ((ms.length : Int) != qOut n) = false := by simp [hlq]
  obtain ⟨q, HQ⟩ : ∃ q, Hid (qOut n = q) := ⟨_, rfl⟩
  rw [HQ.out] at HQM hlq'
  have hmT := makeT
  have hmI := makeI
  have HQ0 : Hid (Qst w ((w.alloc (.cells (bodA st0) 9)).alloc (.cells (vieA st0) 3)) (stOf (caL (ms.take 0)))) := by
    have e2 := heap_alloc_new (w.alloc (.cells (bodA st0) 9)) (.cells (vieA st0) 3)
    rw [Rg.size_new] at e2
    exact ⟨((bel_new (w.alloc (.cells (bodA st0) 9)) _).block w.heap.size (by simp)).trans (heap_alloc_new w _), e2, (bel_new w _).trans ((bel_new _ _).mono (bel_new w _).size)⟩
  clear h hf hlq
  go_enter Tryz.func25, Tryz.ntmps25
  go_wp2_with fail
  refine HQM.mono ?_
  rintro e w1 ⟨rfl, rfl⟩
  go_wp2_with fail
  generalize (w.alloc (.cells (bodA st0) 9)).alloc (.cells (vieA st0) 3) = ws at HQ0 ⊢
  clear hmT hmI HQM
  go_loopw [10, 11] (fun l i wr => ∃ k : Nat, k ≤ ms.length ∧ l = .int .i64 (lastOf (caL (ms.take k)) : Int) ∧ i = .int .i64 k ∧ Hid ((∀ j x, j < k → ms[j]? = some x → One2 n view ms j x) ∧ Qst w wr (stOf (caL (ms.take k))))) (fun _ i _ => ms.length - (intOf i).toNat)
  case atStart => exact ⟨0, by omega, rfl, rfl, ⟨fun j x hj => by omega, HQ0.out⟩⟩
  case round =>
    obtain ⟨k, hk, rfl, rfl, HZ⟩ := hrel
    by_cases hlt : k < ms.length
    · obtain ⟨x, hx⟩ := Rg.get_at hlt
      obtain ⟨b, off, rfl, hbl, d0, d1, d2, d3, d4, d5, d6⟩ := RowG.at (HR.out.below HZ.out.2.bel) rfl hx
      have HXX : Hid (ms[k]? = some x) := hx
      have HLC : Hid (Calls Tryz.prog 36 #[.int .i64 n, .agg #[.int .i64 x.kd, .int .i64 x.vw, .int .i64 x.sq, .int .i64 x.fr, .string x.dg, .string x.bd, .string x.mc]] wr fun e w' => ∃ u, e = .returned (.tuple #[u, .bool (cfB n x.vw x)]) ∧ (∃ ps, ps.map (·.1) = cfL n x ∧ OwnC w' wr.heap.size u ps) ∧ Below wr.heap.size wr w') := l06Certs_any n x wr HFC.out.1
      have HFM : Hid (caL (ms.take (k + 1)) = caL (ms.take k) ++ crts x) := fm_step hx
      have HRT : Hid (cfB n x.vw x = true → ∀ c ∈ crts x, Right c) := crts_right
      have HRD : Hid (∀ c ∈ caL (ms.take k), Right c) := fun c hc => by
        unfold caL at hc
        obtain ⟨y, hy, hc⟩ := List.mem_flatMap.1 hc
        obtain ⟨j, hj, e⟩ := List.getElem_of_mem hy
        have hj2 : j < k := by rw [List.length_take] at hj; omega
        have hg : ms[j]? = some y := by
          have : (ms.take k)[j]? = some y := by rw [List.getElem?_eq_getElem hj, e]
          rw [List.getElem?_take, if_pos hj2] at this
          exact this
        exact crts_right (HZ.out.1 j y hj2 hg).1.1 c hc
      have HC8 : Hid (cfB n x.vw x = true → (crts x).length ≤ 8) := crts_len
      have HCL : Hid (cfB n x.vw x = true → cfL n x = crts x) := cfL_yes
      have hk0 : (0 : Int) ≤ (k : Int) := by omega
      have hk1 : (k : Int) < (ms.length : Int) := by omega
      obtain ⟨LL, HLL⟩ : ∃ LL : Nat, Hid (lastOf (caL (ms.take k)) = LL) := ⟨_, rfl⟩
      rw [HLL.out]
      clear hx
      go_wp2_with fail
      refine HLC.out.mono ?_
      rintro e w2 ⟨u2, rfl, ⟨ps, hm2, ho2⟩, b2⟩
      obtain ⟨ua, ucap, rfl⟩ := ho2.slice
      have B2 : Hid (Below wr.heap.size wr w2) := b2
      have O2 : Hid (RdC w2 wr.heap.size (.slice ua ps.length ucap) ps ∧ ps.map (·.1) = cfL n x) := ⟨RdC.of ho2, hm2⟩
      clear b2 ho2 hm2 d0 d1 d2 d3 d4 d5 d6
      obtain ⟨X, hX, W, QI0, QO0⟩ := Qc.klass w2
      have QI : Hid (∀ w', Below w2.heap.size w2 w' → ∃ x, w' = W x) := QI0
      have QO : Hid (∀ x, Below w2.heap.size w2 (W x)) := QO0
      clear QI0 QO0
      have QR : Hid (∀ q, Below wr.heap.size wr (W q)) := fun q => B2.out.trans ((QO.out q).mono B2.out.size)
      have QS : Hid (∀ q, Qst w (W q) (stOf (caL (ms.take k)))) := fun q => HZ.out.2.below (QR.out q)
      have QB : Hid (∀ q, Below w.heap.size w (W q)) := fun q => (QS.out q).bel
      have HP : Hid (∀ j y, ms[j]? = some y → ∀ q, E1 (W q) b (off + j * 7) y) := fun j y hy q => by
        obtain ⟨b', off', e, _, E⟩ := RowG.at (HR.out.below (QB.out q)) rfl hy
        cases e
        exact E
      have m1 : ∀ q, (W q).cell? ⟨b, off + k * 7 + 1, none⟩ = some (.int .i64 x.vw) := fun q => (HP.out k x HXX.out q).2.1
      have m3 : ∀ q, (W q).cell? ⟨b, off + k * 7 + 3, none⟩ = some (.int .i64 x.fr) := fun q => (HP.out k x HXX.out q).2.2.2.1
      go_upto_region 10 with fail
      cases ec : cfB n x.vw x with
      | false =>
        have HF : Hid (caB n view ms = false) := ca_no HXX.out (fun hh => by have := hh.1.1; rw [ec] at this; cases this)
        refine Qc.region_class (W := W) (by kernel_rfl) (by kernel_rfl) (QI.out _ Qc.from_drew) ?_
        repeat (go_big_quiet_step (fail))
        refine wpQuiet_nil ?_
        rintro _ ⟨xq, rfl⟩
        have G2 : Hid (Below w.heap.size w (W xq)) := QB.out xq
        clear m1 m3
        generalize W xq = wq at G2 ⊢
        go_wp2_with fail
        go_ret2
        exact ⟨_, ret_vb HF.out.symm, by rw [psL_no HF.out]; exact Rl.own_empty wq _ G2.out.size, G2.out.alloc G2.out.size _⟩
      | true =>
        by_cases ev : x.vw = view
        · have fv : (x.vw != view) = false := by simp [ev]
          have HYES : Hid ((∀ m y, k = m + 1 → ms[m]? = some y → y.fr < x.fr) → ∀ j y, j < k + 1 → ms[j]? = some y → One2 n view ms j y) := fun hm j y hj hy => by
            by_cases ej : j = k
            · subst ej; rw [HXX.out] at hy; cases hy; exact ⟨⟨ec, ev⟩, hm⟩
            · exact HZ.out.1 j y (by omega) hy
          have O3 : Hid (ps.map (·.1) = crts x ∧ (∀ c ∈ crts x, Right c) ∧ (crts x).length ≤ 8) := ⟨O2.out.2.trans (HCL.out ec), HRT.out ec, HC8.out ec⟩
          have hp8 : ps.length ≤ 8 := by have h1 := congrArg List.length O3.out.1; have h2 := O3.out.2.2; rw [List.length_map] at h1; omega
          generalize cfB n x.vw x = cb at ec
          subst ec
          clear ev
          have HREST : Hid ((∀ j y, j < k + 1 → ms[j]? = some y → One2 n view ms j y) → True) := fun _ => trivial
          by_cases hkz : k = 0
          · subst hkz
            have HON : Hid (∀ j y, j < 0 + 1 → ms[j]? = some y → One2 n view ms j y) := HYES.out fun m y hm => by omega
            refine Qc.region_class (W := W) (by kernel_rfl) (by kernel_rfl) (QI.out _ Qc.from_drew) ?_
            repeat (go_big_quiet_step (fail))
            refine wpQuiet_nil ?_
            rintro _ ⟨xq, rfl⟩
            have G3 : Hid (Qst w (W xq) (stOf (caL (ms.take (0)))) ∧ RdC (W xq) wr.heap.size (.slice ua ps.length ucap) ps) := ⟨QS.out xq, O2.out.1.below (QO.out xq)⟩
            have S3 : Hid (w.heap.size + 2 ≤ wr.heap.size) := HZ.out.2.size
            clear m1 m3 
            generalize W xq = wq at G3 ⊢
            obtain ⟨Bq, HBq⟩ : ∃ Bq, Hid (wr.heap.size = Bq) := ⟨_, rfl⟩
            rw [HBq.out] at G3 S3
            obtain ⟨D, HD⟩ : ∃ D, Hid (caL (ms.take (0)) = D) := ⟨_, rfl⟩
            rw [HD.out] at G3 HLL HFM HRD
            obtain ⟨cx, HCX⟩ : ∃ cx, Hid (crts x = cx) := ⟨_, rfl⟩
            rw [HCX.out] at HFM O3
            have HAT : Hid (∀ (i : Nat) (p : Ct × Value), ps[i]? = some p → cx[i]? = some p.1) := fun i p hp => by rw [← O3.out.1, List.getElem?_map, hp]; rfl
            have HCL2 : Hid (cx.length = ps.length) := by show _ = _; rw [← O3.out.1, List.length_map]
            clear QI QO QR QS QB HP O2 B2 HBq HD HCX HLC HRT HC8 HCL HYES HREST
            go_wp2_with fail
            go_loopw [10, 14] (fun l i wr => ∃ k2 : Nat, k2 ≤ ps.length ∧ l = .int .i64 (lastOf (D ++ cx.take k2) : Int) ∧ i = .int .i64 k2 ∧ Hid (Qst w wr (stOf (D ++ cx.take k2)) ∧ RdC wr Bq (.slice ua ps.length ucap) ps)) (fun _ i _ => ps.length - (intOf i).toNat)
            case atStart => exact ⟨0, by omega, by rw [List.take_zero, List.append_nil, HLL.out], rfl, by rw [List.take_zero, List.append_nil]; exact G3.out⟩
            case round =>
              obtain ⟨k2, hk2, rfl, rfl, HX⟩ := hrel
              by_cases hlt2 : k2 < ps.length
              · obtain ⟨p, hp⟩ := Rg.get_at hlt2
                have hpc := HAT.out k2 p hp
                have HRC0 := O3.out.2.1 p.1 (mem_at hpc)
                have HM := HX.out.2.mem p (mem_at hp)
                obtain ⟨gc, rfl, hBg, _, c0, c1⟩ := HX.out.2.at hp
                obtain ⟨pa, pcap, hpv⟩ := own_slice HM
                obtain ⟨⟨bd, mm⟩, vp⟩ := p
                simp only at hpv
                subst hpv
                have HRC : Right ⟨bd, mm⟩ := HRC0
                obtain ⟨bp, offp, rfl, hbp, f0, f1, f2, f3, f4, f5, f6⟩ := RowG.at (OwnM.row HM) rfl HRC.1
                have hn0 : (0 : Int) < (mm.length : Int) := by have h1 : 0 < mm.length := lt_at HRC.1; omega
                obtain ⟨jj, hj⟩ : ∃ jj : Nat, (hd ⟨bd, mm⟩).sq = (jj : Int) + 1 := ⟨((hd ⟨bd, mm⟩).sq - 1).toNat, by have := HRC.2.1.1; omega⟩
                have hj8 : jj < 8 := by have := HRC.2.1.2; omega
                have HJ : Hid ((hd ⟨bd, mm⟩).sq = (jj : Int) + 1) := hj
                have HTK : Hid (D ++ cx.take (k2 + 1) = (D ++ cx.take k2) ++ [⟨bd, mm⟩]) := by show _ = _; rw [cert_at hpc, List.append_assoc]
                have HIN : Hid (Inv (stOf (D ++ cx.take k2))) := (inv_of (fun c hc => by
                  rcases List.mem_append.1 hc with hc | hc
                  · exact HRD.out c hc
                  · exact O3.out.2.1 c (List.mem_of_mem_take hc))).1
                have HV : Hid (0 ≤ (hd ⟨bd, mm⟩).vw ∧ (hd ⟨bd, mm⟩).vw ≤ 20) := HRC.2.2.1
                have HLS : Hid (lastOf (D ++ cx.take (k2 + 1)) = max (lastOf (D ++ cx.take k2)) (jj + 1)) := by show _ = _; rw [HTK.out, lastOf_snoc, HJ.out]; congr 1
                have HSS : Hid (stOf (D ++ cx.take (k2 + 1)) = stp (stOf (D ++ cx.take k2)) ⟨bd, mm⟩) := by show _ = _; rw [HTK.out, stOf_snoc]
                obtain ⟨st, HST⟩ : ∃ st, Hid (stOf (D ++ cx.take k2) = st) := ⟨_, rfl⟩
                obtain ⟨M, HMM⟩ : ∃ M, Hid (lastOf (D ++ cx.take k2) = M) := ⟨_, rfl⟩
                rw [HST.out] at HX HIN HSS
                rw [HMM.out] at HLS ⊢
                obtain ⟨h, HH⟩ : ∃ h, Hid (hd ⟨bd, mm⟩ = h) := ⟨_, rfl⟩
                rw [HH.out] at f0 f1 f2 f3 f4 f5 f6 HV hj
                have hk20 : (0 : Int) ≤ (k2 : Int) := by omega
                have hk21 : (k2 : Int) < (ps.length : Int) := by omega
                rw [Nat.zero_mul, Nat.add_zero] at f0 f1 f2 f3 f4 f5 f6
                have hjn : (0 : Int) ≤ (jj : Int) := by omega
                have hj8' : (jj : Int) < 8 := by omega
                clear HRC0 HM HTK HST HMM hp hpc
                have HQV : Hid (∀ i, vi st i = if (st i).2 = 0 then 0 else (st i).2 - 1) := fun i => rfl
                have HXM : Hid (∀ W', Below (wr.alloc (.cells #[.int .i64 h.kd, .int .i64 h.vw, .int .i64 ((jj : Int) + 1), .int .i64 h.fr, .string h.dg, .string h.bd, .string h.mc] 26)).heap.size (wr.alloc (.cells #[.int .i64 h.kd, .int .i64 h.vw, .int .i64 ((jj : Int) + 1), .int .i64 h.fr, .string h.dg, .string h.bd, .string h.mc] 26)) W' → W'.cell? ⟨wr.heap.size, 1, none⟩ = some (.int .i64 h.vw) ∧ W'.cell? ⟨wr.heap.size, 2, none⟩ = some (.int .i64 ((jj : Int) + 1)) ∧ Qst w W' st ∧ RdC W' Bq (.slice (some ⟨gc, 0, none⟩) ps.length ucap) ps ∧ W'.cell? ⟨gc, k2 * 2, none⟩ = some (.string bd)) := fun W' hW => by
                  have h1 := (hW.block wr.heap.size (by simp)).trans (heap_alloc_new wr _)
                  have hb : Below wr.heap.size wr W' := (bel_new wr _).trans (hW.mono (by simp))
                  exact ⟨(blk_cell h1 1 rfl).1, (blk_cell h1 2 rfl).1, HX.out.1.below hb, HX.out.2.below hb, (hb.cell (p := ⟨gc, _, none⟩) (Nat.lt_of_lt_of_le (World.block_lt_of_cell? wr _ c0) (Nat.le_refl _))).trans c0⟩
                have HLN : Hid ((max (M : Int) ((jj : Int) + 1)) = ((lastOf (D ++ cx.take (k2 + 1)) : Nat) : Int)) := by show _ = _; rw [HLS.out]; omega
                go_upto_region 17 with fail
                rw [HLN.out]
                obtain ⟨xb, HXB⟩ : ∃ xb, Hid (wr.heap.size = xb) := ⟨_, rfl⟩
                have HXL : Hid (w.heap.size + 2 ≤ xb) := by show _ ≤ _; rw [← HXB.out]; exact HX.out.1.size
                rw [HXB.out] at HXM ⊢
                generalize wr.alloc (.cells #[.int .i64 h.kd, .int .i64 h.vw, .int .i64 ((jj : Int) + 1), .int .i64 h.fr, .string h.dg, .string h.bd, .string h.mc] 26) = wc at HXM ⊢
                obtain ⟨X, hX, W, QI0, QO0⟩ := Qc.klass wc
                have QI : Hid (∀ w', Below wc.heap.size wc w' → ∃ x, w' = W x) := QI0
                have QO : Hid (∀ x, Below wc.heap.size wc (W x)) := QO0
                clear QI0 QO0
                have z1 := fun q => (HXM.out _ (QO.out q)).1
                have z2 := fun q => (HXM.out _ (QO.out q)).2.1
                have s0 := fun q => (blk_cell (HXM.out _ (QO.out q)).2.2.1.hb jj (bodA_at st hj8)).1
                have s1 := fun q => (blk_cell (HXM.out _ (QO.out q)).2.2.1.hv jj (vieA_at st hj8)).1
                clear f0 f1 f2 f3 f4 f5 f6 c0 c1 HX hj
                by_cases hz : (st jj).2 = 0
                · have he := (HIN.out jj).2.2.1 hz
                  have fe : (st jj).1.toList.isEmpty = true := by rw [empty_iff]; exact decide_eq_true (by rw [he]; rfl)
                  have hle : (st jj).2 ≤ h.vw := by rw [hz]; exact HV.out.1
                  generalize (st jj).1 = sb at s0 fe
                  clear he hz
                  refine Qc.region_class (W := W) (by kernel_rfl) (by kernel_rfl) (QI.out _ Qc.from_drew) ?_
                  repeat (go_big_quiet_step (fail))
                  refine wpQuiet_nil ?_
                  rintro _ ⟨xq, rfl⟩
                  have HM3 : Hid ((W xq).cell? ⟨xb, 1, none⟩ = some (.int .i64 h.vw) ∧ (W xq).cell? ⟨xb, 2, none⟩ = some (.int .i64 ((jj : Int) + 1)) ∧ Qst w (W xq) st ∧ RdC (W xq) Bq (.slice (some ⟨gc, 0, none⟩) ps.length ucap) ps ∧ (W xq).cell? ⟨gc, k2 * 2, none⟩ = some (.string bd)) := HXM.out _ (QO.out xq)
                  clear z1 z2 s0 s1
                  generalize W xq = wq at HM3 ⊢
                  obtain ⟨t1, t2, _, _, t3⟩ := HM3.out
                  obtain ⟨g0, g0f⟩ := blk_cell HM3.out.2.2.1.hb jj (bodA_at st hj8)
                  obtain ⟨g1, g1f⟩ := blk_cell HM3.out.2.2.1.hv jj (vieA_at st hj8)
                  have hgx : xb ≠ w.heap.size ∧ xb ≠ w.heap.size + 1 := by have h1 := HXL.out; omega
                  have HF : Hid (Qst w ((wq.setCell ⟨w.heap.size, jj, none⟩ (.string bd)).setCell ⟨w.heap.size + 1, jj, none⟩ (.int .i64 h.vw)) (stOf (D ++ cx.take (k2 + 1))) ∧ RdC ((wq.setCell ⟨w.heap.size, jj, none⟩ (.string bd)).setCell ⟨w.heap.size + 1, jj, none⟩ (.int .i64 h.vw)) Bq (.slice (some ⟨gc, 0, none⟩) ps.length ucap) ps) := by
                    have h1 := HM3.out.2.2.1.put HJ.out hj8 (by rw [HH.out]; exact HV.out.1) (by rw [HH.out]; exact hle)
                    rw [HH.out] at h1
                    have h2 := S3.out
                    exact ⟨by rw [HSS.out]; exact h1, own_far (own_far HM3.out.2.2.2.1 (by omega) _ _) (by omega) _ _⟩
                  have e1 : (wq.setCell ⟨w.heap.size, jj, none⟩ (.string bd)).cell? ⟨xb, 1, none⟩ = some (.int .i64 h.vw) := (World.cell?_of_block (a := ⟨xb, 1, none⟩) (blk_far hgx.1 _ _)).trans t1
                  have e2 : (wq.setCell ⟨w.heap.size, jj, none⟩ (.string bd)).cell? ⟨xb, 2, none⟩ = some (.int .i64 ((jj : Int) + 1)) := (World.cell?_of_block (a := ⟨xb, 2, none⟩) (blk_far hgx.1 _ _)).trans t2
                  obtain ⟨e3, e3f⟩ := blk_cell ((blk_far (w := wq) (b := w.heap.size) (k := w.heap.size + 1) (by omega) jj (.string bd)).trans HM3.out.2.2.1.hv) jj (vieA_at st hj8)
                  clear HM3 QI QO HXM HIN HQV
                  go_upto_region 18 with fail
                  refine Qt.region_quiet_tail 10 (by kernel_rfl) (by kernel_rfl) ?_
                  simp only [List.take_succ_cons, List.take_zero, List.drop_succ_cons, List.drop_zero]
                  repeat (go_big_quiet_step (fail))
                  refine wpQuiet_nil ?_
                  go_wp2_with fail
                  exact ⟨⟨k2 + 1, by omega, rfl, by go_num, ⟨HF.out.1.below Qc.from_drew, HF.out.2.below Qc.from_drew⟩⟩, by simp [intOf]; omega⟩
                · have fe : (st jj).1.toList.isEmpty = false := by rw [empty_iff, decide_eq_false ((HIN.out jj).2.2.2 hz)]
                  generalize (st jj).1 = sb at s0 fe
                  by_cases hle : (st jj).2 ≤ h.vw
                  · have fv2 : decide (vi st jj < h.vw) = true := decide_eq_true (by rw [HQV.out, if_neg hz]; omega)
                    clear hz
                    refine Qc.region_class (W := W) (by kernel_rfl) (by kernel_rfl) (QI.out _ Qc.from_drew) ?_
                    repeat (go_big_quiet_step (fail))
                    refine wpQuiet_nil ?_
                    rintro _ ⟨xq, rfl⟩
                    have HM3 : Hid ((W xq).cell? ⟨xb, 1, none⟩ = some (.int .i64 h.vw) ∧ (W xq).cell? ⟨xb, 2, none⟩ = some (.int .i64 ((jj : Int) + 1)) ∧ Qst w (W xq) st ∧ RdC (W xq) Bq (.slice (some ⟨gc, 0, none⟩) ps.length ucap) ps ∧ (W xq).cell? ⟨gc, k2 * 2, none⟩ = some (.string bd)) := HXM.out _ (QO.out xq)
                    clear z1 z2 s0 s1
                    generalize W xq = wq at HM3 ⊢
                    obtain ⟨t1, t2, _, _, t3⟩ := HM3.out
                    obtain ⟨g0, g0f⟩ := blk_cell HM3.out.2.2.1.hb jj (bodA_at st hj8)
                    obtain ⟨g1, g1f⟩ := blk_cell HM3.out.2.2.1.hv jj (vieA_at st hj8)
                    have hgx : xb ≠ w.heap.size ∧ xb ≠ w.heap.size + 1 := by have h1 := HXL.out; omega
                    have HF : Hid (Qst w ((wq.setCell ⟨w.heap.size, jj, none⟩ (.string bd)).setCell ⟨w.heap.size + 1, jj, none⟩ (.int .i64 h.vw)) (stOf (D ++ cx.take (k2 + 1))) ∧ RdC ((wq.setCell ⟨w.heap.size, jj, none⟩ (.string bd)).setCell ⟨w.heap.size + 1, jj, none⟩ (.int .i64 h.vw)) Bq (.slice (some ⟨gc, 0, none⟩) ps.length ucap) ps) := by
                      have h1 := HM3.out.2.2.1.put HJ.out hj8 (by rw [HH.out]; exact HV.out.1) (by rw [HH.out]; exact hle)
                      rw [HH.out] at h1
                      have h2 := S3.out
                      exact ⟨by rw [HSS.out]; exact h1, own_far (own_far HM3.out.2.2.2.1 (by omega) _ _) (by omega) _ _⟩
                    have e1 : (wq.setCell ⟨w.heap.size, jj, none⟩ (.string bd)).cell? ⟨xb, 1, none⟩ = some (.int .i64 h.vw) := (World.cell?_of_block (a := ⟨xb, 1, none⟩) (blk_far hgx.1 _ _)).trans t1
                    have e2 : (wq.setCell ⟨w.heap.size, jj, none⟩ (.string bd)).cell? ⟨xb, 2, none⟩ = some (.int .i64 ((jj : Int) + 1)) := (World.cell?_of_block (a := ⟨xb, 2, none⟩) (blk_far hgx.1 _ _)).trans t2
                    obtain ⟨e3, e3f⟩ := blk_cell ((blk_far (w := wq) (b := w.heap.size) (k := w.heap.size + 1) (by omega) jj (.string bd)).trans HM3.out.2.2.1.hv) jj (vieA_at st hj8)
                    clear HM3 QI QO HXM HIN HQV
                    go_upto_region 18 with fail
                    refine Qt.region_quiet_tail 10 (by kernel_rfl) (by kernel_rfl) ?_
                    simp only [List.take_succ_cons, List.take_zero, List.drop_succ_cons, List.drop_zero]
                    repeat (go_big_quiet_step (fail))
                    refine wpQuiet_nil ?_
                    go_wp2_with fail
                    exact ⟨⟨k2 + 1, by omega, rfl, by go_num, ⟨HF.out.1.below Qc.from_drew, HF.out.2.below Qc.from_drew⟩⟩, by simp [intOf]; omega⟩
                  · have fv2 : decide (vi st jj < h.vw) = false := decide_eq_false (by rw [HQV.out, if_neg hz]; omega)
                    refine Qc.region_class (W := W) (by kernel_rfl) (by kernel_rfl) (QI.out _ Qc.from_drew) ?_
                    repeat (go_big_quiet_step (fail))
                    refine wpQuiet_nil ?_
                    rintro _ ⟨xq, rfl⟩
                    have HF : Hid (Qst w (W xq) (stOf (D ++ cx.take (k2 + 1))) ∧ RdC (W xq) Bq (.slice (some ⟨gc, 0, none⟩) ps.length ucap) ps) := ⟨by rw [HSS.out, stp_same HJ.out (by rw [HH.out]; exact hle)]; exact (HXM.out _ (QO.out xq)).2.2.1, (HXM.out _ (QO.out xq)).2.2.2.1⟩
                    clear z1 z2 s0 s1
                    generalize W xq = wq at HF ⊢
                    go_wp2_with fail
                    exact ⟨⟨k2 + 1, by omega, rfl, by go_num, HF.out⟩, by simp [intOf]; omega⟩
              · obtain rfl : k2 = ps.length := by omega
                have HQ2 : Hid (Qst w wr (stOf (caL (ms.take (0 + 1)))) ∧ lastOf (D ++ cx.take ps.length) = lastOf (caL (ms.take (0 + 1)))) := by
                  rw [HFM.out, ← HCL2.out, List.take_length]
                  refine ⟨?_, rfl⟩
                  have := HX.out.1
                  rw [← HCL2.out, List.take_length] at this
                  exact this
                rw [HQ2.out.2]
                go_wp2_with fail
                exact ⟨⟨0 + 1, by omega, rfl, by go_num, ⟨HON.out, HQ2.out.1⟩⟩, by simp [intOf]; omega⟩
          · obtain ⟨j, rfl⟩ : ∃ j, k = j + 1 := ⟨k - 1, by omega⟩
            obtain ⟨y, hy⟩ := Rg.get_at (xs := ms) (k := j) (by omega)
            have HY : Hid (ms[j]? = some y) := hy
            have p3 : ∀ q, (W q).cell? ⟨b, off + j * 7 + 3, none⟩ = some (.int .i64 y.fr) := fun q => (HP.out j y hy q).2.2.2.1
            have q1 : (0 : Int) < (j : Int) + 1 := by omega
            have q2 : (j : Int) + 1 < (ms.length : Int) := by omega
            have q3 : (j : Int) < (ms.length : Int) := by omega
            clear hy
            by_cases e6 : x.fr ≤ y.fr
            · have f6 : decide (x.fr ≤ y.fr) = true := decide_eq_true e6
              have HF : Hid (caB n view ms = false) := ca_no HXX.out (fun hh => by have := hh.2 j y rfl HY.out; omega)
              refine Qc.region_class (W := W) (by kernel_rfl) (by kernel_rfl) (QI.out _ Qc.from_drew) ?_
              repeat (go_big_quiet_step (fail))
              refine wpQuiet_nil ?_
              rintro _ ⟨xq, rfl⟩
              have G2 : Hid (Below w.heap.size w (W xq)) := QB.out xq
              clear m1 m3 p3
              generalize W xq = wq at G2 ⊢
              go_wp2_with fail
              go_ret2
              exact ⟨_, ret_vb HF.out.symm, by rw [psL_no HF.out]; exact Rl.own_empty wq _ G2.out.size, G2.out.alloc G2.out.size _⟩
            · have f6 : decide (x.fr ≤ y.fr) = false := decide_eq_false e6
              have HON : Hid (∀ i z, i < j + 1 + 1 → ms[i]? = some z → One2 n view ms i z) := HYES.out fun m z hm hz => by
                obtain rfl : j = m := by omega
                rw [HY.out] at hz
                cases hz
                omega
              refine Qc.region_class (W := W) (by kernel_rfl) (by kernel_rfl) (QI.out _ Qc.from_drew) ?_
              repeat (go_big_quiet_step (fail))
              refine wpQuiet_nil ?_
              rintro _ ⟨xq, rfl⟩
              have G3 : Hid (Qst w (W xq) (stOf (caL (ms.take (j + 1)))) ∧ RdC (W xq) wr.heap.size (.slice ua ps.length ucap) ps) := ⟨QS.out xq, O2.out.1.below (QO.out xq)⟩
              have S3 : Hid (w.heap.size + 2 ≤ wr.heap.size) := HZ.out.2.size
              clear m1 m3 p3
              generalize W xq = wq at G3 ⊢
              obtain ⟨Bq, HBq⟩ : ∃ Bq, Hid (wr.heap.size = Bq) := ⟨_, rfl⟩
              rw [HBq.out] at G3 S3
              obtain ⟨D, HD⟩ : ∃ D, Hid (caL (ms.take (j + 1)) = D) := ⟨_, rfl⟩
              rw [HD.out] at G3 HLL HFM HRD
              obtain ⟨cx, HCX⟩ : ∃ cx, Hid (crts x = cx) := ⟨_, rfl⟩
              rw [HCX.out] at HFM O3
              have HAT : Hid (∀ (i : Nat) (p : Ct × Value), ps[i]? = some p → cx[i]? = some p.1) := fun i p hp => by rw [← O3.out.1, List.getElem?_map, hp]; rfl
              have HCL2 : Hid (cx.length = ps.length) := by show _ = _; rw [← O3.out.1, List.length_map]
              clear QI QO QR QS QB HP O2 B2 HBq HD HCX HLC HRT HC8 HCL HYES HREST
              go_wp2_with fail
              go_loopw [10, 14] (fun l i wr => ∃ k2 : Nat, k2 ≤ ps.length ∧ l = .int .i64 (lastOf (D ++ cx.take k2) : Int) ∧ i = .int .i64 k2 ∧ Hid (Qst w wr (stOf (D ++ cx.take k2)) ∧ RdC wr Bq (.slice ua ps.length ucap) ps)) (fun _ i _ => ps.length - (intOf i).toNat)
              case atStart => exact ⟨0, by omega, by rw [List.take_zero, List.append_nil, HLL.out], rfl, by rw [List.take_zero, List.append_nil]; exact G3.out⟩
              case round =>
                obtain ⟨k2, hk2, rfl, rfl, HX⟩ := hrel
                by_cases hlt2 : k2 < ps.length
                · obtain ⟨p, hp⟩ := Rg.get_at hlt2
                  have hpc := HAT.out k2 p hp
                  have HRC0 := O3.out.2.1 p.1 (mem_at hpc)
                  have HM := HX.out.2.mem p (mem_at hp)
                  obtain ⟨gc, rfl, hBg, _, c0, c1⟩ := HX.out.2.at hp
                  obtain ⟨pa, pcap, hpv⟩ := own_slice HM
                  obtain ⟨⟨bd, mm⟩, vp⟩ := p
                  simp only at hpv
                  subst hpv
                  have HRC : Right ⟨bd, mm⟩ := HRC0
                  obtain ⟨bp, offp, rfl, hbp, f0, f1, f2, f3, f4, f5, f6⟩ := RowG.at (OwnM.row HM) rfl HRC.1
                  have hn0 : (0 : Int) < (mm.length : Int) := by have h1 : 0 < mm.length := lt_at HRC.1; omega
                  obtain ⟨jj, hj⟩ : ∃ jj : Nat, (hd ⟨bd, mm⟩).sq = (jj : Int) + 1 := ⟨((hd ⟨bd, mm⟩).sq - 1).toNat, by have := HRC.2.1.1; omega⟩
                  have hj8 : jj < 8 := by have := HRC.2.1.2; omega
                  have HJ : Hid ((hd ⟨bd, mm⟩).sq = (jj : Int) + 1) := hj
                  have HTK : Hid (D ++ cx.take (k2 + 1) = (D ++ cx.take k2) ++ [⟨bd, mm⟩]) := by show _ = _; rw [cert_at hpc, List.append_assoc]
                  have HIN : Hid (Inv (stOf (D ++ cx.take k2))) := (inv_of (fun c hc => by
                    rcases List.mem_append.1 hc with hc | hc
                    · exact HRD.out c hc
                    · exact O3.out.2.1 c (List.mem_of_mem_take hc))).1
                  have HV : Hid (0 ≤ (hd ⟨bd, mm⟩).vw ∧ (hd ⟨bd, mm⟩).vw ≤ 20) := HRC.2.2.1
                  have HLS : Hid (lastOf (D ++ cx.take (k2 + 1)) = max (lastOf (D ++ cx.take k2)) (jj + 1)) := by show _ = _; rw [HTK.out, lastOf_snoc, HJ.out]; congr 1
                  have HSS : Hid (stOf (D ++ cx.take (k2 + 1)) = stp (stOf (D ++ cx.take k2)) ⟨bd, mm⟩) := by show _ = _; rw [HTK.out, stOf_snoc]
                  obtain ⟨st, HST⟩ : ∃ st, Hid (stOf (D ++ cx.take k2) = st) := ⟨_, rfl⟩
                  obtain ⟨M, HMM⟩ : ∃ M, Hid (lastOf (D ++ cx.take k2) = M) := ⟨_, rfl⟩
                  rw [HST.out] at HX HIN HSS
                  rw [HMM.out] at HLS ⊢
                  obtain ⟨h, HH⟩ : ∃ h, Hid (hd ⟨bd, mm⟩ = h) := ⟨_, rfl⟩
                  rw [HH.out] at f0 f1 f2 f3 f4 f5 f6 HV hj
                  have hk20 : (0 : Int) ≤ (k2 : Int) := by omega
                  have hk21 : (k2 : Int) < (ps.length : Int) := by omega
                  rw [Nat.zero_mul, Nat.add_zero] at f0 f1 f2 f3 f4 f5 f6
                  have hjn : (0 : Int) ≤ (jj : Int) := by omega
                  have hj8' : (jj : Int) < 8 := by omega
                  clear HRC0 HM HTK HST HMM hp hpc
                  have HQV : Hid (∀ i, vi st i = if (st i).2 = 0 then 0 else (st i).2 - 1) := fun i => rfl
                  have HXM : Hid (∀ W', Below (wr.alloc (.cells #[.int .i64 h.kd, .int .i64 h.vw, .int .i64 ((jj : Int) + 1), .int .i64 h.fr, .string h.dg, .string h.bd, .string h.mc] 26)).heap.size (wr.alloc (.cells #[.int .i64 h.kd, .int .i64 h.vw, .int .i64 ((jj : Int) + 1), .int .i64 h.fr, .string h.dg, .string h.bd, .string h.mc] 26)) W' → W'.cell? ⟨wr.heap.size, 1, none⟩ = some (.int .i64 h.vw) ∧ W'.cell? ⟨wr.heap.size, 2, none⟩ = some (.int .i64 ((jj : Int) + 1)) ∧ Qst w W' st ∧ RdC W' Bq (.slice (some ⟨gc, 0, none⟩) ps.length ucap) ps ∧ W'.cell? ⟨gc, k2 * 2, none⟩ = some (.string bd)) := fun W' hW => by
                    have h1 := (hW.block wr.heap.size (by simp)).trans (heap_alloc_new wr _)
                    have hb : Below wr.heap.size wr W' := (bel_new wr _).trans (hW.mono (by simp))
                    exact ⟨(blk_cell h1 1 rfl).1, (blk_cell h1 2 rfl).1, HX.out.1.below hb, HX.out.2.below hb, (hb.cell (p := ⟨gc, _, none⟩) (Nat.lt_of_lt_of_le (World.block_lt_of_cell? wr _ c0) (Nat.le_refl _))).trans c0⟩
                  have HLN : Hid ((max (M : Int) ((jj : Int) + 1)) = ((lastOf (D ++ cx.take (k2 + 1)) : Nat) : Int)) := by show _ = _; rw [HLS.out]; omega
                  go_upto_region 17 with fail
                  rw [HLN.out]
                  obtain ⟨xb, HXB⟩ : ∃ xb, Hid (wr.heap.size = xb) := ⟨_, rfl⟩
                  have HXL : Hid (w.heap.size + 2 ≤ xb) := by show _ ≤ _; rw [← HXB.out]; exact HX.out.1.size
                  rw [HXB.out] at HXM ⊢
                  generalize wr.alloc (.cells #[.int .i64 h.kd, .int .i64 h.vw, .int .i64 ((jj : Int) + 1), .int .i64 h.fr, .string h.dg, .string h.bd, .string h.mc] 26) = wc at HXM ⊢
                  obtain ⟨X, hX, W, QI0, QO0⟩ := Qc.klass wc
                  have QI : Hid (∀ w', Below wc.heap.size wc w' → ∃ x, w' = W x) := QI0
                  have QO : Hid (∀ x, Below wc.heap.size wc (W x)) := QO0
                  clear QI0 QO0
                  have z1 := fun q => (HXM.out _ (QO.out q)).1
                  have z2 := fun q => (HXM.out _ (QO.out q)).2.1
                  have s0 := fun q => (blk_cell (HXM.out _ (QO.out q)).2.2.1.hb jj (bodA_at st hj8)).1
                  have s1 := fun q => (blk_cell (HXM.out _ (QO.out q)).2.2.1.hv jj (vieA_at st hj8)).1
                  clear f0 f1 f2 f3 f4 f5 f6 c0 c1 HX hj
                  by_cases hz : (st jj).2 = 0
                  · have he := (HIN.out jj).2.2.1 hz
                    have fe : (st jj).1.toList.isEmpty = true := by rw [empty_iff]; exact decide_eq_true (by rw [he]; rfl)
                    have hle : (st jj).2 ≤ h.vw := by rw [hz]; exact HV.out.1
                    generalize (st jj).1 = sb at s0 fe
                    clear he hz
                    refine Qc.region_class (W := W) (by kernel_rfl) (by kernel_rfl) (QI.out _ Qc.from_drew) ?_
                    repeat (go_big_quiet_step (fail))
                    refine wpQuiet_nil ?_
                    rintro _ ⟨xq, rfl⟩
                    have HM3 : Hid ((W xq).cell? ⟨xb, 1, none⟩ = some (.int .i64 h.vw) ∧ (W xq).cell? ⟨xb, 2, none⟩ = some (.int .i64 ((jj : Int) + 1)) ∧ Qst w (W xq) st ∧ RdC (W xq) Bq (.slice (some ⟨gc, 0, none⟩) ps.length ucap) ps ∧ (W xq).cell? ⟨gc, k2 * 2, none⟩ = some (.string bd)) := HXM.out _ (QO.out xq)
                    clear z1 z2 s0 s1
                    generalize W xq = wq at HM3 ⊢
                    obtain ⟨t1, t2, _, _, t3⟩ := HM3.out
                    obtain ⟨g0, g0f⟩ := blk_cell HM3.out.2.2.1.hb jj (bodA_at st hj8)
                    obtain ⟨g1, g1f⟩ := blk_cell HM3.out.2.2.1.hv jj (vieA_at st hj8)
                    have hgx : xb ≠ w.heap.size ∧ xb ≠ w.heap.size + 1 := by have h1 := HXL.out; omega
                    have HF : Hid (Qst w ((wq.setCell ⟨w.heap.size, jj, none⟩ (.string bd)).setCell ⟨w.heap.size + 1, jj, none⟩ (.int .i64 h.vw)) (stOf (D ++ cx.take (k2 + 1))) ∧ RdC ((wq.setCell ⟨w.heap.size, jj, none⟩ (.string bd)).setCell ⟨w.heap.size + 1, jj, none⟩ (.int .i64 h.vw)) Bq (.slice (some ⟨gc, 0, none⟩) ps.length ucap) ps) := by
                      have h1 := HM3.out.2.2.1.put HJ.out hj8 (by rw [HH.out]; exact HV.out.1) (by rw [HH.out]; exact hle)
                      rw [HH.out] at h1
                      have h2 := S3.out
                      exact ⟨by rw [HSS.out]; exact h1, own_far (own_far HM3.out.2.2.2.1 (by omega) _ _) (by omega) _ _⟩
                    have e1 : (wq.setCell ⟨w.heap.size, jj, none⟩ (.string bd)).cell? ⟨xb, 1, none⟩ = some (.int .i64 h.vw) := (World.cell?_of_block (a := ⟨xb, 1, none⟩) (blk_far hgx.1 _ _)).trans t1
                    have e2 : (wq.setCell ⟨w.heap.size, jj, none⟩ (.string bd)).cell? ⟨xb, 2, none⟩ = some (.int .i64 ((jj : Int) + 1)) := (World.cell?_of_block (a := ⟨xb, 2, none⟩) (blk_far hgx.1 _ _)).trans t2
                    obtain ⟨e3, e3f⟩ := blk_cell ((blk_far (w := wq) (b := w.heap.size) (k := w.heap.size + 1) (by omega) jj (.string bd)).trans HM3.out.2.2.1.hv) jj (vieA_at st hj8)
                    clear HM3 QI QO HXM HIN HQV
                    go_upto_region 18 with fail
                    refine Qt.region_quiet_tail 10 (by kernel_rfl) (by kernel_rfl) ?_
                    simp only [List.take_succ_cons, List.take_zero, List.drop_succ_cons, List.drop_zero]
                    repeat (go_big_quiet_step (fail))
                    refine wpQuiet_nil ?_
                    go_wp2_with fail
                    exact ⟨⟨k2 + 1, by omega, rfl, by go_num, ⟨HF.out.1.below Qc.from_drew, HF.out.2.below Qc.from_drew⟩⟩, by simp [intOf]; omega⟩
                  · have fe : (st jj).1.toList.isEmpty = false := by rw [empty_iff, decide_eq_false ((HIN.out jj).2.2.2 hz)]
                    generalize (st jj).1 = sb at s0 fe
                    by_cases hle : (st jj).2 ≤ h.vw
                    · have fv2 : decide (vi st jj < h.vw) = true := decide_eq_true (by rw [HQV.out, if_neg hz]; omega)
                      clear hz
                      refine Qc.region_class (W := W) (by kernel_rfl) (by kernel_rfl) (QI.out _ Qc.from_drew) ?_
                      repeat (go_big_quiet_step (fail))
                      refine wpQuiet_nil ?_
                      rintro _ ⟨xq, rfl⟩
                      have HM3 : Hid ((W xq).cell? ⟨xb, 1, none⟩ = some (.int .i64 h.vw) ∧ (W xq).cell? ⟨xb, 2, none⟩ = some (.int .i64 ((jj : Int) + 1)) ∧ Qst w (W xq) st ∧ RdC (W xq) Bq (.slice (some ⟨gc, 0, none⟩) ps.length ucap) ps ∧ (W xq).cell? ⟨gc, k2 * 2, none⟩ = some (.string bd)) := HXM.out _ (QO.out xq)
                      clear z1 z2 s0 s1
                      generalize W xq = wq at HM3 ⊢
                      obtain ⟨t1, t2, _, _, t3⟩ := HM3.out
                      obtain ⟨g0, g0f⟩ := blk_cell HM3.out.2.2.1.hb jj (bodA_at st hj8)
                      obtain ⟨g1, g1f⟩ := blk_cell HM3.out.2.2.1.hv jj (vieA_at st hj8)
                      have hgx : xb ≠ w.heap.size ∧ xb ≠ w.heap.size + 1 := by have h1 := HXL.out; omega
                      have HF : Hid (Qst w ((wq.setCell ⟨w.heap.size, jj, none⟩ (.string bd)).setCell ⟨w.heap.size + 1, jj, none⟩ (.int .i64 h.vw)) (stOf (D ++ cx.take (k2 + 1))) ∧ RdC ((wq.setCell ⟨w.heap.size, jj, none⟩ (.string bd)).setCell ⟨w.heap.size + 1, jj, none⟩ (.int .i64 h.vw)) Bq (.slice (some ⟨gc, 0, none⟩) ps.length ucap) ps) := by
                        have h1 := HM3.out.2.2.1.put HJ.out hj8 (by rw [HH.out]; exact HV.out.1) (by rw [HH.out]; exact hle)
                        rw [HH.out] at h1
                        have h2 := S3.out
                        exact ⟨by rw [HSS.out]; exact h1, own_far (own_far HM3.out.2.2.2.1 (by omega) _ _) (by omega) _ _⟩
                      have e1 : (wq.setCell ⟨w.heap.size, jj, none⟩ (.string bd)).cell? ⟨xb, 1, none⟩ = some (.int .i64 h.vw) := (World.cell?_of_block (a := ⟨xb, 1, none⟩) (blk_far hgx.1 _ _)).trans t1
                      have e2 : (wq.setCell ⟨w.heap.size, jj, none⟩ (.string bd)).cell? ⟨xb, 2, none⟩ = some (.int .i64 ((jj : Int) + 1)) := (World.cell?_of_block (a := ⟨xb, 2, none⟩) (blk_far hgx.1 _ _)).trans t2
                      obtain ⟨e3, e3f⟩ := blk_cell ((blk_far (w := wq) (b := w.heap.size) (k := w.heap.size + 1) (by omega) jj (.string bd)).trans HM3.out.2.2.1.hv) jj (vieA_at st hj8)
                      clear HM3 QI QO HXM HIN HQV
                      go_upto_region 18 with fail
                      refine Qt.region_quiet_tail 10 (by kernel_rfl) (by kernel_rfl) ?_
                      simp only [List.take_succ_cons, List.take_zero, List.drop_succ_cons, List.drop_zero]
                      repeat (go_big_quiet_step (fail))
                      refine wpQuiet_nil ?_
                      go_wp2_with fail
                      exact ⟨⟨k2 + 1, by omega, rfl, by go_num, ⟨HF.out.1.below Qc.from_drew, HF.out.2.below Qc.from_drew⟩⟩, by simp [intOf]; omega⟩
                    · have fv2 : decide (vi st jj < h.vw) = false := decide_eq_false (by rw [HQV.out, if_neg hz]; omega)
                      refine Qc.region_class (W := W) (by kernel_rfl) (by kernel_rfl) (QI.out _ Qc.from_drew) ?_
                      repeat (go_big_quiet_step (fail))
                      refine wpQuiet_nil ?_
                      rintro _ ⟨xq, rfl⟩
                      have HF : Hid (Qst w (W xq) (stOf (D ++ cx.take (k2 + 1))) ∧ RdC (W xq) Bq (.slice (some ⟨gc, 0, none⟩) ps.length ucap) ps) := ⟨by rw [HSS.out, stp_same HJ.out (by rw [HH.out]; exact hle)]; exact (HXM.out _ (QO.out xq)).2.2.1, (HXM.out _ (QO.out xq)).2.2.2.1⟩
                      clear z1 z2 s0 s1
                      generalize W xq = wq at HF ⊢
                      go_wp2_with fail
                      exact ⟨⟨k2 + 1, by omega, rfl, by go_num, HF.out⟩, by simp [intOf]; omega⟩
                · obtain rfl : k2 = ps.length := by omega
                  have HQ2 : Hid (Qst w wr (stOf (caL (ms.take (j + 1 + 1)))) ∧ lastOf (D ++ cx.take ps.length) = lastOf (caL (ms.take (j + 1 + 1)))) := by
                    rw [HFM.out, ← HCL2.out, List.take_length]
                    refine ⟨?_, rfl⟩
                    have := HX.out.1
                    rw [← HCL2.out, List.take_length] at this
                    exact this
                  rw [HQ2.out.2]
                  go_wp2_with fail
                  exact ⟨⟨j + 1 + 1, by omega, rfl, by go_num, ⟨HON.out, HQ2.out.1⟩⟩, by simp [intOf]; omega⟩
        · have fv : (x.vw != view) = true := by simp [ev]
          have HF : Hid (caB n view ms = false) := ca_no HXX.out (fun hh => ev hh.1.2)
          refine Qc.region_class (W := W) (by kernel_rfl) (by kernel_rfl) (QI.out _ Qc.from_drew) ?_
          repeat (go_big_quiet_step (fail))
          refine wpQuiet_nil ?_
          rintro _ ⟨xq, rfl⟩
          have G2 : Hid (Below w.heap.size w (W xq)) := QB.out xq
          clear m1 m3
          generalize W xq = wq at G2 ⊢
          go_wp2_with fail
          go_ret2
          exact ⟨_, ret_vb HF.out.symm, by rw [psL_no HF.out]; exact Rl.own_empty wq _ G2.out.size, G2.out.alloc G2.out.size _⟩
    · obtain rfl : k = ms.length := by omega
      have HF : Hid (caB n view ms = true) := ca_yes HFC.out.1 HFC.out.2 HZ.out.1
      have HPS : Hid (psL n view ms = planL (caL ms)) := psL_yes HF.out
      obtain ⟨hI, hL8, _⟩ := inv_of (ca_right HF.out)
      have HIN : Hid (Inv (stOf (caL ms))) := hI
      have HQ1 : Hid (Qst w wr (stOf (caL ms))) := by have := HZ.out.2; rw [List.take_length] at this; exact this
      have HPL : Hid (planL (caL ms) = ents (stOf (caL ms)) (lastOf (caL ms))) := rfl
      rw [List.take_length]
      obtain ⟨st, HST⟩ : ∃ st, Hid (stOf (caL ms) = st) := ⟨_, rfl⟩
      obtain ⟨L, HLL⟩ : ∃ L, Hid (lastOf (caL ms) = L) := ⟨_, rfl⟩
      rw [HST.out] at HIN HQ1 HPL
      rw [HLL.out] at hL8 HPL ⊢
      have E0 : Hid ((wr.alloc (.cells #[] 9)).heap[w.heap.size]? = some (.cells (bodA (fill st 0)) 9 (0, 0)) ∧ OwnS (wr.alloc (.cells #[] 9)) wr.heap.size (.slice (some ⟨wr.heap.size, 0, none⟩) 0 0) (ents st 0) ∧ Below w.heap.size w (wr.alloc (.cells #[] 9)) ∧ wr.heap.size ≤ (wr.alloc (.cells #[] 9)).heap.size) := by
        refine ⟨((bel_new wr _).block _ (Array.getElem?_eq_some_iff.1 HQ1.out.hb).1).trans HQ1.out.hb, Rl.own_empty wr _ (Nat.le_refl _), HQ1.out.bel.alloc HQ1.out.bel.size _, (bel_new wr _).size⟩
      have HBo : Hid (w.heap.size + 2 ≤ wr.heap.size) := HQ1.out.size
      clear hI HZ HQ1 HST HLL
      go_wp2_with fail
      obtain ⟨Bo, HB⟩ : ∃ Bo, Hid (wr.heap.size = Bo) := ⟨_, rfl⟩
      rw [HB.out] at E0 HBo ⊢
      generalize wr.alloc (.cells #[] 9) = w5 at E0 ⊢
      clear HB
      go_loopw [16, 17] (fun b i wr => ∃ k3 : Nat, k3 ≤ L ∧ i = .int .i64 k3 ∧ Hid (wr.heap[w.heap.size]? = some (.cells (bodA (fill st k3)) 9 (0, 0)) ∧ OwnS wr Bo b (ents st k3) ∧ Below w.heap.size w wr ∧ Bo ≤ wr.heap.size)) (fun _ i _ => L - (intOf i).toNat)
      case atStart => exact ⟨0, by omega, rfl, E0.out⟩
      case round =>
        obtain ⟨k3, hk3, rfl, HE⟩ := hrel
        obtain ⟨v0, rfl⟩ : ∃ v0, v0 = u16 := ⟨_, rfl⟩
        by_cases hlt3 : k3 < L
        · have h8 : k3 < 8 := by omega
          have h8' : (k3 : Int) < 8 := by omega
          have h0' : (0 : Int) ≤ (k3 : Int) := by omega
          have hl' : (k3 : Int) < (L : Int) := by omega
          have HEN : Hid ((ents st k3).length ≤ 1000000) := by show _ ≤ _; rw [ents_len]; omega
          obtain ⟨c0, f0⟩ := blk_cell HE.out.1 k3 (bodA_at (fill st k3) h8)
          rw [fill_ge (Nat.lt_irrefl k3)] at c0
          by_cases hz : (st k3).2 = 0
          · have he := (HIN.out k3).2.2.1 hz
            have fe : (st k3).1.toList.isEmpty = true := by rw [empty_iff]; exact decide_eq_true (by rw [he]; rfl)
            have hent : ent st k3 = nulB := if_pos hz
            generalize (st k3).1 = sb at c0 fe
            have HE2 : Hid ((wr.setCell ⟨w.heap.size, k3, none⟩ (.string nulB)).heap[w.heap.size]? = some (.cells (bodA (fill st (k3 + 1))) 9 (0, 0)) ∧ OwnS (wr.setCell ⟨w.heap.size, k3, none⟩ (.string nulB)) Bo v0 (ents st k3) ∧ Below w.heap.size w (wr.setCell ⟨w.heap.size, k3, none⟩ (.string nulB)) ∧ Bo ≤ (wr.setCell ⟨w.heap.size, k3, none⟩ (.string nulB)).heap.size) := by
              refine ⟨?_, ?_, Below.setCell HE.out.2.2.1 (p := ⟨w.heap.size, k3, none⟩) (Nat.le_refl _) _, ?_⟩
              · rw [fill_next h8, hent]; exact blk_set HE.out.1 k3 _
              · exact ownS_kept HE.out.2.1 fun g hg => blk_far (by have h1 := (ownS_lt HE.out.2.1 g hg).1; have h2 := HBo.out; omega) _ _
              · have := (Below.setCell (Below.refl 0 wr) (p := ⟨w.heap.size, k3, none⟩) (Nat.zero_le _) (.string nulB)).size
                exact Nat.le_trans HE.out.2.2.2 this
            have HMO : Hid (ents st (k3 + 1) = ents st k3 ++ [nulB]) := by show _ = _; rw [ents_more, hent]
            have d0 : (wr.setCell ⟨w.heap.size, k3, none⟩ (.string nulB)).cell? ⟨w.heap.size, k3, none⟩ = some (.string nulB) := by
              have := (blk_cell HE2.out.1 k3 (bodA_at (fill st (k3 + 1)) h8)).1
              rw [fill_lt (Nat.lt_succ_self k3), hent] at this
              exact this
            clear he hz hent HE
            unfold nulB at d0 HE2 HMO
            go_upto_region 26 with fail
            generalize wr.setCell ⟨w.heap.size, k3, none⟩ (.string ⟨#[0]⟩) = w6 at HE2 d0 ⊢
            go_wp2_with (at_builtin; go_must (refine list_txq (by rfl) _ _ 28 (by rfl) i0 Tryz.underlying28 hi0 hz0 hz1 hz2 Bo w6 _ (ents st k3) ⟨#[0]⟩ (by rfl) HE2.out.2.1 HE2.out.2.2.2 (by rfl) HEN.out ?_; intro v7 w7 o7 b7 _))
            exact ⟨⟨k3 + 1, by omega, by go_num, ⟨(b7.block _ (by have h2 := HBo.out; omega)).trans HE2.out.1, by rw [HMO.out]; exact o7, HE2.out.2.2.1.trans (b7.mono (by have h2 := HBo.out; omega)), Nat.le_trans HE2.out.2.2.2 b7.size⟩⟩, by simp [intOf]; omega⟩
          · have fe : (st k3).1.toList.isEmpty = false := by rw [empty_iff, decide_eq_false ((HIN.out k3).2.2.2 hz)]
            have hent : ent st k3 = (st k3).1 := if_neg hz
            have HMO : Hid (ents st (k3 + 1) = ents st k3 ++ [(st k3).1]) := by show _ = _; rw [ents_more, hent]
            have HE2 : Hid (wr.heap[w.heap.size]? = some (.cells (bodA (fill st (k3 + 1))) 9 (0, 0))) := by show _ = _; rw [fill_same hz]; exact HE.out.1
            generalize (st k3).1 = sb at c0 fe HMO
            clear hz hent
            go_wp2_with (at_builtin; go_must (refine list_txq (by rfl) _ _ 28 (by rfl) i0 Tryz.underlying28 hi0 hz0 hz1 hz2 Bo wr _ (ents st k3) sb (by rfl) HE.out.2.1 HE.out.2.2.2 (by rfl) HEN.out ?_; intro v7 w7 o7 b7 _))
            exact ⟨⟨k3 + 1, by omega, by go_num, ⟨(b7.block _ (by have h2 := HBo.out; omega)).trans HE2.out, by rw [HMO.out]; exact o7, HE.out.2.2.1.trans (b7.mono (by have h2 := HBo.out; omega)), Nat.le_trans HE.out.2.2.2 b7.size⟩⟩, by simp [intOf]; omega⟩
        · obtain rfl : k3 = L := by omega
          have HO : Hid (OwnS wr w.heap.size v0 (psL n view ms) ∧ Below w.heap.size w wr) := ⟨by rw [HPS.out, HPL.out]; exact ownS_mono HE.out.2.1 (by have h2 := HBo.out; omega), HE.out.2.2.1⟩
          go_wp2_with fail
          go_ret2
          exact ⟨_, ret_vb HF.out.symm, HO.out.1, HO.out.2⟩
end Go.Proofs.YtkfiahemgdppfaaGreatDoor.Pl

/- The plan of a quorum: PlanOf of the specification; what the law wants. -/
namespace Go.Proofs.YtkfiahemgdppfaaGreatDoor.Pl
open Go.RowKit Go.Proofs.YtkfiahemgdppfaaGreatDoor.Sl Go.Proofs.YtkfiahemgdppfaaGreatDoor.By Go.Proofs.YtkfiahemgdppfaaGreatDoor.Ap Go.Proofs.YtkfiahemgdppfaaGreatDoor.Gm Go.Proofs.YtkfiahemgdppfaaGreatDoor.Sh Go.Proofs.YtkfiahemgdppfaaGreatDoor.Vt Go.Proofs.YtkfiahemgdppfaaGreatDoor.Tm Go.Proofs.YtkfiahemgdppfaaGreatDoor.Wc Go.Proofs.YtkfiahemgdppfaaGreatDoor.Mk
open Go.Proofs.YtkfiahemgdppfaaGreatDoor.Ty (RowT tnth)
open Go.Proofs.YtkfiahemgdppfaaGreatDoor.Tl (OwnS)
open Go.Proofs.YtkfiahemgdppfaaGreatDoor.Qm (qOut inB)
open Go.Proofs.YtkfiahemgdppfaaGreatDoor.Rg (RowG.slice lt_at mem_at blk_cell blk_set blk_far bel_new)

set_option maxRecDepth 100000 in
set_option maxHeartbeats 1600000 in
theorem specPlanOf_any (n view : Int) (v : Value) (ms : List Mg) (w : World) (h : Row w v ms) :
    Calls Tryz.prog 8 #[.int .i64 n, .int .i64 view, v] w fun e w' => ∃ u, e = .returned (.tuple #[u, .int .i64 (plC n view ms)]) ∧ OwnS w' w.heap.size u (plL n view ms) ∧ Below w.heap.size w w' := by
  have HR : Hid (Row w v ms) := h
  have HLN := Qm.l04Nodes_any n w
  have HIN := fun W => Bo.in_any view 1 20 W
  have HPL : Hid (plL n view ms = if plC n view ms = 0 then planL (caL ms) else []) := rfl
  obtain ⟨a, cap, rfl⟩ := RowG.slice h
  have HB : Hid (∀ o, Below w.heap.size w (w.alloc o)) := fun o => bel_new w o
  have HM0 : Hid (OwnS (w.alloc (.cells #[] 9)) w.heap.size (.slice (some ⟨w.heap.size, 0, none⟩) 0 0) []) := Rl.own_empty w _ (Nat.le_refl _)
  clear h
  by_cases h4 : (4096 : Int) < (ms.length : Int)
  · have HC : Hid (plC n view ms = 2) := by show _ = _; unfold plC; rw [if_pos (by omega)]
    have HN := plL_no HC.out (by decide)
    clear HLN HIN
    go_enter Tryz.func8, Tryz.ntmps8
    go_wp2_with fail
    go_ret2
    exact ⟨_, ret_vi HC.out.symm, by rw [HN]; exact HM0.out, HB.out _⟩
  have h4n : ¬ 4096 < ms.length := by omega
  by_cases hf : fCode n = 0
  · rw [decide_eq_true hf] at HLN
    cases hw : inB view 1 20 with
    | false =>
      have HC : Hid (plC n view ms = 4) := by show _ = _; unfold plC; rw [if_neg h4n, if_neg (by rw [hw]; simp)]
      have HN := plL_no HC.out (by decide)
      have HW2 : Hid (∀ W, Calls Tryz.prog 23 #[.int .i64 view, .int .i64 1, .int .i64 20] W fun e w' => e = .returned (.bool false) ∧ W = w') := fun W => by have := HIN W; have e : Rq.inB view 1 20 = false := hw; rw [e] at this; exact this
      clear hw HIN hf
      go_enter Tryz.func8, Tryz.ntmps8
      go_wp2_with fail
      refine HLN.mono ?_
      rintro e w1 ⟨rfl, rfl⟩
      go_wp2_with fail
      refine (HW2.out _).mono ?_
      rintro e w1 ⟨rfl, rfl⟩
      go_wp2_with fail
      go_ret2
      exact ⟨_, ret_vi HC.out.symm, by rw [HN]; exact HM0.out, HB.out _⟩
    | true =>
      have HW2 : Hid (∀ W, Calls Tryz.prog 23 #[.int .i64 view, .int .i64 1, .int .i64 20] W fun e w' => e = .returned (.bool true) ∧ W = w') := fun W => by have := HIN W; have e : Rq.inB view 1 20 = true := hw; rw [e] at this; exact this
      have HQM := Qm.l06Quorum_any n w hf
      by_cases hlq : (ms.length : Int) = qOut n
      · have hlq' : ((ms.length : Int) != qOut n) = false := by simp [hlq]
        have HC0 : Hid (plC n view ms = if caB n view ms then 0 else 12) := by show _ = _; unfold plC; rw [if_neg h4n, if_pos ⟨hf, hw⟩, if_pos hlq]
        have HLP0 := l06Plan_any n view _ ms w hf HR.out hlq
        have HPS : Hid (psL n view ms = if caB n view ms then planL (caL ms) else []) := rfl
        obtain ⟨q, HQ⟩ : ∃ q, Hid (qOut n = q) := ⟨_, rfl⟩
        rw [HQ.out] at HQM hlq'
        obtain ⟨o, HO⟩ : ∃ o, Hid (caB n view ms = o) := ⟨_, rfl⟩
        rw [HO.out] at HLP0 HC0 HPS
        have HLP : Hid (Calls Tryz.prog 25 #[.int .i64 n, .int .i64 view, .slice a ms.length cap] w fun e w' => ∃ u, e = .returned (.tuple #[u, .bool o]) ∧ OwnS w' w.heap.size u (psL n view ms) ∧ Below w.heap.size w w') := HLP0
        clear HLP0 hw HIN hf hlq HO HQ
        cases o with
        | false =>
          have HC : Hid (plC n view ms = 12) := HC0.out
          have HN := plL_no HC.out (by decide)
          go_enter Tryz.func8, Tryz.ntmps8
          go_wp2_with fail
          refine HLN.mono ?_
          rintro e w1 ⟨rfl, rfl⟩
          go_wp2_with fail
          refine (HW2.out _).mono ?_
          rintro e w1 ⟨rfl, rfl⟩
          go_wp2_with fail
          refine HQM.mono ?_
          rintro e w1 ⟨rfl, rfl⟩
          go_wp2_with fail
          refine HLP.out.mono ?_
          rintro e w1 ⟨u, rfl, -, b1⟩
          have B1 : Hid (Below w.heap.size w w1) := b1
          clear b1
          go_wp2_with fail
          go_ret2
          exact ⟨_, ret_vi HC.out.symm, by rw [HN]; exact Rl.own_empty w1 _ B1.out.size, B1.out.alloc B1.out.size _⟩
        | true =>
          have HC : Hid (plC n view ms = 0) := HC0.out
          have HN : Hid (psL n view ms = plL n view ms) := by show _ = _; rw [HPL.out, HC.out, HPS.out]; rfl
          rw [HN.out] at HLP
          go_enter Tryz.func8, Tryz.ntmps8
          go_wp2_with fail
          refine HLN.mono ?_
          rintro e w1 ⟨rfl, rfl⟩
          go_wp2_with fail
          refine (HW2.out _).mono ?_
          rintro e w1 ⟨rfl, rfl⟩
          go_wp2_with fail
          refine HQM.mono ?_
          rintro e w1 ⟨rfl, rfl⟩
          go_wp2_with fail
          refine HLP.out.mono ?_
          rintro e w1 ⟨u, rfl, o1, b1⟩
          have R1 : Hid (OwnS w1 w.heap.size u (plL n view ms) ∧ Below w.heap.size w w1) := ⟨o1, b1⟩
          clear o1 b1
          go_wp2_with fail
          go_ret2
          exact ⟨_, ret_vi HC.out.symm, R1.out.1, R1.out.2⟩
      · have hlq' : ((ms.length : Int) != qOut n) = true := by simp [hlq]
        have HC : Hid (plC n view ms = 19) := by show _ = _; unfold plC; rw [if_neg h4n, if_pos ⟨hf, hw⟩, if_neg hlq]
        have HN := plL_no HC.out (by decide)
        obtain ⟨q, HQ⟩ : ∃ q, Hid (qOut n = q) := ⟨_, rfl⟩
        rw [HQ.out] at HQM hlq'
        clear hw HIN hf hlq HQ
        go_enter Tryz.func8, Tryz.ntmps8
        go_wp2_with fail
        refine HLN.mono ?_
        rintro e w1 ⟨rfl, rfl⟩
        go_wp2_with fail
        refine (HW2.out _).mono ?_
        rintro e w1 ⟨rfl, rfl⟩
        go_wp2_with fail
        refine HQM.mono ?_
        rintro e w1 ⟨rfl, rfl⟩
        go_wp2_with fail
        go_ret2
        exact ⟨_, ret_vi HC.out.symm, by rw [HN]; exact HM0.out, HB.out _⟩
  · have HC : Hid (plC n view ms = 4) := by show _ = _; unfold plC; rw [if_neg h4n, if_neg (fun h => hf h.1)]
    have HN := plL_no HC.out (by decide)
    rw [decide_eq_false hf] at HLN
    clear HIN hf
    go_enter Tryz.func8, Tryz.ntmps8
    go_wp2_with fail
    refine HLN.mono ?_
    rintro e w1 ⟨rfl, rfl⟩
    go_wp2_with fail
    go_ret2
    exact ⟨_, ret_vi HC.out.symm, by rw [HN]; exact HM0.out, HB.out _⟩
theorem kp_bel3 {w w' : World} {v : Value} {B : Nat} (h : Kp w w' v v) (hB : B ≤ w.heap.size) (hg : ∀ g, v.ownBlock = some g → B ≤ g) : Below B w w' :=
  ⟨h.os, h.tape, h.output, h.size, fun k hk => h.block k (by omega) (fun e => by have := hg k e.symm; omega)⟩
theorem pl_len {n view : Int} {ms : List Mg} : (plL n view ms).length ≤ 8 := by
  unfold plL
  split
  · rename_i h
    have hc : caB n view ms = true := by
      unfold plC at h
      split at h
      · cases h
      · split at h
        · split at h
          · cases e : caB n view ms with
            | true => rfl
            | false => rw [e] at h; simp at h
          · cases h
        · cases h
    have := (inv_of (ca_right hc)).2.1
    unfold planL
    rw [List.length_map, List.length_range]
    exact this
  · exact Nat.zero_le _
end Go.Proofs.YtkfiahemgdppfaaGreatDoor.Pl
namespace Go.Proofs.YtkfiahemgdppfaaGreatDoor.Op
open Go.ChangeShapes Go.WideShapes Go.ChangeAt Go.RowKit Go.Deep
set_option maxRecDepth 100000 in
theorem open_msgs {H : Type} {enc : TypeId × Value → H} {w : World} {base : Nat} {spare : Nat → Bool} {r : Reach} {b0 : Nat} {v : Value} {d : DataW H} {p : List MemPlace}
    (hv : Value.okWide Tryz.prog w r b0 41 v) (h : DataW.Trod enc Tryz.prog w base spare true 41 v d p) :
    ∃ xs : List Gm.Mg, Gm.Row w v xs ∧ xs.length ≤ maxLen ∧ ∀ x ∈ xs, Gm.Tz maxLen x := by
  obtain ⟨a0, len0, cap0, rfl⟩ := okWide_slice Tryz.underlying41 hv
  obtain ⟨fuel, hf⟩ := h
  obtain ⟨v', xs, e, h1, h2, h3⟩ := openGm hf
  simp [Value.cells] at e
  subst e
  exact ⟨xs, h1, h2, h3⟩
end Go.Proofs.YtkfiahemgdppfaaGreatDoor.Op

/- The laws' comparison of texts. -/
namespace Go.Proofs.YtkfiahemgdppfaaGreatDoor.Ty
open Go.RowKit Go.Proofs.YtkfiahemgdppfaaGreatDoor.Sl Go.Proofs.YtkfiahemgdppfaaGreatDoor.By Go.Proofs.YtkfiahemgdppfaaGreatDoor.Ap Go.Proofs.YtkfiahemgdppfaaGreatDoor.Rq Go.Proofs.YtkfiahemgdppfaaGreatDoor.Rr
set_option maxHeartbeats 400000 in
theorem sameTexts_same (v u : Value) (ts : List ByteArray) (w : World) (h : RowT w v ts) (g : RowT w u ts) (hl : ts.length ≤ 1048576) :
    Calls Tryz.prog 9 #[v, u] w fun e w' => e = .returned (.bool true) ∧ Below w.heap.size w w' := by
  obtain ⟨a, cap, rfl, h⟩ := h
  obtain ⟨a', cap', rfl, g⟩ := g
  have hne : ((ts.length : Int) != (ts.length : Int)) = false := by simp
  go_enter Tryz.func9, Tryz.ntmps9
  go_wp2_with fail
  go_loopw [5] (fun i wr => ∃ k : Nat, k ≤ ts.length ∧ i = .int .i64 k ∧ ∃ n, wr = w.drewN n) (fun i _ => ts.length - (intOf i).toNat)
  case atStart => exact ⟨0, by omega, rfl, 0, rfl⟩
  case round =>
    obtain ⟨k, hk, rfl, n, rfl⟩ := hrel
    by_cases hlt : k < ts.length
    · rcases h with h | ⟨b, off, rfl, hc, hb, hcell⟩
      · exact absurd hlt (by rw [h]; simp)
      rcases g with g | ⟨b', off', rfl, hc', hb', gcell⟩
      · exact absurd hlt (by rw [g]; simp)
      have hc1 := hcell k hlt
      have hc2 := gcell k hlt
      have hp0 : (0 : Int) ≤ (k : Int) := by omega
      have hp1 : (k : Int) < (ts.length : Int) := by omega
      clear hcell gcell
      go_wp2
      go_quiet (fail)
      go_wp2
      exact ⟨⟨k + 1, by omega, by go_num, n + nq, rfl⟩, by simp [intOf]; omega⟩
    · go_wp2
      go_ret
      exact ⟨rfl, ⟨rfl, rfl, rfl, Nat.le_refl _, fun _ _ => rfl⟩⟩
end Go.Proofs.YtkfiahemgdppfaaGreatDoor.Ty

/- The laws' own choices: at; a number in a list: hasInt. -/
namespace Go.Proofs.YtkfiahemgdppfaaGreatDoor.La
open Go.RowKit Go.Proofs.YtkfiahemgdppfaaGreatDoor.Sl

/-- What at answers. -/
def atN (xs : List Int) (i n : Nat) : Nat := if n ≤ 1 then 0 else if xs.length = 0 then i * 7 % n else ((nth xs (i % xs.length)).toNat * 31 + (nth xs ((i + 1) % xs.length)).toNat + i / xs.length) % n
theorem atN_lt (xs : List Int) (i n : Nat) (h : 0 < n) : atN xs i n < n := by
  unfold atN
  by_cases h1 : n ≤ 1
  · rw [if_pos h1]; exact h
  · rw [if_neg h1]
    split
    · exact Nat.mod_lt _ h
    · exact Nat.mod_lt _ h
theorem ret_n {a b : Nat} (h : a = b) : Ending.returned (.int .i64 (a : Int)) = .returned (.int .i64 (b : Int)) := by rw [h]
set_option maxRecDepth 100000 in
set_option maxHeartbeats 800000 in
theorem atN_any (v : Value) (xs : List Int) (i n : Nat) (w : World) (h : RowB w v xs) (hx : xs.length ≤ 1048576) (hi : i ≤ 1000) (hn : 0 < n) (hn2 : n ≤ 1000000) :
    Calls Tryz.prog 5 #[v, .int .i64 i, .int .i64 n] w fun e w' => e = .returned (.int .i64 (atN xs i n : Nat)) ∧ Below w.heap.size w w' := by
  obtain ⟨a, cap, rfl, h, hr⟩ := h
  by_cases hone : n = 1
  · subst hone
    go_enter Tryz.func5, Tryz.ntmps5
    go_wp2_with fail
    go_ret
    exact ⟨rfl, Below.refl _ _⟩
  have h1 : ¬ (n : Int) ≤ 1 := by omega
  have h1z : ¬ (n : Int) = 0 := by omega
  by_cases h0 : xs = []
  · subst h0
    go_enter Tryz.func5, Tryz.ntmps5
    go_wp2_with fail
    go_ret
    exact ⟨ret_n (by unfold atN; rw [if_neg (by omega)]; simp), Below.refl _ _⟩
  · rcases h with h | ⟨b, off, rfl, hc, hb, hcell⟩
    · exact absurd h h0
    have hpos : 0 < xs.length := by cases xs with | nil => exact absurd rfl h0 | cons x l => simp
    have e0 : ((xs.length : Int) == 0) = false := by simp; omega
    have e1 : ¬ (xs.length : Int) = 0 := by omega
    have j1 : i % xs.length < xs.length := Nat.mod_lt _ hpos
    have j2 : (i + 1) % xs.length < xs.length := Nat.mod_lt _ hpos
    have c1 := hcell _ j1
    have c2 := hcell _ j2
    have r1 := range_at hr (i % xs.length)
    have r2 := range_at hr ((i + 1) % xs.length)
    have k1 : (i : Int) % (xs.length : Int) = ((i % xs.length : Nat) : Int) := by omega
    have k2 : ((i : Int) + 1) % (xs.length : Int) = (((i + 1) % xs.length : Nat) : Int) := by rw [Int.natCast_emod, Int.natCast_add]; rfl
    have k3 : (i : Int) / (xs.length : Int) = ((i / xs.length : Nat) : Int) := by rw [Int.natCast_ediv]
    have k4 : i / xs.length ≤ i := Nat.div_le_self _ _
    have q1 : ((i % xs.length : Nat) : Int) < (xs.length : Int) := by omega
    have q2 : (((i + 1) % xs.length : Nat) : Int) < (xs.length : Int) := by omega
    obtain ⟨y1, hy1⟩ : ∃ y1 : Nat, nth xs (i % xs.length) = y1 := ⟨(nth xs (i % xs.length)).toNat, by omega⟩
    obtain ⟨y2, hy2⟩ : ∃ y2 : Nat, nth xs ((i + 1) % xs.length) = y2 := ⟨(nth xs ((i + 1) % xs.length)).toNat, by omega⟩
    rw [hy1] at c1 r1
    rw [hy2] at c2 r2
    have z1 : (y1 : Int) ≤ 255 := r1.2
    have z2 : (y2 : Int) ≤ 255 := r2.2
    have z3 : ((i / xs.length : Nat) : Int) ≤ 1000 := by omega
    have HE : Hid ((y1 * 31 + y2 + i / xs.length) % n = atN xs i n) := by show _ = _; unfold atN; rw [if_neg (by omega), if_neg (by omega), hy1, hy2]; rfl
    clear hcell hr h0 hy1 hy2 r1 r2 j1 j2
    generalize i % xs.length = p at c1 k1 q1
    generalize (i + 1) % xs.length = q at c2 k2 q2
    generalize i / xs.length = d at k3 k4 z3 HE
    go_enter Tryz.func5, Tryz.ntmps5
    go_wp2_with fail
    go_quiet (fail)
    go_wp2_with fail
    go_ret
    exact ⟨ret_n HE.out, ⟨rfl, rfl, rfl, Nat.le_refl _, fun _ _ => rfl⟩⟩

theorem at_any (v : Value) (xs : List Int) (i n : Nat) (w : World) (h : RowB w v xs) (hx : xs.length ≤ 1048576) (hi : i ≤ 1000) (hn : 0 < n) (hn2 : n ≤ 1000000) :
    Calls Tryz.prog 5 #[v, .int .i64 i, .int .i64 n] w fun e w' => ∃ r : Nat, e = .returned (.int .i64 r) ∧ r < n ∧ Below w.heap.size w w' := by
  refine (atN_any v xs i n w h hx hi hn hn2).mono ?_
  rintro e w' ⟨rfl, b⟩
  exact ⟨_, rfl, atN_lt xs i n hn, b⟩
end Go.Proofs.YtkfiahemgdppfaaGreatDoor.La

/- From a slice of bytes that came in, as the row opens it, to what the walks ask. -/
namespace Go.Proofs.YtkfiahemgdppfaaGreatDoor.Sl
open Go.RowKit

/-- A slice of integers that came in: it is nil; or it leads to a row of 'cap' cells, the numbers 'zs' (the first 'len' are its elements), each fitting its kind. -/
def IsRow (k : IntKind) (w : World) (a : Option Addr) (len cap : Nat) (zs : List Int) : Prop :=
  (a = none ∧ len = 0 ∧ cap = 0 ∧ zs = []) ∨
  ∃ x, a = some x ∧ len ≤ cap ∧ cap ≤ maxLen ∧ zs.length = cap ∧ (∀ i, i < zs.length → w.cell? (x.add i) = some (.int k (zs.getD i 0))) ∧ ∀ n ∈ zs, (Lit.int k n).wf = true

theorem rowB_of {w : World} {a : Option Addr} {len cap : Nat} {zs : List Int} (h : IsRow .u8 w a len cap zs) : ∃ xs : List Int, xs.length = len ∧ RowB w (.slice a len cap) xs := by
  rcases h with ⟨rfl, rfl, rfl, rfl⟩ | ⟨x, rfl, hl, _, hz, hcell, hwz⟩
  · exact ⟨[], rfl, none, 0, rfl, .inl rfl, fun x hx => by cases hx⟩
  · have hlen : (zs.take len).length = len := by rw [List.length_take]; omega
    refine ⟨zs.take len, hlen, some x, cap, by rw [hlen], ?_, ?_⟩
    · by_cases h0 : len = 0
      · exact .inl (by rw [h0]; rfl)
      · obtain ⟨b, off, spot⟩ := x
        have hc := hcell 0 (by omega)
        have hspot : spot = none := by simpa [Addr.add] using World.cell?_spot hc
        subst hspot
        have hc0 : w.cell? ⟨b, off, none⟩ = some (.int .u8 (zs.getD 0 0)) := by simpa [Addr.add] using hc
        refine .inr ⟨b, off, rfl, by omega, World.block_lt_of_cell? w _ hc0, fun i hi => ?_⟩
        have h1 := hcell i (by omega)
        have h2 : (⟨b, off, none⟩ : Addr).add i = ⟨b, off + i, none⟩ := by unfold Addr.add; split <;> simp_all
        rw [h2] at h1
        rw [h1]
        unfold nth
        rw [List.getD_eq_getElem?_getD, List.getD_eq_getElem?_getD, List.getElem?_take_of_lt (by omega)]
    · intro n hn
      have := hwz n (List.mem_of_mem_take hn)
      simpa [Lit.wf, IntKind.min, IntKind.max, IntKind.signed, IntKind.bits] using this
end Go.Proofs.YtkfiahemgdppfaaGreatDoor.Sl
