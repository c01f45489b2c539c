/- Texts put together: We, Yp. -/
import Derived.Test.YtondmbeccpekiaaGreatDoorH36
import Derived.Test.YtondmbeccpekiaaGreatDoorH5
/- The certificates that a view change brings: ViewCerts. -/
namespace Go.Proofs.YtondmbeccpekiaaGreatDoor.Wc
open Go.RowKit Go.Proofs.YtondmbeccpekiaaGreatDoor.Sl Go.Proofs.YtondmbeccpekiaaGreatDoor.By Go.Proofs.YtondmbeccpekiaaGreatDoor.Ap Go.Proofs.YtondmbeccpekiaaGreatDoor.Gm Go.Proofs.YtondmbeccpekiaaGreatDoor.Si Go.Proofs.YtondmbeccpekiaaGreatDoor.Tm Go.Proofs.YtondmbeccpekiaaGreatDoor.Ms Go.Proofs.YtondmbeccpekiaaGreatDoor.Sh Go.Proofs.YtondmbeccpekiaaGreatDoor.Vt Go.Proofs.YtondmbeccpekiaaGreatDoor.Mp Go.Proofs.YtondmbeccpekiaaGreatDoor.Rq
open Go.Proofs.YtondmbeccpekiaaGreatDoor.Rc (OwnM OwnM.row OwnM.kept OwnM.lt OwnM.below OwnM.mono rcOK rcBd rcMs rcCode own_ne Kq l06Read_any rd_short)
open Go.Proofs.YtondmbeccpekiaaGreatDoor.Ty (RowT tnth)
open Go.Proofs.YtondmbeccpekiaaGreatDoor.Rl (rdC rdL rdOk rdOut l02ReadList_any)
open Go.Proofs.YtondmbeccpekiaaGreatDoor.Rg (RowG RowG.slice RowG.at lt_at mem_at blk_cell blk_set bel_new)

noncomputable def vcC (n : Int) (x : Mg) : Int := if fCode n = 0 then (if cfB n x.vw x then 0 else 12) else 4
noncomputable def vcL (n : Int) (x : Mg) : List Ct := if vcC n x = 0 then crts x else []
theorem ret_vi {v : Value} {a b : Int} (h : a = b) : Ending.returned (.tuple #[v, .int .i64 a]) = .returned (.tuple #[v, .int .i64 b]) := by rw [h]
theorem f_four {n : Int} (h : ¬ fCode n = 0) : fCode n = 4 := by
  rcases f_cases n with rfl | rfl | rfl | ⟨_, _, _, _, hd⟩
  · exact absurd rfl h
  · exact absurd rfl h
  · exact absurd rfl h
  · exact hd
set_option maxRecDepth 100000 in
set_option maxHeartbeats 1600000 in
theorem implViewCerts_any (n : Int) (x : Mg) (w : World) (hz : x.bd.size ≤ 1048576) (hK : KTab w) (hp : 0 < w.heap.size) :
    Calls Tryz.prog 134 #[.int .i64 n, .agg #[.int .i64 x.kd, .int .i64 x.vw, .int .i64 x.sq, .int .i64 x.fr, .string x.dg, .string x.bd, .string x.mc]] w fun e w' => ∃ u, e = .returned (.tuple #[u, .int .i64 (vcC n x)]) ∧ (∃ ps, ps.map (·.1) = vcL n x ∧ OwnC w' w.heap.size u ps) ∧ Below w.heap.size w w' := by
  have HX : Hid (∀ W, Below (w.alloc (.cells #[.int .i64 x.kd, .int .i64 x.vw, .int .i64 x.sq, .int .i64 x.fr, .string x.dg, .string x.bd, .string x.mc] 59)).heap.size (w.alloc (.cells #[.int .i64 x.kd, .int .i64 x.vw, .int .i64 x.sq, .int .i64 x.fr, .string x.dg, .string x.bd, .string x.mc] 59)) W → (W.cell? ⟨w.heap.size, 0, none⟩ = some (.int .i64 x.kd) ∧ W.cell? ⟨w.heap.size, 1, none⟩ = some (.int .i64 x.vw) ∧ W.cell? ⟨w.heap.size, 2, none⟩ = some (.int .i64 x.sq) ∧ W.cell? ⟨w.heap.size, 3, none⟩ = some (.int .i64 x.fr) ∧ W.cell? ⟨w.heap.size, 4, none⟩ = some (.string x.dg) ∧ W.cell? ⟨w.heap.size, 5, none⟩ = some (.string x.bd) ∧ W.cell? ⟨w.heap.size, 6, none⟩ = some (.string x.mc)) ∧ Below w.heap.size w W) := fun W hW => by
    have h1 := (hW.block w.heap.size (by simp)).trans (heap_alloc_new w _)
    exact ⟨⟨(blk_cell h1 0 rfl).1, (blk_cell h1 1 rfl).1, (blk_cell h1 2 rfl).1, (blk_cell h1 3 rfl).1, (blk_cell h1 4 rfl).1, (blk_cell h1 5 rfl).1, (blk_cell h1 6 rfl).1⟩, (bel_new w _).trans (hW.mono (by simp))⟩
  have GK : Hid (∀ W, Below w.heap.size w W → KTab W ∧ 0 < W.heap.size) := fun W hW => ⟨hK.below hW hp, Nat.lt_of_lt_of_le hp hW.size⟩
  have HF := implFaultsOf_any n
  obtain ⟨fo, HFO⟩ : ∃ fo, Hid (fOut n = fo) := ⟨_, rfl⟩
  rw [HFO.out] at HF
  clear hK hp HFO
  by_cases hf : fCode n = 0
  · rw [hf] at HF
    have HVO : Hid (∀ W, Below w.heap.size w W → Calls Tryz.prog 149 #[.int .i64 n, .agg #[.int .i64 x.kd, .int .i64 x.vw, .int .i64 x.sq, .int .i64 x.fr, .string x.dg, .string x.bd, .string x.mc]] W fun e w' => e = .returned (votV n x) ∧ Below W.heap.size W w') := fun W hW => voteOf_any n x W (GK.out W hW).1 (GK.out W hW).2
    have HCO : Hid (∀ W, Below w.heap.size w W → Calls Tryz.prog 148 #[.int .i64 n, .int .i64 x.vw, votV n x] W fun e w' => ∃ u, e = .returned (.tuple #[u, .bool (cfB n x.vw x)]) ∧ (cfB n x.vw x = true → ∃ ps, ps.map (·.1) = crts x ∧ OwnC w' W.heap.size u ps) ∧ Below W.heap.size W w') := fun W hW => certsOf_any n x.vw x W hz (GK.out W hW).1 (GK.out W hW).2
    have HC : Hid (vcC n x = if cfB n x.vw x then 0 else 12) := by show _ = _; unfold vcC; rw [if_pos hf]
    have HL : Hid (vcL n x = if vcC n x = 0 then crts x else []) := rfl
    obtain ⟨q, HQ⟩ : ∃ q, Hid (cfB n x.vw x = q) := ⟨_, rfl⟩
    rw [HQ.out] at HC HCO
    obtain ⟨vv, HVV⟩ : ∃ vv, Hid (votV n x = vv) := ⟨_, rfl⟩
    rw [HVV.out] at HVO HCO
    clear HVV HQ hf hz GK
    go_enter Tryz.func134, Tryz.ntmps134
    go_upto_region 4 with (go_at_call 72; refine (HF _).mono ?_; rintro e w1 ⟨rfl, rfl⟩)
    generalize w.alloc (.cells #[.int .i64 x.kd, .int .i64 x.vw, .int .i64 x.sq, .int .i64 x.fr, .string x.dg, .string x.bd, .string x.mc] 59) = wb at HX ⊢
    obtain ⟨⟨y0, y1, y2, y3, y4, y5, y6⟩, _⟩ := HX.out wb (Below.refl _ _)
    go_region_held (fun W => W.cell? ⟨w.heap.size, 0, none⟩ = some (.int .i64 x.kd) ∧ W.cell? ⟨w.heap.size, 1, none⟩ = some (.int .i64 x.vw) ∧ W.cell? ⟨w.heap.size, 2, none⟩ = some (.int .i64 x.sq) ∧ W.cell? ⟨w.heap.size, 3, none⟩ = some (.int .i64 x.fr) ∧ W.cell? ⟨w.heap.size, 4, none⟩ = some (.string x.dg) ∧ W.cell? ⟨w.heap.size, 5, none⟩ = some (.string x.bd) ∧ W.cell? ⟨w.heap.size, 6, none⟩ = some (.string x.mc)) (first | exact (HX.out _ Qc.from_drew).1 | exact (HX.out _ B2.out).1 | exact (HX.out _ B3.out).1)
      (first | (go_at_call 149; refine (HVO.out _ (HX.out _ Qc.from_drew).2).mono ?_; rintro e w2 ⟨rfl, b2⟩; have B2 : Hid (Below wb.heap.size wb w2) := Qc.from_drew.trans b2; clear b2) | (go_at_call 148; refine (HCO.out _ (HX.out _ B2.out).2).mono ?_; rintro e w3 ⟨u, rfl, o3, b3⟩; have B3 : Hid (Below wb.heap.size wb w3) := B2.out.trans (b3.mono B2.out.size); have O3 : Hid (q = true → ∃ ps, ps.map (·.1) = crts x ∧ OwnC w3 w2.heap.size u ps) := o3; clear b3 o3))
    all_goals
      have G3 : Hid (Below w.heap.size w w3 ∧ w.heap.size ≤ w2.heap.size) := ⟨(HX.out _ B3.out).2, (HX.out _ B2.out).2.size⟩
      clear y0 y1 y2 y3 y4 y5 y6
      cases q with
      | false =>
        rw [if_neg (by decide)] at HC
        have HL2 : Hid ([] = vcL n x) := by show _ = _; rw [HL.out, HC.out]; rfl
        go_wp2_with fail
        go_ret2
        exact ⟨_, ret_vi HC.out.symm, ⟨[], HL2.out, OwnC.nil _ _⟩, G3.out.1⟩
      | true =>
        rw [if_pos rfl] at HC
        obtain ⟨ps, h1, h2⟩ := O3.out rfl
        have HL2 : Hid (ps.map (·.1) = vcL n x) := by show _ = _; rw [HL.out, HC.out]; exact h1
        have HO2 : Hid (OwnC w3 w.heap.size u ps) := ⟨row_mono h2.row G3.out.2, fun p hp => (h2.mem p hp).mono G3.out.2, h2.apart⟩
        clear h1 h2
        go_wp2_with fail
        go_ret2
        exact ⟨_, ret_vi HC.out.symm, ⟨ps, HL2.out, HO2.out⟩, G3.out.1⟩
  · rw [f_four hf] at HF
    have HC : Hid (4 = vcC n x) := by show _ = _; unfold vcC; rw [if_neg hf]
    have HL : Hid ([] = vcL n x) := by show _ = _; unfold vcL; rw [← HC.out]; rfl
    have HB : Hid (∀ o, Below w.heap.size w (w.alloc o)) := fun o => bel_new w o
    clear hf HX
    go_enter Tryz.func134, Tryz.ntmps134
    go_wp2_with fail
    refine (HF _).mono ?_
    rintro e w1 ⟨rfl, rfl⟩
    go_wp2_with fail
    go_ret2
    exact ⟨_, ret_vi HC.out, ⟨[], HL.out, OwnC.nil _ _⟩, HB.out _⟩
theorem ms_seven (xs : List Int) : (rcMs xs).length ≤ 7 := by
  unfold rcMs
  split
  · rename_i h
    unfold rcOK at h
    split
    · show (0 : Nat) ≤ 7; omega
    · rename_i t ts e
      rw [e] at h
      simp only [Bool.and_eq_true] at h
      exact (Cb.cf_all h.2.2).1
  · show (0 : Nat) ≤ 7; omega
noncomputable def cfL (n : Int) (x : Mg) : List Ct := if cfB n x.vw x then crts x else []
theorem cfL_no {n : Int} {x : Mg} (h : cfB n x.vw x = false) : ([] : List (Ct × Value)).map (·.1) = cfL n x := by unfold cfL; rw [h]; rfl
theorem cfL_yes {n : Int} {x : Mg} (h : cfB n x.vw x = true) : cfL n x = crts x := by unfold cfL; rw [h]; rfl
theorem cf_no {n : Int} {x : Mg} {ts : List ByteArray} (h : rdL (bys x.bd) = ts) (h2 : rsB n x.vw ts = false) : cfB n x.vw x = false := bOf_false fun hh => by
  have := hh.2.2.2.2.2
  rw [h, h2] at this
  cases this
theorem sg_small {n : Int} {x : Mg} (h : sg n x = true) : x.bd.size ≤ 20000 := by
  unfold sg gB lB at h
  rw [Bool.and_eq_true, Bool.and_eq_true] at h
  exact (msg_small h.2.1).2.1
theorem one_at {ps : List (Ct × Value)} {ts : List ByteArray} {k j : Nat} (h : ps.map (·.1) = (ts.take k).map ct) (hk : k ≤ ts.length) (hj : j < k) : ∃ p, ps[j]? = some p ∧ p.1 = ct (tnth ts j) := by
  have hl : ps.length = k := by have := congrArg List.length h; rw [List.length_map, List.length_map, List.length_take] at this; omega
  obtain ⟨p, hp⟩ := Rg.get_at (xs := ps) (k := j) (by omega)
  refine ⟨p, hp, ?_⟩
  have e := congrArg (fun l => l[j]?) h
  simp only [List.getElem?_map] at e
  rw [hp, List.getElem?_take, if_pos hj, Rc.at_some (show j < ts.length by omega)] at e
  simpa using e
set_option maxRecDepth 100000 in
set_option maxHeartbeats 3200000 in
theorem l06Certs_any (n : Int) (x : Mg) (w : World) (hf : fCode n = 0) :
    Calls Tryz.prog 65 #[.int .i64 n, .agg #[.int .i64 x.kd, .int .i64 x.vw, .int .i64 x.sq, .int .i64 x.fr, .string x.dg, .string x.bd, .string x.mc]] w fun e w' => ∃ u, e = .returned (.tuple #[u, .bool (cfB n x.vw x)]) ∧ (∃ ps, ps.map (·.1) = cfL n x ∧ OwnC w' w.heap.size u ps) ∧ Below w.heap.size w w' := by
  obtain ⟨i0, hi0, hz0, hz1, hz2⟩ := info_parts info_c
  have HX : Hid (∀ W, Below (w.alloc (.cells #[.int .i64 x.kd, .int .i64 x.vw, .int .i64 x.sq, .int .i64 x.fr, .string x.dg, .string x.bd, .string x.mc] 59)).heap.size (w.alloc (.cells #[.int .i64 x.kd, .int .i64 x.vw, .int .i64 x.sq, .int .i64 x.fr, .string x.dg, .string x.bd, .string x.mc] 59)) W → (W.cell? ⟨w.heap.size, 0, none⟩ = some (.int .i64 x.kd) ∧ W.cell? ⟨w.heap.size, 1, none⟩ = some (.int .i64 x.vw) ∧ W.cell? ⟨w.heap.size, 2, none⟩ = some (.int .i64 x.sq) ∧ W.cell? ⟨w.heap.size, 3, none⟩ = some (.int .i64 x.fr) ∧ W.cell? ⟨w.heap.size, 4, none⟩ = some (.string x.dg) ∧ W.cell? ⟨w.heap.size, 5, none⟩ = some (.string x.bd) ∧ W.cell? ⟨w.heap.size, 6, none⟩ = some (.string x.mc)) ∧ Below w.heap.size w W) := fun W hW => by
    have h1 := (hW.block w.heap.size (by simp)).trans (heap_alloc_new w _)
    exact ⟨⟨(blk_cell h1 0 rfl).1, (blk_cell h1 1 rfl).1, (blk_cell h1 2 rfl).1, (blk_cell h1 3 rfl).1, (blk_cell h1 4 rfl).1, (blk_cell h1 5 rfl).1, (blk_cell h1 6 rfl).1⟩, (bel_new w _).trans (hW.mono (by simp))⟩
  have HSG : Hid (∀ W, Calls Tryz.prog 30 #[.int .i64 n, .agg #[.int .i64 x.kd, .int .i64 x.vw, .int .i64 x.sq, .int .i64 x.fr, .string x.dg, .string x.bd, .string x.mc]] W fun e w' => e = .returned (.bool (sg n x)) ∧ Below W.heap.size W w') := fun W => by
    rw [sg_eq hf]; exact l06Signed_any n x.kd x.vw x.sq x.fr x.dg x.bd x.mc W
  by_cases e1 : x.kd = 4
  · have f1 : (x.kd != 4) = false := by simp [e1]
    have HK4 : Hid (x.kd = 4) := e1
    clear e1
    cases e2 : sg n x with
    | false =>
      have HF : Hid (cfB n x.vw x = false) := bOf_false fun h => by rw [e2] at h; cases h.1
      rw [e2] at HSG
      clear e2
      go_enter Tryz.func65, Tryz.ntmps65
      go_wp2_with fail
      generalize w.alloc (.cells #[.int .i64 x.kd, .int .i64 x.vw, .int .i64 x.sq, .int .i64 x.fr, .string x.dg, .string x.bd, .string x.mc] 59) = wb at HX ⊢
      refine (HSG.out _).mono ?_
      rintro e w1 ⟨rfl, b1⟩
      have G1 : Hid (Below w.heap.size w w1) := (HX.out _ b1).2
      clear b1
      go_wp2_with fail
      go_ret2
      exact ⟨_, ret_vb HF.out.symm, ⟨[], cfL_no HF.out, OwnC.made w1 _ G1.out.size⟩, G1.out.alloc G1.out.size _⟩
    | true =>
      have HSM : Hid (x.bd.size ≤ 20000) := sg_small e2
      have HS2 : Hid (sg n x = true) := e2
      rw [e2] at HSG
      clear e2
      by_cases e3 : x.vw = 0
      · have f3 : (x.vw == 0) = true := by simp [e3]
        have HF : Hid (cfB n x.vw x = false) := bOf_false fun h => h.2.2.2.1 e3
        clear e3
        go_enter Tryz.func65, Tryz.ntmps65
        go_wp2_with fail
        generalize w.alloc (.cells #[.int .i64 x.kd, .int .i64 x.vw, .int .i64 x.sq, .int .i64 x.fr, .string x.dg, .string x.bd, .string x.mc] 59) = wb at HX ⊢
        refine (HSG.out _).mono ?_
        rintro e w1 ⟨rfl, b1⟩
        have G1 : Hid (Below w.heap.size w w1) := (HX.out _ b1).2
        have y1 := (HX.out _ b1).1.2.1
        clear b1
        go_wp2_with fail
        go_ret2
        exact ⟨_, ret_vb HF.out.symm, ⟨[], cfL_no HF.out, OwnC.made w1 _ G1.out.size⟩, G1.out.alloc G1.out.size _⟩
      · have f3 : (x.vw == 0) = false := by simp [e3]
        have HV0 : Hid (x.vw ≠ 0) := e3
        have HRL0 := fun W => l02ReadList_any x.bd W (by have := HSM.out; omega)
        obtain ⟨hrd1, hrd2⟩ := rd_short (xs := bys x.bd) (by rw [bys_length]; have := HSM.out; omega)
        have HCF : Hid (rdOk (bys x.bd) = true → rsB n x.vw (rdL (bys x.bd)) = true → cfB n x.vw x = true) := fun h1 h2 => bOf_true ⟨HS2.out, HK4.out, rfl, HV0.out, by rw [hrd1, if_pos h1], h2⟩
        have HCN : Hid (rdOk (bys x.bd) = false → cfB n x.vw x = false) := fun h1 => bOf_false fun h => by have := h.2.2.2.2.1; rw [hrd1, h1] at this; cases this
        have HCR : Hid (crts x = (rdL (bys x.bd)).map ct) := rfl
        have HOKL0 : Hid (rdL (bys x.bd) = rdL (bys x.bd)) := rfl
        have HRS : Hid (∀ t ∈ rdL (bys x.bd), t.size ≤ 65535) := Rc.rdL_size (bys x.bd) (bys_range x.bd)
        have HRN : Hid ((rdL (bys x.bd)).length ≤ 65535) := Rl.rdL_small (bys x.bd) (bys_range x.bd)
        rw [← hrd2] at HRL0
        obtain ⟨ts, HOKL⟩ : ∃ ts, Hid (rdL (bys x.bd) = ts) := ⟨_, rfl⟩
        rw [HOKL.out] at HRL0 HCF HCR HRS HRN
        generalize rdOk (bys x.bd) = ok at HRL0 HCF HCN
        have HRL : Hid (∀ W, Calls Tryz.prog 94 #[.string x.bd] W fun e w' => ∃ v', e = .returned (.tuple #[v', .bool ok]) ∧ Tl.OwnS w' W.heap.size v' ts ∧ Below W.heap.size W w') := HRL0
        clear e3 HRL0 hrd1 hrd2 HOKL0
        have HFC : Hid (fCode n = 0) := hf
        clear hf
        go_enter Tryz.func65, Tryz.ntmps65
        go_wp2_with fail
        generalize w.alloc (.cells #[.int .i64 x.kd, .int .i64 x.vw, .int .i64 x.sq, .int .i64 x.fr, .string x.dg, .string x.bd, .string x.mc] 59) = wb at HX ⊢
        refine (HSG.out _).mono ?_
        rintro e w1 ⟨rfl, b1⟩
        have B1 : Hid (Below wb.heap.size wb w1) := b1
        have y1 := (HX.out _ b1).1.2.1
        have y5 := (HX.out _ b1).1.2.2.2.2.2.1
        clear b1
        go_wp2_with fail
        refine (HRL.out _).mono ?_
        rintro e w2 ⟨v2, rfl, o2, b2⟩
        have B2 : Hid (Below wb.heap.size wb w2) := B1.out.trans (b2.mono B1.out.size)
        have HR : Hid (RowT w2 v2 ts) := Tl.OwnS.row o2
        obtain ⟨a, cap, rfl, _⟩ := Tl.OwnS.row o2
        clear b2 o2 y1 y5
        cases ok with
        | false =>
          have HF : Hid (cfB n x.vw x = false) := HCN.out rfl
          have G1 : Hid (Below w.heap.size w w2) := (HX.out _ B2.out).2
          go_wp2_with fail
          go_ret2
          exact ⟨_, ret_vb HF.out.symm, ⟨[], cfL_no HF.out, OwnC.made w2 _ G1.out.size⟩, G1.out.alloc G1.out.size _⟩
        | true =>
          by_cases h8 : (8 : Int) < (ts.length : Int)
          · have HF : Hid (cfB n x.vw x = false) := cf_no HOKL.out (rs_eight (by omega))
            have G1 : Hid (Below w.heap.size w w2) := (HX.out _ B2.out).2
            have h8' : decide ((8 : Int) < (ts.length : Int)) = true := decide_eq_true h8
            go_wp2_with fail
            go_ret2
            exact ⟨_, ret_vb HF.out.symm, ⟨[], cfL_no HF.out, OwnC.made w2 _ G1.out.size⟩, G1.out.alloc G1.out.size _⟩
          · have h8' : decide ((8 : Int) < (ts.length : Int)) = false := decide_eq_false h8
            have hl8 : ts.length ≤ 8 := by omega
            have HXB : Hid (∀ W, Below w2.heap.size w2 W → W.cell? ⟨w.heap.size, 1, none⟩ = some (.int .i64 x.vw) ∧ Below w.heap.size w W ∧ RowT W (.slice a ts.length cap) ts) := fun W hW => by
              have b := B2.out.trans (hW.mono B2.out.size)
              exact ⟨(HX.out _ b).1.2.1, (HX.out _ b).2, HR.out.below hW⟩
            have HSW : Hid (w.heap.size ≤ w2.heap.size) := (HX.out _ B2.out).2.size
            have G2 : Hid (OwnC (w2.alloc (.cells #[] 87)) w2.heap.size (.slice (some ⟨w2.heap.size, 0, none⟩) 0 0) [] ∧ Below w2.heap.size w2 (w2.alloc (.cells #[] 87))) := ⟨OwnC.made w2 _ (Nat.le_refl _), bel_new _ _⟩
            clear h8 HX HR B1 B2 HRL
            go_wp2_with fail
            generalize w2.alloc (.cells #[] 87) = ws at G2 ⊢
            go_loopw [8, 9] (fun b i wr => ∃ (k : Nat) (ps : List (Ct × Value)), k ≤ ts.length ∧ i = .int .i64 k ∧ Hid (GoodC n x.vw ts k ∧ ps.map (·.1) = (ts.take k).map ct ∧ OwnC wr w2.heap.size b ps ∧ Below w2.heap.size w2 wr)) (fun _ i _ => ts.length - (intOf i).toNat)
            case atStart => exact ⟨0, [], by omega, rfl, ⟨GoodC.zero n x.vw ts, rfl, G2.out.1, G2.out.2⟩⟩
            case round =>
              obtain ⟨k, ps, hk, rfl, HZ⟩ := hrel
              obtain ⟨oa, ocap, rfl⟩ := HZ.out.2.2.1.slice
              have HPK : Hid (ps.length = k) := by
                show _ = _
                have := congrArg List.length HZ.out.2.1
                rw [List.length_map, List.length_map, List.length_take] at this
                omega
              by_cases hlt : k < ts.length
              · obtain ⟨a', cap', he, hc⟩ := (HXB.out _ HZ.out.2.2.2).2.2
                rcases hc with hc | ⟨b, off, rfl, _, hbl, hcell⟩
                · exact absurd hlt (by rw [hc]; simp)
                cases he
                have c0 := hcell k hlt
                have HTT : Hid (ts[k]? = some (tnth ts k)) := Rc.at_some hlt
                have HONE : Hid (OneC n x.vw ts k ↔ (okC n (tnth ts k) = true ∧ lastS ts k < (hd (ct (tnth ts k))).sq ∧ (hd (ct (tnth ts k))).vw < x.vw)) := Iff.rfl
                have HPL : Hid (ps.length ≤ 1000000) := by show _ ≤ _; rw [HPK.out]; omega
                have HMT : Hid ((ts.take (k + 1)).map ct = (ts.take k).map ct ++ [ct (tnth ts k)]) := map_take HTT.out
                have HRD0 := fun W => l06Read_any (tnth ts k) W (by have := HRS.out _ (mem_at HTT.out); omega)
                have HRD : Hid (∀ W, Calls Tryz.prog 95 #[.string (tnth ts k)] W fun e w' => ∃ vp, e = .returned (.tuple #[.agg #[.string (ct (tnth ts k)).bd, vp], .bool (rcOK (bys (tnth ts k)))]) ∧ OwnM w' W.heap.size vp (ct (tnth ts k)).ms ∧ Below W.heap.size W w') := HRD0
                have HOK : Hid (okC n (tnth ts k) = (rcOK (bys (tnth ts k)) && crtB n (ct (tnth ts k)).bd (ct (tnth ts k)).ms)) := rfl
                have HHD : Hid (crtB n (ct (tnth ts k)).bd (ct (tnth ts k)).ms = true → (ct (tnth ts k)).ms[0]? = some (hd (ct (tnth ts k)))) := fun h => (crt_hd h).1
                have HML : Hid ((ct (tnth ts k)).ms.length ≤ 1048576) := by
                  have : (rcMs (bys (tnth ts k))).length ≤ 7 := ms_seven _
                  show (rcMs (bys (tnth ts k))).length ≤ _
                  omega
                have HLS : Hid (∀ j, k = j + 1 → lastS ts k = (hd (ct (tnth ts j))).sq) := fun j hj => by rw [hj]; rfl
                have HL0 : Hid (k = 0 → lastS ts k = 0) := fun h => by rw [h]; rfl
                have HH1 : Hid (crtB n (ct (tnth ts k)).bd (ct (tnth ts k)).ms = true → 1 ≤ (hd (ct (tnth ts k))).sq) := fun h => (crt_hd h).2.1
                clear hcell HTT HRD0
                generalize tnth ts k = t at c0 HONE HMT HRD HOK HHD HML HH1
                generalize ct t = c at HONE HMT HRD HOK HHD HML HH1
                generalize rcOK (bys t) = ok1 at HRD HOK
                generalize okC n t = okt at HOK HONE
                go_wp2_with fail
                refine (HRD.out _).mono ?_
                rintro e w3 ⟨vp, rfl, o3, b3⟩
                obtain ⟨va, vcap, rfl⟩ := own_slice o3
                have HXC : Hid (∀ W, Below (w3.alloc (.cells #[.string c.bd, .slice va c.ms.length vcap] 87)).heap.size (w3.alloc (.cells #[.string c.bd, .slice va c.ms.length vcap] 87)) W → W.cell? ⟨w3.heap.size, 0, none⟩ = some (.string c.bd) ∧ W.cell? ⟨w3.heap.size, 1, none⟩ = some (.slice va c.ms.length vcap) ∧ OwnM W wr.heap.size (.slice va c.ms.length vcap) c.ms ∧ Below wr.heap.size wr W) := fun W hW => by
                  have h1 := (hW.block w3.heap.size (by simp)).trans (heap_alloc_new w3 _)
                  exact ⟨(blk_cell h1 0 rfl).1, (blk_cell h1 1 rfl).1, (o3.below (bel_new _ _)).below hW, b3.trans (((bel_new w3 _).trans (hW.mono (by simp))).mono b3.size)⟩
                clear o3 b3
                go_upto_region 11 with fail
                generalize w3.alloc (.cells #[.string c.bd, .slice va c.ms.length vcap] 87) = wc at HXC ⊢
                obtain ⟨X2, hX2, W, QI0, QO0⟩ := Qc.klass wc
                have QI : Hid (∀ w', Below wc.heap.size wc w' → ∃ x, w' = W x) := QI0
                have QO : Hid (∀ x, Below wc.heap.size wc (W x)) := QO0
                have QR : Hid (∀ q, Below wr.heap.size wr (W q)) := fun q => (HXC.out _ (QO.out q)).2.2.2
                have QM : Hid (∀ q, OwnM (W q) wr.heap.size (.slice va c.ms.length vcap) c.ms) := fun q => (HXC.out _ (QO.out q)).2.2.1
                have QZ : Hid (∀ q, Below w2.heap.size w2 (W q)) := fun q => HZ.out.2.2.2.trans ((QR.out q).mono HZ.out.2.2.2.size)
                have QB : Hid (∀ q, Below w.heap.size w (W q)) := fun q => (HXB.out _ (QZ.out q)).2.1
                have QOC : Hid (∀ q, OwnC (W q) w2.heap.size (.slice oa ps.length ocap) ps) := fun q => HZ.out.2.2.1.below (QR.out q)
                clear QI0 QO0 c0
                have y1 := fun q => (HXB.out _ (QZ.out q)).1
                have k0 := fun q => (HXC.out _ (QO.out q)).1
                have k1 := fun q => (HXC.out _ (QO.out q)).2.1
                have HLC : Hid (∀ W, OwnM W wr.heap.size (.slice va c.ms.length vcap) c.ms → Calls Tryz.prog 64 #[.int .i64 n, .agg #[.string c.bd, .slice va c.ms.length vcap]] W fun e w' => e = .returned (.bool (crtB n c.bd c.ms)) ∧ Below W.heap.size W w') := fun W ho => l06Cert_any n c.bd _ c.ms W HFC.out ho.row HML.out
                cases ok1 with
                | false =>
                  have HF : Hid (cfB n x.vw x = false) := cf_no HOKL.out (rs_no hlt (fun hh => by have := (HONE.out.1 hh).1; rw [HOK.out] at this; cases this))
                  refine Qc.region_class (W := W) (by kernel_rfl) (by kernel_rfl) (QI.out _ Qc.from_drew) ?_
                  repeat (go_big_quiet_step (first | (go_at_call 64; refine (HLC.out _ (QM.out _)).mono ?_; rintro e w2 ⟨rfl, b2⟩; exact ⟨rfl, Qc.back QI.out QO.out b2⟩)))
                  refine wpQuiet_nil ?_
                  rintro _ ⟨xq, rfl⟩
                  have G2 : Hid (Below w.heap.size w (W xq)) := (QB.out xq)
                  clear y1 k0 k1 
                  generalize W xq = wq at G2 ⊢
                  go_wp2_with fail
                  go_ret2
                  exact ⟨_, ret_vb HF.out.symm, ⟨[], cfL_no HF.out, OwnC.made wq _ G2.out.size⟩, G2.out.alloc G2.out.size _⟩
                | true =>
                  rw [Bool.true_and] at HOK
                  cases ec : crtB n c.bd c.ms with
                  | false =>
                    rw [ec] at HLC HOK
                    clear ec
                    have HF : Hid (cfB n x.vw x = false) := cf_no HOKL.out (rs_no hlt (fun hh => by have := (HONE.out.1 hh).1; rw [HOK.out] at this; cases this))
                    refine Qc.region_class (W := W) (by kernel_rfl) (by kernel_rfl) (QI.out _ Qc.from_drew) ?_
                    repeat (go_big_quiet_step (first | (go_at_call 64; refine (HLC.out _ (QM.out _)).mono ?_; rintro e w2 ⟨rfl, b2⟩; exact ⟨rfl, Qc.back QI.out QO.out b2⟩)))
                    refine wpQuiet_nil ?_
                    rintro _ ⟨xq, rfl⟩
                    have G2 : Hid (Below w.heap.size w (W xq)) := (QB.out xq)
                    clear y1 k0 k1 
                    generalize W xq = wq at G2 ⊢
                    go_wp2_with fail
                    go_ret2
                    exact ⟨_, ret_vb HF.out.symm, ⟨[], cfL_no HF.out, OwnC.made wq _ G2.out.size⟩, G2.out.alloc G2.out.size _⟩
                  | true =>
                    have HH0 : Hid (c.ms[0]? = some (hd c) ∧ 1 ≤ (hd c).sq) := ⟨HHD.out ec, HH1.out ec⟩
                    rw [ec] at HLC HOK
                    clear ec
                    have hn0 : (0 : Int) < (c.ms.length : Int) := by have := lt_at HH0.out.1; omega
                    obtain ⟨b2, off2, rfl, _, _⟩ := RowG.at (OwnM.row (HXC.out wc (Below.refl _ _)).2.2.1) rfl HH0.out.1
                    have HE : Hid (∀ q, E1 (W q) b2 (off2 + 0 * 7) (hd c)) := fun q => by
                      obtain ⟨b', off', e, _, E⟩ := RowG.at (OwnM.row (QM.out q)) rfl HH0.out.1
                      cases e
                      exact E
                    have z1 : ∀ q, (W q).cell? ⟨b2, off2 + 1, none⟩ = some (.int .i64 (hd c).vw) := fun q => by have := (HE.out q).2.1; simpa using this
                    have z2 : ∀ q, (W q).cell? ⟨b2, off2 + 2, none⟩ = some (.int .i64 (hd c).sq) := fun q => by have := (HE.out q).2.2.1; simpa using this
                    by_cases e4 : x.vw ≤ (hd c).vw
                    · have f4 : decide (x.vw ≤ (hd c).vw) = true := decide_eq_true e4
                      have HF : Hid (cfB n x.vw x = false) := cf_no HOKL.out (rs_no hlt (fun hh => by have := (HONE.out.1 hh).2.2; omega))
                      refine Qc.region_class (W := W) (by kernel_rfl) (by kernel_rfl) (QI.out _ Qc.from_drew) ?_
                      repeat (go_big_quiet_step (first | (go_at_call 64; refine (HLC.out _ (QM.out _)).mono ?_; rintro e w2 ⟨rfl, b2⟩; exact ⟨rfl, Qc.back QI.out QO.out b2⟩)))
                      refine wpQuiet_nil ?_
                      rintro _ ⟨xq, rfl⟩
                      have G2 : Hid (Below w.heap.size w (W xq)) := (QB.out xq)
                      clear y1 k0 k1 z1 z2
                      generalize W xq = wq at G2 ⊢
                      go_wp2_with fail
                      go_ret2
                      exact ⟨_, ret_vb HF.out.symm, ⟨[], cfL_no HF.out, OwnC.made wq _ G2.out.size⟩, G2.out.alloc G2.out.size _⟩
                    · have f4 : decide (x.vw ≤ (hd c).vw) = false := decide_eq_false e4
                      have HAP : Hid (∀ q ∈ ps, ∀ g, q.2.ownBlock = some g → (Value.slice (some ⟨b2, off2, none⟩) c.ms.length vcap).ownBlock ≠ some g) := fun q hq g hg e => by
                        have h1 := ((HZ.out.2.2.1.mem q hq).lt g hg).2
                        have h2 := ((HXC.out wc (Below.refl _ _)).2.2.1.lt g e).1
                        omega
                      have HMM : Hid ((ps ++ [(c, Value.slice (some ⟨b2, off2, none⟩) c.ms.length vcap)]).map (·.1) = (ts.take (k + 1)).map ct) := by show _ = _; rw [List.map_append, HZ.out.2.1, HMT.out]; rfl
                      by_cases hk0 : k = 0
                      · have HG2 : Hid (GoodC n x.vw ts (k + 1)) := HZ.out.1.succ (HONE.out.2 ⟨HOK.out, by rw [HL0.out hk0]; have := HH0.out.2; omega, by omega⟩)
                        subst hk0
                        clear e4
                        refine Qc.region_class (W := W) (by kernel_rfl) (by kernel_rfl) (QI.out _ Qc.from_drew) ?_
                        repeat (go_big_quiet_step (first | (go_at_call 64; refine (HLC.out _ (QM.out _)).mono ?_; rintro e w2 ⟨rfl, b2⟩; exact ⟨rfl, Qc.back QI.out QO.out b2⟩)))
                        refine wpQuiet_nil ?_
                        rintro _ ⟨xq, rfl⟩
                        have G2 : Hid (Below wc.heap.size wc (W xq)) := QO.out xq
                        have K6 : Hid ((W xq).cell? ⟨w3.heap.size, 0, none⟩ = some (.string c.bd) ∧ (W xq).cell? ⟨w3.heap.size, 1, none⟩ = some (.slice (some ⟨b2, off2, none⟩) c.ms.length vcap)) := ⟨k0 xq, k1 xq⟩
                        have O6 : Hid (OwnC (W xq) w2.heap.size (.slice oa ps.length ocap) ps ∧ Below w2.heap.size w2 (W xq) ∧ OwnM (W xq) w2.heap.size (.slice (some ⟨b2, off2, none⟩) c.ms.length vcap) c.ms) := ⟨QOC.out xq, QZ.out xq, (QM.out xq).mono HZ.out.2.2.2.size⟩
                        clear y1 k0 k1 z1 z2
                        generalize W xq = w6 at G2 K6 O6 ⊢
                        obtain ⟨k0, k1⟩ := K6.out
                        go_wp2_with (at_builtin; go_must (refine list_cert (by rfl) _ _ 53 (by rfl) i0 Tryz.underlying53 hi0 hz0 hz1 hz2 w2.heap.size w2 w6 _ ps (c, .slice (some ⟨b2, off2, none⟩) c.ms.length vcap) (by rfl) (by rfl) O6.out.1 O6.out.2.2 HAP.out O6.out.2.1 O6.out.2.1.size _ (by rfl) (by rfl) HPL.out ?_; intro v7 w7 o7 b7 _))
                        exact ⟨⟨0 + 1, ps ++ [(c, .slice (some ⟨b2, off2, none⟩) c.ms.length vcap)], by omega, by go_num, ⟨HG2.out, HMM.out, o7, b7⟩⟩, by simp [intOf]; omega⟩
                      · obtain ⟨j, rfl⟩ : ∃ j, k = j + 1 := ⟨k - 1, by omega⟩
                        obtain ⟨p, hp, hpc⟩ := one_at HZ.out.2.1 hk (show j < j + 1 by omega)
                        have HLJ := HLS.out j rfl
                        have HP0 := (ok_hd (HZ.out.1 j (by omega)).1).1
                        rw [← hpc] at HLJ HP0
                        obtain ⟨go, rfl, _, _, _, _⟩ := HZ.out.2.2.1.at hp
                        obtain ⟨pa, pcap, hps⟩ := own_slice (HZ.out.2.2.1.mem p (mem_at hp))
                        have HPM : Hid (∀ q, OwnM (W q) w2.heap.size (.slice pa p.1.ms.length pcap) p.1.ms) := fun q => by have := (QOC.out q).mem p (mem_at hp); rw [hps] at this; exact this
                        obtain ⟨bp, offp, rfl, _, _⟩ := RowG.at (by have := (HZ.out.2.2.1.mem p (mem_at hp)).row; rw [hps] at this; exact this) rfl HP0
                        have z3 : ∀ q, (W q).cell? ⟨go, j * 2 + 1, none⟩ = some (.slice (some ⟨bp, offp, none⟩) p.1.ms.length pcap) := fun q => by
                          obtain ⟨g', e, _, _, _, E⟩ := (QOC.out q).at hp
                          cases e
                          rw [hps] at E
                          exact E
                        have z4 : ∀ q, (W q).cell? ⟨bp, offp + 2, none⟩ = some (.int .i64 (hd p.1).sq) := fun q => by
                          obtain ⟨b', off', e, _, E⟩ := RowG.at (OwnM.row (HPM.out q)) rfl HP0
                          cases e
                          have := E.2.2.1
                          simpa using this
                        have hn1 : (0 : Int) < (p.1.ms.length : Int) := by have := lt_at HP0; omega
                        have q1 : (0 : Int) < (j : Int) + 1 := by omega
                        have q2 : (j : Int) + 1 < (ts.length : Int) := by omega
                        have q3 : (j : Int) < (ps.length : Int) := by have := HPK.out; omega
                        have HLJ2 : Hid (lastS ts (j + 1) = (hd p.1).sq) := HLJ
                        clear HLJ HP0 hp hpc hps HPM
                        by_cases e5 : (hd c).sq ≤ (hd p.1).sq
                        · have f5 : decide ((hd c).sq ≤ (hd p.1).sq) = true := decide_eq_true e5
                          have HF : Hid (cfB n x.vw x = false) := cf_no HOKL.out (rs_no hlt (fun hh => by have := (HONE.out.1 hh).2.1; rw [HLJ2.out] at this; omega))
                          refine Qc.region_class (W := W) (by kernel_rfl) (by kernel_rfl) (QI.out _ Qc.from_drew) ?_
                          repeat (go_big_quiet_step (first | (go_at_call 64; refine (HLC.out _ (QM.out _)).mono ?_; rintro e w2 ⟨rfl, b2⟩; exact ⟨rfl, Qc.back QI.out QO.out b2⟩)))
                          refine wpQuiet_nil ?_
                          rintro _ ⟨xq, rfl⟩
                          have G2 : Hid (Below w.heap.size w (W xq)) := (QB.out xq)
                          clear y1 k0 k1 z1 z2 z3 z4
                          generalize W xq = wq at G2 ⊢
                          go_wp2_with fail
                          go_ret2
                          exact ⟨_, ret_vb HF.out.symm, ⟨[], cfL_no HF.out, OwnC.made wq _ G2.out.size⟩, G2.out.alloc G2.out.size _⟩
                        · have f5 : decide ((hd c).sq ≤ (hd p.1).sq) = false := decide_eq_false e5
                          have HG2 : Hid (GoodC n x.vw ts (j + 1 + 1)) := HZ.out.1.succ (HONE.out.2 ⟨HOK.out, by rw [HLJ2.out]; omega, by omega⟩)
                          clear e4 e5
                          refine Qc.region_class (W := W) (by kernel_rfl) (by kernel_rfl) (QI.out _ Qc.from_drew) ?_
                          repeat (go_big_quiet_step (first | (go_at_call 64; refine (HLC.out _ (QM.out _)).mono ?_; rintro e w2 ⟨rfl, b2⟩; exact ⟨rfl, Qc.back QI.out QO.out b2⟩)))
                          refine wpQuiet_nil ?_
                          rintro _ ⟨xq, rfl⟩
                          have G2 : Hid (Below wc.heap.size wc (W xq)) := QO.out xq
                          have K6 : Hid ((W xq).cell? ⟨w3.heap.size, 0, none⟩ = some (.string c.bd) ∧ (W xq).cell? ⟨w3.heap.size, 1, none⟩ = some (.slice (some ⟨b2, off2, none⟩) c.ms.length vcap)) := ⟨k0 xq, k1 xq⟩
                          have O6 : Hid (OwnC (W xq) w2.heap.size (.slice (some ⟨go, 0, none⟩) ps.length ocap) ps ∧ Below w2.heap.size w2 (W xq) ∧ OwnM (W xq) w2.heap.size (.slice (some ⟨b2, off2, none⟩) c.ms.length vcap) c.ms) := ⟨QOC.out xq, QZ.out xq, (QM.out xq).mono HZ.out.2.2.2.size⟩
                          clear y1 k0 k1 z1 z2 z3 z4
                          generalize W xq = w6 at G2 K6 O6 ⊢
                          obtain ⟨k0, k1⟩ := K6.out
                          go_wp2_with (at_builtin; go_must (refine list_cert (by rfl) _ _ 53 (by rfl) i0 Tryz.underlying53 hi0 hz0 hz1 hz2 w2.heap.size w2 w6 _ ps (c, .slice (some ⟨b2, off2, none⟩) c.ms.length vcap) (by rfl) (by rfl) O6.out.1 O6.out.2.2 HAP.out O6.out.2.1 O6.out.2.1.size _ (by rfl) (by rfl) HPL.out ?_; intro v7 w7 o7 b7 _))
                          exact ⟨⟨j + 1 + 1, ps ++ [(c, .slice (some ⟨b2, off2, none⟩) c.ms.length vcap)], by omega, by go_num, ⟨HG2.out, HMM.out, o7, b7⟩⟩, by simp [intOf]; omega⟩
              · obtain rfl : k = ts.length := by omega
                have HF : Hid (cfB n x.vw x = true) := HCF.out trivial (rs_yes HZ.out.1)
                have HL2 : Hid (ps.map (·.1) = cfL n x) := by show _ = _; rw [cfL_yes HF.out, HCR.out, HZ.out.2.1, List.take_length]
                have HO2 : Hid (OwnC wr w.heap.size (.slice oa ps.length ocap) ps) := ⟨row_mono HZ.out.2.2.1.row HSW.out, fun p hp => (HZ.out.2.2.1.mem p hp).mono HSW.out, HZ.out.2.2.1.apart⟩
                go_wp2_with fail
                go_ret2
                exact ⟨_, ret_vb HF.out.symm, ⟨ps, HL2.out, HO2.out⟩, (HXB.out _ HZ.out.2.2.2).2.1⟩
  · have f1 : (x.kd != 4) = true := by simp [e1]
    have HF : Hid (cfB n x.vw x = false) := bOf_false fun h => e1 h.2.1
    have HB : Hid (Below w.heap.size w (w.alloc (.cells #[.int .i64 x.kd, .int .i64 x.vw, .int .i64 x.sq, .int .i64 x.fr, .string x.dg, .string x.bd, .string x.mc] 59))) := bel_new _ _
    have OM : Hid (OwnC ((w.alloc (.cells #[.int .i64 x.kd, .int .i64 x.vw, .int .i64 x.sq, .int .i64 x.fr, .string x.dg, .string x.bd, .string x.mc] 59)).alloc (.cells #[] 87)) w.heap.size (.slice (some ⟨w.heap.size + 1, 0, none⟩) 0 0) []) := by
      have := OwnC.made (w.alloc (.cells #[.int .i64 x.kd, .int .i64 x.vw, .int .i64 x.sq, .int .i64 x.fr, .string x.dg, .string x.bd, .string x.mc] 59)) w.heap.size HB.out.size
      rw [Rg.size_new] at this
      exact this
    clear e1 HX
    go_enter Tryz.func65, Tryz.ntmps65
    go_wp2_with fail
    go_ret2
    exact ⟨_, ret_vb HF.out.symm, ⟨[], cfL_no HF.out, OM.out⟩, HB.out.alloc HB.out.size _⟩
end Go.Proofs.YtondmbeccpekiaaGreatDoor.Wc

/- Right replicas: plain facts. -/
namespace Go.Proofs.YtondmbeccpekiaaGreatDoor.Yr
open Go.RowKit Go.Proofs.YtondmbeccpekiaaGreatDoor.Rg Go.Proofs.YtondmbeccpekiaaGreatDoor.Gm Go.Proofs.YtondmbeccpekiaaGreatDoor.Ty Go.Proofs.YtondmbeccpekiaaGreatDoor.Tm
open Go.Proofs.YtondmbeccpekiaaGreatDoor.Vt (bOf bOf_true bOf_false bOf_iff bOf_eq sg sg_from frn msk msk_step or_add pow_le7 Rise crtB CertP crt_q q_pos)
open Go.Proofs.YtondmbeccpekiaaGreatDoor.Bw (bdP bdB)
open Go.Proofs.YtondmbeccpekiaaGreatDoor.Wc (cfB vcC)
open Go.Proofs.YtondmbeccpekiaaGreatDoor.Qm (qOut inB)

def Nod (x : Mg) : Prop := x.fr = (frn x : Int) ∧ frn x < 7
theorem nod_sg {n : Int} {x : Mg} (h : sg n x = true) : Nod x := by
  obtain ⟨_, i, e, hi⟩ := sg_from h
  unfold Nod frn
  rw [e]
  exact ⟨by simp, by simpa using hi⟩
def GoodF (ms : List Mg) (k : Nat) : Prop := ∀ j x, j < k → ms[j]? = some x → msk ms j < 2 ^ frn x
theorem GoodF.zero (ms : List Mg) : GoodF ms 0 := fun j x h => by omega
theorem GoodF.succ {ms : List Mg} {k : Nat} {x : Mg} (h : GoodF ms k) (hx : ms[k]? = some x) (h2 : msk ms k < 2 ^ frn x) : GoodF ms (k + 1) := fun j y hj hy => by
  by_cases e : j = k
  · subst e; rw [hx] at hy; cases hy; exact h2
  · exact h j y (by omega) hy
theorem GoodF.less {ms : List Mg} {k m : Nat} (h : GoodF ms k) (hm : m ≤ k) : GoodF ms m := fun j y hj hy => h j y (by omega) hy
theorem goodF_msk {ms : List Mg} (hN : ∀ x ∈ ms, Nod x) : ∀ {k : Nat}, GoodF ms k → k ≤ ms.length → msk ms k < 128 ∧ ∀ i, i ≤ 7 → ((∀ j x, j < k → ms[j]? = some x → frn x < i) ↔ msk ms k < 2 ^ i)
  | 0, _, _ => ⟨by show (0 : Nat) < 128; decide, fun i _ => ⟨fun _ => Nat.two_pow_pos i, fun _ j x h => by omega⟩⟩
  | k + 1, h, hk => by
    obtain ⟨x, hx⟩ := Rg.get_at (show k < ms.length by omega)
    obtain ⟨h1, h3⟩ := goodF_msk hN (h.less (Nat.le_succ k)) (by omega)
    have g2 := h k x (by omega) hx
    have g3 := (hN x (mem_at hx)).2
    rw [msk_step hx]
    have e := or_add g2
    have p := pow_le7 g3
    refine ⟨by omega, fun i hi => ?_⟩
    rw [e]
    constructor
    · intro hh
      have hf := hh k x (by omega) hx
      have : 2 ^ (frn x + 1) ≤ 2 ^ i := Nat.pow_le_pow_right (by decide) hf
      rw [Nat.pow_succ] at this
      omega
    · intro hh j y hj hy
      have hfi : frn x < i := by
        refine Nat.lt_of_not_le fun hle => ?_
        have : 2 ^ i ≤ 2 ^ frn x := Nat.pow_le_pow_right (by decide) hle
        omega
      by_cases ej : j = k
      · subst ej; rw [hx] at hy; cases hy; exact hfi
      · exact Nat.lt_trans ((h3 (frn x) (by omega)).2 g2 j y (by omega) hy) hfi
theorem goodF_all {ms : List Mg} (hN : ∀ x ∈ ms, Nod x) : ∀ {k : Nat}, k ≤ ms.length → (GoodF ms k ↔ Rise ms k)
  | 0, _ => ⟨fun _ => fun j x y h => by omega, fun _ => GoodF.zero ms⟩
  | k + 1, hk => by
    obtain ⟨x, hx⟩ := Rg.get_at (show k < ms.length by omega)
    have ih := goodF_all hN (show k ≤ ms.length by omega)
    constructor
    · intro h
      have a2 := ih.1 (h.less (Nat.le_succ k))
      intro j y z hj hy hz
      by_cases ej : j + 1 = k
      · subst ej
        rw [hx] at hz; cases hz
        have g2 := h (j + 1) x (by omega) hx
        have := ((goodF_msk hN (h.less (Nat.le_succ (j + 1))) (by omega)).2 (frn x) (by have := (hN x (mem_at hx)).2; omega)).2 g2 j y (by omega) hy
        rw [(hN y (mem_at hy)).1, (hN x (mem_at hx)).1]
        omega
      · exact a2 j y z (by omega) hy hz
    · intro a2
      have h := ih.2 fun j y z hj hy hz => a2 j y z (by omega) hy hz
      refine h.succ hx ?_
      obtain ⟨_, h3⟩ := goodF_msk hN h (by omega)
      refine (h3 (frn x) (by have := (hN x (mem_at hx)).2; omega)).1 fun j y hj hy => ?_
      by_cases ek : k = 0
      · omega
      obtain ⟨m, rfl⟩ : ∃ m, k = m + 1 := ⟨k - 1, by omega⟩
      obtain ⟨z, hz⟩ := Rg.get_at (show m < ms.length by omega)
      have hzx := a2 m z x (by omega) hz hx
      have hzx' : frn z < frn x := by rw [(hN z (mem_at hz)).1, (hN x (mem_at hx)).1] at hzx; omega
      by_cases ej : j = m
      · subst ej; rw [hz] at hy; cases hy; exact hzx'
      · have hp := h m z (by omega) hz
        have := ((goodF_msk hN (h.less (Nat.le_succ m)) (by omega)).2 (frn z) (by have := (hN z (mem_at hz)).2; omega)).2 hp j y (by omega) hy
        omega
theorem rise_from {ms : List Mg} (h0 : ∀ x ∈ ms, 0 ≤ x.fr) (h : Rise ms ms.length) : ∀ {k : Nat} {x : Mg}, ms[k]? = some x → (k : Int) ≤ x.fr
  | 0, x, hx => by have := h0 x (mem_at hx); omega
  | k + 1, x, hx => by
    obtain ⟨y, hy⟩ := Rg.get_at (show k < ms.length by have := lt_at hx; omega)
    have := rise_from h0 h hy
    have := h k y x (lt_at hx) hy hx
    omega
theorem rise_few {ms : List Mg} {n : Int} (h0 : ∀ x ∈ ms, 0 ≤ x.fr ∧ x.fr < n) (hn : 0 ≤ n) (h : Rise ms ms.length) : (ms.length : Int) ≤ n := by
  by_cases e : ms.length = 0
  · omega
  obtain ⟨x, hx⟩ := Rg.get_at (xs := ms) (k := ms.length - 1) (by omega)
  have := rise_from (fun x hx => (h0 x hx).1) h hx
  have := (h0 x (mem_at hx)).2
  omega
def OneV (n kd vw sq : Int) (x : Mg) : Prop := x.kd = kd ∧ x.vw = vw ∧ x.sq = sq ∧ sg n x = true
def CastP (n kd vw sq : Int) (ms : List Mg) : Prop := (∀ x ∈ ms, OneV n kd vw sq x) ∧ Rise ms ms.length
noncomputable def castB (n kd vw sq : Int) (ms : List Mg) : Bool := bOf (CastP n kd vw sq ms)
theorem cast_no {n kd vw sq : Int} {ms : List Mg} {k : Nat} {x : Mg} (hx : ms[k]? = some x) (h : ¬ OneV n kd vw sq x) : castB n kd vw sq ms = false := bOf_false fun hh => h (hh.1 x (mem_at hx))
theorem cast_rise {n kd vw sq : Int} {ms : List Mg} (h : ∀ x ∈ ms, OneV n kd vw sq x) : castB n kd vw sq ms = bOf (Rise ms ms.length) := by
  by_cases hr : Rise ms ms.length
  · rw [bOf_true hr]; exact bOf_true ⟨h, hr⟩
  · rw [bOf_false hr]; exact bOf_false fun hh => hr hh.2
theorem all_of {α : Type} {P : α → Prop} {xs : List α} (h : ∀ j x, j < xs.length → xs[j]? = some x → P x) : ∀ x ∈ xs, P x := fun x hx => by
  obtain ⟨j, hj, e⟩ := List.getElem_of_mem hx
  exact h j x hj (by rw [List.getElem?_eq_getElem hj, e])
theorem upto_succ {α : Type} {P : Nat → α → Prop} {xs : List α} {k : Nat} {x : α} (h : ∀ j y, j < k → xs[j]? = some y → P j y) (hx : xs[k]? = some x) (hp : P k x) : ∀ j y, j < k + 1 → xs[j]? = some y → P j y := fun j y hj hy => by
  by_cases e : j = k
  · subst e; rw [hx] at hy; cases hy; exact hp
  · exact h j y (by omega) hy
def SlotP (n vw : Int) (k : Nat) (s : St) : Prop := (s.bd.size = 0 ∨ bdP n s.bd = true) ∧ castB n 2 vw ((k : Int) + 1) s.ps = true ∧ castB n 3 vw ((k : Int) + 1) s.cs = true
def PlaceP (n vw : Int) (k : Nat) (c : Cx) : Prop := (c.bd.size = 0 ∧ c.ms = []) ∨ (crtB n c.bd c.ms = true ∧ ∃ x, c.ms[0]? = some x ∧ x.sq = (k : Int) + 1 ∧ x.vw ≤ vw)
def ChgP (n vw v0 : Int) (x : Mg) : Prop := cfB n x.vw x = true ∧ vw ≤ x.vw ∧ x.vw = v0
def RepP (r : Rp) : Prop := (fCode r.n = 0 ∧ 0 ≤ r.id ∧ r.id ≤ r.n - 1) ∧ (0 ≤ r.vw ∧ r.vw ≤ 20) ∧ (r.ss.length = 8 ∧ ∀ k s, k < 8 → r.ss[k]? = some s → SlotP r.n r.vw k s) ∧ (r.cs.length = 8 ∧ ∀ k c, k < 8 → r.cs[k]? = some c → PlaceP r.n r.vw k c) ∧ (r.lg.length ≤ 8 ∧ ∀ t ∈ r.lg, bdP r.n t = true) ∧ (∀ x ∈ r.ch, ∀ y, r.ch[0]? = some y → ChgP r.n r.vw y.vw x) ∧ Rise r.ch r.ch.length
noncomputable def repB (r : Rp) : Bool := bOf (RepP r)
theorem crt_nil {n : Int} {bd : ByteArray} : crtB n bd [] = false := bOf_false fun ⟨h1, h2, _⟩ => by have := (q_pos h1).1; simp at h2; omega
theorem crt_cons {n : Int} {bd : ByteArray} {ms : List Mg} (h : crtB n bd ms = true) : ∃ x, ms[0]? = some x := by
  cases ms with
  | nil => rw [crt_nil] at h; cases h
  | cons x l => exact ⟨x, rfl⟩
theorem cf_sg {n : Int} {v : Int} {x : Mg} (h : cfB n v x = true) : sg n x = true := (bOf_iff.1 h).1
theorem vc_cf {n : Int} {x : Mg} (h : fCode n = 0) : vcC n x = if cfB n x.vw x then 0 else 12 := by unfold vcC; rw [if_pos h]
theorem sg_in {n : Int} {x : Mg} (h : sg n x = true) : 0 ≤ x.fr ∧ x.fr < n := by
  obtain ⟨_, i, e, hi⟩ := sg_from h
  refine ⟨by omega, ?_⟩
  unfold sg Si.gB at h
  rw [Bool.and_eq_true] at h
  have h2 := h.2
  unfold Si.lB at h2
  rw [Bool.and_eq_true, Bool.and_eq_true, decide_eq_true_eq] at h2
  exact h2.2.1
theorem ch_few {r : Rp} (h : RepP r) : (r.ch.length : Int) ≤ r.n := by
  obtain ⟨⟨hf, h1, h2⟩, _, _, _, _, hc, hr⟩ := h
  refine rise_few (fun x hx => ?_) (by omega) hr
  obtain ⟨y, hy⟩ : ∃ y, r.ch[0]? = some y := Rg.get_at (by cases hh : r.ch with | nil => rw [hh] at hx; cases hx | cons a l => simp)
  exact sg_in (cf_sg (hc x hx y hy).1)
end Go.Proofs.YtondmbeccpekiaaGreatDoor.Yr
