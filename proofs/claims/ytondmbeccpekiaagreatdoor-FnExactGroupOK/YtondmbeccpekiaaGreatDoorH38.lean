/- Texts put together: Ye, Yd. -/
import Derived.Test.YtondmbeccpekiaaGreatDoorH37
import Derived.Test.YtondmbeccpekiaaGreatDoorH5
/- Right replicas: votes that rise, votes for a place, logs: the program. -/
namespace Go.Proofs.YtondmbeccpekiaaGreatDoor.Yr
open Go.RowKit Go.Proofs.YtondmbeccpekiaaGreatDoor.Rg Go.Proofs.YtondmbeccpekiaaGreatDoor.Gm Go.Proofs.YtondmbeccpekiaaGreatDoor.Ty Go.Proofs.YtondmbeccpekiaaGreatDoor.Tm Go.Proofs.YtondmbeccpekiaaGreatDoor.Sh
open Go.Proofs.YtondmbeccpekiaaGreatDoor.Vt (bOf bOf_true bOf_false bOf_iff bOf_eq sg sg_from frn msk msk_step or_add pow_le7 Rise crtB CertP crt_q q_pos allBelow_any with_any implCertOK_any ballotOf_any l06Cert_any)
open Go.Proofs.YtondmbeccpekiaaGreatDoor.Bw (bdP bdB implBodyOK_any l06Body_any)
open Go.Proofs.YtondmbeccpekiaaGreatDoor.Bd (dOut)
open Go.Proofs.YtondmbeccpekiaaGreatDoor.Wc (cfB vcC vcL cfL implViewCerts_any l06Certs_any OwnC)
open Go.Proofs.YtondmbeccpekiaaGreatDoor.Qm (qOut inB)

theorem ret_b {a b : Bool} (h : a = b) : Ending.returned (.bool a) = .returned (.bool b) := by rw [h]
set_option maxRecDepth 100000 in
set_option maxHeartbeats 1600000 in
theorem sendersRise_any (v : Value) (ms : List Mg) (w : World) (h : Row w v ms) (hN : ∀ x ∈ ms, Nod x) (hl : ms.length ≤ 1048576) :
    Calls Tryz.prog 135 #[v] w fun e w' => e = .returned (.bool (bOf (Rise ms ms.length))) ∧ Below w.heap.size w w' := by
  have HR : Hid (Row w v ms) := h
  have HN : Hid (∀ x ∈ ms, Nod x) := hN
  obtain ⟨a, cap, rfl⟩ := RowG.slice h
  clear h hN
  obtain ⟨bb, HBB⟩ : ∃ bb, Hid (bOf (Rise ms ms.length) = bb) := ⟨_, rfl⟩
  rw [HBB.out]
  go_enter Tryz.func135, Tryz.ntmps135
  go_wp2_with fail
  go_loopw [3, 8] (fun hd i wr => ∃ k : Nat, k ≤ ms.length ∧ hd = .int .u8 (msk ms k : Int) ∧ i = .int .i64 k ∧ Hid (GoodF ms k ∧ Below w.heap.size w wr)) (fun _ i _ => ms.length - (intOf i).toNat)
  case atStart => exact ⟨0, by omega, rfl, rfl, ⟨GoodF.zero ms, Below.refl _ _⟩⟩
  case round =>
    obtain ⟨k, hk, rfl, rfl, HZ⟩ := hrel
    by_cases hlt : k < ms.length
    · obtain ⟨x, hx⟩ := Rg.get_at hlt
      obtain ⟨b, off, rfl, hbl, c0, c1, c2, c3, c4, c5, c6⟩ := RowG.at (HR.out.below HZ.out.2) rfl hx
      have hmk : msk ms k < 128 := (goodF_msk HN.out HZ.out.1 hk).1
      obtain ⟨hfi, hi7⟩ := HN.out x (mem_at hx)
      have HAB : Hid (∀ W, Calls Tryz.prog 150 #[.int .u8 (msk ms k : Int), .int .i64 (frn x : Int)] W fun e w' => e = .returned (.bool (decide (msk ms k < 2 ^ frn x))) ∧ W = w') := fun W => allBelow_any _ _ W hmk hi7
      have HWI : Hid (∀ W, Calls Tryz.prog 151 #[.int .u8 (msk ms k : Int), .int .i64 (frn x : Int)] W fun e w' => e = .returned (.int .u8 ((msk ms k ||| 2 ^ frn x : Nat) : Int)) ∧ W = w') := fun W => with_any _ _ W hmk hi7
      rw [hfi] at c3
      have HBW : Hid (∀ o, Below w.heap.size w (wr.alloc o)) := fun o => HZ.out.2.alloc HZ.out.2.size _
      by_cases hlt2 : msk ms k < 2 ^ frn x
      · have hd2 : decide (msk ms k < 2 ^ frn x) = true := decide_eq_true hlt2
        have HG2 : Hid (GoodF ms (k + 1)) := HZ.out.1.succ hx hlt2
        have HMS : Hid (msk ms (k + 1) = msk ms k ||| 2 ^ frn x) := msk_step hx
        rw [hd2] at HAB
        clear hlt2 hd2 hx hfi hi7 hmk
        generalize frn x = f at HAB HWI HMS c3
        generalize msk ms k = h at HAB HWI HMS
        go_wp2_with fail
        refine (HAB.out _).mono ?_
        rintro e w4 ⟨rfl, rfl⟩
        go_wp2_with fail
        refine (HWI.out _).mono ?_
        rintro e w6 ⟨rfl, rfl⟩
        go_wp2_with fail
        exact ⟨⟨k + 1, by omega, by rw [HMS.out], by go_num, ⟨HG2.out, HBW.out _⟩⟩, by simp [intOf]; omega⟩
      · have hd2 : decide (msk ms k < 2 ^ frn x) = false := decide_eq_false hlt2
        have HF : Hid (bb = false) := by show _ = _; rw [← HBB.out]; exact bOf_false fun hr => hlt2 (((goodF_all HN.out (Nat.le_refl _)).2 hr) k x hlt hx)
        rw [hd2] at HAB
        clear hlt2 hd2 hx hfi hi7 hmk
        generalize frn x = f at HAB HWI c3
        generalize msk ms k = h at HAB HWI
        go_wp2_with fail
        refine (HAB.out _).mono ?_
        rintro e w4 ⟨rfl, rfl⟩
        go_wp2_with fail
        go_ret
        exact ⟨ret_b HF.out.symm, HBW.out _⟩
    · obtain rfl : k = ms.length := by omega
      have HT : Hid (bb = true) := by show _ = _; rw [← HBB.out]; exact bOf_true ((goodF_all HN.out (Nat.le_refl _)).1 HZ.out.1)
      go_wp2_with fail
      go_ret
      exact ⟨ret_b HT.out.symm, HZ.out.2⟩
set_option maxRecDepth 100000 in
set_option maxHeartbeats 1600000 in
theorem castOK_any (n kd vw sq : Int) (v : Value) (ms : List Mg) (w : World) (h : Row w v ms) (hl : ms.length ≤ 1048576) (hK : KTab w) (hp : 0 < w.heap.size) :
    Calls Tryz.prog 131 #[.int .i64 n, .int .i64 kd, .agg #[.int .i64 0, .int .i64 vw, .int .i64 sq, .int .i64 0, .string ⟨#[]⟩, .string ⟨#[]⟩, .string ⟨#[]⟩], v] w fun e w' => e = .returned (.bool (castB n kd vw sq ms)) ∧ Below w.heap.size w w' := by
  have HR : Hid (Row w v ms) := h
  obtain ⟨a, cap, rfl⟩ := RowG.slice h
  have GK : Hid (∀ W, Below w.heap.size w W → KTab W ∧ 0 < W.heap.size) := fun W hW => ⟨hK.below hW hp, Nat.lt_of_lt_of_le hp hW.size⟩
  have HP : Hid (∀ W, Below (w.alloc (.cells #[.int .i64 0, .int .i64 vw, .int .i64 sq, .int .i64 0, .string ⟨#[]⟩, .string ⟨#[]⟩, .string ⟨#[]⟩] 59)).heap.size (w.alloc (.cells #[.int .i64 0, .int .i64 vw, .int .i64 sq, .int .i64 0, .string ⟨#[]⟩, .string ⟨#[]⟩, .string ⟨#[]⟩] 59)) W → (W.cell? ⟨w.heap.size, 1, none⟩ = some (.int .i64 vw) ∧ W.cell? ⟨w.heap.size, 2, none⟩ = some (.int .i64 sq)) ∧ Below w.heap.size w W) := fun W hW => by
    have h1 := (hW.block w.heap.size (by simp)).trans (heap_alloc_new w _)
    exact ⟨⟨(blk_cell h1 1 rfl).1, (blk_cell h1 2 rfl).1⟩, (bel_new w _).trans (hW.mono (by simp))⟩
  clear h hK hp
  obtain ⟨bb, HBB⟩ : ∃ bb, Hid (castB n kd vw sq ms = bb) := ⟨_, rfl⟩
  rw [HBB.out]
  have HSR : Hid (∀ W, Below w.heap.size w W → (∀ x ∈ ms, OneV n kd vw sq x) → Calls Tryz.prog 135 #[.slice a ms.length cap] W fun e w' => e = .returned (.bool bb) ∧ Below W.heap.size W w') := fun W hW hall => by
    have := sendersRise_any (.slice a ms.length cap) ms W (HR.out.below hW) (fun x hx => nod_sg (hall x hx).2.2.2) hl
    rw [← cast_rise hall, HBB.out] at this
    exact this
  go_enter Tryz.func131, Tryz.ntmps131
  go_upto_region 1 with fail
  generalize w.alloc (.cells #[.int .i64 0, .int .i64 vw, .int .i64 sq, .int .i64 0, .string ⟨#[]⟩, .string ⟨#[]⟩, .string ⟨#[]⟩] 59) = wb at HP ⊢
  go_wp2_with fail
  go_loopw [13] (fun i wr => ∃ k : Nat, k ≤ ms.length ∧ i = .int .i64 k ∧ Hid ((∀ j x, j < k → ms[j]? = some x → OneV n kd vw sq x) ∧ Below wb.heap.size wb wr)) (fun i _ => ms.length - (intOf i).toNat)
  case atStart => exact ⟨0, by omega, rfl, ⟨fun j x hj => by omega, Below.refl _ _⟩⟩
  case round =>
    obtain ⟨k, hk, rfl, HZ⟩ := hrel
    by_cases hlt : k < ms.length
    · obtain ⟨x, hx⟩ := Rg.get_at hlt
      obtain ⟨b, off, rfl, hbl, c0, c1, c2, c3, c4, c5, c6⟩ := RowG.at ((HR.out.below (HP.out _ HZ.out.2).2)) rfl hx
      have HX : Hid (ms[k]? = some x) := hx
      have HA : Hid (∀ W, Below (wr.alloc (.cells #[.int .i64 x.kd, .int .i64 x.vw, .int .i64 x.sq, .int .i64 x.fr, .string x.dg, .string x.bd, .string x.mc] 59)).heap.size (wr.alloc (.cells #[.int .i64 x.kd, .int .i64 x.vw, .int .i64 x.sq, .int .i64 x.fr, .string x.dg, .string x.bd, .string x.mc] 59)) W → (W.cell? ⟨wr.heap.size, 0, none⟩ = some (.int .i64 x.kd) ∧ W.cell? ⟨wr.heap.size, 1, none⟩ = some (.int .i64 x.vw) ∧ W.cell? ⟨wr.heap.size, 2, none⟩ = some (.int .i64 x.sq) ∧ W.cell? ⟨wr.heap.size, 3, none⟩ = some (.int .i64 x.fr) ∧ W.cell? ⟨wr.heap.size, 4, none⟩ = some (.string x.dg) ∧ W.cell? ⟨wr.heap.size, 5, none⟩ = some (.string x.bd) ∧ W.cell? ⟨wr.heap.size, 6, none⟩ = some (.string x.mc)) ∧ Below wb.heap.size wb W) := fun W hW => by
        have h1 := (hW.block wr.heap.size (by simp)).trans (heap_alloc_new wr _)
        exact ⟨⟨(blk_cell h1 0 rfl).1, (blk_cell h1 1 rfl).1, (blk_cell h1 2 rfl).1, (blk_cell h1 3 rfl).1, (blk_cell h1 4 rfl).1, (blk_cell h1 5 rfl).1, (blk_cell h1 6 rfl).1⟩, HZ.out.2.trans (((bel_new wr _).trans (hW.mono (by simp))).mono HZ.out.2.size)⟩
      have HMS : Hid (∀ W, Below w.heap.size w W → Calls Tryz.prog 37 #[.int .i64 n, .agg #[.int .i64 x.kd, .int .i64 x.vw, .int .i64 x.sq, .int .i64 x.fr, .string x.dg, .string x.bd, .string x.mc]] W fun e w' => e = .returned (.bool (sg n x)) ∧ Below W.heap.size W w') := fun W hW => Si.implMessageSigned_any n x.kd x.vw x.sq x.fr x.dg x.bd x.mc W (GK.out W hW).1 (GK.out W hW).2
      clear hx
      go_upto_region 4 with fail
      generalize wr.alloc (.cells #[.int .i64 x.kd, .int .i64 x.vw, .int .i64 x.sq, .int .i64 x.fr, .string x.dg, .string x.bd, .string x.mc] 59) = wa at HA ⊢
      clear c0 c1 c2 c3 c4 c5 c6
      obtain ⟨⟨c0, c1, c2, c3, c4, c5, c6⟩, B1⟩ := HA.out wa (Below.refl _ _)
      obtain ⟨⟨p1, p2⟩, B2⟩ := HP.out wa B1
      have HB1 : Hid (Below wb.heap.size wb wa) := B1
      have HB2 : Hid (Below w.heap.size w wa) := B2
      clear B1 B2
      by_cases q0 : x.kd = kd
      rotate_left
      · have e0 : (x.kd != kd) = true := by simpa using q0
        have HF : Hid (bb = false) := by show _ = _; rw [← HBB.out]; exact cast_no HX.out fun hh => q0 hh.1
        clear q0
        go_wp2_with fail
        go_ret
        exact ⟨ret_b HF.out.symm, HB2.out⟩
      have e0 : (x.kd != kd) = false := by simpa using q0
      have Q0 : Hid (x.kd = kd) := q0
      clear q0
      by_cases q1 : x.vw = vw
      rotate_left
      · have e1 : (x.vw != vw) = true := by simpa using q1
        have HF : Hid (bb = false) := by show _ = _; rw [← HBB.out]; exact cast_no HX.out fun hh => q1 hh.2.1
        clear q1
        go_wp2_with fail
        go_ret
        exact ⟨ret_b HF.out.symm, HB2.out⟩
      have e1 : (x.vw != vw) = false := by simpa using q1
      have Q1 : Hid (x.vw = vw) := q1
      clear q1
      by_cases q2 : x.sq = sq
      rotate_left
      · have e2 : (x.sq != sq) = true := by simpa using q2
        have HF : Hid (bb = false) := by show _ = _; rw [← HBB.out]; exact cast_no HX.out fun hh => q2 hh.2.2.1
        clear q2
        go_wp2_with fail
        go_ret
        exact ⟨ret_b HF.out.symm, HB2.out⟩
      have e2 : (x.sq != sq) = false := by simpa using q2
      have Q2 : Hid (x.sq = sq) := q2
      clear q2
      cases hs : sg n x with
      | false =>
        have HF : Hid (bb = false) := by show _ = _; rw [← HBB.out]; exact cast_no HX.out fun hh => by have := hh.2.2.2; rw [hs] at this; cases this
        rw [hs] at HMS
        clear hs
        go_wp2_with fail
        refine (HMS.out _ HB2.out).mono ?_
        rintro e w2 ⟨rfl, b2⟩
        have G2 : Hid (Below w.heap.size w w2) := HB2.out.trans (b2.mono HB2.out.size)
        clear b2
        go_wp2_with fail
        go_ret
        exact ⟨ret_b HF.out.symm, G2.out⟩
      | true =>
        have HU : Hid (∀ j y, j < k + 1 → ms[j]? = some y → OneV n kd vw sq y) := upto_succ HZ.out.1 HX.out ⟨Q0.out, Q1.out, Q2.out, hs⟩
        rw [hs] at HMS
        clear hs
        go_wp2_with fail
        refine (HMS.out _ HB2.out).mono ?_
        rintro e w2 ⟨rfl, b2⟩
        have G2 : Hid (Below wb.heap.size wb w2) := HB1.out.trans (b2.mono HB1.out.size)
        clear b2
        go_wp2_with fail
        exact ⟨⟨k + 1, by omega, by go_num, ⟨HU.out, G2.out⟩⟩, by simp [intOf]; omega⟩
    · obtain rfl : k = ms.length := by omega
      have B2 : Hid (Below w.heap.size w wr) := (HP.out _ HZ.out.2).2
      go_wp2_with fail
      refine (HSR.out _ B2.out (all_of HZ.out.1)).mono ?_
      rintro e w2 ⟨rfl, b2⟩
      have G2 : Hid (Below w.heap.size w w2) := B2.out.trans (b2.mono B2.out.size)
      clear b2
      go_wp2_with fail
      go_ret
      exact ⟨rfl, G2.out⟩
theorem lgB_no {n : Int} {lg : List ByteArray} {k : Nat} (hk : k < lg.length) (h : bdP n (tnth lg k) = false) : bOf (∀ t ∈ lg, bdP n t = true) = false := bOf_false fun hh => by
  have := hh (tnth lg k) (by unfold tnth; rw [List.getD_eq_getElem?_getD, List.getElem?_eq_getElem hk]; exact List.getElem_mem hk)
  rw [h] at this; cases this
theorem lgB_yes {n : Int} {lg : List ByteArray} (h : ∀ j, j < lg.length → bdP n (tnth lg j) = true) : bOf (∀ t ∈ lg, bdP n t = true) = true := bOf_true fun t ht => by
  obtain ⟨j, hj, e⟩ := List.getElem_of_mem ht
  have := h j hj
  unfold tnth at this
  rw [List.getD_eq_getElem?_getD, List.getElem?_eq_getElem hj, e] at this
  exact this
theorem tnth_size {ts : List ByteArray} {m k : Nat} (h : ∀ t ∈ ts, t.size ≤ m) (hk : k < ts.length) : (tnth ts k).size ≤ m := h _ (by unfold tnth; rw [List.getD_eq_getElem?_getD, List.getElem?_eq_getElem hk]; exact List.getElem_mem hk)
set_option maxRecDepth 100000 in
set_option maxHeartbeats 1600000 in
theorem bodiesOK_any (n : Int) (v : Value) (lg : List ByteArray) (w : World) (h : RowT w v lg) (hl : lg.length ≤ 1048576) (hz : ∀ t ∈ lg, t.size ≤ 1048576) (hf : fCode n = 0) (hK : KTab w) (hp : 0 < w.heap.size) :
    Calls Tryz.prog 108 #[.int .i64 n, v] w fun e w' => e = .returned (.bool (bOf (∀ t ∈ lg, bdP n t = true))) ∧ Below w.heap.size w w' := by
  have HR : Hid (RowT w v lg) := h
  obtain ⟨a, cap, rfl, _⟩ := h
  have GK : Hid (∀ W, Below w.heap.size w W → KTab W ∧ 0 < W.heap.size) := fun W hW => ⟨hK.below hW hp, Nat.lt_of_lt_of_le hp hW.size⟩
  have HF0 : Hid (fCode n = 0 ∧ ∀ t ∈ lg, t.size ≤ 1048576) := ⟨hf, hz⟩
  clear hK hp hf hz
  obtain ⟨bb, HBB⟩ : ∃ bb, Hid (bOf (∀ t ∈ lg, bdP n t = true) = bb) := ⟨_, rfl⟩
  rw [HBB.out]
  go_enter Tryz.func108, Tryz.ntmps108
  go_wp2_with fail
  go_loopw [9] (fun i wr => ∃ k : Nat, k ≤ lg.length ∧ i = .int .i64 k ∧ Hid ((∀ j, j < k → bdP n (tnth lg j) = true) ∧ Below w.heap.size w wr)) (fun i _ => lg.length - (intOf i).toNat)
  case atStart => exact ⟨0, by omega, rfl, ⟨fun j hj => by omega, Below.refl _ _⟩⟩
  case round =>
    obtain ⟨k, hk, rfl, HZ⟩ := hrel
    by_cases hlt : k < lg.length
    · obtain ⟨a', cap', e, hh⟩ := HR.out.below HZ.out.2
      cases e
      rcases hh with hh | ⟨b, off, rfl, hc, hb, hcell⟩
      · exact absurd hlt (by rw [hh]; simp)
      have c0 := hcell k hlt
      have HBO := implBodyOK_any n (tnth lg k) wr HF0.out.1 (tnth_size HF0.out.2 hlt) (GK.out wr HZ.out.2).1 (GK.out wr HZ.out.2).2
      clear hcell
      cases hb2 : bdP n (tnth lg k) with
      | false =>
        have HF : Hid (bb = false) := by show _ = _; rw [← HBB.out]; exact lgB_no hlt hb2
        rw [hb2] at HBO
        clear hb2
        generalize tnth lg k = t at c0 HBO
        go_wp2_with fail
        refine HBO.mono ?_
        rintro e w2 ⟨rfl, b2⟩
        have G2 : Hid (Below w.heap.size w w2) := HZ.out.2.trans (b2.mono HZ.out.2.size)
        clear b2
        go_wp2_with fail
        go_ret
        exact ⟨ret_b HF.out.symm, G2.out⟩
      | true =>
        have HU : Hid (∀ j, j < k + 1 → bdP n (tnth lg j) = true) := fun j hj => by
          by_cases e : j = k
          · rw [e]; exact hb2
          · exact HZ.out.1 j (by omega)
        rw [hb2] at HBO
        clear hb2
        generalize tnth lg k = t at c0 HBO
        go_wp2_with fail
        refine HBO.mono ?_
        rintro e w2 ⟨rfl, b2⟩
        have G2 : Hid (Below w.heap.size w w2) := HZ.out.2.trans (b2.mono HZ.out.2.size)
        clear b2
        go_wp2_with fail
        exact ⟨⟨k + 1, by omega, by go_num, ⟨HU.out, G2.out⟩⟩, by simp [intOf]; omega⟩
    · obtain rfl : k = lg.length := by omega
      have HT : Hid (bb = true) := by show _ = _; rw [← HBB.out]; exact lgB_yes HZ.out.1
      go_wp2_with fail
      go_ret
      exact ⟨ret_b HT.out.symm, HZ.out.2⟩
def okN (id n : Int) : Bool := decide (fCode n = 0) && inB id 0 (n - 1)
theorem f_small {n : Int} (h : fCode n = 0) : 1 ≤ n ∧ n ≤ 7 := by
  rcases f_cases n with rfl | rfl | rfl | ⟨_, _, _, _, hd⟩
  · decide
  · decide
  · decide
  · rw [hd] at h; cases h
set_option maxRecDepth 100000 in
set_option maxHeartbeats 1600000 in
theorem isNode_any (id n : Int) (w : World) : Calls Tryz.prog 36 #[.int .i64 n, .int .i64 id] w fun e w' => e = .returned (.bool (okN id n)) ∧ w = w' := by
  by_cases h : fCode n = 0
  · have hb := f_small h
    have HO : Hid (okN id n = inB id 0 (n - 1)) := by show _ = _; unfold okN; rw [decide_eq_true h]; rfl
    rw [HO.out]
    have HF := implFaultsOf_any n w
    rw [h] at HF
    clear h
    go_enter Tryz.func36, Tryz.ntmps36
    go_wp2_with fail
    refine HF.mono ?_
    rintro e w1 ⟨rfl, hw⟩
    rw [hw]
    clear hw
    go_wp2_with fail
    refine (Qm.within_any id 0 (n - 1) w).mono ?_
    rintro e w2 ⟨rfl, rfl⟩
    go_wp2_with fail
    go_ret
    exact ⟨by simp, rfl⟩
  · have HO : Hid (okN id n = false) := by show _ = _; unfold okN; rw [decide_eq_false h]; rfl
    rw [HO.out]
    have h4 : fCode n = 4 := Wc.f_four h
    have HF := implFaultsOf_any n w
    rw [h4] at HF
    clear h h4
    go_enter Tryz.func36, Tryz.ntmps36
    go_wp2_with fail
    refine HF.mono ?_
    rintro e w1 ⟨rfl, hw⟩
    rw [hw]
    clear hw
    go_wp2_with fail
    go_ret
    exact ⟨rfl, rfl⟩
end Go.Proofs.YtondmbeccpekiaaGreatDoor.Yr

/- Replicas that hold the same are alike. -/
namespace Go.Proofs.YtondmbeccpekiaaGreatDoor.Yr
open Go.RowKit Go.Proofs.YtondmbeccpekiaaGreatDoor.Rg Go.Proofs.YtondmbeccpekiaaGreatDoor.Gm Go.Proofs.YtondmbeccpekiaaGreatDoor.Ty

theorem two_new (w : World) (o0 o1 : Obj) : Below w.heap.size w ((w.alloc o0).alloc o1) := ((Below.refl _ _).alloc (Nat.le_refl _) _).alloc (by simp) _
theorem two {w w1 : World} {o0 o1 : Obj} (b : Below ((w.alloc o0).alloc o1).heap.size ((w.alloc o0).alloc o1) w1) :
    w1.heap[w.heap.size]? = some o0 ∧ w1.heap[w.heap.size + 1]? = some o1 ∧ Below w.heap.size w w1 := by
  have e1 : (w.alloc o0).heap.size = w.heap.size + 1 := size_new _ _
  have e2 : ((w.alloc o0).alloc o1).heap.size = w.heap.size + 1 + 1 := by rw [size_new, e1]
  rw [e2] at b
  refine ⟨?_, ?_, (two_new w o0 o1).trans (b.mono (by omega))⟩
  · rw [b.block _ (by omega), Below.heap_alloc _ _ _ (by omega)]; exact heap_alloc_new w _
  · rw [b.block _ (by omega), ← e1]; exact heap_alloc_new _ _
set_option maxRecDepth 100000 in
set_option maxHeartbeats 1600000 in
theorem eqSlot_same (x : St) (u1 u2 t1 t2 : Value) (w : World) (h1 : Row w u1 x.ps) (h2 : Row w u2 x.cs) (g1 : Row w t1 x.ps) (g2 : Row w t2 x.cs) (l1 : x.ps.length ≤ 1048576) (l2 : x.cs.length ≤ 1048576) :
    Calls Tryz.prog 136 #[stV x u1 u2, stV x t1 t2] w fun e w' => e = .returned (.bool true) ∧ Below w.heap.size w w' := by
  have H1 : Hid (Row w u1 x.ps ∧ Row w t1 x.ps) := ⟨h1, g1⟩
  have H2 : Hid (Row w u2 x.cs ∧ Row w t2 x.cs) := ⟨h2, g2⟩
  clear h1 h2 g1 g2
  unfold stV
  have HC : Hid (∀ W, Below ((w.alloc (.cells #[.string x.bd, u1, u2, .bool x.st, .bool x.dn] 100)).alloc (.cells #[.string x.bd, t1, t2, .bool x.st, .bool x.dn] 100)).heap.size ((w.alloc (.cells #[.string x.bd, u1, u2, .bool x.st, .bool x.dn] 100)).alloc (.cells #[.string x.bd, t1, t2, .bool x.st, .bool x.dn] 100)) W → (W.cell? ⟨w.heap.size, 0, none⟩ = some (.string x.bd) ∧ W.cell? ⟨w.heap.size, 1, none⟩ = some (u1) ∧ W.cell? ⟨w.heap.size, 2, none⟩ = some (u2) ∧ W.cell? ⟨w.heap.size, 3, none⟩ = some (.bool x.st) ∧ W.cell? ⟨w.heap.size, 4, none⟩ = some (.bool x.dn) ∧ W.cell? ⟨w.heap.size + 1, 0, none⟩ = some (.string x.bd) ∧ W.cell? ⟨w.heap.size + 1, 1, none⟩ = some (t1) ∧ W.cell? ⟨w.heap.size + 1, 2, none⟩ = some (t2) ∧ W.cell? ⟨w.heap.size + 1, 3, none⟩ = some (.bool x.st) ∧ W.cell? ⟨w.heap.size + 1, 4, none⟩ = some (.bool x.dn)) ∧ Below w.heap.size w W) := fun W hW => by
    obtain ⟨h1, h2, h3⟩ := two hW
    exact ⟨⟨(blk_cell h1 0 rfl).1, (blk_cell h1 1 rfl).1, (blk_cell h1 2 rfl).1, (blk_cell h1 3 rfl).1, (blk_cell h1 4 rfl).1, (blk_cell h2 0 rfl).1, (blk_cell h2 1 rfl).1, (blk_cell h2 2 rfl).1, (blk_cell h2 3 rfl).1, (blk_cell h2 4 rfl).1⟩, h3⟩
  have q0 : (x.bd.toList != x.bd.toList) = false := by simp
  have q1 : (x.bd.toList == x.bd.toList) = true := by simp
  have q2 : (x.st != x.st) = false := by simp
  have q3 : (x.dn != x.dn) = false := by simp
  go_enter Tryz.func136, Tryz.ntmps136
  go_upto_region 1 with fail
  generalize (w.alloc (.cells #[.string x.bd, u1, u2, .bool x.st, .bool x.dn] 100)).alloc (.cells #[.string x.bd, t1, t2, .bool x.st, .bool x.dn] 100) = wb at HC ⊢
  obtain ⟨⟨x0, x1, x2, x3, x4, y0, y1, y2, y3, y4⟩, B0⟩ := HC.out wb (Below.refl _ _)
  have HB0 : Hid (Below w.heap.size w wb) := B0
  clear B0
  go_wp2_with fail
  refine (eqS_same u1 t1 x.ps wb (H1.out.1.below HB0.out) (H1.out.2.below HB0.out) l1).mono ?_
  rintro e w1 ⟨rfl, b1⟩
  have D1 : Hid (Below wb.heap.size wb w1) := b1
  clear b1 x0 y0 x1 y1 x2 y2 x3 y3 x4 y4
  obtain ⟨⟨x0, x1, x2, x3, x4, y0, y1, y2, y3, y4⟩, B0⟩ := HC.out w1 D1.out
  have HB1 : Hid (Below w.heap.size w w1) := B0
  clear B0
  go_wp2_with fail
  refine (eqS_same u2 t2 x.cs w1 (H2.out.1.below HB1.out) (H2.out.2.below HB1.out) l2).mono ?_
  rintro e w2 ⟨rfl, b2⟩
  have D2 : Hid (Below wb.heap.size wb w2) := D1.out.trans (b2.mono D1.out.size)
  clear b2 x0 y0 x1 y1 x2 y2 x3 y3 x4 y4
  obtain ⟨⟨x0, x1, x2, x3, x4, y0, y1, y2, y3, y4⟩, B0⟩ := HC.out w2 D2.out
  have HB2 : Hid (Below w.heap.size w w2) := B0
  clear B0
  go_wp2_with fail
  go_ret
  exact ⟨rfl, HB2.out⟩
set_option maxRecDepth 100000 in
set_option maxHeartbeats 1600000 in
theorem eqCert_same (x : Cx) (u t : Value) (w : World) (h1 : Row w u x.ms) (g1 : Row w t x.ms) (l1 : x.ms.length ≤ 1048576) :
    Calls Tryz.prog 137 #[cxV x u, cxV x t] w fun e w' => e = .returned (.bool true) ∧ Below w.heap.size w w' := by
  have H1 : Hid (Row w u x.ms ∧ Row w t x.ms) := ⟨h1, g1⟩
  clear h1 g1
  unfold cxV
  have HC : Hid (∀ W, Below ((w.alloc (.cells #[.string x.bd, u] 87)).alloc (.cells #[.string x.bd, t] 87)).heap.size ((w.alloc (.cells #[.string x.bd, u] 87)).alloc (.cells #[.string x.bd, t] 87)) W → (W.cell? ⟨w.heap.size, 0, none⟩ = some (.string x.bd) ∧ W.cell? ⟨w.heap.size, 1, none⟩ = some (u) ∧ W.cell? ⟨w.heap.size + 1, 0, none⟩ = some (.string x.bd) ∧ W.cell? ⟨w.heap.size + 1, 1, none⟩ = some (t)) ∧ Below w.heap.size w W) := fun W hW => by
    obtain ⟨h1, h2, h3⟩ := two hW
    exact ⟨⟨(blk_cell h1 0 rfl).1, (blk_cell h1 1 rfl).1, (blk_cell h2 0 rfl).1, (blk_cell h2 1 rfl).1⟩, h3⟩
  have q0 : (x.bd.toList != x.bd.toList) = false := by simp
  have q1 : (x.bd.toList == x.bd.toList) = true := by simp
  go_enter Tryz.func137, Tryz.ntmps137
  go_upto_region 1 with fail
  generalize (w.alloc (.cells #[.string x.bd, u] 87)).alloc (.cells #[.string x.bd, t] 87) = wb at HC ⊢
  obtain ⟨⟨x0, x1, y0, y1⟩, B0⟩ := HC.out wb (Below.refl _ _)
  have HB0 : Hid (Below w.heap.size w wb) := B0
  clear B0
  go_wp2_with fail
  refine (eqS_same u t x.ms wb (H1.out.1.below HB0.out) (H1.out.2.below HB0.out) l1).mono ?_
  rintro e w1 ⟨rfl, b1⟩
  have D1 : Hid (Below wb.heap.size wb w1) := b1
  clear b1 x0 y0 x1 y1
  obtain ⟨⟨x0, x1, y0, y1⟩, B0⟩ := HC.out w1 D1.out
  have HB1 : Hid (Below w.heap.size w w1) := B0
  clear B0
  go_wp2_with fail
  go_ret
  exact ⟨rfl, HB1.out⟩
set_option maxRecDepth 100000 in
set_option maxHeartbeats 1600000 in
theorem eqSlotS_same (v u0 : Value) (xs : List St) (w : World) (h : RowS w v xs) (g : RowS w u0 xs) (hl : xs.length ≤ 1048576) (hw : ∀ x ∈ xs, SZ 1048576 x) :
    Calls Tryz.prog 110 #[v, u0] w fun e w' => e = .returned (.bool true) ∧ Below w.heap.size w w' := by
  have HR : Hid (RowS w v xs) := h
  have HG : Hid (RowS w u0 xs) := g
  have HW : Hid (∀ x ∈ xs, SZ 1048576 x) := hw
  obtain ⟨a, cap, rfl⟩ := RowG.slice h
  obtain ⟨a', cap', rfl⟩ := RowG.slice g
  clear h g hw
  have hne : ((xs.length : Int) != (xs.length : Int)) = false := by simp
  go_enter Tryz.func110, Tryz.ntmps110
  go_wp2_with fail
  go_loopw [5] (fun i wr => ∃ k : Nat, k ≤ xs.length ∧ i = .int .i64 k ∧ Hid (Below w.heap.size w wr)) (fun i _ => xs.length - (intOf i).toNat)
  case atStart => exact ⟨0, by omega, rfl, Below.refl _ _⟩
  case round =>
    obtain ⟨k, hk, rfl, HB⟩ := hrel
    by_cases hlt : k < xs.length
    · obtain ⟨x, hx⟩ := Rg.get_at hlt
      obtain ⟨b, off, rfl, hb, u1, u2, c0, c1, c2, c3, c4, r0, r1⟩ := RowG.at (HR.out.below HB.out) rfl hx
      obtain ⟨b', off', rfl, hb', t1, t2, d0, d1, d2, d3, d4, s0, s1⟩ := RowG.at (HG.out.below HB.out) rfl hx
      have hzx := HW.out x (mem_at hx)
      have HX : Hid (∀ W, Below wr.heap.size wr W → Calls Tryz.prog 136 #[.agg #[.string x.bd, u1, u2, .bool x.st, .bool x.dn], .agg #[.string x.bd, t1, t2, .bool x.st, .bool x.dn]] W fun e w' => e = .returned (.bool true) ∧ Below W.heap.size W w') := fun W hW => eqSlot_same x u1 u2 t1 t2 W (r0.below hW) (r1.below hW) (s0.below hW) (s1.below hW) hzx.2.1.1 hzx.2.2.1
      clear hx hzx r0 r1 s0 s1
      have hp0 : (0 : Int) ≤ (k : Int) := by omega
      have hp1 : (k : Int) < (xs.length : Int) := by omega
      go_upto_region 6 with fail
      obtain ⟨X, hX, W, QI0, QO0⟩ := Qc.klass wr
      have QI : Hid (∀ w', Below wr.heap.size wr w' → ∃ x, w' = W x) := QI0
      have QO : Hid (∀ x, Below wr.heap.size wr (W x)) := QO0
      clear QI0 QO0
      have y0 := Qc.cell_all QO.out c0
      have z0 := Qc.cell_all QO.out d0
      have y1 := Qc.cell_all QO.out c1
      have z1 := Qc.cell_all QO.out d1
      have y2 := Qc.cell_all QO.out c2
      have z2 := Qc.cell_all QO.out d2
      have y3 := Qc.cell_all QO.out c3
      have z3 := Qc.cell_all QO.out d3
      have y4 := Qc.cell_all QO.out c4
      have z4 := Qc.cell_all QO.out d4
      refine Qc.region_class (W := W) (by kernel_rfl) (by kernel_rfl) (QI.out _ Qc.from_drew) ?_
      repeat (go_big_quiet_step (first | (go_at_call 136; refine (HX.out _ (QO.out _)).mono ?_; rintro e w2 ⟨rfl, b2⟩; exact ⟨rfl, Qc.back QI.out QO.out b2⟩)))
      refine wpQuiet_nil ?_
      rintro _ ⟨xq, rfl⟩
      have G2 : Hid (Below w.heap.size w (W xq)) := HB.out.trans ((QO.out xq).mono HB.out.size)
      generalize W xq = wq at G2 ⊢
      go_wp2_with fail
      exact ⟨⟨k + 1, by omega, by go_num, G2⟩, by simp [intOf]; omega⟩
    · go_wp2_with fail
      go_ret
      exact ⟨rfl, HB.out⟩
set_option maxRecDepth 100000 in
set_option maxHeartbeats 1600000 in
theorem eqCertS_same (v u0 : Value) (xs : List Cx) (w : World) (h : RowC w v xs) (g : RowC w u0 xs) (hl : xs.length ≤ 1048576) (hw : ∀ x ∈ xs, CZ 1048576 x) :
    Calls Tryz.prog 111 #[v, u0] w fun e w' => e = .returned (.bool true) ∧ Below w.heap.size w w' := by
  have HR : Hid (RowC w v xs) := h
  have HG : Hid (RowC w u0 xs) := g
  have HW : Hid (∀ x ∈ xs, CZ 1048576 x) := hw
  obtain ⟨a, cap, rfl⟩ := RowG.slice h
  obtain ⟨a', cap', rfl⟩ := RowG.slice g
  clear h g hw
  have hne : ((xs.length : Int) != (xs.length : Int)) = false := by simp
  go_enter Tryz.func111, Tryz.ntmps111
  go_wp2_with fail
  go_loopw [5] (fun i wr => ∃ k : Nat, k ≤ xs.length ∧ i = .int .i64 k ∧ Hid (Below w.heap.size w wr)) (fun i _ => xs.length - (intOf i).toNat)
  case atStart => exact ⟨0, by omega, rfl, Below.refl _ _⟩
  case round =>
    obtain ⟨k, hk, rfl, HB⟩ := hrel
    by_cases hlt : k < xs.length
    · obtain ⟨x, hx⟩ := Rg.get_at hlt
      obtain ⟨b, off, rfl, hb, u1, c0, c1, r0⟩ := RowG.at (HR.out.below HB.out) rfl hx
      obtain ⟨b', off', rfl, hb', t1, d0, d1, s0⟩ := RowG.at (HG.out.below HB.out) rfl hx
      have hzx := HW.out x (mem_at hx)
      have HX : Hid (∀ W, Below wr.heap.size wr W → Calls Tryz.prog 137 #[.agg #[.string x.bd, u1], .agg #[.string x.bd, t1]] W fun e w' => e = .returned (.bool true) ∧ Below W.heap.size W w') := fun W hW => eqCert_same x u1 t1 W (r0.below hW) (s0.below hW) hzx.2.1
      clear hx hzx r0 s0
      have hp0 : (0 : Int) ≤ (k : Int) := by omega
      have hp1 : (k : Int) < (xs.length : Int) := by omega
      go_upto_region 6 with fail
      obtain ⟨X, hX, W, QI0, QO0⟩ := Qc.klass wr
      have QI : Hid (∀ w', Below wr.heap.size wr w' → ∃ x, w' = W x) := QI0
      have QO : Hid (∀ x, Below wr.heap.size wr (W x)) := QO0
      clear QI0 QO0
      have y0 := Qc.cell_all QO.out c0
      have z0 := Qc.cell_all QO.out d0
      have y1 := Qc.cell_all QO.out c1
      have z1 := Qc.cell_all QO.out d1
      refine Qc.region_class (W := W) (by kernel_rfl) (by kernel_rfl) (QI.out _ Qc.from_drew) ?_
      repeat (go_big_quiet_step (first | (go_at_call 137; refine (HX.out _ (QO.out _)).mono ?_; rintro e w2 ⟨rfl, b2⟩; exact ⟨rfl, Qc.back QI.out QO.out b2⟩)))
      refine wpQuiet_nil ?_
      rintro _ ⟨xq, rfl⟩
      have G2 : Hid (Below w.heap.size w (W xq)) := HB.out.trans ((QO.out xq).mono HB.out.size)
      generalize W xq = wq at G2 ⊢
      go_wp2_with fail
      exact ⟨⟨k + 1, by omega, by go_num, G2⟩, by simp [intOf]; omega⟩
    · go_wp2_with fail
      go_ret
      exact ⟨rfl, HB.out⟩
set_option maxRecDepth 100000 in
set_option maxHeartbeats 1600000 in
theorem eqReplica_same (r : Rp) (vs vc vl vh us uc ul uh : Value) (w : World) (h : RepR w r vs vc vl vh) (g : RepR w r us uc ul uh) (hz : Zr 1048576 r) :
    Calls Tryz.prog 79 #[repV r vs vc vl vh, repV r us uc ul uh] w fun e w' => e = .returned (.bool true) ∧ Below w.heap.size w w' := by
  have HR : Hid (RepR w r vs vc vl vh) := h
  have HG : Hid (RepR w r us uc ul uh) := g
  have HZ : Hid (Zr 1048576 r) := hz
  clear h g hz
  unfold repV
  have HC : Hid (∀ W, Below ((w.alloc (.cells #[.int .i64 r.id, .int .i64 r.n, .int .i64 r.vw, .bool r.ac, vs, vc, vl, vh] 55)).alloc (.cells #[.int .i64 r.id, .int .i64 r.n, .int .i64 r.vw, .bool r.ac, us, uc, ul, uh] 55)).heap.size ((w.alloc (.cells #[.int .i64 r.id, .int .i64 r.n, .int .i64 r.vw, .bool r.ac, vs, vc, vl, vh] 55)).alloc (.cells #[.int .i64 r.id, .int .i64 r.n, .int .i64 r.vw, .bool r.ac, us, uc, ul, uh] 55)) W → (W.cell? ⟨w.heap.size, 0, none⟩ = some (.int .i64 r.id) ∧ W.cell? ⟨w.heap.size, 1, none⟩ = some (.int .i64 r.n) ∧ W.cell? ⟨w.heap.size, 2, none⟩ = some (.int .i64 r.vw) ∧ W.cell? ⟨w.heap.size, 3, none⟩ = some (.bool r.ac) ∧ W.cell? ⟨w.heap.size, 4, none⟩ = some (vs) ∧ W.cell? ⟨w.heap.size, 5, none⟩ = some (vc) ∧ W.cell? ⟨w.heap.size, 6, none⟩ = some (vl) ∧ W.cell? ⟨w.heap.size, 7, none⟩ = some (vh) ∧ W.cell? ⟨w.heap.size + 1, 0, none⟩ = some (.int .i64 r.id) ∧ W.cell? ⟨w.heap.size + 1, 1, none⟩ = some (.int .i64 r.n) ∧ W.cell? ⟨w.heap.size + 1, 2, none⟩ = some (.int .i64 r.vw) ∧ W.cell? ⟨w.heap.size + 1, 3, none⟩ = some (.bool r.ac) ∧ W.cell? ⟨w.heap.size + 1, 4, none⟩ = some (us) ∧ W.cell? ⟨w.heap.size + 1, 5, none⟩ = some (uc) ∧ W.cell? ⟨w.heap.size + 1, 6, none⟩ = some (ul) ∧ W.cell? ⟨w.heap.size + 1, 7, none⟩ = some (uh)) ∧ Below w.heap.size w W) := fun W hW => by
    obtain ⟨h1, h2, h3⟩ := two hW
    exact ⟨⟨(blk_cell h1 0 rfl).1, (blk_cell h1 1 rfl).1, (blk_cell h1 2 rfl).1, (blk_cell h1 3 rfl).1, (blk_cell h1 4 rfl).1, (blk_cell h1 5 rfl).1, (blk_cell h1 6 rfl).1, (blk_cell h1 7 rfl).1, (blk_cell h2 0 rfl).1, (blk_cell h2 1 rfl).1, (blk_cell h2 2 rfl).1, (blk_cell h2 3 rfl).1, (blk_cell h2 4 rfl).1, (blk_cell h2 5 rfl).1, (blk_cell h2 6 rfl).1, (blk_cell h2 7 rfl).1⟩, h3⟩
  have q0 : (r.id != r.id) = false := by simp
  have q1 : (r.n != r.n) = false := by simp
  have q2 : (r.vw != r.vw) = false := by simp
  have q3 : (r.ac != r.ac) = false := by simp
  go_enter Tryz.func79, Tryz.ntmps79
  go_upto_region 1 with fail
  generalize (w.alloc (.cells #[.int .i64 r.id, .int .i64 r.n, .int .i64 r.vw, .bool r.ac, vs, vc, vl, vh] 55)).alloc (.cells #[.int .i64 r.id, .int .i64 r.n, .int .i64 r.vw, .bool r.ac, us, uc, ul, uh] 55) = wb at HC ⊢
  obtain ⟨⟨x0, x1, x2, x3, x4, x5, x6, x7, y0, y1, y2, y3, y4, y5, y6, y7⟩, B0⟩ := HC.out wb (Below.refl _ _)
  have HB0 : Hid (Below w.heap.size w wb) := B0
  clear B0
  go_wp2_with fail
  refine (eqSlotS_same vs us r.ss wb (HR.out.s.below HB0.out) (HG.out.s.below HB0.out) HZ.out.s HZ.out.sz).mono ?_
  rintro e w1 ⟨rfl, b1⟩
  have D1 : Hid (Below wb.heap.size wb w1) := b1
  clear b1 x0 y0 x1 y1 x2 y2 x3 y3 x4 y4 x5 y5 x6 y6 x7 y7
  obtain ⟨⟨x0, x1, x2, x3, x4, x5, x6, x7, y0, y1, y2, y3, y4, y5, y6, y7⟩, B0⟩ := HC.out w1 D1.out
  have HB1 : Hid (Below w.heap.size w w1) := B0
  clear B0
  go_wp2_with fail
  refine (eqCertS_same vc uc r.cs w1 (HR.out.c.below HB1.out) (HG.out.c.below HB1.out) HZ.out.c HZ.out.cz).mono ?_
  rintro e w2 ⟨rfl, b2⟩
  have D2 : Hid (Below wb.heap.size wb w2) := D1.out.trans (b2.mono D1.out.size)
  clear b2 x0 y0 x1 y1 x2 y2 x3 y3 x4 y4 x5 y5 x6 y6 x7 y7
  obtain ⟨⟨x0, x1, x2, x3, x4, x5, x6, x7, y0, y1, y2, y3, y4, y5, y6, y7⟩, B0⟩ := HC.out w2 D2.out
  have HB2 : Hid (Below w.heap.size w w2) := B0
  clear B0
  go_wp2_with fail
  refine (eqStringS_same vl ul r.lg w2 (HR.out.l.below HB2.out) (HG.out.l.below HB2.out) HZ.out.l).mono ?_
  rintro e w3 ⟨rfl, b3⟩
  have D3 : Hid (Below wb.heap.size wb w3) := D2.out.trans (b3.mono D2.out.size)
  clear b3 x0 y0 x1 y1 x2 y2 x3 y3 x4 y4 x5 y5 x6 y6 x7 y7
  obtain ⟨⟨x0, x1, x2, x3, x4, x5, x6, x7, y0, y1, y2, y3, y4, y5, y6, y7⟩, B0⟩ := HC.out w3 D3.out
  have HB3 : Hid (Below w.heap.size w w3) := B0
  clear B0
  go_wp2_with fail
  refine (eqS_same vh uh r.ch w3 (HR.out.h.below HB3.out) (HG.out.h.below HB3.out) HZ.out.h).mono ?_
  rintro e w4 ⟨rfl, b4⟩
  have D4 : Hid (Below wb.heap.size wb w4) := D3.out.trans (b4.mono D3.out.size)
  clear b4 x0 y0 x1 y1 x2 y2 x3 y3 x4 y4 x5 y5 x6 y6 x7 y7
  obtain ⟨⟨x0, x1, x2, x3, x4, x5, x6, x7, y0, y1, y2, y3, y4, y5, y6, y7⟩, B0⟩ := HC.out w4 D4.out
  have HB4 : Hid (Below w.heap.size w w4) := B0
  clear B0
  go_wp2_with fail
  go_ret
  exact ⟨rfl, HB4.out⟩
end Go.Proofs.YtondmbeccpekiaaGreatDoor.Yr
