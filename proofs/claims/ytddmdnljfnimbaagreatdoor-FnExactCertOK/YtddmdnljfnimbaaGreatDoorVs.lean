/- Certificates that are right: the specification. -/
import Derived.Test.YtddmdnljfnimbaaGreatDoorVc
namespace Go.Proofs.YtddmdnljfnimbaaGreatDoor.Vt
open Go.RowKit Go.Proofs.YtddmdnljfnimbaaGreatDoor.Gm Go.Proofs.YtddmdnljfnimbaaGreatDoor.Si Go.Proofs.YtddmdnljfnimbaaGreatDoor.Tm Go.Proofs.YtddmdnljfnimbaaGreatDoor.Ms Go.Proofs.YtddmdnljfnimbaaGreatDoor.Sh
open Go.Proofs.YtddmdnljfnimbaaGreatDoor.Qm (qOut)
open Go.Proofs.YtddmdnljfnimbaaGreatDoor.Bd (dig dOut dCode l06Digest_any)
open Go.Proofs.YtddmdnljfnimbaaGreatDoor.Bw (bdB bdP l06Body_any)
open Go.Proofs.YtddmdnljfnimbaaGreatDoor.Rg (RowG RowG.slice RowG.at lt_at mem_at blk_cell blk_set bel_new)

/-- What is asked of one vote of a certificate. -/
def One (n : Int) (bd : ByteArray) (x0 : Mg) (ms : List Mg) (j : Nat) (x : Mg) : Prop := (sg n x = true ∧ ForB x0.vw x0.sq (dig bd) x) ∧ ∀ m y, j = m + 1 → ms[m]? = some y → y.fr < x.fr
theorem crt_no {n : Int} {bd : ByteArray} {x0 x : Mg} {ms : List Mg} {j : Nat} (h0 : ms[0]? = some x0) (hx : ms[j]? = some x) (h : ¬ One n bd x0 ms j x) : crtB n bd ms = false := bOf_false fun ⟨_, _, _, ⟨z, hz, h4⟩, h5⟩ => by
  rw [h0] at hz
  cases hz
  refine h ⟨h4 x (mem_at hx), fun m y hm hy => ?_⟩
  subst hm
  exact h5 m y x (lt_at hx) hy hx
theorem crt_yes {n : Int} {bd : ByteArray} {x0 : Mg} {ms : List Mg} (h0 : ms[0]? = some x0) (h1 : fCode n = 0) (h2 : (ms.length : Int) = qOut n) (h3 : bdP n bd = true) (h : ∀ j x, j < ms.length → ms[j]? = some x → One n bd x0 ms j x) : crtB n bd ms = true := by
  refine bOf_true ⟨h1, h2, h3, ⟨x0, h0, fun y hy => ?_⟩, fun j x y hj hx hy => ?_⟩
  · obtain ⟨j, hj, e⟩ := List.getElem_of_mem hy
    exact (h j y hj (by rw [List.getElem?_eq_getElem hj, e])).1
  · exact (h (j + 1) y hj hy).2 j x rfl hx
set_option maxRecDepth 100000 in
set_option maxHeartbeats 3200000 in
theorem l06Cert_any (n : Int) (bd : ByteArray) (vr : Value) (ms : List Mg) (w : World) (hf : fCode n = 0) (h : Row w vr ms) (hl : ms.length ≤ 1048576) :
    Calls Tryz.prog 28 #[.int .i64 n, .agg #[.string bd, vr]] w fun e w' => e = .returned (.bool (crtB n bd ms)) ∧ Below w.heap.size w w' := by
  have HR : Hid (Row w vr ms) := h
  obtain ⟨a, cap, rfl⟩ := RowG.slice h
  have HX : Hid (∀ W, Below (w.alloc (.cells #[.string bd, .slice a ms.length cap] 29)).heap.size (w.alloc (.cells #[.string bd, .slice a ms.length cap] 29)) W → W.cell? ⟨w.heap.size, 0, none⟩ = some (.string bd) ∧ W.cell? ⟨w.heap.size, 1, none⟩ = some (.slice a ms.length cap) ∧ Below w.heap.size w W) := fun W hW => by
    have h1 := (hW.block w.heap.size (by simp)).trans (heap_alloc_new w _)
    exact ⟨(blk_cell h1 0 rfl).1, (blk_cell h1 1 rfl).1, (bel_new w _).trans (hW.mono (by simp))⟩
  have HQM : Hid (∀ W, Calls Tryz.prog 40 #[.int .i64 n] W fun e w' => e = .returned (.int .i64 (qOut n)) ∧ W = w') := fun W => Qm.l06Quorum_any n W hf
  clear h
  by_cases hq : (ms.length : Int) = qOut n
  · have hq' : ((ms.length : Int) != qOut n) = false := by simp [hq]
    by_cases h20 : (20000 : Int) < (bd.size : Int)
    · have HE : Hid (crtB n bd ms = false) := crt_b (by unfold bdP; rw [decide_eq_false (by omega)]; rfl)
      have h20' : decide ((20000 : Int) < (bd.size : Int)) = true := decide_eq_true h20
      obtain ⟨q, HQ⟩ : ∃ q, Hid (qOut n = q) := ⟨_, rfl⟩
      rw [HQ.out] at HQM hq'
      clear hq
      go_enter Tryz.func28, Tryz.ntmps28
      go_upto_region 1 with fail
      generalize w.alloc (.cells #[.string bd, .slice a ms.length cap] 29) = wb at HX ⊢
      obtain ⟨X, hX, W, QI0, QO0⟩ := Qc.klass wb
      have QI : Hid (∀ w', Below wb.heap.size wb w' → ∃ x, w' = W x) := QI0
      have QO : Hid (∀ x, Below wb.heap.size wb (W x)) := QO0
      clear QI0 QO0
      have y0 := fun q => (HX.out _ (QO.out q)).1
      have y1 := fun q => (HX.out _ (QO.out q)).2.1
      refine Qc.region_class (W := W) (by kernel_rfl) (by kernel_rfl) (QI.out _ Qc.from_drew) ?_
      repeat (go_big_quiet_step (first | (go_at_call 40; refine (HQM.out _).mono ?_; rintro e w2 ⟨rfl, rfl⟩; exact ⟨rfl, ⟨_, rfl⟩⟩)))
      refine wpQuiet_nil ?_
      rintro _ ⟨xq, rfl⟩
      have G2 : Hid (Below w.heap.size w (W xq)) := (HX.out _ (QO.out xq)).2.2
      generalize W xq = wq at G2 ⊢
      go_wp2_with fail
      go_ret
      exact ⟨ret_b HE.out.symm, G2.out⟩
    · have h20' : decide ((20000 : Int) < (bd.size : Int)) = false := decide_eq_false h20
      have HLB : Hid (∀ W, Calls Tryz.prog 47 #[.int .i64 n, .string bd] W fun e w' => e = .returned (.bool (bdB n bd)) ∧ Below W.heap.size W w') := fun W => l06Body_any n bd W hf (by omega)
      cases hbd : bdB n bd with
      | false =>
        have HE : Hid (crtB n bd ms = false) := crt_b (by unfold bdP; rw [hbd, Bool.and_false])
        rw [hbd] at HLB
        obtain ⟨q, HQ⟩ : ∃ q, Hid (qOut n = q) := ⟨_, rfl⟩
        rw [HQ.out] at HQM hq'
        clear hq hbd
        go_enter Tryz.func28, Tryz.ntmps28
        go_upto_region 1 with fail
        generalize w.alloc (.cells #[.string bd, .slice a ms.length cap] 29) = wb at HX ⊢
        obtain ⟨X, hX, W, QI0, QO0⟩ := Qc.klass wb
        have QI : Hid (∀ w', Below wb.heap.size wb w' → ∃ x, w' = W x) := QI0
        have QO : Hid (∀ x, Below wb.heap.size wb (W x)) := QO0
        clear QI0 QO0
        have y0 := fun q => (HX.out _ (QO.out q)).1
        have y1 := fun q => (HX.out _ (QO.out q)).2.1
        refine Qc.region_class (W := W) (by kernel_rfl) (by kernel_rfl) (QI.out _ Qc.from_drew) ?_
        repeat (go_big_quiet_step (first | (go_at_call 40; refine (HQM.out _).mono ?_; rintro e w2 ⟨rfl, rfl⟩; exact ⟨rfl, ⟨_, rfl⟩⟩) | (go_at_call 47; refine (HLB.out _).mono ?_; rintro e w2 ⟨rfl, b2⟩; exact ⟨rfl, Qc.back QI.out QO.out b2⟩)))
        refine wpQuiet_nil ?_
        rintro _ ⟨xq, rfl⟩
        have G2 : Hid (Below w.heap.size w (W xq)) := (HX.out _ (QO.out xq)).2.2
        generalize W xq = wq at G2 ⊢
        go_wp2_with fail
        go_ret
        exact ⟨ret_b HE.out.symm, G2.out⟩
      | true =>
        have HBP : Hid (bdP n bd = true) := by show _ = _; unfold bdP; rw [hbd, decide_eq_true (by omega)]; rfl
        obtain ⟨x0, hx0⟩ := Rg.get_at (xs := ms) (k := 0) (by have := (q_pos hf).1; omega)
        have HXX : Hid (ms[0]? = some x0) := hx0
        have HQL : Hid ((ms.length : Int) = qOut n) := hq
        have HFC : Hid (fCode n = 0) := hf
        have hn0 : (0 : Int) < (ms.length : Int) := by have := lt_at hx0; omega
        have HDG0 : Hid (∀ W, Calls Tryz.prog 49 #[.string bd] W fun e w' => e = .returned (.string (dig bd)) ∧ Below W.heap.size W w') := fun W => l06Digest_any bd W (by omega)
        rw [hbd] at HLB
        obtain ⟨q, HQ⟩ : ∃ q, Hid (qOut n = q) := ⟨_, rfl⟩
        rw [HQ.out] at HQM hq'
        clear hq hbd hf hx0
        go_enter Tryz.func28, Tryz.ntmps28
        go_upto_region 1 with fail
        generalize w.alloc (.cells #[.string bd, .slice a ms.length cap] 29) = wb at HX ⊢
        obtain ⟨X, hX, W, QI0, QO0⟩ := Qc.klass wb
        have QI : Hid (∀ w', Below wb.heap.size wb w' → ∃ x, w' = W x) := QI0
        have QO : Hid (∀ x, Below wb.heap.size wb (W x)) := QO0
        clear QI0 QO0
        have y0 := fun q => (HX.out _ (QO.out q)).1
        have y1 := fun q => (HX.out _ (QO.out q)).2.1
        refine Qc.region_class (W := W) (by kernel_rfl) (by kernel_rfl) (QI.out _ Qc.from_drew) ?_
        repeat (go_big_quiet_step (first | (go_at_call 40; refine (HQM.out _).mono ?_; rintro e w2 ⟨rfl, rfl⟩; exact ⟨rfl, ⟨_, rfl⟩⟩) | (go_at_call 47; refine (HLB.out _).mono ?_; rintro e w2 ⟨rfl, b2⟩; exact ⟨rfl, Qc.back QI.out QO.out b2⟩)))
        refine wpQuiet_nil ?_
        rintro _ ⟨xq, rfl⟩
        have G2 : Hid (Below wb.heap.size wb (W xq)) := QO.out xq
        clear y0 y1 QI QO
        generalize W xq = wq at G2 ⊢
        go_wp2_with fail
        go_loopw [5] (fun i wr => ∃ k : Nat, k ≤ ms.length ∧ i = .int .i64 k ∧ Hid ((∀ j y, j < k → ms[j]? = some y → One n bd x0 ms j y) ∧ Below wb.heap.size wb wr)) (fun i _ => ms.length - (intOf i).toNat)
        case atStart => exact ⟨0, by omega, rfl, ⟨fun j y hj => by omega, G2.out⟩⟩
        case round =>
          obtain ⟨k, hk, rfl, HZ⟩ := hrel
          have c1 := (HX.out _ HZ.out.2).2.1
          by_cases hlt : k < ms.length
          · obtain ⟨x, hx⟩ := Rg.get_at hlt
            obtain ⟨b, off, rfl, hbl, d0, d1, d2, d3, d4, d5, d6⟩ := RowG.at (HR.out.below (HX.out _ HZ.out.2).2.2) rfl hx
            have HXK : Hid (ms[k]? = some x) := hx
            have HBN : Hid (Below wb.heap.size wb (wr.alloc (.cells #[.int .i64 x.kd, .int .i64 x.vw, .int .i64 x.sq, .int .i64 x.fr, .string x.dg, .string x.bd, .string x.mc] 39))) := HZ.out.2.alloc HZ.out.2.size _
            have HXM : Hid (∀ W, Below (wr.alloc (.cells #[.int .i64 x.kd, .int .i64 x.vw, .int .i64 x.sq, .int .i64 x.fr, .string x.dg, .string x.bd, .string x.mc] 39)).heap.size (wr.alloc (.cells #[.int .i64 x.kd, .int .i64 x.vw, .int .i64 x.sq, .int .i64 x.fr, .string x.dg, .string x.bd, .string x.mc] 39)) W → W.cell? ⟨wr.heap.size, 0, none⟩ = some (.int .i64 x.kd) ∧ W.cell? ⟨wr.heap.size, 1, none⟩ = some (.int .i64 x.vw) ∧ W.cell? ⟨wr.heap.size, 2, none⟩ = some (.int .i64 x.sq) ∧ W.cell? ⟨wr.heap.size, 3, none⟩ = some (.int .i64 x.fr) ∧ W.cell? ⟨wr.heap.size, 4, none⟩ = some (.string x.dg) ∧ W.cell? ⟨wr.heap.size, 5, none⟩ = some (.string x.bd) ∧ W.cell? ⟨wr.heap.size, 6, none⟩ = some (.string x.mc)) := fun W hW => by
              have h1 := (hW.block wr.heap.size (by simp)).trans (heap_alloc_new wr _)
              exact ⟨(blk_cell h1 0 rfl).1, (blk_cell h1 1 rfl).1, (blk_cell h1 2 rfl).1, (blk_cell h1 3 rfl).1, (blk_cell h1 4 rfl).1, (blk_cell h1 5 rfl).1, (blk_cell h1 6 rfl).1⟩
            have HSG : Hid (∀ W, Calls Tryz.prog 48 #[.int .i64 n, .agg #[.int .i64 x.kd, .int .i64 x.vw, .int .i64 x.sq, .int .i64 x.fr, .string x.dg, .string x.bd, .string x.mc]] W fun e w' => e = .returned (.bool (sg n x)) ∧ Below W.heap.size W w') := fun W => by
              rw [sg_eq HFC.out]; exact l06Signed_any n x.kd x.vw x.sq x.fr x.dg x.bd x.mc W
            have HDG : Hid (∀ W, Calls Tryz.prog 49 #[.string bd] W fun e w' => e = .returned (.string (dig bd)) ∧ Below W.heap.size W w') := HDG0.out
            obtain ⟨dd, HDD⟩ : ∃ dd, Hid (dig bd = dd) := ⟨_, rfl⟩
            rw [HDD.out] at HDG
            clear hx
            go_upto_region 7 with fail
            generalize wr.alloc (.cells #[.int .i64 x.kd, .int .i64 x.vw, .int .i64 x.sq, .int .i64 x.fr, .string x.dg, .string x.bd, .string x.mc] 39) = wc at HXM HBN ⊢
            obtain ⟨X2, hX2, W, QI0, QO0⟩ := Qc.klass wc
            have QI : Hid (∀ w', Below wc.heap.size wc w' → ∃ x, w' = W x) := QI0
            have QO : Hid (∀ x, Below wc.heap.size wc (W x)) := QO0
            have QZ : Hid (∀ q, Below wb.heap.size wb (W q)) := fun q => HBN.out.trans ((QO.out q).mono HBN.out.size)
            have QB : Hid (∀ q, Below w.heap.size w (W q)) := fun q => (HX.out _ (QZ.out q)).2.2
            clear QI0 QO0 d0 d1 d2 d3 d4 d5 d6 c1
            have y0 := fun q => (HX.out _ (QZ.out q)).1
            have y1 := fun q => (HX.out _ (QZ.out q)).2.1
            have m0 := fun q => (HXM.out _ (QO.out q)).1
            have m1 := fun q => (HXM.out _ (QO.out q)).2.1
            have m2 := fun q => (HXM.out _ (QO.out q)).2.2.1
            have m3 := fun q => (HXM.out _ (QO.out q)).2.2.2.1
            have m4 := fun q => (HXM.out _ (QO.out q)).2.2.2.2.1
            have m5 := fun q => (HXM.out _ (QO.out q)).2.2.2.2.2.1
            have m6 := fun q => (HXM.out _ (QO.out q)).2.2.2.2.2.2
            have HP : Hid (∀ j y, ms[j]? = some y → ∀ q, E1 (W q) b (off + j * 7) y) := fun j y hy q => by
              obtain ⟨b', off', e, _, E⟩ := RowG.at (HR.out.below (QB.out q)) rfl hy
              cases e
              exact E
            have z1 : ∀ q, (W q).cell? ⟨b, off + 1, none⟩ = some (.int .i64 x0.vw) := fun q => by have := (HP.out 0 x0 HXX.out q).2.1; simpa using this
            have z2 : ∀ q, (W q).cell? ⟨b, off + 2, none⟩ = some (.int .i64 x0.sq) := fun q => by have := (HP.out 0 x0 HXX.out q).2.2.1; simpa using this
            by_cases e1 : x.kd = 2
            · have f1 : (x.kd != 2) = false := by simp [e1]
              cases e2 : sg n x with
              | false =>
                rw [e2] at HSG
                have HKD : Hid (x.kd = 2) := e1
                clear e1
                have HF : Hid (crtB n bd ms = false) := crt_no HXX.out HXK.out (fun h => by have := h.1.1; rw [e2] at this; cases this)
                refine Qc.region_class (W := W) (by kernel_rfl) (by kernel_rfl) (QI.out _ Qc.from_drew) ?_
                repeat (go_big_quiet_step (first | (go_at_call 48; refine (HSG.out _).mono ?_; rintro e w2 ⟨rfl, b2⟩; exact ⟨rfl, Qc.back QI.out QO.out b2⟩) | (go_at_call 49; refine (HDG.out _).mono ?_; rintro e w2 ⟨rfl, b2⟩; exact ⟨rfl, Qc.back QI.out QO.out b2⟩)))
                refine wpQuiet_nil ?_
                rintro _ ⟨xq, rfl⟩
                have G2 : Hid (Below w.heap.size w (W xq)) := QB.out xq
                clear y0 y1 m0 m1 m2 m3 m4 m5 m6 z1 z2 HSG HDG
                generalize W xq = wq at G2 ⊢
                go_wp2_with fail
                go_ret
                exact ⟨ret_b HF.out.symm, G2.out⟩
              | true =>
                rw [e2] at HSG
                by_cases e3 : x.dg = dd
                · have f3 : (x.dg.toList != dd.toList) = false := by rw [e3]; simp
                  have f3b : (x.dg.toList == dd.toList) = true := by rw [e3]; simp
                  by_cases e4 : x.vw = x0.vw
                  · have f4 : (x.vw != x0.vw) = false := by simp [e4]
                    by_cases e5 : x.sq = x0.sq
                    · have f5 : (x.sq != x0.sq) = false := by simp [e5]
                      have HON0 : Hid ((∀ m y, k = m + 1 → ms[m]? = some y → y.fr < x.fr) → ∀ j y, j < k + 1 → ms[j]? = some y → One n bd x0 ms j y) := fun hm j y hj hy => by
                        by_cases ej : j = k
                        · subst ej; rw [HXK.out] at hy; cases hy; exact ⟨⟨e2, e1, e4, e5, e3.trans HDD.out.symm⟩, hm⟩
                        · exact HZ.out.1 j y (by omega) hy
                      clear e1 e2 e3 e4 e5
                      by_cases hk0 : k = 0
                      · subst hk0
                        have HON : Hid (∀ j y, j < 0 + 1 → ms[j]? = some y → One n bd x0 ms j y) := HON0.out fun m y hm => by omega
                        clear HON0
                        refine Qc.region_class (W := W) (by kernel_rfl) (by kernel_rfl) (QI.out _ Qc.from_drew) ?_
                        repeat (go_big_quiet_step (first | (go_at_call 48; refine (HSG.out _).mono ?_; rintro e w2 ⟨rfl, b2⟩; exact ⟨rfl, Qc.back QI.out QO.out b2⟩) | (go_at_call 49; refine (HDG.out _).mono ?_; rintro e w2 ⟨rfl, b2⟩; exact ⟨rfl, Qc.back QI.out QO.out b2⟩)))
                        refine wpQuiet_nil ?_
                        rintro _ ⟨xq, rfl⟩
                        have G2 : Hid (Below wb.heap.size wb (W xq)) := QZ.out xq
                        clear y0 y1 m0 m1 m2 m3 m4 m5 m6 z1 z2 HSG HDG
                        generalize W xq = wq at G2 ⊢
                        go_wp2_with fail
                        exact ⟨⟨0 + 1, by omega, by go_num, ⟨HON.out, G2.out⟩⟩, by simp [intOf]; omega⟩
                      · obtain ⟨j, rfl⟩ : ∃ j, k = j + 1 := ⟨k - 1, by omega⟩
                        obtain ⟨y, hy⟩ := Rg.get_at (xs := ms) (k := j) (by omega)
                        have HY : Hid (ms[j]? = some y) := hy
                        have p3 : ∀ q, (W q).cell? ⟨b, off + j * 7 + 3, none⟩ = some (.int .i64 y.fr) := fun q => (HP.out j y hy q).2.2.2.1
                        have q1 : (0 : Int) < (j : Int) + 1 := by omega
                        have q2 : (j : Int) + 1 < (ms.length : Int) := by omega
                        have q3 : (j : Int) < (ms.length : Int) := by omega
                        clear hy
                        by_cases e6 : x.fr ≤ y.fr
                        · have f6 : decide (x.fr ≤ y.fr) = true := decide_eq_true e6
                          clear HON0
                          have HF : Hid (crtB n bd ms = false) := crt_no HXX.out HXK.out (fun h => by have := h.2 j y rfl HY.out; omega)
                          refine Qc.region_class (W := W) (by kernel_rfl) (by kernel_rfl) (QI.out _ Qc.from_drew) ?_
                          repeat (go_big_quiet_step (first | (go_at_call 48; refine (HSG.out _).mono ?_; rintro e w2 ⟨rfl, b2⟩; exact ⟨rfl, Qc.back QI.out QO.out b2⟩) | (go_at_call 49; refine (HDG.out _).mono ?_; rintro e w2 ⟨rfl, b2⟩; exact ⟨rfl, Qc.back QI.out QO.out b2⟩)))
                          refine wpQuiet_nil ?_
                          rintro _ ⟨xq, rfl⟩
                          have G2 : Hid (Below w.heap.size w (W xq)) := QB.out xq
                          clear y0 y1 m0 m1 m2 m3 m4 m5 m6 z1 z2 HSG HDG
                          generalize W xq = wq at G2 ⊢
                          go_wp2_with fail
                          go_ret
                          exact ⟨ret_b HF.out.symm, G2.out⟩
                        · have f6 : decide (x.fr ≤ y.fr) = false := decide_eq_false e6
                          have HON : Hid (∀ i z, i < j + 1 + 1 → ms[i]? = some z → One n bd x0 ms i z) := HON0.out fun m z hm hz => by
                            obtain rfl : j = m := by omega
                            rw [HY.out] at hz
                            cases hz
                            omega
                          clear HON0 e6
                          refine Qc.region_class (W := W) (by kernel_rfl) (by kernel_rfl) (QI.out _ Qc.from_drew) ?_
                          repeat (go_big_quiet_step (first | (go_at_call 48; refine (HSG.out _).mono ?_; rintro e w2 ⟨rfl, b2⟩; exact ⟨rfl, Qc.back QI.out QO.out b2⟩) | (go_at_call 49; refine (HDG.out _).mono ?_; rintro e w2 ⟨rfl, b2⟩; exact ⟨rfl, Qc.back QI.out QO.out b2⟩)))
                          refine wpQuiet_nil ?_
                          rintro _ ⟨xq, rfl⟩
                          have G2 : Hid (Below wb.heap.size wb (W xq)) := QZ.out xq
                          clear y0 y1 m0 m1 m2 m3 m4 m5 m6 z1 z2 HSG HDG
                          generalize W xq = wq at G2 ⊢
                          go_wp2_with fail
                          exact ⟨⟨j + 1 + 1, by omega, by go_num, ⟨HON.out, G2.out⟩⟩, by simp [intOf]; omega⟩
                    · have f5 : (x.sq != x0.sq) = true := by simp [e5]
                      clear e1 e3 e4
                      have HF : Hid (crtB n bd ms = false) := crt_no HXX.out HXK.out (fun h => e5 h.1.2.2.2.1)
                      refine Qc.region_class (W := W) (by kernel_rfl) (by kernel_rfl) (QI.out _ Qc.from_drew) ?_
                      repeat (go_big_quiet_step (first | (go_at_call 48; refine (HSG.out _).mono ?_; rintro e w2 ⟨rfl, b2⟩; exact ⟨rfl, Qc.back QI.out QO.out b2⟩) | (go_at_call 49; refine (HDG.out _).mono ?_; rintro e w2 ⟨rfl, b2⟩; exact ⟨rfl, Qc.back QI.out QO.out b2⟩)))
                      refine wpQuiet_nil ?_
                      rintro _ ⟨xq, rfl⟩
                      have G2 : Hid (Below w.heap.size w (W xq)) := QB.out xq
                      clear y0 y1 m0 m1 m2 m3 m4 m5 m6 z1 z2 HSG HDG
                      generalize W xq = wq at G2 ⊢
                      go_wp2_with fail
                      go_ret
                      exact ⟨ret_b HF.out.symm, G2.out⟩
                  · have f4 : (x.vw != x0.vw) = true := by simp [e4]
                    clear e1 e3
                    have HF : Hid (crtB n bd ms = false) := crt_no HXX.out HXK.out (fun h => e4 h.1.2.2.1)
                    refine Qc.region_class (W := W) (by kernel_rfl) (by kernel_rfl) (QI.out _ Qc.from_drew) ?_
                    repeat (go_big_quiet_step (first | (go_at_call 48; refine (HSG.out _).mono ?_; rintro e w2 ⟨rfl, b2⟩; exact ⟨rfl, Qc.back QI.out QO.out b2⟩) | (go_at_call 49; refine (HDG.out _).mono ?_; rintro e w2 ⟨rfl, b2⟩; exact ⟨rfl, Qc.back QI.out QO.out b2⟩)))
                    refine wpQuiet_nil ?_
                    rintro _ ⟨xq, rfl⟩
                    have G2 : Hid (Below w.heap.size w (W xq)) := QB.out xq
                    clear y0 y1 m0 m1 m2 m3 m4 m5 m6 z1 z2 HSG HDG
                    generalize W xq = wq at G2 ⊢
                    go_wp2_with fail
                    go_ret
                    exact ⟨ret_b HF.out.symm, G2.out⟩
                · have f3 : (x.dg.toList != dd.toList) = true := by
                    rw [bne, list_eq_bytes, bOf_false e3]; rfl
                  have f3b : (x.dg.toList == dd.toList) = false := by rw [list_eq_bytes, bOf_false e3]
                  clear e1
                  have HF : Hid (crtB n bd ms = false) := crt_no HXX.out HXK.out (fun h => e3 (h.1.2.2.2.2.trans HDD.out))
                  refine Qc.region_class (W := W) (by kernel_rfl) (by kernel_rfl) (QI.out _ Qc.from_drew) ?_
                  repeat (go_big_quiet_step (first | (go_at_call 48; refine (HSG.out _).mono ?_; rintro e w2 ⟨rfl, b2⟩; exact ⟨rfl, Qc.back QI.out QO.out b2⟩) | (go_at_call 49; refine (HDG.out _).mono ?_; rintro e w2 ⟨rfl, b2⟩; exact ⟨rfl, Qc.back QI.out QO.out b2⟩)))
                  refine wpQuiet_nil ?_
                  rintro _ ⟨xq, rfl⟩
                  have G2 : Hid (Below w.heap.size w (W xq)) := QB.out xq
                  clear y0 y1 m0 m1 m2 m3 m4 m5 m6 z1 z2 HSG HDG
                  generalize W xq = wq at G2 ⊢
                  go_wp2_with fail
                  go_ret
                  exact ⟨ret_b HF.out.symm, G2.out⟩
            · have f1 : (x.kd != 2) = true := by simp [e1]
              have HF : Hid (crtB n bd ms = false) := crt_no HXX.out HXK.out (fun h => e1 h.1.2.1)
              refine Qc.region_class (W := W) (by kernel_rfl) (by kernel_rfl) (QI.out _ Qc.from_drew) ?_
              repeat (go_big_quiet_step (first | (go_at_call 48; refine (HSG.out _).mono ?_; rintro e w2 ⟨rfl, b2⟩; exact ⟨rfl, Qc.back QI.out QO.out b2⟩) | (go_at_call 49; refine (HDG.out _).mono ?_; rintro e w2 ⟨rfl, b2⟩; exact ⟨rfl, Qc.back QI.out QO.out b2⟩)))
              refine wpQuiet_nil ?_
              rintro _ ⟨xq, rfl⟩
              have G2 : Hid (Below w.heap.size w (W xq)) := QB.out xq
              clear y0 y1 m0 m1 m2 m3 m4 m5 m6 z1 z2 HSG HDG
              generalize W xq = wq at G2 ⊢
              go_wp2_with fail
              go_ret
              exact ⟨ret_b HF.out.symm, G2.out⟩
          · obtain rfl : k = ms.length := by omega
            have HF : Hid (crtB n bd ms = true) := crt_yes HXX.out HFC.out HQL.out HBP.out HZ.out.1
            go_wp2_with fail
            go_ret
            exact ⟨ret_b HF.out.symm, (HX.out _ HZ.out.2).2.2⟩
  · have hq' : ((ms.length : Int) != qOut n) = true := by simp [hq]
    have HE : Hid (crtB n bd ms = false) := bOf_false fun h => hq h.2.1
    obtain ⟨q, HQ⟩ : ∃ q, Hid (qOut n = q) := ⟨_, rfl⟩
    rw [HQ.out] at HQM hq'
    clear hq
    go_enter Tryz.func28, Tryz.ntmps28
    go_upto_region 1 with fail
    generalize w.alloc (.cells #[.string bd, .slice a ms.length cap] 29) = wb at HX ⊢
    obtain ⟨X, hX, W, QI0, QO0⟩ := Qc.klass wb
    have QI : Hid (∀ w', Below wb.heap.size wb w' → ∃ x, w' = W x) := QI0
    have QO : Hid (∀ x, Below wb.heap.size wb (W x)) := QO0
    clear QI0 QO0
    have y0 := fun q => (HX.out _ (QO.out q)).1
    have y1 := fun q => (HX.out _ (QO.out q)).2.1
    refine Qc.region_class (W := W) (by kernel_rfl) (by kernel_rfl) (QI.out _ Qc.from_drew) ?_
    repeat (go_big_quiet_step (first | (go_at_call 40; refine (HQM.out _).mono ?_; rintro e w2 ⟨rfl, rfl⟩; exact ⟨rfl, ⟨_, rfl⟩⟩)))
    refine wpQuiet_nil ?_
    rintro _ ⟨xq, rfl⟩
    have G2 : Hid (Below w.heap.size w (W xq)) := (HX.out _ (QO.out xq)).2.2
    generalize W xq = wq at G2 ⊢
    go_wp2_with fail
    go_ret
    exact ⟨ret_b HE.out.symm, G2.out⟩
set_option maxRecDepth 100000 in
set_option maxHeartbeats 800000 in
theorem specCertOK_any (n : Int) (bd : ByteArray) (vr : Value) (ms : List Mg) (w : World) (h : Row w vr ms) (hl : ms.length ≤ 1048576) :
    Calls Tryz.prog 7 #[.int .i64 n, .agg #[.string bd, vr]] w fun e w' => e = .returned (.bool (crtB n bd ms)) ∧ Below w.heap.size w w' := by
  have HLC : Hid (fCode n = 0 → ∀ W, Below w.heap.size w W → Calls Tryz.prog 28 #[.int .i64 n, .agg #[.string bd, vr]] W fun e w' => e = .returned (.bool (crtB n bd ms)) ∧ Below W.heap.size W w') := fun hf W hW => l06Cert_any n bd vr ms W hf (h.below hW) hl
  obtain ⟨a, cap, rfl⟩ := RowG.slice h
  have HB : Hid (∀ o, Below w.heap.size w (w.alloc o)) := fun o => bel_new w o
  have HLN := Qm.l04Nodes_any n
  by_cases hf : fCode n = 0
  · have HL2 := HLC.out hf
    have HLC2 : Hid (∀ W, Below w.heap.size w W → Calls Tryz.prog 28 #[.int .i64 n, .agg #[.string bd, .slice a ms.length cap]] W fun e w' => e = .returned (.bool (crtB n bd ms)) ∧ Below W.heap.size W w') := HL2
    rw [decide_eq_true hf] at HLN
    obtain ⟨o, HO⟩ : ∃ o, Hid (crtB n bd ms = o) := ⟨_, rfl⟩
    rw [HO.out] at HLC2
    clear HL2 HLC h hl
    go_enter Tryz.func7, Tryz.ntmps7
    go_wp2_with fail
    refine (HLN _).mono ?_
    rintro e w1 ⟨rfl, rfl⟩
    go_wp2_with fail
    refine (HLC2.out _ (HB.out _)).mono ?_
    rintro e w1 ⟨rfl, b1⟩
    have B1 : Hid (Below w.heap.size w w1) := (HB.out _).trans (b1.mono (HB.out _).size)
    clear b1
    go_wp2_with fail
    go_ret
    exact ⟨ret_b HO.out.symm, B1.out⟩
  · have HE : Hid (crtB n bd ms = false) := bOf_false fun h => hf h.1
    rw [decide_eq_false hf] at HLN
    clear HLC h hl
    go_enter Tryz.func7, Tryz.ntmps7
    go_wp2_with fail
    refine (HLN _).mono ?_
    rintro e w1 ⟨rfl, rfl⟩
    go_wp2_with fail
    go_ret
    exact ⟨ret_b HE.out.symm, HB.out _⟩
end Go.Proofs.YtddmdnljfnimbaaGreatDoor.Vt
