/- Texts put together: Vs, Rc4, Wc, Wd, We. -/
import Derived.Test.YtkfiahemgdppfaaGreatDoorM18
import Derived.Test.YtkfiahemgdppfaaGreatDoorM15
/- Certificates that are right: the specification. -/
namespace Go.Proofs.YtkfiahemgdppfaaGreatDoor.Vt
open Go.RowKit Go.Proofs.YtkfiahemgdppfaaGreatDoor.Gm Go.Proofs.YtkfiahemgdppfaaGreatDoor.Si Go.Proofs.YtkfiahemgdppfaaGreatDoor.Tm Go.Proofs.YtkfiahemgdppfaaGreatDoor.Ms Go.Proofs.YtkfiahemgdppfaaGreatDoor.Sh
open Go.Proofs.YtkfiahemgdppfaaGreatDoor.Qm (qOut)
open Go.Proofs.YtkfiahemgdppfaaGreatDoor.Bd (dig dOut dCode l06Digest_any)
open Go.Proofs.YtkfiahemgdppfaaGreatDoor.Bw (bdB bdP l06Body_any)
open Go.Proofs.YtkfiahemgdppfaaGreatDoor.Rg (RowG RowG.slice RowG.at lt_at mem_at blk_cell blk_set bel_new)

/-- What is asked of one vote of a certificate. -/
def One (n : Int) (bd : ByteArray) (x0 : Mg) (ms : List Mg) (j : Nat) (x : Mg) : Prop := (sg n x = true ∧ ForB x0.vw x0.sq (dig bd) x) ∧ ∀ m y, j = m + 1 → ms[m]? = some y → y.fr < x.fr
theorem crt_no {n : Int} {bd : ByteArray} {x0 x : Mg} {ms : List Mg} {j : Nat} (h0 : ms[0]? = some x0) (hx : ms[j]? = some x) (h : ¬ One n bd x0 ms j x) : crtB n bd ms = false := bOf_false fun ⟨_, _, _, ⟨z, hz, h4⟩, h5⟩ => by
  rw [h0] at hz
  cases hz
  refine h ⟨h4 x (mem_at hx), fun m y hm hy => ?_⟩
  subst hm
  exact h5 m y x (lt_at hx) hy hx
theorem crt_yes {n : Int} {bd : ByteArray} {x0 : Mg} {ms : List Mg} (h0 : ms[0]? = some x0) (h1 : fCode n = 0) (h2 : (ms.length : Int) = qOut n) (h3 : bdP n bd = true) (h : ∀ j x, j < ms.length → ms[j]? = some x → One n bd x0 ms j x) : crtB n bd ms = true := by
  refine bOf_true ⟨h1, h2, h3, ⟨x0, h0, fun y hy => ?_⟩, fun j x y hj hx hy => ?_⟩
  · obtain ⟨j, hj, e⟩ := List.getElem_of_mem hy
    exact (h j y hj (by rw [List.getElem?_eq_getElem hj, e])).1
  · exact (h (j + 1) y hj hy).2 j x rfl hx
set_option maxRecDepth 100000 in
set_option maxHeartbeats 3200000 in
theorem l06Cert_any (n : Int) (bd : ByteArray) (vr : Value) (ms : List Mg) (w : World) (hf : fCode n = 0) (h : Row w vr ms) (hl : ms.length ≤ 1048576) :
    Calls Tryz.prog 35 #[.int .i64 n, .agg #[.string bd, vr]] w fun e w' => e = .returned (.bool (crtB n bd ms)) ∧ Below w.heap.size w w' := by
  have HR : Hid (Row w vr ms) := h
  obtain ⟨a, cap, rfl⟩ := RowG.slice h
  have HX : Hid (∀ W, Below (w.alloc (.cells #[.string bd, .slice a ms.length cap] 37)).heap.size (w.alloc (.cells #[.string bd, .slice a ms.length cap] 37)) W → W.cell? ⟨w.heap.size, 0, none⟩ = some (.string bd) ∧ W.cell? ⟨w.heap.size, 1, none⟩ = some (.slice a ms.length cap) ∧ Below w.heap.size w W) := fun W hW => by
    have h1 := (hW.block w.heap.size (by simp)).trans (heap_alloc_new w _)
    exact ⟨(blk_cell h1 0 rfl).1, (blk_cell h1 1 rfl).1, (bel_new w _).trans (hW.mono (by simp))⟩
  have HQM : Hid (∀ W, Calls Tryz.prog 24 #[.int .i64 n] W fun e w' => e = .returned (.int .i64 (qOut n)) ∧ W = w') := fun W => Qm.l06Quorum_any n W hf
  clear h
  by_cases hq : (ms.length : Int) = qOut n
  · have hq' : ((ms.length : Int) != qOut n) = false := by simp [hq]
    by_cases h20 : (20000 : Int) < (bd.size : Int)
    · have HE : Hid (crtB n bd ms = false) := crt_b (by unfold bdP; rw [decide_eq_false (by omega)]; rfl)
      have h20' : decide ((20000 : Int) < (bd.size : Int)) = true := decide_eq_true h20
      obtain ⟨q, HQ⟩ : ∃ q, Hid (qOut n = q) := ⟨_, rfl⟩
      rw [HQ.out] at HQM hq'
      clear hq
      go_enter Tryz.func35, Tryz.ntmps35
      go_upto_region 1 with fail
      generalize w.alloc (.cells #[.string bd, .slice a ms.length cap] 37) = wb at HX ⊢
      obtain ⟨X, hX, W, QI0, QO0⟩ := Qc.klass wb
      have QI : Hid (∀ w', Below wb.heap.size wb w' → ∃ x, w' = W x) := QI0
      have QO : Hid (∀ x, Below wb.heap.size wb (W x)) := QO0
      clear QI0 QO0
      have y0 := fun q => (HX.out _ (QO.out q)).1
      have y1 := fun q => (HX.out _ (QO.out q)).2.1
      refine Qc.region_class (W := W) (by kernel_rfl) (by kernel_rfl) (QI.out _ Qc.from_drew) ?_
      repeat (go_big_quiet_step (first | (go_at_call 24; refine (HQM.out _).mono ?_; rintro e w2 ⟨rfl, rfl⟩; exact ⟨rfl, ⟨_, rfl⟩⟩)))
      refine wpQuiet_nil ?_
      rintro _ ⟨xq, rfl⟩
      have G2 : Hid (Below w.heap.size w (W xq)) := (HX.out _ (QO.out xq)).2.2
      generalize W xq = wq at G2 ⊢
      go_wp2_with fail
      go_ret
      exact ⟨ret_b HE.out.symm, G2.out⟩
    · have h20' : decide ((20000 : Int) < (bd.size : Int)) = false := decide_eq_false h20
      have HLB : Hid (∀ W, Calls Tryz.prog 33 #[.int .i64 n, .string bd] W fun e w' => e = .returned (.bool (bdB n bd)) ∧ Below W.heap.size W w') := fun W => l06Body_any n bd W hf (by omega)
      cases hbd : bdB n bd with
      | false =>
        have HE : Hid (crtB n bd ms = false) := crt_b (by unfold bdP; rw [hbd, Bool.and_false])
        rw [hbd] at HLB
        obtain ⟨q, HQ⟩ : ∃ q, Hid (qOut n = q) := ⟨_, rfl⟩
        rw [HQ.out] at HQM hq'
        clear hq hbd
        go_enter Tryz.func35, Tryz.ntmps35
        go_upto_region 1 with fail
        generalize w.alloc (.cells #[.string bd, .slice a ms.length cap] 37) = wb at HX ⊢
        obtain ⟨X, hX, W, QI0, QO0⟩ := Qc.klass wb
        have QI : Hid (∀ w', Below wb.heap.size wb w' → ∃ x, w' = W x) := QI0
        have QO : Hid (∀ x, Below wb.heap.size wb (W x)) := QO0
        clear QI0 QO0
        have y0 := fun q => (HX.out _ (QO.out q)).1
        have y1 := fun q => (HX.out _ (QO.out q)).2.1
        refine Qc.region_class (W := W) (by kernel_rfl) (by kernel_rfl) (QI.out _ Qc.from_drew) ?_
        repeat (go_big_quiet_step (first | (go_at_call 24; refine (HQM.out _).mono ?_; rintro e w2 ⟨rfl, rfl⟩; exact ⟨rfl, ⟨_, rfl⟩⟩) | (go_at_call 33; refine (HLB.out _).mono ?_; rintro e w2 ⟨rfl, b2⟩; exact ⟨rfl, Qc.back QI.out QO.out b2⟩)))
        refine wpQuiet_nil ?_
        rintro _ ⟨xq, rfl⟩
        have G2 : Hid (Below w.heap.size w (W xq)) := (HX.out _ (QO.out xq)).2.2
        generalize W xq = wq at G2 ⊢
        go_wp2_with fail
        go_ret
        exact ⟨ret_b HE.out.symm, G2.out⟩
      | true =>
        have HBP : Hid (bdP n bd = true) := by show _ = _; unfold bdP; rw [hbd, decide_eq_true (by omega)]; rfl
        obtain ⟨x0, hx0⟩ := Rg.get_at (xs := ms) (k := 0) (by have := (q_pos hf).1; omega)
        have HXX : Hid (ms[0]? = some x0) := hx0
        have HQL : Hid ((ms.length : Int) = qOut n) := hq
        have HFC : Hid (fCode n = 0) := hf
        have hn0 : (0 : Int) < (ms.length : Int) := by have := lt_at hx0; omega
        have HDG0 : Hid (∀ W, Calls Tryz.prog 67 #[.string bd] W fun e w' => e = .returned (.string (dig bd)) ∧ Below W.heap.size W w') := fun W => l06Digest_any bd W (by omega)
        rw [hbd] at HLB
        obtain ⟨q, HQ⟩ : ∃ q, Hid (qOut n = q) := ⟨_, rfl⟩
        rw [HQ.out] at HQM hq'
        clear hq hbd hf hx0
        go_enter Tryz.func35, Tryz.ntmps35
        go_upto_region 1 with fail
        generalize w.alloc (.cells #[.string bd, .slice a ms.length cap] 37) = wb at HX ⊢
        obtain ⟨X, hX, W, QI0, QO0⟩ := Qc.klass wb
        have QI : Hid (∀ w', Below wb.heap.size wb w' → ∃ x, w' = W x) := QI0
        have QO : Hid (∀ x, Below wb.heap.size wb (W x)) := QO0
        clear QI0 QO0
        have y0 := fun q => (HX.out _ (QO.out q)).1
        have y1 := fun q => (HX.out _ (QO.out q)).2.1
        refine Qc.region_class (W := W) (by kernel_rfl) (by kernel_rfl) (QI.out _ Qc.from_drew) ?_
        repeat (go_big_quiet_step (first | (go_at_call 24; refine (HQM.out _).mono ?_; rintro e w2 ⟨rfl, rfl⟩; exact ⟨rfl, ⟨_, rfl⟩⟩) | (go_at_call 33; refine (HLB.out _).mono ?_; rintro e w2 ⟨rfl, b2⟩; exact ⟨rfl, Qc.back QI.out QO.out b2⟩)))
        refine wpQuiet_nil ?_
        rintro _ ⟨xq, rfl⟩
        have G2 : Hid (Below wb.heap.size wb (W xq)) := QO.out xq
        clear y0 y1 QI QO
        generalize W xq = wq at G2 ⊢
        go_wp2_with fail
        go_loopw [5] (fun i wr => ∃ k : Nat, k ≤ ms.length ∧ i = .int .i64 k ∧ Hid ((∀ j y, j < k → ms[j]? = some y → One n bd x0 ms j y) ∧ Below wb.heap.size wb wr)) (fun i _ => ms.length - (intOf i).toNat)
        case atStart => exact ⟨0, by omega, rfl, ⟨fun j y hj => by omega, G2.out⟩⟩
        case round =>
          obtain ⟨k, hk, rfl, HZ⟩ := hrel
          have c1 := (HX.out _ HZ.out.2).2.1
          by_cases hlt : k < ms.length
          · obtain ⟨x, hx⟩ := Rg.get_at hlt
            obtain ⟨b, off, rfl, hbl, d0, d1, d2, d3, d4, d5, d6⟩ := RowG.at (HR.out.below (HX.out _ HZ.out.2).2.2) rfl hx
            have HXK : Hid (ms[k]? = some x) := hx
            have HBN : Hid (Below wb.heap.size wb (wr.alloc (.cells #[.int .i64 x.kd, .int .i64 x.vw, .int .i64 x.sq, .int .i64 x.fr, .string x.dg, .string x.bd, .string x.mc] 26))) := HZ.out.2.alloc HZ.out.2.size _
            have HXM : Hid (∀ W, Below (wr.alloc (.cells #[.int .i64 x.kd, .int .i64 x.vw, .int .i64 x.sq, .int .i64 x.fr, .string x.dg, .string x.bd, .string x.mc] 26)).heap.size (wr.alloc (.cells #[.int .i64 x.kd, .int .i64 x.vw, .int .i64 x.sq, .int .i64 x.fr, .string x.dg, .string x.bd, .string x.mc] 26)) W → W.cell? ⟨wr.heap.size, 0, none⟩ = some (.int .i64 x.kd) ∧ W.cell? ⟨wr.heap.size, 1, none⟩ = some (.int .i64 x.vw) ∧ W.cell? ⟨wr.heap.size, 2, none⟩ = some (.int .i64 x.sq) ∧ W.cell? ⟨wr.heap.size, 3, none⟩ = some (.int .i64 x.fr) ∧ W.cell? ⟨wr.heap.size, 4, none⟩ = some (.string x.dg) ∧ W.cell? ⟨wr.heap.size, 5, none⟩ = some (.string x.bd) ∧ W.cell? ⟨wr.heap.size, 6, none⟩ = some (.string x.mc)) := fun W hW => by
              have h1 := (hW.block wr.heap.size (by simp)).trans (heap_alloc_new wr _)
              exact ⟨(blk_cell h1 0 rfl).1, (blk_cell h1 1 rfl).1, (blk_cell h1 2 rfl).1, (blk_cell h1 3 rfl).1, (blk_cell h1 4 rfl).1, (blk_cell h1 5 rfl).1, (blk_cell h1 6 rfl).1⟩
            have HSG : Hid (∀ W, Calls Tryz.prog 66 #[.int .i64 n, .agg #[.int .i64 x.kd, .int .i64 x.vw, .int .i64 x.sq, .int .i64 x.fr, .string x.dg, .string x.bd, .string x.mc]] W fun e w' => e = .returned (.bool (sg n x)) ∧ Below W.heap.size W w') := fun W => by
              rw [sg_eq HFC.out]; exact l06Signed_any n x.kd x.vw x.sq x.fr x.dg x.bd x.mc W
            have HDG : Hid (∀ W, Calls Tryz.prog 67 #[.string bd] W fun e w' => e = .returned (.string (dig bd)) ∧ Below W.heap.size W w') := HDG0.out
            obtain ⟨dd, HDD⟩ : ∃ dd, Hid (dig bd = dd) := ⟨_, rfl⟩
            rw [HDD.out] at HDG
            clear hx
            go_upto_region 7 with fail
            generalize wr.alloc (.cells #[.int .i64 x.kd, .int .i64 x.vw, .int .i64 x.sq, .int .i64 x.fr, .string x.dg, .string x.bd, .string x.mc] 26) = wc at HXM HBN ⊢
            obtain ⟨X2, hX2, W, QI0, QO0⟩ := Qc.klass wc
            have QI : Hid (∀ w', Below wc.heap.size wc w' → ∃ x, w' = W x) := QI0
            have QO : Hid (∀ x, Below wc.heap.size wc (W x)) := QO0
            have QZ : Hid (∀ q, Below wb.heap.size wb (W q)) := fun q => HBN.out.trans ((QO.out q).mono HBN.out.size)
            have QB : Hid (∀ q, Below w.heap.size w (W q)) := fun q => (HX.out _ (QZ.out q)).2.2
            clear QI0 QO0 d0 d1 d2 d3 d4 d5 d6 c1
            have y0 := fun q => (HX.out _ (QZ.out q)).1
            have y1 := fun q => (HX.out _ (QZ.out q)).2.1
            have m0 := fun q => (HXM.out _ (QO.out q)).1
            have m1 := fun q => (HXM.out _ (QO.out q)).2.1
            have m2 := fun q => (HXM.out _ (QO.out q)).2.2.1
            have m3 := fun q => (HXM.out _ (QO.out q)).2.2.2.1
            have m4 := fun q => (HXM.out _ (QO.out q)).2.2.2.2.1
            have m5 := fun q => (HXM.out _ (QO.out q)).2.2.2.2.2.1
            have m6 := fun q => (HXM.out _ (QO.out q)).2.2.2.2.2.2
            have HP : Hid (∀ j y, ms[j]? = some y → ∀ q, E1 (W q) b (off + j * 7) y) := fun j y hy q => by
              obtain ⟨b', off', e, _, E⟩ := RowG.at (HR.out.below (QB.out q)) rfl hy
              cases e
              exact E
            have z1 : ∀ q, (W q).cell? ⟨b, off + 1, none⟩ = some (.int .i64 x0.vw) := fun q => by have := (HP.out 0 x0 HXX.out q).2.1; simpa using this
            have z2 : ∀ q, (W q).cell? ⟨b, off + 2, none⟩ = some (.int .i64 x0.sq) := fun q => by have := (HP.out 0 x0 HXX.out q).2.2.1; simpa using this
            by_cases e1 : x.kd = 2
            · have f1 : (x.kd != 2) = false := by simp [e1]
              cases e2 : sg n x with
              | false =>
                rw [e2] at HSG
                have HKD : Hid (x.kd = 2) := e1
                clear e1
                have HF : Hid (crtB n bd ms = false) := crt_no HXX.out HXK.out (fun h => by have := h.1.1; rw [e2] at this; cases this)
                refine Qc.region_class (W := W) (by kernel_rfl) (by kernel_rfl) (QI.out _ Qc.from_drew) ?_
                repeat (go_big_quiet_step (first | (go_at_call 66; refine (HSG.out _).mono ?_; rintro e w2 ⟨rfl, b2⟩; exact ⟨rfl, Qc.back QI.out QO.out b2⟩) | (go_at_call 67; refine (HDG.out _).mono ?_; rintro e w2 ⟨rfl, b2⟩; exact ⟨rfl, Qc.back QI.out QO.out b2⟩)))
                refine wpQuiet_nil ?_
                rintro _ ⟨xq, rfl⟩
                have G2 : Hid (Below w.heap.size w (W xq)) := QB.out xq
                clear y0 y1 m0 m1 m2 m3 m4 m5 m6 z1 z2 HSG HDG
                generalize W xq = wq at G2 ⊢
                go_wp2_with fail
                go_ret
                exact ⟨ret_b HF.out.symm, G2.out⟩
              | true =>
                rw [e2] at HSG
                by_cases e3 : x.dg = dd
                · have f3 : (x.dg.toList != dd.toList) = false := by rw [e3]; simp
                  have f3b : (x.dg.toList == dd.toList) = true := by rw [e3]; simp
                  by_cases e4 : x.vw = x0.vw
                  · have f4 : (x.vw != x0.vw) = false := by simp [e4]
                    by_cases e5 : x.sq = x0.sq
                    · have f5 : (x.sq != x0.sq) = false := by simp [e5]
                      have HON0 : Hid ((∀ m y, k = m + 1 → ms[m]? = some y → y.fr < x.fr) → ∀ j y, j < k + 1 → ms[j]? = some y → One n bd x0 ms j y) := fun hm j y hj hy => by
                        by_cases ej : j = k
                        · subst ej; rw [HXK.out] at hy; cases hy; exact ⟨⟨e2, e1, e4, e5, e3.trans HDD.out.symm⟩, hm⟩
                        · exact HZ.out.1 j y (by omega) hy
                      clear e1 e2 e3 e4 e5
                      by_cases hk0 : k = 0
                      · subst hk0
                        have HON : Hid (∀ j y, j < 0 + 1 → ms[j]? = some y → One n bd x0 ms j y) := HON0.out fun m y hm => by omega
                        clear HON0
                        refine Qc.region_class (W := W) (by kernel_rfl) (by kernel_rfl) (QI.out _ Qc.from_drew) ?_
                        repeat (go_big_quiet_step (first | (go_at_call 66; refine (HSG.out _).mono ?_; rintro e w2 ⟨rfl, b2⟩; exact ⟨rfl, Qc.back QI.out QO.out b2⟩) | (go_at_call 67; refine (HDG.out _).mono ?_; rintro e w2 ⟨rfl, b2⟩; exact ⟨rfl, Qc.back QI.out QO.out b2⟩)))
                        refine wpQuiet_nil ?_
                        rintro _ ⟨xq, rfl⟩
                        have G2 : Hid (Below wb.heap.size wb (W xq)) := QZ.out xq
                        clear y0 y1 m0 m1 m2 m3 m4 m5 m6 z1 z2 HSG HDG
                        generalize W xq = wq at G2 ⊢
                        go_wp2_with fail
                        exact ⟨⟨0 + 1, by omega, by go_num, ⟨HON.out, G2.out⟩⟩, by simp [intOf]; omega⟩
                      · obtain ⟨j, rfl⟩ : ∃ j, k = j + 1 := ⟨k - 1, by omega⟩
                        obtain ⟨y, hy⟩ := Rg.get_at (xs := ms) (k := j) (by omega)
                        have HY : Hid (ms[j]? = some y) := hy
                        have p3 : ∀ q, (W q).cell? ⟨b, off + j * 7 + 3, none⟩ = some (.int .i64 y.fr) := fun q => (HP.out j y hy q).2.2.2.1
                        have q1 : (0 : Int) < (j : Int) + 1 := by omega
                        have q2 : (j : Int) + 1 < (ms.length : Int) := by omega
                        have q3 : (j : Int) < (ms.length : Int) := by omega
                        clear hy
                        by_cases e6 : x.fr ≤ y.fr
                        · have f6 : decide (x.fr ≤ y.fr) = true := decide_eq_true e6
                          clear HON0
                          have HF : Hid (crtB n bd ms = false) := crt_no HXX.out HXK.out (fun h => by have := h.2 j y rfl HY.out; omega)
                          refine Qc.region_class (W := W) (by kernel_rfl) (by kernel_rfl) (QI.out _ Qc.from_drew) ?_
                          repeat (go_big_quiet_step (first | (go_at_call 66; refine (HSG.out _).mono ?_; rintro e w2 ⟨rfl, b2⟩; exact ⟨rfl, Qc.back QI.out QO.out b2⟩) | (go_at_call 67; refine (HDG.out _).mono ?_; rintro e w2 ⟨rfl, b2⟩; exact ⟨rfl, Qc.back QI.out QO.out b2⟩)))
                          refine wpQuiet_nil ?_
                          rintro _ ⟨xq, rfl⟩
                          have G2 : Hid (Below w.heap.size w (W xq)) := QB.out xq
                          clear y0 y1 m0 m1 m2 m3 m4 m5 m6 z1 z2 HSG HDG
                          generalize W xq = wq at G2 ⊢
                          go_wp2_with fail
                          go_ret
                          exact ⟨ret_b HF.out.symm, G2.out⟩
                        · have f6 : decide (x.fr ≤ y.fr) = false := decide_eq_false e6
                          have HON : Hid (∀ i z, i < j + 1 + 1 → ms[i]? = some z → One n bd x0 ms i z) := HON0.out fun m z hm hz => by
                            obtain rfl : j = m := by omega
                            rw [HY.out] at hz
                            cases hz
                            omega
                          clear HON0 e6
                          refine Qc.region_class (W := W) (by kernel_rfl) (by kernel_rfl) (QI.out _ Qc.from_drew) ?_
                          repeat (go_big_quiet_step (first | (go_at_call 66; refine (HSG.out _).mono ?_; rintro e w2 ⟨rfl, b2⟩; exact ⟨rfl, Qc.back QI.out QO.out b2⟩) | (go_at_call 67; refine (HDG.out _).mono ?_; rintro e w2 ⟨rfl, b2⟩; exact ⟨rfl, Qc.back QI.out QO.out b2⟩)))
                          refine wpQuiet_nil ?_
                          rintro _ ⟨xq, rfl⟩
                          have G2 : Hid (Below wb.heap.size wb (W xq)) := QZ.out xq
                          clear y0 y1 m0 m1 m2 m3 m4 m5 m6 z1 z2 HSG HDG
                          generalize W xq = wq at G2 ⊢
                          go_wp2_with fail
                          exact ⟨⟨j + 1 + 1, by omega, by go_num, ⟨HON.out, G2.out⟩⟩, by simp [intOf]; omega⟩
                    · have f5 : (x.sq != x0.sq) = true := by simp [e5]
                      clear e1 e3 e4
                      have HF : Hid (crtB n bd ms = false) := crt_no HXX.out HXK.out (fun h => e5 h.1.2.2.2.1)
                      refine Qc.region_class (W := W) (by kernel_rfl) (by kernel_rfl) (QI.out _ Qc.from_drew) ?_
                      repeat (go_big_quiet_step (first | (go_at_call 66; refine (HSG.out _).mono ?_; rintro e w2 ⟨rfl, b2⟩; exact ⟨rfl, Qc.back QI.out QO.out b2⟩) | (go_at_call 67; refine (HDG.out _).mono ?_; rintro e w2 ⟨rfl, b2⟩; exact ⟨rfl, Qc.back QI.out QO.out b2⟩)))
                      refine wpQuiet_nil ?_
                      rintro _ ⟨xq, rfl⟩
                      have G2 : Hid (Below w.heap.size w (W xq)) := QB.out xq
                      clear y0 y1 m0 m1 m2 m3 m4 m5 m6 z1 z2 HSG HDG
                      generalize W xq = wq at G2 ⊢
                      go_wp2_with fail
                      go_ret
                      exact ⟨ret_b HF.out.symm, G2.out⟩
                  · have f4 : (x.vw != x0.vw) = true := by simp [e4]
                    clear e1 e3
                    have HF : Hid (crtB n bd ms = false) := crt_no HXX.out HXK.out (fun h => e4 h.1.2.2.1)
                    refine Qc.region_class (W := W) (by kernel_rfl) (by kernel_rfl) (QI.out _ Qc.from_drew) ?_
                    repeat (go_big_quiet_step (first | (go_at_call 66; refine (HSG.out _).mono ?_; rintro e w2 ⟨rfl, b2⟩; exact ⟨rfl, Qc.back QI.out QO.out b2⟩) | (go_at_call 67; refine (HDG.out _).mono ?_; rintro e w2 ⟨rfl, b2⟩; exact ⟨rfl, Qc.back QI.out QO.out b2⟩)))
                    refine wpQuiet_nil ?_
                    rintro _ ⟨xq, rfl⟩
                    have G2 : Hid (Below w.heap.size w (W xq)) := QB.out xq
                    clear y0 y1 m0 m1 m2 m3 m4 m5 m6 z1 z2 HSG HDG
                    generalize W xq = wq at G2 ⊢
                    go_wp2_with fail
                    go_ret
                    exact ⟨ret_b HF.out.symm, G2.out⟩
                · have f3 : (x.dg.toList != dd.toList) = true := by
                    rw [bne, list_eq_bytes, bOf_false e3]; rfl
                  have f3b : (x.dg.toList == dd.toList) = false := by rw [list_eq_bytes, bOf_false e3]
                  clear e1
                  have HF : Hid (crtB n bd ms = false) := crt_no HXX.out HXK.out (fun h => e3 (h.1.2.2.2.2.trans HDD.out))
                  refine Qc.region_class (W := W) (by kernel_rfl) (by kernel_rfl) (QI.out _ Qc.from_drew) ?_
                  repeat (go_big_quiet_step (first | (go_at_call 66; refine (HSG.out _).mono ?_; rintro e w2 ⟨rfl, b2⟩; exact ⟨rfl, Qc.back QI.out QO.out b2⟩) | (go_at_call 67; refine (HDG.out _).mono ?_; rintro e w2 ⟨rfl, b2⟩; exact ⟨rfl, Qc.back QI.out QO.out b2⟩)))
                  refine wpQuiet_nil ?_
                  rintro _ ⟨xq, rfl⟩
                  have G2 : Hid (Below w.heap.size w (W xq)) := QB.out xq
                  clear y0 y1 m0 m1 m2 m3 m4 m5 m6 z1 z2 HSG HDG
                  generalize W xq = wq at G2 ⊢
                  go_wp2_with fail
                  go_ret
                  exact ⟨ret_b HF.out.symm, G2.out⟩
            · have f1 : (x.kd != 2) = true := by simp [e1]
              have HF : Hid (crtB n bd ms = false) := crt_no HXX.out HXK.out (fun h => e1 h.1.2.1)
              refine Qc.region_class (W := W) (by kernel_rfl) (by kernel_rfl) (QI.out _ Qc.from_drew) ?_
              repeat (go_big_quiet_step (first | (go_at_call 66; refine (HSG.out _).mono ?_; rintro e w2 ⟨rfl, b2⟩; exact ⟨rfl, Qc.back QI.out QO.out b2⟩) | (go_at_call 67; refine (HDG.out _).mono ?_; rintro e w2 ⟨rfl, b2⟩; exact ⟨rfl, Qc.back QI.out QO.out b2⟩)))
              refine wpQuiet_nil ?_
              rintro _ ⟨xq, rfl⟩
              have G2 : Hid (Below w.heap.size w (W xq)) := QB.out xq
              clear y0 y1 m0 m1 m2 m3 m4 m5 m6 z1 z2 HSG HDG
              generalize W xq = wq at G2 ⊢
              go_wp2_with fail
              go_ret
              exact ⟨ret_b HF.out.symm, G2.out⟩
          · obtain rfl : k = ms.length := by omega
            have HF : Hid (crtB n bd ms = true) := crt_yes HXX.out HFC.out HQL.out HBP.out HZ.out.1
            go_wp2_with fail
            go_ret
            exact ⟨ret_b HF.out.symm, (HX.out _ HZ.out.2).2.2⟩
  · have hq' : ((ms.length : Int) != qOut n) = true := by simp [hq]
    have HE : Hid (crtB n bd ms = false) := bOf_false fun h => hq h.2.1
    obtain ⟨q, HQ⟩ : ∃ q, Hid (qOut n = q) := ⟨_, rfl⟩
    rw [HQ.out] at HQM hq'
    clear hq
    go_enter Tryz.func35, Tryz.ntmps35
    go_upto_region 1 with fail
    generalize w.alloc (.cells #[.string bd, .slice a ms.length cap] 37) = wb at HX ⊢
    obtain ⟨X, hX, W, QI0, QO0⟩ := Qc.klass wb
    have QI : Hid (∀ w', Below wb.heap.size wb w' → ∃ x, w' = W x) := QI0
    have QO : Hid (∀ x, Below wb.heap.size wb (W x)) := QO0
    clear QI0 QO0
    have y0 := fun q => (HX.out _ (QO.out q)).1
    have y1 := fun q => (HX.out _ (QO.out q)).2.1
    refine Qc.region_class (W := W) (by kernel_rfl) (by kernel_rfl) (QI.out _ Qc.from_drew) ?_
    repeat (go_big_quiet_step (first | (go_at_call 24; refine (HQM.out _).mono ?_; rintro e w2 ⟨rfl, rfl⟩; exact ⟨rfl, ⟨_, rfl⟩⟩)))
    refine wpQuiet_nil ?_
    rintro _ ⟨xq, rfl⟩
    have G2 : Hid (Below w.heap.size w (W xq)) := (HX.out _ (QO.out xq)).2.2
    generalize W xq = wq at G2 ⊢
    go_wp2_with fail
    go_ret
    exact ⟨ret_b HE.out.symm, G2.out⟩
end Go.Proofs.YtkfiahemgdppfaaGreatDoor.Vt

/- Certificates are read: ReadCert of the specification. -/
namespace Go.Proofs.YtkfiahemgdppfaaGreatDoor.Rc
open Go.RowKit Go.Proofs.YtkfiahemgdppfaaGreatDoor.Sl Go.Proofs.YtkfiahemgdppfaaGreatDoor.By Go.Proofs.YtkfiahemgdppfaaGreatDoor.Ap Go.Proofs.YtkfiahemgdppfaaGreatDoor.Rq Go.Proofs.YtkfiahemgdppfaaGreatDoor.Rr Go.Proofs.YtkfiahemgdppfaaGreatDoor.Of Go.Proofs.YtkfiahemgdppfaaGreatDoor.Om Go.Proofs.YtkfiahemgdppfaaGreatDoor.Ms Go.Proofs.YtkfiahemgdppfaaGreatDoor.Gm Go.Proofs.YtkfiahemgdppfaaGreatDoor.Cb
open Go.Proofs.YtkfiahemgdppfaaGreatDoor.Ty (RowT tnth)
open Go.Proofs.YtkfiahemgdppfaaGreatDoor.Tl (OwnS)
open Go.Proofs.YtkfiahemgdppfaaGreatDoor.Rl (rdC rdL rdOk rdOut)
open Go.Proofs.YtkfiahemgdppfaaGreatDoor.Rg (RowG RowG.slice RowG.at lt_at mem_at bel_new)

theorem rd_short {xs : List Int} (h : xs.length ≤ 65536) : rdC xs = (if rdOk xs then 0 else 3) ∧ rdL xs = rdOut xs := by
  unfold Rl.rdC Rl.rdL Rl.rlC Rl.rlO Rl.rdOut Rl.rlC
  rw [decide_eq_false (by omega)]
  cases rdOk xs <;> simp
noncomputable def good (t : ByteArray) : Bool := okT1 t && ((mOf t).kd == 2)
theorem good_all {ts : List ByteArray} (h : ts.length ≤ 7) : (allOK ts && cfB (msOf ts)) = ts.all good := by
  rw [Bool.eq_iff_iff]
  unfold allOK cfB msOf
  rw [List.length_map, decide_eq_true h, Bool.true_and, Bool.and_eq_true, List.all_eq_true, List.all_eq_true, List.all_eq_true]
  constructor
  · rintro ⟨h1, h2⟩ t ht
    have h3 := h2 (mOf t) (List.mem_map.2 ⟨t, ht, rfl⟩)
    unfold mOK at h3
    rw [Bool.and_eq_true] at h3
    unfold good
    rw [h1 t ht, h3.1]
    rfl
  · intro h1
    refine ⟨fun t ht => ?_, fun x hx => ?_⟩
    · have := h1 t ht
      unfold good at this
      rw [Bool.and_eq_true] at this
      exact this.1
    · obtain ⟨t, ht, rfl⟩ := List.mem_map.1 hx
      have h2 := h1 t ht
      unfold good at h2
      rw [Bool.and_eq_true] at h2
      have h3 : cOf t = 0 := by have := h2.1; unfold okT1 at this; simpa using this
      unfold mOK
      rw [h2.2, ok_right t h3]
      rfl
theorem good_step {ts : List ByteArray} {k : Nat} (h : k < ts.length) : (ts.drop k).all good = (good (tnth ts k) && (ts.drop (k + 1)).all good) := by
  have e := at_some h
  obtain ⟨hk, e2⟩ := List.getElem?_eq_some_iff.1 e
  rw [List.drop_eq_getElem_cons hk, List.all_cons, e2]
theorem own_ne {w : World} {B x : Nat} {v : Value} {ms : List Mg} {cs : Array Value} (h : OwnM w B v ms) (hx : w.heap[x]? = some (.cells cs 37 (0, 0))) : some x ≠ v.ownBlock := by
  intro e
  obtain ⟨_, h | ⟨g', cap', cur, he, _, hgg, _⟩⟩ := h
  · rw [h.1] at e; simp [Value.ownBlock] at e
  · rw [he] at e
    simp [Value.ownBlock] at e
    subst e
    rw [hx] at hgg
    simp at hgg
theorem ret_cb {a : ByteArray} {b : ByteArray} {v : Value} {c d : Bool} (h : a = b ∧ c = d) : Ending.returned (.tuple #[.agg #[.string a, v], .bool c]) = .returned (.tuple #[crtV b v, .bool d]) := by rw [h.1, h.2]; rfl
theorem in_any (x a b : Int) (w : World) : Calls Tryz.prog 23 #[.int .i64 x, .int .i64 a, .int .i64 b] w fun e w' => e = .returned (.bool (inB x a b)) ∧ w = w' := (Rq.l01In_any x a b w).mono fun _ _ h => ⟨h.1, h.2.symm⟩
set_option maxRecDepth 100000 in
set_option maxHeartbeats 3200000 in
theorem l06Read_any (s : ByteArray) (w : World) (hs : s.size ≤ 65536) :
    Calls Tryz.prog 69 #[.string s] w fun e w' => ∃ vp, e = .returned (.tuple #[crtV (rcBd (bys s)) vp, .bool (rcOK (bys s))]) ∧ OwnM w' w.heap.size vp (rcMs (bys s)) ∧ Below w.heap.size w w' := by
  obtain ⟨i0, hi0, hz0, hz1, hz2⟩ := info_parts info_m
  have hxl : (bys s).length ≤ 65536 := by rw [bys_length]; exact hs
  have HSM : Hid (∀ t ∈ rdL (bys s), t.size ≤ 65535) := rdL_size (bys s) (bys_range s)
  have HRD : Hid (rdC (bys s) = (if rdOk (bys s) then 0 else 3) ∧ rdL (bys s) = rdOut (bys s)) := rd_short hxl
  have HRL := Go.Proofs.YtkfiahemgdppfaaGreatDoor.Rl.l02ReadList_any s (w.alloc (.cells #[.string ⟨#[]⟩, .slice none 0 0] 37)) hs
  generalize bys s = xs at HSM HRD HRL hxl ⊢
  rw [← HRD.out.2] at HRL
  clear hs
  go_enter Tryz.func69, Tryz.ntmps69
  go_wp2_with fail
  refine HRL.mono ?_
  rintro e w1 ⟨v1, rfl, o1, b1⟩
  have K0 : Hid (w1.heap[w.heap.size]? = some (.cells #[.string ⟨#[]⟩, .slice none 0 0] 37 (0, 0))) := (b1.block w.heap.size (by simp)).trans (heap_alloc_new w _)
  have KB : Hid (Below w.heap.size w w1) := (bel_new w _).trans (b1.mono (by simp))
  have O1 : Hid (OwnS w1 (w.alloc (.cells #[.string ⟨#[]⟩, .slice none 0 0] 37)).heap.size v1 (rdL xs)) := o1
  clear b1 o1 HRL
  cases hok : rdOk xs with
  | false =>
    have HN : Hid (rcBd xs = ⟨#[]⟩ ∧ rcMs xs = [] ∧ rcOK xs = false) := by
      have h1 : rcOK xs = false := by unfold rcOK; rw [HRD.out.1, hok]; rfl
      exact ⟨(rc_no h1).1, (rc_no h1).2.1, h1⟩
    clear O1 HSM HRD hok
    obtain ⟨m0, n0⟩ := blk_cell K0.out 0 (x := .string ⟨#[]⟩) rfl
    obtain ⟨m1, n1⟩ := blk_cell K0.out 1 (x := .slice none 0 0) rfl
    have AF : ((w1.setCell ⟨w.heap.size, 0, none⟩ (.string ⟨#[]⟩)).setCell ⟨w.heap.size, 1, none⟩ (.slice none 0 0)).heap[w.heap.size]? = some (.cells #[.string ⟨#[]⟩, .slice none 0 0] 37 (0, 0)) := (blk_set (blk_set K0.out 0 (.string ⟨#[]⟩)) 1 (.slice none 0 0))
    have GF : Hid (Below w.heap.size w ((w1.setCell ⟨w.heap.size, 0, none⟩ (.string ⟨#[]⟩)).setCell ⟨w.heap.size, 1, none⟩ (.slice none 0 0))) := (Below.setCell (Below.setCell KB.out (p := ⟨w.heap.size, 0, none⟩) (Nat.le_refl _) (.string ⟨#[]⟩)) (p := ⟨w.heap.size, 1, none⟩) (Nat.le_refl _) (.slice none 0 0))
    go_wp2_with fail
    generalize ((w1.setCell ⟨w.heap.size, 0, none⟩ (.string ⟨#[]⟩)).setCell ⟨w.heap.size, 1, none⟩ (.slice none 0 0)) = wf at AF GF ⊢
    have d0 := (blk_cell AF 0 (x := .string ⟨#[]⟩) rfl).1
    have d1 := (blk_cell AF 1 (x := .slice none 0 0) rfl).1
    exact bodyPost_ret (v := .tuple #[.agg #[.string ⟨#[]⟩, .slice none 0 0], .bool false]) (by simp [results, Tryz.results69, go_sem, d0, d1]) rfl ⟨_, ret_cb ⟨HN.out.1.symm, HN.out.2.2.symm⟩, by rw [HN.out.2.1]; exact OwnM.nil _ _, GF.out⟩
  | true =>
    have h0 : rdC xs = 0 := by rw [HRD.out.1, hok]; rfl
    have hRT := Tl.OwnS.row O1.out
    obtain ⟨a, cap, rfl, hh⟩ := hRT
    have HHH : Hid (rdL xs = [] ∨ ∃ b off, a = some ⟨b, off, none⟩ ∧ (rdL xs).length ≤ cap ∧ b < w1.heap.size ∧ ∀ i, i < (rdL xs).length → w1.cell? ⟨b, off + i, none⟩ = some (.string (tnth (rdL xs) i))) := hh
    clear hh O1 hok HRD
    obtain ⟨ts0, HT0⟩ : ∃ ts0, Hid (rdL xs = ts0) := ⟨_, rfl⟩
    rw [HT0.out] at HHH HSM ⊢
    cases hin : inB (ts0.length : Int) 1 8 with
    | false =>
      have HN : Hid (rcBd xs = ⟨#[]⟩ ∧ rcMs xs = [] ∧ rcOK xs = false) := by
        have h1 : rcOK xs = false := by
          unfold rcOK
          rw [HT0.out, h0]
          cases ts0 with
          | nil => rfl
          | cons t ts =>
            have : ¬ ts.length ≤ 7 := by
              unfold inB at hin
              simp only [decide_eq_false_iff_not] at hin
              simp at hin
              omega
            simp only
            have h2 : cfB (msOf ts) = false := by
              unfold cfB msOf
              rw [List.length_map, decide_eq_false this]
              rfl
            rw [h2]
            simp
        exact ⟨(rc_no h1).1, (rc_no h1).2.1, h1⟩
      clear HHH HSM h0
      go_upto_region 3 with (go_at_call 23; refine (in_any _ _ _ _).mono ?_; rintro e w2 ⟨rfl, rfl⟩; rw [hin])
      obtain ⟨m0, n0⟩ := blk_cell K0.out 0 (x := .string ⟨#[]⟩) rfl
      obtain ⟨m1, n1⟩ := blk_cell K0.out 1 (x := .slice none 0 0) rfl
      have AF : ((w1.setCell ⟨w.heap.size, 0, none⟩ (.string ⟨#[]⟩)).setCell ⟨w.heap.size, 1, none⟩ (.slice none 0 0)).heap[w.heap.size]? = some (.cells #[.string ⟨#[]⟩, .slice none 0 0] 37 (0, 0)) := (blk_set (blk_set K0.out 0 (.string ⟨#[]⟩)) 1 (.slice none 0 0))
      have GF : Hid (Below w.heap.size w ((w1.setCell ⟨w.heap.size, 0, none⟩ (.string ⟨#[]⟩)).setCell ⟨w.heap.size, 1, none⟩ (.slice none 0 0))) := (Below.setCell (Below.setCell KB.out (p := ⟨w.heap.size, 0, none⟩) (Nat.le_refl _) (.string ⟨#[]⟩)) (p := ⟨w.heap.size, 1, none⟩) (Nat.le_refl _) (.slice none 0 0))
      go_wp2_with fail
      generalize ((w1.setCell ⟨w.heap.size, 0, none⟩ (.string ⟨#[]⟩)).setCell ⟨w.heap.size, 1, none⟩ (.slice none 0 0)) = wf at AF GF ⊢
      have d0 := (blk_cell AF 0 (x := .string ⟨#[]⟩) rfl).1
      have d1 := (blk_cell AF 1 (x := .slice none 0 0) rfl).1
      exact bodyPost_ret (v := .tuple #[.agg #[.string ⟨#[]⟩, .slice none 0 0], .bool false]) (by simp [results, Tryz.results69, go_sem, d0, d1]) rfl ⟨_, ret_cb ⟨HN.out.1.symm, HN.out.2.2.symm⟩, by rw [HN.out.2.1]; exact OwnM.nil _ _, GF.out⟩
    | true =>
      obtain ⟨t0, ts, rfl⟩ : ∃ t0 ts, ts0 = t0 :: ts := by
        cases ts0 with
        | nil => simp [inB] at hin
        | cons t ts => exact ⟨t, ts, rfl⟩
      have hl7 : ts.length ≤ 7 := by
        unfold inB at hin
        simp only [decide_eq_true_eq] at hin
        simp at hin
        omega
      obtain ⟨b, off, rfl, hc, hbl, hcell⟩ := (HHH.out.resolve_left (by simp))
      have HCELL : Hid (∀ i, i < ts.length → w1.cell? ⟨b, off + (i + 1), none⟩ = some (.string (tnth ts i))) := fun i hi => by
        rw [hcell (i + 1) (by simp; omega)]
        rfl
      have c0 : w1.cell? ⟨b, off, none⟩ = some (.string t0) := hcell 0 (by simp)
      have HSZ : Hid (∀ i, i < ts.length → (tnth ts i).size ≤ 65535) := fun i hi => HSM.out _ (List.mem_cons_of_mem _ (List.mem_of_getElem? (at_some hi)))
      have HRC : Hid (rcOK xs = ts.all good ∧ (rcOK xs = true → rcBd xs = t0 ∧ rcMs xs = msOf ts)) := by
        have h1 : rcOK xs = (allOK ts && cfB (msOf ts)) := by unfold rcOK; rw [HT0.out, h0]; simp
        refine ⟨h1.trans (good_all hl7), fun h => ?_⟩
        rw [h1, Bool.and_eq_true] at h
        have := rc_yes h0 HT0.out h.1 h.2
        exact ⟨this.1, this.2.1⟩
      clear hcell HHH HSM h0 hc
      rw [List.length_cons] at hin ⊢
      have hin2 : inB ((ts.length : Int) + 1) 1 8 = true := by simpa using hin
      have k0l := (Array.getElem?_eq_some_iff.1 K0.out).1
      obtain ⟨W2, HW2⟩ : ∃ W2, Hid (W2 = (w1.alloc (.cells #[] 26)).alloc (.cells #[.string t0, .slice (some ⟨w1.heap.size, 0, none⟩) 0 0] 37)) := ⟨_, rfl⟩
      have e1 : (w1.alloc (.cells #[] 26)).heap.size = w1.heap.size + 1 := by simp
      have B2 : Hid (Below w1.heap.size w1 W2) := by show Below _ _ _; rw [HW2.out]; exact (bel_new w1 _).alloc (by rw [e1]; omega) _
      have X2 : Hid (W2.heap[w1.heap.size + 1]? = some (.cells #[.string t0, .slice (some ⟨w1.heap.size, 0, none⟩) 0 0] 37 (0, 0))) := by
        show _ = _
        have := heap_alloc_new (w1.alloc (.cells #[] 26)) (.cells #[.string t0, .slice (some ⟨w1.heap.size, 0, none⟩) 0 0] 37)
        rw [e1] at this
        rw [HW2.out]
        exact this
      have O2 : Hid (OwnM W2 w1.heap.size (.slice (some ⟨w1.heap.size, 0, none⟩) 0 0) []) := by show OwnM _ _ _ _; rw [HW2.out]; exact (OwnM.made w1 w1.heap.size (Nat.le_refl _)).alloc _
      go_upto_region 6 with (go_at_call 23; refine (in_any _ _ _ _).mono ?_; rintro e w2 ⟨rfl, rfl⟩; first | rw [hin2] | rw [hin])
      rw [← HW2.out]
      clear HW2 e1 c0 hin hin2
      go_loopw [7] (fun i wr => ∃ (k : Nat) (ap : Option Addr) (cp : Nat), k ≤ ts.length ∧ i = .int .i64 ((k : Int) + 1) ∧ Hid (wr.heap[w1.heap.size + 1]? = some (.cells #[.string t0, .slice ap k cp] 37 (0, 0)) ∧ OwnM wr w1.heap.size (.slice ap k cp) (msOf (ts.take k)) ∧ rcOK xs = (ts.drop k).all good ∧ Below w1.heap.size w1 wr)) (fun i _ => ts.length + 1 - (intOf i).toNat)
      case atStart => exact ⟨0, _, _, by omega, rfl, ⟨X2.out, O2.out, by rw [List.drop_zero]; exact HRC.out.1, B2.out⟩⟩
      case round =>
        clear X2 O2 B2
        obtain ⟨k, ap, cp, hk, rfl, HI⟩ := hrel
        have KWr : Hid (wr.heap[w.heap.size]? = some (.cells #[.string ⟨#[]⟩, .slice none 0 0] 37 (0, 0)) ∧ Below w.heap.size w wr) := ⟨(HI.out.2.2.2.block _ k0l).trans K0.out, KB.out.trans (HI.out.2.2.2.mono KB.out.size)⟩
        by_cases hlt : k < ts.length
        · have c1 : wr.cell? ⟨b, off + (k + 1), none⟩ = some (.string (tnth ts k)) := (HI.out.2.2.2.cell (p := ⟨b, off + (k + 1), none⟩) hbl).trans (HCELL.out k hlt)
          have hsz := HSZ.out k hlt
          have HGS : Hid (rcOK xs = (good (tnth ts k) && (ts.drop (k + 1)).all good)) := HI.out.2.2.1.trans (good_step hlt)
          have HMSP : Hid (msOf (ts.take (k + 1)) = msOf (ts.take k) ++ [mOf (tnth ts k)]) := ms_step hlt
          have HLN : Hid ((msOf (ts.take k)).length = k) := by show _ = _; unfold msOf; rw [List.length_map, List.length_take]; omega
          have hk1 : (k : Int) + 1 < (ts.length : Int) + 1 := by omega
          have HRM := l02ReadMessage_any (tnth ts k) wr (by omega)
          have HGD : Hid (good (tnth ts k) = (decide (cOf (tnth ts k) = 0) && ((mOf (tnth ts k)).kd == 2))) := rfl
          clear hsz
          generalize tnth ts k = t at c1 HGS HMSP HRM HGD
          go_wp2_with fail
          refine HRM.mono ?_
          rintro e w3 ⟨⟨m, rfl, hm⟩, b3⟩
          have HMM : Hid (cOf t = 0 → m = mOf t) := hm
          have x2l := (Array.getElem?_eq_some_iff.1 HI.out.1).1
          have kwl := (Array.getElem?_eq_some_iff.1 KWr.out.1).1
          have b4 := b3.alloc b3.size (.cells #[.int .i64 m.kd, .int .i64 m.vw, .int .i64 m.sq, .int .i64 m.fr, .string m.dg, .string m.bd, .string m.mc] 26)
          have H4 : Hid ((w3.alloc (.cells #[.int .i64 m.kd, .int .i64 m.vw, .int .i64 m.sq, .int .i64 m.fr, .string m.dg, .string m.bd, .string m.mc] 26)).heap[w1.heap.size + 1]? = some (.cells #[.string t0, .slice ap k cp] 37 (0, 0)) ∧ OwnM (w3.alloc (.cells #[.int .i64 m.kd, .int .i64 m.vw, .int .i64 m.sq, .int .i64 m.fr, .string m.dg, .string m.bd, .string m.mc] 26)) w1.heap.size (.slice ap k cp) (msOf (ts.take k)) ∧ Below w1.heap.size w1 (w3.alloc (.cells #[.int .i64 m.kd, .int .i64 m.vw, .int .i64 m.sq, .int .i64 m.fr, .string m.dg, .string m.bd, .string m.mc] 26)) ∧ (w3.alloc (.cells #[.int .i64 m.kd, .int .i64 m.vw, .int .i64 m.sq, .int .i64 m.fr, .string m.dg, .string m.bd, .string m.mc] 26)).heap[w.heap.size]? = some (.cells #[.string ⟨#[]⟩, .slice none 0 0] 37 (0, 0)) ∧ Below w.heap.size w (w3.alloc (.cells #[.int .i64 m.kd, .int .i64 m.vw, .int .i64 m.sq, .int .i64 m.fr, .string m.dg, .string m.bd, .string m.mc] 26)) ∧ (w3.alloc (.cells #[.int .i64 m.kd, .int .i64 m.vw, .int .i64 m.sq, .int .i64 m.fr, .string m.dg, .string m.bd, .string m.mc] 26)).heap[w3.heap.size]? = some (.cells #[.int .i64 m.kd, .int .i64 m.vw, .int .i64 m.sq, .int .i64 m.fr, .string m.dg, .string m.bd, .string m.mc] 26 (0, 0))) := ⟨(b4.block _ x2l).trans HI.out.1, HI.out.2.1.below b4, HI.out.2.2.2.trans (b4.mono HI.out.2.2.2.size), (b4.block _ kwl).trans KWr.out.1, KWr.out.2.trans (b4.mono KWr.out.2.size), heap_alloc_new w3 _⟩
          clear b3 b4 hm HRM c1 HI KWr x2l kwl
          unfold oneV
          go_upto_region 9 with fail
          obtain ⟨x3, HX3⟩ : ∃ x3, Hid (w3.heap.size = x3) := ⟨_, rfl⟩
          rw [HX3.out] at H4 ⊢
          generalize w3.alloc (.cells #[.int .i64 m.kd, .int .i64 m.vw, .int .i64 m.sq, .int .i64 m.fr, .string m.dg, .string m.bd, .string m.mc] 26) = w4 at H4 ⊢
          have y0 := (blk_cell H4.out.2.2.2.2.2 0 (x := .int .i64 m.kd) rfl).1
          have y1 := (blk_cell H4.out.2.2.2.2.2 1 (x := .int .i64 m.vw) rfl).1
          have y2 := (blk_cell H4.out.2.2.2.2.2 2 (x := .int .i64 m.sq) rfl).1
          have y3 := (blk_cell H4.out.2.2.2.2.2 3 (x := .int .i64 m.fr) rfl).1
          have y4 := (blk_cell H4.out.2.2.2.2.2 4 (x := .string m.dg) rfl).1
          have y5 := (blk_cell H4.out.2.2.2.2.2 5 (x := .string m.bd) rfl).1
          have y6 := (blk_cell H4.out.2.2.2.2.2 6 (x := .string m.mc) rfl).1
          by_cases hc0 : cOf t = 0
          · have hmm := HMM.out hc0
            rw [← hmm] at HMSP HGD
            rw [decide_eq_true hc0, Bool.true_and] at HGD
            rw [decide_eq_true hc0]
            by_cases hkd : m.kd = 2
            · have hk2 : (m.kd != 2) = false := by simp [hkd]
              have HA : Hid (rcOK xs = (ts.drop (k + 1)).all good) := by show _ = _; rw [HGS.out, HGD.out, hkd]; rfl
              obtain ⟨z1, _⟩ := blk_cell H4.out.1 1 (x := .slice ap k cp) rfl
              have hne := own_ne H4.out.2.1 H4.out.1
              have hx6l := (Array.getElem?_eq_some_iff.1 H4.out.1).1
              clear hkd hmm HMM HGS HGD
              go_wp2_with (at_builtin; go_must (refine list_msg (by rfl) _ _ 24 (by rfl) i0 Tryz.underlying24 hi0 hz0 hz1 hz2 w1.heap.size w1 w4 _ _ m (by rfl) H4.out.2.1 H4.out.2.2.1 H4.out.2.2.1.size _ (by rfl) (by rfl) (by have := HLN.out; omega) ?_; intro v5 w5 o5 b5 k5; obtain ⟨s5, t5⟩ := blk_cell ((k5 _ hx6l hne).1.trans H4.out.1) 1 (x := .slice ap k cp) rfl; have hne5 := (k5 _ hx6l hne).2; obtain ⟨a5, cap5, rfl⟩ := RowG.slice (OwnM.row o5)))
              have hL5 : (msOf (ts.take k) ++ [m]).length = k + 1 := by rw [List.length_append, HLN.out]; rfl
              rw [hL5] at o5 hne5
              rw [HLN.out]
              have X5 : Hid (w5.heap[w1.heap.size + 1]? = some (.cells #[.string t0, .slice ap k cp] 37 (0, 0))) := (k5 _ hx6l hne).1.trans H4.out.1
              refine ⟨⟨k + 1, a5, cap5, by omega, by go_num, ⟨blk_set X5.out 1 _, ?_, HA.out, ?_⟩⟩, by simp [intOf]; omega⟩
              · rw [HMSP.out]
                exact o5.kept fun g hg => blk_far (fun e => hne5 (by rw [hg, e])) 1 _
              · exact Below.setCell b5 (p := ⟨w1.heap.size + 1, 1, none⟩) (by show _ ≤ w1.heap.size + 1; omega) _
            · have hk2 : (m.kd != 2) = true := by simp [hkd]
              have HN : Hid (rcBd xs = ⟨#[]⟩ ∧ rcMs xs = [] ∧ rcOK xs = false) := by
                have h1 : rcOK xs = false := by rw [HGS.out, HGD.out]; simp [hkd]
                exact ⟨(rc_no h1).1, (rc_no h1).2.1, h1⟩
              clear hkd hmm HMM HGS HGD
              obtain ⟨m0, n0⟩ := blk_cell H4.out.2.2.2.1 0 (x := .string ⟨#[]⟩) rfl
              obtain ⟨m1, n1⟩ := blk_cell H4.out.2.2.2.1 1 (x := .slice none 0 0) rfl
              have AF : ((w4.setCell ⟨w.heap.size, 0, none⟩ (.string ⟨#[]⟩)).setCell ⟨w.heap.size, 1, none⟩ (.slice none 0 0)).heap[w.heap.size]? = some (.cells #[.string ⟨#[]⟩, .slice none 0 0] 37 (0, 0)) := (blk_set (blk_set H4.out.2.2.2.1 0 (.string ⟨#[]⟩)) 1 (.slice none 0 0))
              have GF : Hid (Below w.heap.size w ((w4.setCell ⟨w.heap.size, 0, none⟩ (.string ⟨#[]⟩)).setCell ⟨w.heap.size, 1, none⟩ (.slice none 0 0))) := (Below.setCell (Below.setCell H4.out.2.2.2.2.1 (p := ⟨w.heap.size, 0, none⟩) (Nat.le_refl _) (.string ⟨#[]⟩)) (p := ⟨w.heap.size, 1, none⟩) (Nat.le_refl _) (.slice none 0 0))
              go_wp2_with fail
              generalize ((w4.setCell ⟨w.heap.size, 0, none⟩ (.string ⟨#[]⟩)).setCell ⟨w.heap.size, 1, none⟩ (.slice none 0 0)) = wf at AF GF ⊢
              have d0 := (blk_cell AF 0 (x := .string ⟨#[]⟩) rfl).1
              have d1 := (blk_cell AF 1 (x := .slice none 0 0) rfl).1
              exact bodyPost_ret (v := .tuple #[.agg #[.string ⟨#[]⟩, .slice none 0 0], .bool false]) (by simp [results, Tryz.results69, go_sem, d0, d1]) rfl ⟨_, ret_cb ⟨HN.out.1.symm, HN.out.2.2.symm⟩, by rw [HN.out.2.1]; exact OwnM.nil _ _, GF.out⟩
          · rw [decide_eq_false hc0, Bool.false_and] at HGD
            rw [decide_eq_false hc0]
            have HN : Hid (rcBd xs = ⟨#[]⟩ ∧ rcMs xs = [] ∧ rcOK xs = false) := by
              have h1 : rcOK xs = false := by rw [HGS.out, HGD.out]; rfl
              exact ⟨(rc_no h1).1, (rc_no h1).2.1, h1⟩
            clear HMM HGS HGD
            obtain ⟨m0, n0⟩ := blk_cell H4.out.2.2.2.1 0 (x := .string ⟨#[]⟩) rfl
            obtain ⟨m1, n1⟩ := blk_cell H4.out.2.2.2.1 1 (x := .slice none 0 0) rfl
            have AF : ((w4.setCell ⟨w.heap.size, 0, none⟩ (.string ⟨#[]⟩)).setCell ⟨w.heap.size, 1, none⟩ (.slice none 0 0)).heap[w.heap.size]? = some (.cells #[.string ⟨#[]⟩, .slice none 0 0] 37 (0, 0)) := (blk_set (blk_set H4.out.2.2.2.1 0 (.string ⟨#[]⟩)) 1 (.slice none 0 0))
            have GF : Hid (Below w.heap.size w ((w4.setCell ⟨w.heap.size, 0, none⟩ (.string ⟨#[]⟩)).setCell ⟨w.heap.size, 1, none⟩ (.slice none 0 0))) := (Below.setCell (Below.setCell H4.out.2.2.2.2.1 (p := ⟨w.heap.size, 0, none⟩) (Nat.le_refl _) (.string ⟨#[]⟩)) (p := ⟨w.heap.size, 1, none⟩) (Nat.le_refl _) (.slice none 0 0))
            go_wp2_with fail
            generalize ((w4.setCell ⟨w.heap.size, 0, none⟩ (.string ⟨#[]⟩)).setCell ⟨w.heap.size, 1, none⟩ (.slice none 0 0)) = wf at AF GF ⊢
            have d0 := (blk_cell AF 0 (x := .string ⟨#[]⟩) rfl).1
            have d1 := (blk_cell AF 1 (x := .slice none 0 0) rfl).1
            exact bodyPost_ret (v := .tuple #[.agg #[.string ⟨#[]⟩, .slice none 0 0], .bool false]) (by simp [results, Tryz.results69, go_sem, d0, d1]) rfl ⟨_, ret_cb ⟨HN.out.1.symm, HN.out.2.2.symm⟩, by rw [HN.out.2.1]; exact OwnM.nil _ _, GF.out⟩
        · obtain rfl : k = ts.length := by omega
          have h1 : rcOK xs = true := by rw [HI.out.2.2.1, List.drop_length]; rfl
          have HN : Hid (rcBd xs = t0 ∧ rcMs xs = msOf ts ∧ rcOK xs = true) := ⟨(HRC.out.2 h1).1, (HRC.out.2 h1).2, h1⟩
          have OW : Hid (OwnM wr w1.heap.size (.slice ap ts.length cp) (msOf ts)) := by have := HI.out.2.1; rw [List.take_length] at this; exact this
          have HAW : Hid (∀ g, (Value.slice ap ts.length cp).ownBlock = some g → g ≠ w.heap.size) := fun g hg e => own_ne OW.out KWr.out.1 (by rw [hg, e])
          clear h1
          have p0 := (blk_cell HI.out.1 0 (x := .string t0) rfl).1
          have p1 := (blk_cell HI.out.1 1 (x := .slice ap ts.length cp) rfl).1
          obtain ⟨m0, n0⟩ := blk_cell KWr.out.1 0 (x := .string ⟨#[]⟩) rfl
          obtain ⟨m1, n1⟩ := blk_cell KWr.out.1 1 (x := .slice none 0 0) rfl
          have AF : ((wr.setCell ⟨w.heap.size, 0, none⟩ (.string t0)).setCell ⟨w.heap.size, 1, none⟩ (.slice ap ts.length cp)).heap[w.heap.size]? = some (.cells #[.string t0, .slice ap ts.length cp] 37 (0, 0)) := (blk_set (blk_set KWr.out.1 0 (.string t0)) 1 (.slice ap ts.length cp))
          have GF : Hid (Below w.heap.size w ((wr.setCell ⟨w.heap.size, 0, none⟩ (.string t0)).setCell ⟨w.heap.size, 1, none⟩ (.slice ap ts.length cp))) := (Below.setCell (Below.setCell KWr.out.2 (p := ⟨w.heap.size, 0, none⟩) (Nat.le_refl _) (.string t0)) (p := ⟨w.heap.size, 1, none⟩) (Nat.le_refl _) (.slice ap ts.length cp))
          have OF : Hid (OwnM ((wr.setCell ⟨w.heap.size, 0, none⟩ (.string t0)).setCell ⟨w.heap.size, 1, none⟩ (.slice ap ts.length cp)) w.heap.size (.slice ap ts.length cp) (msOf ts)) := (OW.out.mono KB.out.size).kept fun g hg => (blk_far (HAW.out g hg) 1 _).trans (blk_far (HAW.out g hg) 0 _)
          go_wp2_with fail
          generalize ((wr.setCell ⟨w.heap.size, 0, none⟩ (.string t0)).setCell ⟨w.heap.size, 1, none⟩ (.slice ap ts.length cp)) = wf at AF GF OF ⊢
          have d0 := (blk_cell AF 0 (x := .string t0) rfl).1
          have d1 := (blk_cell AF 1 (x := .slice ap ts.length cp) rfl).1
          exact bodyPost_ret (v := .tuple #[.agg #[.string t0, .slice ap ts.length cp], .bool true]) (by simp [results, Tryz.results69, go_sem, d0, d1]) rfl ⟨_, ret_cb ⟨HN.out.1.symm, HN.out.2.2.symm⟩, by rw [HN.out.2.1]; exact OF.out, GF.out⟩
end Go.Proofs.YtkfiahemgdppfaaGreatDoor.Rc

/- Lists of certificates of one's own; those that a view change brings: plain facts. -/
namespace Go.Proofs.YtkfiahemgdppfaaGreatDoor.Wc
open Go.RowKit Go.Proofs.YtkfiahemgdppfaaGreatDoor.Sl Go.Proofs.YtkfiahemgdppfaaGreatDoor.By Go.Proofs.YtkfiahemgdppfaaGreatDoor.Ap Go.Proofs.YtkfiahemgdppfaaGreatDoor.Gm Go.Proofs.YtkfiahemgdppfaaGreatDoor.Si Go.Proofs.YtkfiahemgdppfaaGreatDoor.Tm Go.Proofs.YtkfiahemgdppfaaGreatDoor.Ms Go.Proofs.YtkfiahemgdppfaaGreatDoor.Sh Go.Proofs.YtkfiahemgdppfaaGreatDoor.Vt Go.Proofs.YtkfiahemgdppfaaGreatDoor.Mp Go.Proofs.YtkfiahemgdppfaaGreatDoor.Rq
open Go.Proofs.YtkfiahemgdppfaaGreatDoor.Rc (OwnM OwnM.row OwnM.kept OwnM.lt OwnM.below OwnM.mono rcOK rcBd rcMs rcCode own_ne Kq)
open Go.Proofs.YtkfiahemgdppfaaGreatDoor.Ty (RowT tnth)
open Go.Proofs.YtkfiahemgdppfaaGreatDoor.Qm (qOut)
open Go.Proofs.YtkfiahemgdppfaaGreatDoor.Rg (RowG RowG.slice RowG.at lt_at mem_at blk_cell blk_set bel_new)

/-- A certificate; what a text reads as; its first vote. -/
structure Ct where
  bd : ByteArray
  ms : List Mg
instance : Inhabited Ct := ⟨⟨⟨#[]⟩, []⟩⟩
noncomputable def ct (t : ByteArray) : Ct := ⟨rcBd (bys t), rcMs (bys t)⟩
def hd (c : Ct) : Mg := c.ms.getD 0 default
noncomputable def okC (n : Int) (t : ByteArray) : Bool := rcOK (bys t) && crtB n (ct t).bd (ct t).ms
theorem crt_hd {n : Int} {bd : ByteArray} {ms : List Mg} (h : crtB n bd ms = true) : ms[0]? = some (ms.getD 0 default) ∧ 1 ≤ (ms.getD 0 default).sq ∧ (ms.getD 0 default).sq ≤ 8 ∧ 0 ≤ (ms.getD 0 default).vw ∧ (ms.getD 0 default).vw ≤ 20 := by
  obtain ⟨_, _, _, ⟨x, hx, h4⟩, _⟩ := bOf_iff.1 h
  have e : ms.getD 0 default = x := by rw [List.getD_eq_getElem?_getD, hx]; rfl
  rw [e]
  refine ⟨hx, ?_⟩
  obtain ⟨h5, h6, _⟩ := h4 x (mem_at hx)
  unfold sg gB lB at h5
  rw [Bool.and_eq_true, Bool.and_eq_true] at h5
  have h7 := h5.2.1
  rw [h6, msg_eq, kind2] at h7
  unfold placeB inB at h7
  simp only [Bool.and_eq_true, decide_eq_true_eq] at h7
  exact ⟨h7.2.2.2.2.1.1.1, h7.2.2.2.2.1.1.2, h7.1.1, h7.1.2⟩
theorem ok_hd {n : Int} {t : ByteArray} (h : okC n t = true) : (ct t).ms[0]? = some (hd (ct t)) ∧ 1 ≤ (hd (ct t)).sq ∧ (hd (ct t)).sq ≤ 8 ∧ 0 ≤ (hd (ct t)).vw ∧ (hd (ct t)).vw ≤ 20 := by
  unfold okC at h
  rw [Bool.and_eq_true] at h
  exact crt_hd h.2
/-- The place of the one ahead; a text is one that may come there. -/
noncomputable def lastS (ts : List ByteArray) : Nat → Int
  | 0 => 0
  | j + 1 => (hd (ct (tnth ts j))).sq
def OneC (n view : Int) (ts : List ByteArray) (j : Nat) : Prop := okC n (tnth ts j) = true ∧ lastS ts j < (hd (ct (tnth ts j))).sq ∧ (hd (ct (tnth ts j))).vw < view
def GoodC (n view : Int) (ts : List ByteArray) (k : Nat) : Prop := ∀ j, j < k → OneC n view ts j
noncomputable def rsB (n view : Int) (ts : List ByteArray) : Bool := bOf (GoodC n view ts ts.length)
theorem GoodC.zero (n view : Int) (ts : List ByteArray) : GoodC n view ts 0 := fun j h => by omega
theorem GoodC.succ {n view : Int} {ts : List ByteArray} {k : Nat} (h : GoodC n view ts k) (h1 : OneC n view ts k) : GoodC n view ts (k + 1) := fun j hj => by
  by_cases e : j = k
  · subst e; exact h1
  · exact h j (by omega)
theorem rs_no {n view : Int} {ts : List ByteArray} {k : Nat} (hk : k < ts.length) (h : ¬ OneC n view ts k) : rsB n view ts = false := bOf_false fun hg => h (hg k hk)
theorem rs_yes {n view : Int} {ts : List ByteArray} (h : GoodC n view ts ts.length) : rsB n view ts = true := bOf_true h
theorem good_len {n view : Int} {ts : List ByteArray} : ∀ {k : Nat}, GoodC n view ts k → (k : Int) ≤ lastS ts k ∧ lastS ts k ≤ 8
  | 0, _ => ⟨by show (0 : Int) ≤ 0; omega, by show (0 : Int) ≤ 8; omega⟩
  | k + 1, h => by
    have ih := good_len (k := k) (fun j hj => h j (by omega))
    obtain ⟨h1, h2, _⟩ := h k (by omega)
    have h3 := (ok_hd h1).2.2.1
    show ((k + 1 : Nat) : Int) ≤ (hd (ct (tnth ts k))).sq ∧ _
    refine ⟨by omega, h3⟩
theorem rs_eight {n view : Int} {ts : List ByteArray} (h : 8 < ts.length) : rsB n view ts = false := bOf_false fun hg => by
  have := good_len hg; omega
/-- Certificates in a slice of one's own, their votes in slices of one's own. -/
def cc (p : Ct × Value) : List Value := [.string p.1.bd, p.2]
structure OwnC (w : World) (B : Nat) (v : Value) (ps : List (Ct × Value)) : Prop where
  row : w.ownsRow B 37 2 v ps.length (ps.flatMap cc)
  mem : ∀ p ∈ ps, OwnM w B p.2 p.1.ms
  apart : ps.Pairwise fun p q => ∀ g, p.2.ownBlock = some g → q.2.ownBlock ≠ some g
theorem own_slice {w : World} {B : Nat} {v : Value} {ms : List Mg} (h : OwnM w B v ms) : ∃ a cap, v = .slice a ms.length cap := RowG.slice h.row
theorem cc_len : ∀ (ps : List (Ct × Value)), (ps.flatMap cc).length = ps.length * 2
  | [] => rfl
  | p :: ps => by rw [List.flatMap_cons, List.length_append, cc_len ps]; simp [cc]; omega
theorem cc_at : ∀ (ps : List (Ct × Value)) (i : Nat) (p : Ct × Value) (j : Nat), ps[i]? = some p → j < 2 → (ps.flatMap cc)[i * 2 + j]? = (cc p)[j]?
  | [], i, p, j, h, _ => by simp at h
  | q :: ps, 0, p, j, h, hj => by
    simp at h
    subst h
    rw [List.flatMap_cons, Nat.zero_mul, Nat.zero_add, List.getElem?_append_left (by simp [cc]; omega)]
  | q :: ps, i + 1, p, j, h, hj => by
    simp at h
    rw [List.flatMap_cons, List.getElem?_append_right (by simp [cc]; omega)]
    have := cc_at ps i p j h hj
    rw [← this]
    congr 1
    simp [cc]
    omega
theorem OwnC.nil (w : World) (B : Nat) : OwnC w B (.slice none 0 0) [] := ⟨World.ownsRow_nil _ _ _ _, fun p h => by simp at h, List.Pairwise.nil⟩
theorem OwnC.made (w : World) (B : Nat) (hB : B ≤ w.heap.size) : OwnC (w.alloc (.cells #[] 37)) B (.slice (some ⟨w.heap.size, 0, none⟩) 0 0) [] := ⟨World.ownsRow_made w #[] 0 hB (by decide) rfl, fun p h => by simp at h, List.Pairwise.nil⟩
theorem OwnC.lt {w : World} {B : Nat} {v : Value} {ps : List (Ct × Value)} (h : OwnC w B v ps) : ∀ g, v.ownBlock = some g → B ≤ g ∧ g < w.heap.size := World.ownsRow.lt h.row
theorem row_kept {w w' : World} {B n : Nat} {e : TypeId} {s : Nat} {v : Value} {xs : List Value} (h : w.ownsRow B e s v n xs) (hk : ∀ g, v.ownBlock = some g → w'.heap[g]? = w.heap[g]?) : w'.ownsRow B e s v n xs := by
  obtain ⟨hl, h⟩ := h
  refine ⟨hl, ?_⟩
  rcases h with h | ⟨g, cap, cur, rfl, h1, hg, h2⟩
  · exact .inl h
  · exact .inr ⟨g, cap, cur, rfl, h1, (hk g rfl).trans hg, h2⟩
theorem row_mono {w : World} {B B' n : Nat} {e : TypeId} {s : Nat} {v : Value} {xs : List Value} (h : w.ownsRow B e s v n xs) (hb : B' ≤ B) : w.ownsRow B' e s v n xs := by
  obtain ⟨hl, h⟩ := h
  refine ⟨hl, ?_⟩
  rcases h with h | ⟨g, cap, cur, rfl, h1, hg, h2⟩
  · exact .inl h
  · exact .inr ⟨g, cap, cur, rfl, Nat.le_trans hb h1, hg, h2⟩
theorem OwnC.below {w w' : World} {B : Nat} {v : Value} {ps : List (Ct × Value)} (h : OwnC w B v ps) (hb : Below w.heap.size w w') : OwnC w' B v ps :=
  ⟨row_kept h.row fun g hg => hb.block g (h.lt g hg).2, fun p hp => (h.mem p hp).below hb, h.apart⟩
theorem OwnC.slice {w : World} {B : Nat} {v : Value} {ps : List (Ct × Value)} (h : OwnC w B v ps) : ∃ a cap, v = .slice a ps.length cap := by
  obtain ⟨hl, h⟩ := h.row
  rcases h with ⟨rfl, h0⟩ | ⟨g, cap, cur, rfl, h1, hg, h2⟩
  · exact ⟨none, 0, by rw [h0]⟩
  · exact ⟨_, cap, rfl⟩
/-- The cells of one of them. -/
theorem OwnC.at {w : World} {B : Nat} {a : Option Addr} {l cap : Nat} {ps : List (Ct × Value)} {i : Nat} {p : Ct × Value} (h : OwnC w B (.slice a l cap) ps) (hi : ps[i]? = some p) : ∃ g, a = some ⟨g, 0, none⟩ ∧ B ≤ g ∧ g < w.heap.size ∧ w.cell? ⟨g, i * 2, none⟩ = some (.string p.1.bd) ∧ w.cell? ⟨g, i * 2 + 1, none⟩ = some p.2 := by
  have hil := lt_at hi
  have hm := h.row
  obtain ⟨hl, hh⟩ := hm
  rcases hh with ⟨_, h0⟩ | ⟨g, cap', cur, e, hB, hg, hc, _, hs, htk⟩
  · omega
  · cases e
    have key : ∀ j u, j < 2 → (cc p)[j]? = some u → w.cell? ⟨g, i * 2 + j, none⟩ = some u := fun j u hj hu => by
      rw [Joins.cell_of_block hg, ← Array.getElem?_toList]
      have h1 := cc_at ps i p j hi hj
      rw [← htk, List.getElem?_take, if_pos (by omega)] at h1
      rw [h1, hu]
    exact ⟨g, rfl, hB, (Array.getElem?_eq_some_iff.1 hg).1, key 0 _ (by decide) rfl, key 1 _ (by decide) rfl⟩
theorem info_c : (Tryz.prog.info? 37).map (fun i => (i.zero, i.size, i.bytes)) = some (some (.agg #[.string ⟨#[]⟩, .slice none 0 0]), 2, 40) := by kernel_rfl
theorem row_ne {w : World} {B B' n : Nat} {v u : Value} {xs : List Value} {ms : List Mg} (h : w.ownsRow B 37 2 v n xs) (hm : OwnM w B' u ms) : ∀ g, u.ownBlock = some g → some g ≠ v.ownBlock := fun g hg e => by
  obtain ⟨_, h | ⟨g', cap', cur, he, _, hgg, _⟩⟩ := h
  · rw [h.1] at e; simp [Value.ownBlock] at e
  · rw [he] at e
    simp [Value.ownBlock] at e
    subst e
    exact own_ne hm hgg hg.symm
/-- One certificate more. -/
theorem list_cert {P : Program} {ops : Array Oper} {rest : List Oper} {o : Oper} {a : Act} {Q : Exit → Act → World → Prop} (hgd : o.guard = none) (s x : Operand) (t : TypeId)
    (ho : o.op = .call { callee := .builtin .append, args := #[s, x], argTypes := #[t, t] }) (i : TypeInfo) (ht : P.underlying t = some (.slice 37)) (hi : P.info? 37 = some i) (hz : i.zero = some (.agg #[.string ⟨#[]⟩, .slice none 0 0]))
    (hsize : i.size = 2) (hby : i.bytes = 40) (B : Nat) (w0 W : World) (v : Value) (ps : List (Ct × Value)) (p : Ct × Value) (hp1 : p.2.oneCell' = true) (hs : a.eval s = v) (hown : OwnC W B v ps) (hpo : OwnM W B p.2 p.1.ms) (hap : ∀ q ∈ ps, ∀ g, q.2.ownBlock = some g → p.2.ownBlock ≠ some g) (hg0 : Below B w0 W) (hB : B ≤ W.heap.size)
    (gx : Nat) (hx : a.eval x = .slice (some ⟨gx, 0, none⟩) 1 1) (hgx : W.heap.size = gx) (hlen : ps.length ≤ 1000000)
    (h : ∀ v' w', OwnC w' B v' (ps ++ [p]) → Below B w0 w' → Kq W w' v v' → wpList P ops Q rest (a.put o.dst v') w') : wpList P ops Q (o :: rest) a (W.alloc (.cells #[.string p.1.bd, p.2] 37)) := by
  subst hgx
  have hown' := hown.below (bel_new W (.cells #[.string p.1.bd, p.2] 37))
  refine wpList_append_own_at (P := P) _ hgd s x t ho B 37 i _ 2 40 ht hi hz hsize hby rfl (by decide) v ps.length _ hs hown'.row ⟨W.heap.size, 0, none⟩ 1 1 (cc p) hx rfl ?_ ?_ (by unfold maxLen; omega) (by omega) (by simp; omega) ?_
  · intro j u hj
    have h2 : (⟨W.heap.size, 0, none⟩ : Addr).add j = ⟨W.heap.size, j, none⟩ := by unfold Addr.add; split <;> simp_all
    rw [h2, Joins.cell_of_block (heap_alloc_new W _), ← hj]
    simp [cc]
  · intro u hu
    unfold cc at hu
    simp at hu
    rcases hu with rfl | rfl
    · rfl
    · exact hp1
  · intro v' w' h1 h2 h3 h4
    have hK : Kq W w' v v' := fun k hk hn => ⟨(h2.block k (by simp; omega) hn).trans (Below.heap_alloc W _ k hk), fun e => by
      rcases h4 with h4 | h4
      · exact hn (e.trans h4)
      · rw [h4] at e
        simp at e
        omega⟩
    have hmk : ∀ q : Ct × Value, OwnM W B q.2 q.1.ms → OwnM w' B q.2 q.1.ms := fun q hq => hq.kept fun g hg => (hK g (hq.lt g hg).2 (row_ne hown.row hq g hg)).1
    refine h v' w' ⟨?_, ?_, ?_⟩ ((hg0.alloc hB _).grown h2 (by simp; omega) (fun k hk => (hown'.lt k hk).1)) hK
    · rw [List.flatMap_append, List.length_append]; simpa using h1
    · intro q hq
      rcases List.mem_append.1 hq with hq | hq
      · exact hmk q (hown.mem q hq)
      · simp at hq; subst hq; exact hmk _ hpo
    · rw [List.pairwise_append]
      refine ⟨hown.apart, List.pairwise_singleton _ _, fun q hq r hr => ?_⟩
      simp at hr
      subst hr
      exact hap q hq
end Go.Proofs.YtkfiahemgdppfaaGreatDoor.Wc

/- The certificates that a view change brings: the program's walks. -/
namespace Go.Proofs.YtkfiahemgdppfaaGreatDoor.Wc
open Go.RowKit Go.Proofs.YtkfiahemgdppfaaGreatDoor.Sl Go.Proofs.YtkfiahemgdppfaaGreatDoor.By Go.Proofs.YtkfiahemgdppfaaGreatDoor.Ap Go.Proofs.YtkfiahemgdppfaaGreatDoor.Gm Go.Proofs.YtkfiahemgdppfaaGreatDoor.Si Go.Proofs.YtkfiahemgdppfaaGreatDoor.Tm Go.Proofs.YtkfiahemgdppfaaGreatDoor.Ms Go.Proofs.YtkfiahemgdppfaaGreatDoor.Sh Go.Proofs.YtkfiahemgdppfaaGreatDoor.Vt Go.Proofs.YtkfiahemgdppfaaGreatDoor.Mp Go.Proofs.YtkfiahemgdppfaaGreatDoor.Rq
open Go.Proofs.YtkfiahemgdppfaaGreatDoor.Rc (OwnM OwnM.row OwnM.kept OwnM.lt OwnM.below OwnM.mono rcOK rcBd rcMs rcCode rc_no own_ne Kq implReadCert_any bytes_run)
open Go.Proofs.YtkfiahemgdppfaaGreatDoor.Ty (RowT tnth)
open Go.Proofs.YtkfiahemgdppfaaGreatDoor.Bd (dOut)
open Go.Proofs.YtkfiahemgdppfaaGreatDoor.Rl (rdC rdL implReadList_any)
open Go.Proofs.YtkfiahemgdppfaaGreatDoor.Rg (RowG RowG.slice RowG.at lt_at mem_at blk_cell blk_set bel_new)

theorem rc_code {xs : List Int} (h : rcOK xs = false) : (rcCode xs != 0) = true := by
  rw [(rc_no h).2.2]
  by_cases h0 : rdC xs = 0
  · rw [if_pos h0]; rfl
  · rw [if_neg h0]; simp [h0]
theorem rc_code0 {xs : List Int} (h : rcOK xs = true) : rcCode xs = 0 := by unfold rcCode; rw [if_pos h]
theorem map_take {ts : List ByteArray} {k : Nat} {t : ByteArray} (h : ts[k]? = some t) : (ts.take (k + 1)).map ct = (ts.take k).map ct ++ [ct t] := by
  rw [List.take_add_one, h]; simp
set_option maxRecDepth 100000 in
set_option maxHeartbeats 3200000 in
theorem risingCerts_any (n view : Int) (v : Value) (ts : List ByteArray) (w : World) (h : RowT w v ts) (hl : ts.length ≤ 65535) (hs : ∀ t ∈ ts, t.size ≤ 65535) (hK : KTab w) (hp : 0 < w.heap.size) :
    Calls Tryz.prog 59 #[.int .i64 n, .int .i64 view, v] w fun e w' => ∃ u, e = .returned (.tuple #[u, .bool (rsB n view ts)]) ∧ (rsB n view ts = true → ∃ ps, ps.map (·.1) = ts.map ct ∧ OwnC w' w.heap.size u ps) ∧ Below w.heap.size w w' := by
  obtain ⟨i0, hi0, hz0, hz1, hz2⟩ := info_parts info_c
  have HR : Hid (RowT w v ts) := h
  have GK : Hid (∀ W, Below w.heap.size w W → KTab W ∧ 0 < W.heap.size) := fun W hW => ⟨hK.below hW hp, Nat.lt_of_lt_of_le hp hW.size⟩
  have HS : Hid (∀ t ∈ ts, t.size ≤ 65535) := hs
  obtain ⟨a, cap, rfl, _⟩ := h
  clear hs hK hp
  go_enter Tryz.func59, Tryz.ntmps59
  go_wp2_with fail
  go_loopw [8, 9, 17] (fun b l i wr => ∃ (k : Nat) (ps : List (Ct × Value)), k ≤ ts.length ∧ l = .int .i64 (lastS ts k) ∧ i = .int .i64 k ∧ Hid (GoodC n view ts k ∧ ps.map (·.1) = (ts.take k).map ct ∧ OwnC wr w.heap.size b ps ∧ Below w.heap.size w wr)) (fun _ _ i _ => ts.length - (intOf i).toNat)
  case atStart => exact ⟨0, [], by omega, rfl, rfl, ⟨GoodC.zero n view ts, rfl, OwnC.nil _ _, Below.refl _ _⟩⟩
  case round =>
    obtain ⟨k, ps, hk, rfl, rfl, HZ⟩ := hrel
    obtain ⟨v0, rfl⟩ : ∃ v0, v0 = u8 := ⟨_, rfl⟩
    by_cases hlt : k < ts.length
    · obtain ⟨a', cap', he, hc⟩ := HR.out.below HZ.out.2.2.2
      rcases hc with hc | ⟨b, off, rfl, _, hbl, hcell⟩
      · exact absurd hlt (by rw [hc]; simp)
      cases he
      have c0 := hcell k hlt
      have HTT : Hid (ts[k]? = some (tnth ts k)) := Rc.at_some hlt
      have HONE : Hid (OneC n view ts k ↔ (okC n (tnth ts k) = true ∧ lastS ts k < (hd (ct (tnth ts k))).sq ∧ (hd (ct (tnth ts k))).vw < view)) := Iff.rfl
      have HLS : Hid (lastS ts (k + 1) = (hd (ct (tnth ts k))).sq) := rfl
      have HSZ : Hid ((tnth ts k).size ≤ 65535) := HS.out _ (mem_at HTT.out)
      have HPL : Hid (ps.length ≤ 1000000) := by
        show _ ≤ _
        have := congrArg List.length HZ.out.2.1
        rw [List.length_map, List.length_map, List.length_take] at this
        omega
      have HMT : Hid ((ts.take (k + 1)).map ct = (ts.take k).map ct ++ [ct (tnth ts k)]) := map_take HTT.out
      obtain ⟨L, HL⟩ : ∃ L, Hid (lastS ts k = L) := ⟨_, rfl⟩
      rw [HL.out] at HONE ⊢
      clear hcell HL HTT
      generalize tnth ts k = t at c0 HONE HLS HSZ HMT
      obtain ⟨v2, w2, hcv, r2, b2⟩ := bytes_run t wr
      have HRC0 := implReadCert_any v2 (bys t) w2 r2 (by rw [bys_length]; have := HSZ.out; omega)
      have HRC : Hid (Calls Tryz.prog 94 #[v2] w2 fun e w' => ∃ vp, e = .returned (.tuple #[.agg #[.string (ct t).bd, vp], .int .i64 (rcCode (bys t))]) ∧ OwnM w' w2.heap.size vp (ct t).ms ∧ Below w2.heap.size w2 w') := HRC0
      have HOK : Hid (okC n t = (rcOK (bys t) && crtB n (ct t).bd (ct t).ms)) := rfl
      have HHD : Hid (okC n t = true → (ct t).ms[0]? = some (hd (ct t))) := fun h => (ok_hd h).1
      have HBS : Hid ((ct t).bd.size ≤ 1048576 ∧ (ct t).ms.length ≤ 1048576) := by
        constructor
        · show (rcBd (bys t)).size ≤ _
          unfold rcBd
          split
          · have hz := Rc.rdL_size (bys t) (bys_range t)
            split
            · show (0 : Nat) ≤ _; omega
            · rename_i t' ts' e
              have := hz t' (by rw [e]; exact List.mem_cons_self)
              omega
          · show (0 : Nat) ≤ _; omega
        · show (rcMs (bys t)).length ≤ _
          have : (rcMs (bys t)).length ≤ 65535 := by
            unfold rcMs
            split
            · have hz := Rl.rdL_small (bys t) (bys_range t)
              split
              · show (0 : Nat) ≤ _; omega
              · rename_i t' ts' e
                rw [e] at hz
                unfold Rc.msOf
                rw [List.length_map]
                simp at hz
                omega
            · show (0 : Nat) ≤ _; omega
          omega
      have B2 : Hid (Below wr.heap.size wr w2) := b2
      have HCD := @rc_code (bys t)
      have HCE := @rc_code0 (bys t)
      clear HRC0 r2 b2 HSZ
      generalize ct t = c at HRC HOK HHD HBS HMT HONE HLS
      generalize rcCode (bys t) = cd at HRC HCD HCE
      generalize rcOK (bys t) = ok1 at HOK HCD HCE
      generalize okC n t = okt at HOK HHD HONE
      cases ok1 with
      | false =>
        have hcd := HCD rfl
        have HF : Hid (rsB n view ts = false) := rs_no hlt (fun hh => by have := (HONE.out.1 hh).1; rw [HOK.out] at this; cases this)
        clear HCD HCE
        go_wp2_with fail
        refine HRC.out.mono ?_
        rintro e w3 ⟨vp, rfl, o3, b3⟩
        obtain ⟨va, vcap, rfl⟩ := own_slice o3
        have HA : Hid (∀ o, Below w.heap.size w (w3.alloc o)) := fun o => by
          have b := HZ.out.2.2.2.trans ((B2.out.trans (b3.mono B2.out.size)).mono HZ.out.2.2.2.size)
          exact b.alloc b.size o
        clear o3 b3
        go_wp2_with fail
        go_ret2
        exact ⟨_, ret_vb HF.out.symm, fun hh => absurd (HF.out.symm.trans hh) (by decide), HA.out _⟩
      | true =>
        obtain rfl := HCE rfl
        rw [Bool.true_and] at HOK
        clear HCD HCE
        go_wp2_with fail
        refine HRC.out.mono ?_
        rintro e w3 ⟨vp, rfl, o3, b3⟩
        obtain ⟨va, vcap, rfl⟩ := own_slice o3
        have B3 : Hid (Below wr.heap.size wr w3) := B2.out.trans (b3.mono B2.out.size)
        have HX : Hid (∀ W, Below (w3.alloc (.cells #[.string c.bd, .slice va c.ms.length vcap] 37)).heap.size (w3.alloc (.cells #[.string c.bd, .slice va c.ms.length vcap] 37)) W → W.cell? ⟨w3.heap.size, 0, none⟩ = some (.string c.bd) ∧ W.cell? ⟨w3.heap.size, 1, none⟩ = some (.slice va c.ms.length vcap) ∧ OwnM W w2.heap.size (.slice va c.ms.length vcap) c.ms ∧ Below wr.heap.size wr W) := fun W hW => by
          have h1 := (hW.block w3.heap.size (by simp)).trans (heap_alloc_new w3 _)
          exact ⟨(blk_cell h1 0 rfl).1, (blk_cell h1 1 rfl).1, (o3.below (bel_new _ _)).below hW, B3.out.trans (((bel_new w3 _).trans (hW.mono (by simp))).mono B3.out.size)⟩
        clear o3 b3
        have HWB : Hid (∀ W, Below wr.heap.size wr W → Below w.heap.size w W) := fun W hW => HZ.out.2.2.2.trans (hW.mono HZ.out.2.2.2.size)
        have HCK : Hid (∀ W, Below wr.heap.size wr W → OwnM W w2.heap.size (.slice va c.ms.length vcap) c.ms → Calls Tryz.prog 76 #[.int .i64 n, .agg #[.string c.bd, .slice va c.ms.length vcap]] W fun e w' => e = .returned (.bool okt) ∧ Below W.heap.size W w') := fun W hW ho => by
          have g := GK.out W (HWB.out W hW)
          rw [HOK.out]
          exact implCertOK_any n c.bd _ c.ms W ho.row HBS.out.2 HBS.out.1 g.1 g.2
        cases okt with
        | false =>
          have HF : Hid (rsB n view ts = false) := rs_no hlt (fun hh => by have := (HONE.out.1 hh).1; cases this)
          go_wp2_with fail
          generalize w3.alloc (.cells #[.string c.bd, .slice va c.ms.length vcap] 37) = wb at HX ⊢
          obtain ⟨_, _, x2, x3⟩ := HX.out wb (Below.refl _ _)
          refine (HCK.out _ x3 x2).mono ?_
          rintro e w4 ⟨rfl, b4⟩
          have G4 : Hid (Below w.heap.size w w4) := HWB.out _ (HX.out _ b4).2.2.2
          clear b4 x2 x3
          go_wp2_with fail
          go_ret2
          exact ⟨_, ret_vb HF.out.symm, fun hh => absurd (HF.out.symm.trans hh) (by decide), G4.out⟩
        | true =>
          have HH0 := HHD.out rfl
          have HBL : Hid (∀ W, Below wr.heap.size wr W → OwnM W w2.heap.size (.slice va c.ms.length vcap) c.ms → Calls Tryz.prog 57 #[.agg #[.string c.bd, .slice va c.ms.length vcap]] W fun e w' => e = .returned (.agg #[.int .i64 (hd c).vw, .int .i64 (hd c).sq, .string (dOut c.bd)]) ∧ Below W.heap.size W w') := fun W hW ho => by
            have g := GK.out W (HWB.out W hW)
            exact ballotOf_any c.bd _ c.ms (hd c) W ho.row HH0 g.1 g.2
          generalize dOut c.bd = dd at HBL
          have HONE2 : Hid (OneC n view ts k ↔ (L < (hd c).sq ∧ (hd c).vw < view)) := by
            show _ ↔ _
            rw [HONE.out]; simp
          obtain ⟨cv, HCV⟩ : ∃ cv, Hid ((hd c).vw = cv) := ⟨_, rfl⟩
          obtain ⟨cs, HCS⟩ : ∃ cs, Hid ((hd c).sq = cs) := ⟨_, rfl⟩
          rw [HCV.out, HCS.out] at HBL HONE2
          rw [HCS.out] at HLS
          clear HH0 HONE HHD
          go_wp2_with fail
          generalize w3.alloc (.cells #[.string c.bd, .slice va c.ms.length vcap] 37) = wb at HX ⊢
          obtain ⟨_, _, x2, x3⟩ := HX.out wb (Below.refl _ _)
          refine (HCK.out _ x3 x2).mono ?_
          rintro e w4 ⟨rfl, b4⟩
          have B4 : Hid (Below wb.heap.size wb w4) := b4
          obtain ⟨y0, y1, y2, y3⟩ := HX.out _ b4
          have Y2 : Hid (OwnM w4 w2.heap.size (.slice va c.ms.length vcap) c.ms ∧ Below wr.heap.size wr w4) := ⟨y2, y3⟩
          clear b4 x2 x3 y2 y3
          go_wp2_with fail
          refine (HBL.out _ Y2.out.2 Y2.out.1).mono ?_
          rintro e w5 ⟨rfl, b5⟩
          have B5 : Hid (Below wb.heap.size wb w5) := B4.out.trans (b5.mono B4.out.size)
          have HY : Hid (∀ o, (w5.alloc o).cell? ⟨w3.heap.size, 0, none⟩ = some (.string c.bd) ∧ (w5.alloc o).cell? ⟨w3.heap.size, 1, none⟩ = some (.slice va c.ms.length vcap) ∧ OwnM (w5.alloc o) w2.heap.size (.slice va c.ms.length vcap) c.ms ∧ Below wr.heap.size wr (w5.alloc o)) := fun o => HX.out _ (B5.out.alloc B5.out.size o)
          clear b5 y0 y1 Y2
          by_cases h1 : cs ≤ L
          · have h1' : decide (cs ≤ L) = true := decide_eq_true h1
            have HF : Hid (rsB n view ts = false) := rs_no hlt (fun hh => by have := (HONE2.out.1 hh).1; omega)
            clear h1
            go_wp2_with fail
            go_ret2
            exact ⟨_, ret_vb HF.out.symm, fun hh => absurd (HF.out.symm.trans hh) (by decide), HWB.out _ (HY.out _).2.2.2⟩
          · have h1' : decide (cs ≤ L) = false := decide_eq_false h1
            by_cases h2 : view ≤ cv
            · have h2' : decide (view ≤ cv) = true := decide_eq_true h2
              have HF : Hid (rsB n view ts = false) := rs_no hlt (fun hh => by have := (HONE2.out.1 hh).2; omega)
              clear h1 h2
              go_wp2_with fail
              go_ret2
              exact ⟨_, ret_vb HF.out.symm, fun hh => absurd (HF.out.symm.trans hh) (by decide), HWB.out _ (HY.out _).2.2.2⟩
            · have h2' : decide (view ≤ cv) = false := decide_eq_false h2
              have HG2 : Hid (GoodC n view ts (k + 1)) := HZ.out.1.succ (HONE2.out.2 ⟨by omega, by omega⟩)
              clear h1 h2
              have HY6 : Hid ((w5.alloc (.cells #[.int .i64 cv, .int .i64 cs, .string dd] 99)).cell? ⟨w3.heap.size, 0, none⟩ = some (.string c.bd) ∧ (w5.alloc (.cells #[.int .i64 cv, .int .i64 cs, .string dd] 99)).cell? ⟨w3.heap.size, 1, none⟩ = some (.slice va c.ms.length vcap) ∧ OwnM (w5.alloc (.cells #[.int .i64 cv, .int .i64 cs, .string dd] 99)) w2.heap.size (.slice va c.ms.length vcap) c.ms ∧ Below wr.heap.size wr (w5.alloc (.cells #[.int .i64 cv, .int .i64 cs, .string dd] 99))) := HY.out _
              go_upto_region 13 with fail
              generalize w5.alloc (.cells #[.int .i64 cv, .int .i64 cs, .string dd] 99) = w6 at HY6 ⊢
              obtain ⟨q0, q1, _, _⟩ := HY6.out
              have O6 : Hid (OwnC w6 w.heap.size v0 ps ∧ Below w.heap.size w w6 ∧ OwnM w6 w.heap.size (.slice va c.ms.length vcap) c.ms) := ⟨HZ.out.2.2.1.below HY6.out.2.2.2, HWB.out _ HY6.out.2.2.2, HY6.out.2.2.1.mono (Nat.le_trans HZ.out.2.2.2.size B2.out.size)⟩
              have HAP : Hid (∀ q ∈ ps, ∀ g, q.2.ownBlock = some g → (Value.slice va c.ms.length vcap).ownBlock ≠ some g) := fun q hq g hg e => by
                have h1 := ((HZ.out.2.2.1.mem q hq).lt g hg).2
                have h2 := (HY6.out.2.2.1.lt g e).1
                have := B2.out.size
                omega
              have HMM : Hid ((ps ++ [(c, Value.slice va c.ms.length vcap)]).map (·.1) = (ts.take (k + 1)).map ct) := by show _ = _; rw [List.map_append, HZ.out.2.1, HMT.out]; rfl
              go_wp2_with (at_builtin; go_must (refine list_cert (by rfl) _ _ 33 (by rfl) i0 Tryz.underlying33 hi0 hz0 hz1 hz2 w.heap.size w w6 _ ps (c, .slice va c.ms.length vcap) (by rfl) (by rfl) O6.out.1 O6.out.2.2 HAP.out O6.out.2.1 O6.out.2.1.size _ (by rfl) (by rfl) HPL.out ?_; intro v7 w7 o7 b7 _))
              exact ⟨⟨k + 1, ps ++ [(c, .slice va c.ms.length vcap)], by omega, by rw [HLS.out], by go_num, ⟨HG2.out, HMM.out, o7, b7⟩⟩, by simp [intOf]; omega⟩
    · obtain rfl : k = ts.length := by omega
      have HF : Hid (rsB n view ts = true) := rs_yes HZ.out.1
      have HP : Hid (∃ ps, ps.map (·.1) = ts.map ct ∧ OwnC wr w.heap.size v0 ps) := ⟨ps, by have := HZ.out.2.1; rw [List.take_length] at this; exact this, HZ.out.2.2.1⟩
      go_wp2_with fail
      go_ret2
      exact ⟨_, ret_vb HF.out.symm, fun _ => HP.out, HZ.out.2.2.2⟩
/-- What a vote brings is right. -/
noncomputable def cfB (n view : Int) (x : Mg) : Bool := bOf (sg n x = true ∧ x.kd = 4 ∧ x.vw = view ∧ view ≠ 0 ∧ rdC (bys x.bd) = 0 ∧ rsB n view (rdL (bys x.bd)) = true)
noncomputable def crts (x : Mg) : List Ct := (rdL (bys x.bd)).map ct
theorem taV (v : Value) (W : World) : (Instr.typeAssert (.iface 102 v) 67 102 true).run Tryz.prog W = .ok (.tuple #[v, .bool true]) W := by
  simp [Instr.typeAssert, go_sem]
theorem taN (v : Value) (W : World) : (Instr.typeAssert (.iface 108 v) 67 102 true).run Tryz.prog W = .ok (.tuple #[.agg #[.int .i64 0, .int .i64 0, .string ⟨#[]⟩], .bool false]) W := by
  have hz : (zeroValue 102).run Tryz.prog W = .ok (.agg #[.int .i64 0, .int .i64 0, .string ⟨#[]⟩]) W := by kernel_rfl
  simp [Instr.typeAssert, go_sem, hz]
theorem taZ (W : World) : (Instr.typeAssert .nilIface 67 102 true).run Tryz.prog W = .ok (.tuple #[.agg #[.int .i64 0, .int .i64 0, .string ⟨#[]⟩], .bool false]) W := by
  have hz : (zeroValue 102).run Tryz.prog W = .ok (.agg #[.int .i64 0, .int .i64 0, .string ⟨#[]⟩]) W := by kernel_rfl
  simp [Instr.typeAssert, go_sem, hz]
set_option maxRecDepth 100000 in
set_option maxHeartbeats 1600000 in
theorem certsOf_any (n view : Int) (x : Mg) (w : World) (hz : x.bd.size ≤ 1048576) (hK : KTab w) (hp : 0 < w.heap.size) :
    Calls Tryz.prog 27 #[.int .i64 n, .int .i64 view, votV n x] w fun e w' => ∃ u, e = .returned (.tuple #[u, .bool (cfB n view x)]) ∧ (cfB n view x = true → ∃ ps, ps.map (·.1) = crts x ∧ OwnC w' w.heap.size u ps) ∧ Below w.heap.size w w' := by
  have HA : Hid (∀ o, Below w.heap.size w (w.alloc o)) := fun o => bel_new w o
  by_cases hv : sg n x = true ∧ x.kd = 4
  · have e : votV n x = .iface 102 (.agg #[.int .i64 x.fr, .int .i64 x.vw, .string x.bd]) := by unfold votV; rw [if_pos hv.1, if_neg (by omega), if_pos hv.2]; rfl
    rw [e]
    have hta := fun v => taV v w
    by_cases h1 : x.vw = view
    · have h1' : (x.vw != view) = false := by simp [h1]
      by_cases h2 : view = 0
      · have h2' : (view == 0) = true := by simp [h2]
        have HF : Hid (cfB n view x = false) := bOf_false fun h => h.2.2.2.1 h2
        clear h1 h2 hv e
        go_enter Tryz.func27, Tryz.ntmps27
        go_wp2_with fail
        go_ret2
        exact ⟨_, ret_vb HF.out.symm, fun hh => absurd (HF.out.symm.trans hh) (by decide), HA.out _⟩
      · have h2' : (view == 0) = false := by simp [h2]
        have HCF : Hid (cfB n view x = bOf (rdC (bys x.bd) = 0 ∧ rsB n view (rdL (bys x.bd)) = true)) := by
          show _ = _
          refine (bOf_eq ?_).symm
          rw [bOf_iff]
          exact ⟨fun h => ⟨hv.1, hv.2, h1, h2, h.1, h.2⟩, fun h => ⟨h.2.2.2.2.1, h.2.2.2.2.2⟩⟩
        have HCR : Hid (crts x = (rdL (bys x.bd)).map ct) := rfl
        have HRS : Hid (∀ t ∈ rdL (bys x.bd), t.size ≤ 65535) := Rc.rdL_size (bys x.bd) (bys_range x.bd)
        have HRN : Hid ((rdL (bys x.bd)).length ≤ 65535) := Rl.rdL_small (bys x.bd) (bys_range x.bd)
        have GK : Hid (∀ W, Below w.heap.size w W → KTab W ∧ 0 < W.heap.size) := fun W hW => ⟨hK.below hW hp, Nat.lt_of_lt_of_le hp hW.size⟩
        obtain ⟨v2, w2, hcv, r2, b2⟩ := bytes_run x.bd (w.alloc (.cells #[.int .i64 x.fr, .int .i64 x.vw, .string x.bd] 102))
        have HRL0 := implReadList_any v2 (bys x.bd) w2 r2 (by rw [bys_length]; omega)
        have B2 : Hid (Below w.heap.size w w2) := (HA.out _).trans (b2.mono (HA.out _).size)
        generalize rdL (bys x.bd) = ts at HRL0 HCF HCR HRS HRN
        generalize rdC (bys x.bd) = rc at HRL0 HCF
        have HRL : Hid (Calls Tryz.prog 58 #[v2] w2 fun e w' => ∃ v', e = .returned (.tuple #[v', .int .i64 rc]) ∧ Tl.OwnS w' w2.heap.size v' ts ∧ Below w2.heap.size w2 w') := HRL0
        clear h1 h2 hv e r2 b2 HRL0 hK hp
        by_cases hrc : rc = 0
        · subst hrc
          have HCF2 : Hid (cfB n view x = rsB n view ts) := by
            show _ = _
            rw [HCF.out]
            refine (bOf_eq ?_).symm
            simp
          go_enter Tryz.func27, Tryz.ntmps27
          go_wp2_with fail
          refine HRL.out.mono ?_
          rintro e w3 ⟨v3, rfl, o3, b3⟩
          have B3 : Hid (Below w.heap.size w w3) := B2.out.trans (b3.mono B2.out.size)
          have HRI : Hid (Calls Tryz.prog 59 #[.int .i64 n, .int .i64 view, v3] w3 fun e w' => ∃ u, e = .returned (.tuple #[u, .bool (rsB n view ts)]) ∧ (rsB n view ts = true → ∃ ps, ps.map (·.1) = ts.map ct ∧ OwnC w' w3.heap.size u ps) ∧ Below w3.heap.size w3 w') := by
            have g := GK.out _ B3.out
            exact risingCerts_any n view v3 ts w3 (Tl.OwnS.row o3) HRN.out HRS.out g.1 g.2
          clear o3 b3
          obtain ⟨q, HQ⟩ : ∃ q, Hid (rsB n view ts = q) := ⟨_, rfl⟩
          rw [HQ.out] at HRI HCF2
          go_wp2_with fail
          refine HRI.out.mono ?_
          rintro e w4 ⟨u, rfl, o4, b4⟩
          have B4 : Hid (Below w.heap.size w w4) := B3.out.trans (b4.mono B3.out.size)
          have O4 : Hid (q = true → ∃ ps, ps.map (·.1) = crts x ∧ OwnC w4 w.heap.size u ps) := fun h => by
            obtain ⟨ps, h1, h2⟩ := o4 h
            exact ⟨ps, by rw [HCR.out]; exact h1, ⟨row_mono h2.row B3.out.size, fun p hp => (h2.mem p hp).mono B3.out.size, h2.apart⟩⟩
          clear o4 b4
          go_wp2_with fail
          go_ret2
          exact ⟨_, ret_vb HCF2.out.symm, fun hh => O4.out (HCF2.out.symm.trans hh), B4.out⟩
        · have hrc' : (rc != 0) = true := by simp [hrc]
          have HF : Hid (cfB n view x = false) := by show _ = _; rw [HCF.out]; exact bOf_false fun h => hrc h.1
          clear hrc
          go_enter Tryz.func27, Tryz.ntmps27
          go_wp2_with fail
          refine HRL.out.mono ?_
          rintro e w3 ⟨v3, rfl, o3, b3⟩
          have B3 : Hid (Below w.heap.size w w3) := B2.out.trans (b3.mono B2.out.size)
          clear o3 b3
          go_wp2_with fail
          go_ret2
          exact ⟨_, ret_vb HF.out.symm, fun hh => absurd (HF.out.symm.trans hh) (by decide), B3.out⟩
    · have h1' : (x.vw != view) = true := by simp [h1]
      have HF : Hid (cfB n view x = false) := bOf_false fun h => h1 h.2.2.1
      clear h1 hv e
      go_enter Tryz.func27, Tryz.ntmps27
      go_wp2_with fail
      go_ret2
      exact ⟨_, ret_vb HF.out.symm, fun hh => absurd (HF.out.symm.trans hh) (by decide), HA.out _⟩
  · have HF : Hid (cfB n view x = false) := bOf_false fun h => hv ⟨h.1, h.2.1⟩
    have HE : votV n x = .nilIface ∨ votV n x = .iface 108 (.agg #[.int .i64 x.fr, .int .i64 x.vw, .int .i64 x.sq, .string x.dg]) := by
      unfold votV
      by_cases hs : sg n x = true
      · rw [if_pos hs]
        by_cases h2 : x.kd = 2
        · rw [if_pos h2]; exact .inr rfl
        · rw [if_neg h2, if_neg (fun h4 => hv ⟨hs, h4⟩)]; exact .inl rfl
      · rw [if_neg hs]; exact .inl rfl
    rcases HE with e | e
    · rw [e]
      have hta := taZ w
      clear hv e
      go_enter Tryz.func27, Tryz.ntmps27
      go_wp2_with fail
      go_ret2
      exact ⟨_, ret_vb HF.out.symm, fun hh => absurd (HF.out.symm.trans hh) (by decide), HA.out _⟩
    · rw [e]
      have hta := fun v => taN v w
      clear hv e
      go_enter Tryz.func27, Tryz.ntmps27
      go_wp2_with fail
      go_ret2
      exact ⟨_, ret_vb HF.out.symm, fun hh => absurd (HF.out.symm.trans hh) (by decide), HA.out _⟩
end Go.Proofs.YtkfiahemgdppfaaGreatDoor.Wc

/- The certificates that a view change brings: ViewCerts. -/
namespace Go.Proofs.YtkfiahemgdppfaaGreatDoor.Wc
open Go.RowKit Go.Proofs.YtkfiahemgdppfaaGreatDoor.Sl Go.Proofs.YtkfiahemgdppfaaGreatDoor.By Go.Proofs.YtkfiahemgdppfaaGreatDoor.Ap Go.Proofs.YtkfiahemgdppfaaGreatDoor.Gm Go.Proofs.YtkfiahemgdppfaaGreatDoor.Si Go.Proofs.YtkfiahemgdppfaaGreatDoor.Tm Go.Proofs.YtkfiahemgdppfaaGreatDoor.Ms Go.Proofs.YtkfiahemgdppfaaGreatDoor.Sh Go.Proofs.YtkfiahemgdppfaaGreatDoor.Vt Go.Proofs.YtkfiahemgdppfaaGreatDoor.Mp Go.Proofs.YtkfiahemgdppfaaGreatDoor.Rq
open Go.Proofs.YtkfiahemgdppfaaGreatDoor.Rc (OwnM OwnM.row OwnM.kept OwnM.lt OwnM.below OwnM.mono rcOK rcBd rcMs rcCode own_ne Kq l06Read_any rd_short)
open Go.Proofs.YtkfiahemgdppfaaGreatDoor.Ty (RowT tnth)
open Go.Proofs.YtkfiahemgdppfaaGreatDoor.Rl (rdC rdL rdOk rdOut l02ReadList_any)
open Go.Proofs.YtkfiahemgdppfaaGreatDoor.Rg (RowG RowG.slice RowG.at lt_at mem_at blk_cell blk_set bel_new)

/-- What ViewCerts answers. -/
noncomputable def vcC (n : Int) (x : Mg) : Int := if fCode n = 0 then (if cfB n x.vw x then 0 else 12) else 4
noncomputable def vcL (n : Int) (x : Mg) : List Ct := if vcC n x = 0 then crts x else []
theorem ret_vi {v : Value} {a b : Int} (h : a = b) : Ending.returned (.tuple #[v, .int .i64 a]) = .returned (.tuple #[v, .int .i64 b]) := by rw [h]
theorem f_four {n : Int} (h : ¬ fCode n = 0) : fCode n = 4 := by
  rcases f_cases n with rfl | rfl | rfl | ⟨_, _, _, _, hd⟩
  · exact absurd rfl h
  · exact absurd rfl h
  · exact absurd rfl h
  · exact hd
set_option maxRecDepth 100000 in
set_option maxHeartbeats 1600000 in
theorem implViewCerts_any (n : Int) (x : Mg) (w : World) (hz : x.bd.size ≤ 1048576) (hK : KTab w) (hp : 0 < w.heap.size) :
    Calls Tryz.prog 10 #[.int .i64 n, .agg #[.int .i64 x.kd, .int .i64 x.vw, .int .i64 x.sq, .int .i64 x.fr, .string x.dg, .string x.bd, .string x.mc]] w fun e w' => ∃ u, e = .returned (.tuple #[u, .int .i64 (vcC n x)]) ∧ (∃ ps, ps.map (·.1) = vcL n x ∧ OwnC w' w.heap.size u ps) ∧ Below w.heap.size w w' := by
  have HX : Hid (∀ W, Below (w.alloc (.cells #[.int .i64 x.kd, .int .i64 x.vw, .int .i64 x.sq, .int .i64 x.fr, .string x.dg, .string x.bd, .string x.mc] 26)).heap.size (w.alloc (.cells #[.int .i64 x.kd, .int .i64 x.vw, .int .i64 x.sq, .int .i64 x.fr, .string x.dg, .string x.bd, .string x.mc] 26)) W → (W.cell? ⟨w.heap.size, 0, none⟩ = some (.int .i64 x.kd) ∧ W.cell? ⟨w.heap.size, 1, none⟩ = some (.int .i64 x.vw) ∧ W.cell? ⟨w.heap.size, 2, none⟩ = some (.int .i64 x.sq) ∧ W.cell? ⟨w.heap.size, 3, none⟩ = some (.int .i64 x.fr) ∧ W.cell? ⟨w.heap.size, 4, none⟩ = some (.string x.dg) ∧ W.cell? ⟨w.heap.size, 5, none⟩ = some (.string x.bd) ∧ W.cell? ⟨w.heap.size, 6, none⟩ = some (.string x.mc)) ∧ Below w.heap.size w W) := fun W hW => by
    have h1 := (hW.block w.heap.size (by simp)).trans (heap_alloc_new w _)
    exact ⟨⟨(blk_cell h1 0 rfl).1, (blk_cell h1 1 rfl).1, (blk_cell h1 2 rfl).1, (blk_cell h1 3 rfl).1, (blk_cell h1 4 rfl).1, (blk_cell h1 5 rfl).1, (blk_cell h1 6 rfl).1⟩, (bel_new w _).trans (hW.mono (by simp))⟩
  have GK : Hid (∀ W, Below w.heap.size w W → KTab W ∧ 0 < W.heap.size) := fun W hW => ⟨hK.below hW hp, Nat.lt_of_lt_of_le hp hW.size⟩
  have HF := implFaultsOf_any n
  obtain ⟨fo, HFO⟩ : ∃ fo, Hid (fOut n = fo) := ⟨_, rfl⟩
  rw [HFO.out] at HF
  clear hK hp HFO
  by_cases hf : fCode n = 0
  · rw [hf] at HF
    have HVO : Hid (∀ W, Below w.heap.size w W → Calls Tryz.prog 28 #[.int .i64 n, .agg #[.int .i64 x.kd, .int .i64 x.vw, .int .i64 x.sq, .int .i64 x.fr, .string x.dg, .string x.bd, .string x.mc]] W fun e w' => e = .returned (votV n x) ∧ Below W.heap.size W w') := fun W hW => voteOf_any n x W (GK.out W hW).1 (GK.out W hW).2
    have HCO : Hid (∀ W, Below w.heap.size w W → Calls Tryz.prog 27 #[.int .i64 n, .int .i64 x.vw, votV n x] W fun e w' => ∃ u, e = .returned (.tuple #[u, .bool (cfB n x.vw x)]) ∧ (cfB n x.vw x = true → ∃ ps, ps.map (·.1) = crts x ∧ OwnC w' W.heap.size u ps) ∧ Below W.heap.size W w') := fun W hW => certsOf_any n x.vw x W hz (GK.out W hW).1 (GK.out W hW).2
    have HC : Hid (vcC n x = if cfB n x.vw x then 0 else 12) := by show _ = _; unfold vcC; rw [if_pos hf]
    have HL : Hid (vcL n x = if vcC n x = 0 then crts x else []) := rfl
    obtain ⟨q, HQ⟩ : ∃ q, Hid (cfB n x.vw x = q) := ⟨_, rfl⟩
    rw [HQ.out] at HC HCO
    obtain ⟨vv, HVV⟩ : ∃ vv, Hid (votV n x = vv) := ⟨_, rfl⟩
    rw [HVV.out] at HVO HCO
    clear HVV HQ hf hz GK
    go_enter Tryz.func10, Tryz.ntmps10
    go_upto_region 4 with (go_at_call 26; refine (HF _).mono ?_; rintro e w1 ⟨rfl, rfl⟩)
    generalize w.alloc (.cells #[.int .i64 x.kd, .int .i64 x.vw, .int .i64 x.sq, .int .i64 x.fr, .string x.dg, .string x.bd, .string x.mc] 26) = wb at HX ⊢
    obtain ⟨⟨y0, y1, y2, y3, y4, y5, y6⟩, _⟩ := HX.out wb (Below.refl _ _)
    go_region_held (fun W => W.cell? ⟨w.heap.size, 0, none⟩ = some (.int .i64 x.kd) ∧ W.cell? ⟨w.heap.size, 1, none⟩ = some (.int .i64 x.vw) ∧ W.cell? ⟨w.heap.size, 2, none⟩ = some (.int .i64 x.sq) ∧ W.cell? ⟨w.heap.size, 3, none⟩ = some (.int .i64 x.fr) ∧ W.cell? ⟨w.heap.size, 4, none⟩ = some (.string x.dg) ∧ W.cell? ⟨w.heap.size, 5, none⟩ = some (.string x.bd) ∧ W.cell? ⟨w.heap.size, 6, none⟩ = some (.string x.mc)) (first | exact (HX.out _ Qc.from_drew).1 | exact (HX.out _ B2.out).1 | exact (HX.out _ B3.out).1)
      (first | (go_at_call 28; refine (HVO.out _ (HX.out _ Qc.from_drew).2).mono ?_; rintro e w2 ⟨rfl, b2⟩; have B2 : Hid (Below wb.heap.size wb w2) := Qc.from_drew.trans b2; clear b2) | (go_at_call 27; refine (HCO.out _ (HX.out _ B2.out).2).mono ?_; rintro e w3 ⟨u, rfl, o3, b3⟩; have B3 : Hid (Below wb.heap.size wb w3) := B2.out.trans (b3.mono B2.out.size); have O3 : Hid (q = true → ∃ ps, ps.map (·.1) = crts x ∧ OwnC w3 w2.heap.size u ps) := o3; clear b3 o3))
    all_goals
      have G3 : Hid (Below w.heap.size w w3 ∧ w.heap.size ≤ w2.heap.size) := ⟨(HX.out _ B3.out).2, (HX.out _ B2.out).2.size⟩
      clear y0 y1 y2 y3 y4 y5 y6
      cases q with
      | false =>
        rw [if_neg (by decide)] at HC
        have HL2 : Hid ([] = vcL n x) := by show _ = _; rw [HL.out, HC.out]; rfl
        go_wp2_with fail
        go_ret2
        exact ⟨_, ret_vi HC.out.symm, ⟨[], HL2.out, OwnC.nil _ _⟩, G3.out.1⟩
      | true =>
        rw [if_pos rfl] at HC
        obtain ⟨ps, h1, h2⟩ := O3.out rfl
        have HL2 : Hid (ps.map (·.1) = vcL n x) := by show _ = _; rw [HL.out, HC.out]; exact h1
        have HO2 : Hid (OwnC w3 w.heap.size u ps) := ⟨row_mono h2.row G3.out.2, fun p hp => (h2.mem p hp).mono G3.out.2, h2.apart⟩
        clear h1 h2
        go_wp2_with fail
        go_ret2
        exact ⟨_, ret_vi HC.out.symm, ⟨ps, HL2.out, HO2.out⟩, G3.out.1⟩
  · rw [f_four hf] at HF
    have HC : Hid (4 = vcC n x) := by show _ = _; unfold vcC; rw [if_neg hf]
    have HL : Hid ([] = vcL n x) := by show _ = _; unfold vcL; rw [← HC.out]; rfl
    have HB : Hid (∀ o, Below w.heap.size w (w.alloc o)) := fun o => bel_new w o
    clear hf HX
    go_enter Tryz.func10, Tryz.ntmps10
    go_wp2_with fail
    refine (HF _).mono ?_
    rintro e w1 ⟨rfl, rfl⟩
    go_wp2_with fail
    go_ret2
    exact ⟨_, ret_vi HC.out, ⟨[], HL.out, OwnC.nil _ _⟩, HB.out _⟩
theorem ms_seven (xs : List Int) : (rcMs xs).length ≤ 7 := by
  unfold rcMs
  split
  · rename_i h
    unfold rcOK at h
    split
    · show (0 : Nat) ≤ 7; omega
    · rename_i t ts e
      rw [e] at h
      simp only [Bool.and_eq_true] at h
      exact (Cb.cf_all h.2.2).1
  · show (0 : Nat) ≤ 7; omega
noncomputable def cfL (n : Int) (x : Mg) : List Ct := if cfB n x.vw x then crts x else []
theorem cfL_no {n : Int} {x : Mg} (h : cfB n x.vw x = false) : ([] : List (Ct × Value)).map (·.1) = cfL n x := by unfold cfL; rw [h]; rfl
theorem cfL_yes {n : Int} {x : Mg} (h : cfB n x.vw x = true) : cfL n x = crts x := by unfold cfL; rw [h]; rfl
theorem cf_no {n : Int} {x : Mg} {ts : List ByteArray} (h : rdL (bys x.bd) = ts) (h2 : rsB n x.vw ts = false) : cfB n x.vw x = false := bOf_false fun hh => by
  have := hh.2.2.2.2.2
  rw [h, h2] at this
  cases this
theorem sg_small {n : Int} {x : Mg} (h : sg n x = true) : x.bd.size ≤ 20000 := by
  unfold sg gB lB at h
  rw [Bool.and_eq_true, Bool.and_eq_true] at h
  exact (msg_small h.2.1).2.1
theorem one_at {ps : List (Ct × Value)} {ts : List ByteArray} {k j : Nat} (h : ps.map (·.1) = (ts.take k).map ct) (hk : k ≤ ts.length) (hj : j < k) : ∃ p, ps[j]? = some p ∧ p.1 = ct (tnth ts j) := by
  have hl : ps.length = k := by have := congrArg List.length h; rw [List.length_map, List.length_map, List.length_take] at this; omega
  obtain ⟨p, hp⟩ := Rg.get_at (xs := ps) (k := j) (by omega)
  refine ⟨p, hp, ?_⟩
  have e := congrArg (fun l => l[j]?) h
  simp only [List.getElem?_map] at e
  rw [hp, List.getElem?_take, if_pos hj, Rc.at_some (show j < ts.length by omega)] at e
  simpa using e
set_option maxRecDepth 100000 in
set_option maxHeartbeats 3200000 in
theorem l06Certs_any (n : Int) (x : Mg) (w : World) (hf : fCode n = 0) :
    Calls Tryz.prog 36 #[.int .i64 n, .agg #[.int .i64 x.kd, .int .i64 x.vw, .int .i64 x.sq, .int .i64 x.fr, .string x.dg, .string x.bd, .string x.mc]] w fun e w' => ∃ u, e = .returned (.tuple #[u, .bool (cfB n x.vw x)]) ∧ (∃ ps, ps.map (·.1) = cfL n x ∧ OwnC w' w.heap.size u ps) ∧ Below w.heap.size w w' := by
  obtain ⟨i0, hi0, hz0, hz1, hz2⟩ := info_parts info_c
  have HX : Hid (∀ W, Below (w.alloc (.cells #[.int .i64 x.kd, .int .i64 x.vw, .int .i64 x.sq, .int .i64 x.fr, .string x.dg, .string x.bd, .string x.mc] 26)).heap.size (w.alloc (.cells #[.int .i64 x.kd, .int .i64 x.vw, .int .i64 x.sq, .int .i64 x.fr, .string x.dg, .string x.bd, .string x.mc] 26)) W → (W.cell? ⟨w.heap.size, 0, none⟩ = some (.int .i64 x.kd) ∧ W.cell? ⟨w.heap.size, 1, none⟩ = some (.int .i64 x.vw) ∧ W.cell? ⟨w.heap.size, 2, none⟩ = some (.int .i64 x.sq) ∧ W.cell? ⟨w.heap.size, 3, none⟩ = some (.int .i64 x.fr) ∧ W.cell? ⟨w.heap.size, 4, none⟩ = some (.string x.dg) ∧ W.cell? ⟨w.heap.size, 5, none⟩ = some (.string x.bd) ∧ W.cell? ⟨w.heap.size, 6, none⟩ = some (.string x.mc)) ∧ Below w.heap.size w W) := fun W hW => by
    have h1 := (hW.block w.heap.size (by simp)).trans (heap_alloc_new w _)
    exact ⟨⟨(blk_cell h1 0 rfl).1, (blk_cell h1 1 rfl).1, (blk_cell h1 2 rfl).1, (blk_cell h1 3 rfl).1, (blk_cell h1 4 rfl).1, (blk_cell h1 5 rfl).1, (blk_cell h1 6 rfl).1⟩, (bel_new w _).trans (hW.mono (by simp))⟩
  have HSG : Hid (∀ W, Calls Tryz.prog 66 #[.int .i64 n, .agg #[.int .i64 x.kd, .int .i64 x.vw, .int .i64 x.sq, .int .i64 x.fr, .string x.dg, .string x.bd, .string x.mc]] W fun e w' => e = .returned (.bool (sg n x)) ∧ Below W.heap.size W w') := fun W => by
    rw [sg_eq hf]; exact l06Signed_any n x.kd x.vw x.sq x.fr x.dg x.bd x.mc W
  by_cases e1 : x.kd = 4
  · have f1 : (x.kd != 4) = false := by simp [e1]
    have HK4 : Hid (x.kd = 4) := e1
    clear e1
    cases e2 : sg n x with
    | false =>
      have HF : Hid (cfB n x.vw x = false) := bOf_false fun h => by rw [e2] at h; cases h.1
      rw [e2] at HSG
      clear e2
      go_enter Tryz.func36, Tryz.ntmps36
      go_wp2_with fail
      generalize w.alloc (.cells #[.int .i64 x.kd, .int .i64 x.vw, .int .i64 x.sq, .int .i64 x.fr, .string x.dg, .string x.bd, .string x.mc] 26) = wb at HX ⊢
      refine (HSG.out _).mono ?_
      rintro e w1 ⟨rfl, b1⟩
      have G1 : Hid (Below w.heap.size w w1) := (HX.out _ b1).2
      clear b1
      go_wp2_with fail
      go_ret2
      exact ⟨_, ret_vb HF.out.symm, ⟨[], cfL_no HF.out, OwnC.made w1 _ G1.out.size⟩, G1.out.alloc G1.out.size _⟩
    | true =>
      have HSM : Hid (x.bd.size ≤ 20000) := sg_small e2
      have HS2 : Hid (sg n x = true) := e2
      rw [e2] at HSG
      clear e2
      by_cases e3 : x.vw = 0
      · have f3 : (x.vw == 0) = true := by simp [e3]
        have HF : Hid (cfB n x.vw x = false) := bOf_false fun h => h.2.2.2.1 e3
        clear e3
        go_enter Tryz.func36, Tryz.ntmps36
        go_wp2_with fail
        generalize w.alloc (.cells #[.int .i64 x.kd, .int .i64 x.vw, .int .i64 x.sq, .int .i64 x.fr, .string x.dg, .string x.bd, .string x.mc] 26) = wb at HX ⊢
        refine (HSG.out _).mono ?_
        rintro e w1 ⟨rfl, b1⟩
        have G1 : Hid (Below w.heap.size w w1) := (HX.out _ b1).2
        have y1 := (HX.out _ b1).1.2.1
        clear b1
        go_wp2_with fail
        go_ret2
        exact ⟨_, ret_vb HF.out.symm, ⟨[], cfL_no HF.out, OwnC.made w1 _ G1.out.size⟩, G1.out.alloc G1.out.size _⟩
      · have f3 : (x.vw == 0) = false := by simp [e3]
        have HV0 : Hid (x.vw ≠ 0) := e3
        have HRL0 := fun W => l02ReadList_any x.bd W (by have := HSM.out; omega)
        obtain ⟨hrd1, hrd2⟩ := rd_short (xs := bys x.bd) (by rw [bys_length]; have := HSM.out; omega)
        have HCF : Hid (rdOk (bys x.bd) = true → rsB n x.vw (rdL (bys x.bd)) = true → cfB n x.vw x = true) := fun h1 h2 => bOf_true ⟨HS2.out, HK4.out, rfl, HV0.out, by rw [hrd1, if_pos h1], h2⟩
        have HCN : Hid (rdOk (bys x.bd) = false → cfB n x.vw x = false) := fun h1 => bOf_false fun h => by have := h.2.2.2.2.1; rw [hrd1, h1] at this; cases this
        have HCR : Hid (crts x = (rdL (bys x.bd)).map ct) := rfl
        have HOKL0 : Hid (rdL (bys x.bd) = rdL (bys x.bd)) := rfl
        have HRS : Hid (∀ t ∈ rdL (bys x.bd), t.size ≤ 65535) := Rc.rdL_size (bys x.bd) (bys_range x.bd)
        have HRN : Hid ((rdL (bys x.bd)).length ≤ 65535) := Rl.rdL_small (bys x.bd) (bys_range x.bd)
        rw [← hrd2] at HRL0
        obtain ⟨ts, HOKL⟩ : ∃ ts, Hid (rdL (bys x.bd) = ts) := ⟨_, rfl⟩
        rw [HOKL.out] at HRL0 HCF HCR HRS HRN
        generalize rdOk (bys x.bd) = ok at HRL0 HCF HCN
        have HRL : Hid (∀ W, Calls Tryz.prog 68 #[.string x.bd] W fun e w' => ∃ v', e = .returned (.tuple #[v', .bool ok]) ∧ Tl.OwnS w' W.heap.size v' ts ∧ Below W.heap.size W w') := HRL0
        clear e3 HRL0 hrd1 hrd2 HOKL0
        have HFC : Hid (fCode n = 0) := hf
        clear hf
        go_enter Tryz.func36, Tryz.ntmps36
        go_wp2_with fail
        generalize w.alloc (.cells #[.int .i64 x.kd, .int .i64 x.vw, .int .i64 x.sq, .int .i64 x.fr, .string x.dg, .string x.bd, .string x.mc] 26) = wb at HX ⊢
        refine (HSG.out _).mono ?_
        rintro e w1 ⟨rfl, b1⟩
        have B1 : Hid (Below wb.heap.size wb w1) := b1
        have y1 := (HX.out _ b1).1.2.1
        have y5 := (HX.out _ b1).1.2.2.2.2.2.1
        clear b1
        go_wp2_with fail
        refine (HRL.out _).mono ?_
        rintro e w2 ⟨v2, rfl, o2, b2⟩
        have B2 : Hid (Below wb.heap.size wb w2) := B1.out.trans (b2.mono B1.out.size)
        have HR : Hid (RowT w2 v2 ts) := Tl.OwnS.row o2
        obtain ⟨a, cap, rfl, _⟩ := Tl.OwnS.row o2
        clear b2 o2 y1 y5
        cases ok with
        | false =>
          have HF : Hid (cfB n x.vw x = false) := HCN.out rfl
          have G1 : Hid (Below w.heap.size w w2) := (HX.out _ B2.out).2
          go_wp2_with fail
          go_ret2
          exact ⟨_, ret_vb HF.out.symm, ⟨[], cfL_no HF.out, OwnC.made w2 _ G1.out.size⟩, G1.out.alloc G1.out.size _⟩
        | true =>
          by_cases h8 : (8 : Int) < (ts.length : Int)
          · have HF : Hid (cfB n x.vw x = false) := cf_no HOKL.out (rs_eight (by omega))
            have G1 : Hid (Below w.heap.size w w2) := (HX.out _ B2.out).2
            have h8' : decide ((8 : Int) < (ts.length : Int)) = true := decide_eq_true h8
            go_wp2_with fail
            go_ret2
            exact ⟨_, ret_vb HF.out.symm, ⟨[], cfL_no HF.out, OwnC.made w2 _ G1.out.size⟩, G1.out.alloc G1.out.size _⟩
          · have h8' : decide ((8 : Int) < (ts.length : Int)) = false := decide_eq_false h8
            have hl8 : ts.length ≤ 8 := by omega
            have HXB : Hid (∀ W, Below w2.heap.size w2 W → W.cell? ⟨w.heap.size, 1, none⟩ = some (.int .i64 x.vw) ∧ Below w.heap.size w W ∧ RowT W (.slice a ts.length cap) ts) := fun W hW => by
              have b := B2.out.trans (hW.mono B2.out.size)
              exact ⟨(HX.out _ b).1.2.1, (HX.out _ b).2, HR.out.below hW⟩
            have HSW : Hid (w.heap.size ≤ w2.heap.size) := (HX.out _ B2.out).2.size
            have G2 : Hid (OwnC (w2.alloc (.cells #[] 37)) w2.heap.size (.slice (some ⟨w2.heap.size, 0, none⟩) 0 0) [] ∧ Below w2.heap.size w2 (w2.alloc (.cells #[] 37))) := ⟨OwnC.made w2 _ (Nat.le_refl _), bel_new _ _⟩
            clear h8 HX HR B1 B2 HRL
            go_wp2_with fail
            generalize w2.alloc (.cells #[] 37) = ws at G2 ⊢
            go_loopw [8, 9] (fun b i wr => ∃ (k : Nat) (ps : List (Ct × Value)), k ≤ ts.length ∧ i = .int .i64 k ∧ Hid (GoodC n x.vw ts k ∧ ps.map (·.1) = (ts.take k).map ct ∧ OwnC wr w2.heap.size b ps ∧ Below w2.heap.size w2 wr)) (fun _ i _ => ts.length - (intOf i).toNat)
            case atStart => exact ⟨0, [], by omega, rfl, ⟨GoodC.zero n x.vw ts, rfl, G2.out.1, G2.out.2⟩⟩
            case round =>
              obtain ⟨k, ps, hk, rfl, HZ⟩ := hrel
              obtain ⟨oa, ocap, rfl⟩ := HZ.out.2.2.1.slice
              have HPK : Hid (ps.length = k) := by
                show _ = _
                have := congrArg List.length HZ.out.2.1
                rw [List.length_map, List.length_map, List.length_take] at this
                omega
              by_cases hlt : k < ts.length
              · obtain ⟨a', cap', he, hc⟩ := (HXB.out _ HZ.out.2.2.2).2.2
                rcases hc with hc | ⟨b, off, rfl, _, hbl, hcell⟩
                · exact absurd hlt (by rw [hc]; simp)
                cases he
                have c0 := hcell k hlt
                have HTT : Hid (ts[k]? = some (tnth ts k)) := Rc.at_some hlt
                have HONE : Hid (OneC n x.vw ts k ↔ (okC n (tnth ts k) = true ∧ lastS ts k < (hd (ct (tnth ts k))).sq ∧ (hd (ct (tnth ts k))).vw < x.vw)) := Iff.rfl
                have HPL : Hid (ps.length ≤ 1000000) := by show _ ≤ _; rw [HPK.out]; omega
                have HMT : Hid ((ts.take (k + 1)).map ct = (ts.take k).map ct ++ [ct (tnth ts k)]) := map_take HTT.out
                have HRD0 := fun W => l06Read_any (tnth ts k) W (by have := HRS.out _ (mem_at HTT.out); omega)
                have HRD : Hid (∀ W, Calls Tryz.prog 69 #[.string (tnth ts k)] W fun e w' => ∃ vp, e = .returned (.tuple #[.agg #[.string (ct (tnth ts k)).bd, vp], .bool (rcOK (bys (tnth ts k)))]) ∧ OwnM w' W.heap.size vp (ct (tnth ts k)).ms ∧ Below W.heap.size W w') := HRD0
                have HOK : Hid (okC n (tnth ts k) = (rcOK (bys (tnth ts k)) && crtB n (ct (tnth ts k)).bd (ct (tnth ts k)).ms)) := rfl
                have HHD : Hid (crtB n (ct (tnth ts k)).bd (ct (tnth ts k)).ms = true → (ct (tnth ts k)).ms[0]? = some (hd (ct (tnth ts k)))) := fun h => (crt_hd h).1
                have HML : Hid ((ct (tnth ts k)).ms.length ≤ 1048576) := by
                  have : (rcMs (bys (tnth ts k))).length ≤ 7 := ms_seven _
                  show (rcMs (bys (tnth ts k))).length ≤ _
                  omega
                have HLS : Hid (∀ j, k = j + 1 → lastS ts k = (hd (ct (tnth ts j))).sq) := fun j hj => by rw [hj]; rfl
                have HL0 : Hid (k = 0 → lastS ts k = 0) := fun h => by rw [h]; rfl
                have HH1 : Hid (crtB n (ct (tnth ts k)).bd (ct (tnth ts k)).ms = true → 1 ≤ (hd (ct (tnth ts k))).sq) := fun h => (crt_hd h).2.1
                clear hcell HTT HRD0
                generalize tnth ts k = t at c0 HONE HMT HRD HOK HHD HML HH1
                generalize ct t = c at HONE HMT HRD HOK HHD HML HH1
                generalize rcOK (bys t) = ok1 at HRD HOK
                generalize okC n t = okt at HOK HONE
                go_wp2_with fail
                refine (HRD.out _).mono ?_
                rintro e w3 ⟨vp, rfl, o3, b3⟩
                obtain ⟨va, vcap, rfl⟩ := own_slice o3
                have HXC : Hid (∀ W, Below (w3.alloc (.cells #[.string c.bd, .slice va c.ms.length vcap] 37)).heap.size (w3.alloc (.cells #[.string c.bd, .slice va c.ms.length vcap] 37)) W → W.cell? ⟨w3.heap.size, 0, none⟩ = some (.string c.bd) ∧ W.cell? ⟨w3.heap.size, 1, none⟩ = some (.slice va c.ms.length vcap) ∧ OwnM W wr.heap.size (.slice va c.ms.length vcap) c.ms ∧ Below wr.heap.size wr W) := fun W hW => by
                  have h1 := (hW.block w3.heap.size (by simp)).trans (heap_alloc_new w3 _)
                  exact ⟨(blk_cell h1 0 rfl).1, (blk_cell h1 1 rfl).1, (o3.below (bel_new _ _)).below hW, b3.trans (((bel_new w3 _).trans (hW.mono (by simp))).mono b3.size)⟩
                clear o3 b3
                go_upto_region 11 with fail
                generalize w3.alloc (.cells #[.string c.bd, .slice va c.ms.length vcap] 37) = wc at HXC ⊢
                obtain ⟨X2, hX2, W, QI0, QO0⟩ := Qc.klass wc
                have QI : Hid (∀ w', Below wc.heap.size wc w' → ∃ x, w' = W x) := QI0
                have QO : Hid (∀ x, Below wc.heap.size wc (W x)) := QO0
                have QR : Hid (∀ q, Below wr.heap.size wr (W q)) := fun q => (HXC.out _ (QO.out q)).2.2.2
                have QM : Hid (∀ q, OwnM (W q) wr.heap.size (.slice va c.ms.length vcap) c.ms) := fun q => (HXC.out _ (QO.out q)).2.2.1
                have QZ : Hid (∀ q, Below w2.heap.size w2 (W q)) := fun q => HZ.out.2.2.2.trans ((QR.out q).mono HZ.out.2.2.2.size)
                have QB : Hid (∀ q, Below w.heap.size w (W q)) := fun q => (HXB.out _ (QZ.out q)).2.1
                have QOC : Hid (∀ q, OwnC (W q) w2.heap.size (.slice oa ps.length ocap) ps) := fun q => HZ.out.2.2.1.below (QR.out q)
                clear QI0 QO0 c0
                have y1 := fun q => (HXB.out _ (QZ.out q)).1
                have k0 := fun q => (HXC.out _ (QO.out q)).1
                have k1 := fun q => (HXC.out _ (QO.out q)).2.1
                have HLC : Hid (∀ W, OwnM W wr.heap.size (.slice va c.ms.length vcap) c.ms → Calls Tryz.prog 35 #[.int .i64 n, .agg #[.string c.bd, .slice va c.ms.length vcap]] W fun e w' => e = .returned (.bool (crtB n c.bd c.ms)) ∧ Below W.heap.size W w') := fun W ho => l06Cert_any n c.bd _ c.ms W HFC.out ho.row HML.out
                cases ok1 with
                | false =>
                  have HF : Hid (cfB n x.vw x = false) := cf_no HOKL.out (rs_no hlt (fun hh => by have := (HONE.out.1 hh).1; rw [HOK.out] at this; cases this))
                  refine Qc.region_class (W := W) (by kernel_rfl) (by kernel_rfl) (QI.out _ Qc.from_drew) ?_
                  repeat (go_big_quiet_step (first | (go_at_call 35; refine (HLC.out _ (QM.out _)).mono ?_; rintro e w2 ⟨rfl, b2⟩; exact ⟨rfl, Qc.back QI.out QO.out b2⟩)))
                  refine wpQuiet_nil ?_
                  rintro _ ⟨xq, rfl⟩
                  have G2 : Hid (Below w.heap.size w (W xq)) := (QB.out xq)
                  clear y1 k0 k1 
                  generalize W xq = wq at G2 ⊢
                  go_wp2_with fail
                  go_ret2
                  exact ⟨_, ret_vb HF.out.symm, ⟨[], cfL_no HF.out, OwnC.made wq _ G2.out.size⟩, G2.out.alloc G2.out.size _⟩
                | true =>
                  rw [Bool.true_and] at HOK
                  cases ec : crtB n c.bd c.ms with
                  | false =>
                    rw [ec] at HLC HOK
                    clear ec
                    have HF : Hid (cfB n x.vw x = false) := cf_no HOKL.out (rs_no hlt (fun hh => by have := (HONE.out.1 hh).1; rw [HOK.out] at this; cases this))
                    refine Qc.region_class (W := W) (by kernel_rfl) (by kernel_rfl) (QI.out _ Qc.from_drew) ?_
                    repeat (go_big_quiet_step (first | (go_at_call 35; refine (HLC.out _ (QM.out _)).mono ?_; rintro e w2 ⟨rfl, b2⟩; exact ⟨rfl, Qc.back QI.out QO.out b2⟩)))
                    refine wpQuiet_nil ?_
                    rintro _ ⟨xq, rfl⟩
                    have G2 : Hid (Below w.heap.size w (W xq)) := (QB.out xq)
                    clear y1 k0 k1 
                    generalize W xq = wq at G2 ⊢
                    go_wp2_with fail
                    go_ret2
                    exact ⟨_, ret_vb HF.out.symm, ⟨[], cfL_no HF.out, OwnC.made wq _ G2.out.size⟩, G2.out.alloc G2.out.size _⟩
                  | true =>
                    have HH0 : Hid (c.ms[0]? = some (hd c) ∧ 1 ≤ (hd c).sq) := ⟨HHD.out ec, HH1.out ec⟩
                    rw [ec] at HLC HOK
                    clear ec
                    have hn0 : (0 : Int) < (c.ms.length : Int) := by have := lt_at HH0.out.1; omega
                    obtain ⟨b2, off2, rfl, _, _⟩ := RowG.at (OwnM.row (HXC.out wc (Below.refl _ _)).2.2.1) rfl HH0.out.1
                    have HE : Hid (∀ q, E1 (W q) b2 (off2 + 0 * 7) (hd c)) := fun q => by
                      obtain ⟨b', off', e, _, E⟩ := RowG.at (OwnM.row (QM.out q)) rfl HH0.out.1
                      cases e
                      exact E
                    have z1 : ∀ q, (W q).cell? ⟨b2, off2 + 1, none⟩ = some (.int .i64 (hd c).vw) := fun q => by have := (HE.out q).2.1; simpa using this
                    have z2 : ∀ q, (W q).cell? ⟨b2, off2 + 2, none⟩ = some (.int .i64 (hd c).sq) := fun q => by have := (HE.out q).2.2.1; simpa using this
                    by_cases e4 : x.vw ≤ (hd c).vw
                    · have f4 : decide (x.vw ≤ (hd c).vw) = true := decide_eq_true e4
                      have HF : Hid (cfB n x.vw x = false) := cf_no HOKL.out (rs_no hlt (fun hh => by have := (HONE.out.1 hh).2.2; omega))
                      refine Qc.region_class (W := W) (by kernel_rfl) (by kernel_rfl) (QI.out _ Qc.from_drew) ?_
                      repeat (go_big_quiet_step (first | (go_at_call 35; refine (HLC.out _ (QM.out _)).mono ?_; rintro e w2 ⟨rfl, b2⟩; exact ⟨rfl, Qc.back QI.out QO.out b2⟩)))
                      refine wpQuiet_nil ?_
                      rintro _ ⟨xq, rfl⟩
                      have G2 : Hid (Below w.heap.size w (W xq)) := (QB.out xq)
                      clear y1 k0 k1 z1 z2
                      generalize W xq = wq at G2 ⊢
                      go_wp2_with fail
                      go_ret2
                      exact ⟨_, ret_vb HF.out.symm, ⟨[], cfL_no HF.out, OwnC.made wq _ G2.out.size⟩, G2.out.alloc G2.out.size _⟩
                    · have f4 : decide (x.vw ≤ (hd c).vw) = false := decide_eq_false e4
                      have HAP : Hid (∀ q ∈ ps, ∀ g, q.2.ownBlock = some g → (Value.slice (some ⟨b2, off2, none⟩) c.ms.length vcap).ownBlock ≠ some g) := fun q hq g hg e => by
                        have h1 := ((HZ.out.2.2.1.mem q hq).lt g hg).2
                        have h2 := ((HXC.out wc (Below.refl _ _)).2.2.1.lt g e).1
                        omega
                      have HMM : Hid ((ps ++ [(c, Value.slice (some ⟨b2, off2, none⟩) c.ms.length vcap)]).map (·.1) = (ts.take (k + 1)).map ct) := by show _ = _; rw [List.map_append, HZ.out.2.1, HMT.out]; rfl
                      by_cases hk0 : k = 0
                      · have HG2 : Hid (GoodC n x.vw ts (k + 1)) := HZ.out.1.succ (HONE.out.2 ⟨HOK.out, by rw [HL0.out hk0]; have := HH0.out.2; omega, by omega⟩)
                        subst hk0
                        clear e4
                        refine Qc.region_class (W := W) (by kernel_rfl) (by kernel_rfl) (QI.out _ Qc.from_drew) ?_
                        repeat (go_big_quiet_step (first | (go_at_call 35; refine (HLC.out _ (QM.out _)).mono ?_; rintro e w2 ⟨rfl, b2⟩; exact ⟨rfl, Qc.back QI.out QO.out b2⟩)))
                        refine wpQuiet_nil ?_
                        rintro _ ⟨xq, rfl⟩
                        have G2 : Hid (Below wc.heap.size wc (W xq)) := QO.out xq
                        have K6 : Hid ((W xq).cell? ⟨w3.heap.size, 0, none⟩ = some (.string c.bd) ∧ (W xq).cell? ⟨w3.heap.size, 1, none⟩ = some (.slice (some ⟨b2, off2, none⟩) c.ms.length vcap)) := ⟨k0 xq, k1 xq⟩
                        have O6 : Hid (OwnC (W xq) w2.heap.size (.slice oa ps.length ocap) ps ∧ Below w2.heap.size w2 (W xq) ∧ OwnM (W xq) w2.heap.size (.slice (some ⟨b2, off2, none⟩) c.ms.length vcap) c.ms) := ⟨QOC.out xq, QZ.out xq, (QM.out xq).mono HZ.out.2.2.2.size⟩
                        clear y1 k0 k1 z1 z2
                        generalize W xq = w6 at G2 K6 O6 ⊢
                        obtain ⟨k0, k1⟩ := K6.out
                        go_wp2_with (at_builtin; go_must (refine list_cert (by rfl) _ _ 33 (by rfl) i0 Tryz.underlying33 hi0 hz0 hz1 hz2 w2.heap.size w2 w6 _ ps (c, .slice (some ⟨b2, off2, none⟩) c.ms.length vcap) (by rfl) (by rfl) O6.out.1 O6.out.2.2 HAP.out O6.out.2.1 O6.out.2.1.size _ (by rfl) (by rfl) HPL.out ?_; intro v7 w7 o7 b7 _))
                        exact ⟨⟨0 + 1, ps ++ [(c, .slice (some ⟨b2, off2, none⟩) c.ms.length vcap)], by omega, by go_num, ⟨HG2.out, HMM.out, o7, b7⟩⟩, by simp [intOf]; omega⟩
                      · obtain ⟨j, rfl⟩ : ∃ j, k = j + 1 := ⟨k - 1, by omega⟩
                        obtain ⟨p, hp, hpc⟩ := one_at HZ.out.2.1 hk (show j < j + 1 by omega)
                        have HLJ := HLS.out j rfl
                        have HP0 := (ok_hd (HZ.out.1 j (by omega)).1).1
                        rw [← hpc] at HLJ HP0
                        obtain ⟨go, rfl, _, _, _, _⟩ := HZ.out.2.2.1.at hp
                        obtain ⟨pa, pcap, hps⟩ := own_slice (HZ.out.2.2.1.mem p (mem_at hp))
                        have HPM : Hid (∀ q, OwnM (W q) w2.heap.size (.slice pa p.1.ms.length pcap) p.1.ms) := fun q => by have := (QOC.out q).mem p (mem_at hp); rw [hps] at this; exact this
                        obtain ⟨bp, offp, rfl, _, _⟩ := RowG.at (by have := (HZ.out.2.2.1.mem p (mem_at hp)).row; rw [hps] at this; exact this) rfl HP0
                        have z3 : ∀ q, (W q).cell? ⟨go, j * 2 + 1, none⟩ = some (.slice (some ⟨bp, offp, none⟩) p.1.ms.length pcap) := fun q => by
                          obtain ⟨g', e, _, _, _, E⟩ := (QOC.out q).at hp
                          cases e
                          rw [hps] at E
                          exact E
                        have z4 : ∀ q, (W q).cell? ⟨bp, offp + 2, none⟩ = some (.int .i64 (hd p.1).sq) := fun q => by
                          obtain ⟨b', off', e, _, E⟩ := RowG.at (OwnM.row (HPM.out q)) rfl HP0
                          cases e
                          have := E.2.2.1
                          simpa using this
                        have hn1 : (0 : Int) < (p.1.ms.length : Int) := by have := lt_at HP0; omega
                        have q1 : (0 : Int) < (j : Int) + 1 := by omega
                        have q2 : (j : Int) + 1 < (ts.length : Int) := by omega
                        have q3 : (j : Int) < (ps.length : Int) := by have := HPK.out; omega
                        have HLJ2 : Hid (lastS ts (j + 1) = (hd p.1).sq) := HLJ
                        clear HLJ HP0 hp hpc hps HPM
                        by_cases e5 : (hd c).sq ≤ (hd p.1).sq
                        · have f5 : decide ((hd c).sq ≤ (hd p.1).sq) = true := decide_eq_true e5
                          have HF : Hid (cfB n x.vw x = false) := cf_no HOKL.out (rs_no hlt (fun hh => by have := (HONE.out.1 hh).2.1; rw [HLJ2.out] at this; omega))
                          refine Qc.region_class (W := W) (by kernel_rfl) (by kernel_rfl) (QI.out _ Qc.from_drew) ?_
                          repeat (go_big_quiet_step (first | (go_at_call 35; refine (HLC.out _ (QM.out _)).mono ?_; rintro e w2 ⟨rfl, b2⟩; exact ⟨rfl, Qc.back QI.out QO.out b2⟩)))
                          refine wpQuiet_nil ?_
                          rintro _ ⟨xq, rfl⟩
                          have G2 : Hid (Below w.heap.size w (W xq)) := (QB.out xq)
                          clear y1 k0 k1 z1 z2 z3 z4
                          generalize W xq = wq at G2 ⊢
                          go_wp2_with fail
                          go_ret2
                          exact ⟨_, ret_vb HF.out.symm, ⟨[], cfL_no HF.out, OwnC.made wq _ G2.out.size⟩, G2.out.alloc G2.out.size _⟩
                        · have f5 : decide ((hd c).sq ≤ (hd p.1).sq) = false := decide_eq_false e5
                          have HG2 : Hid (GoodC n x.vw ts (j + 1 + 1)) := HZ.out.1.succ (HONE.out.2 ⟨HOK.out, by rw [HLJ2.out]; omega, by omega⟩)
                          clear e4 e5
                          refine Qc.region_class (W := W) (by kernel_rfl) (by kernel_rfl) (QI.out _ Qc.from_drew) ?_
                          repeat (go_big_quiet_step (first | (go_at_call 35; refine (HLC.out _ (QM.out _)).mono ?_; rintro e w2 ⟨rfl, b2⟩; exact ⟨rfl, Qc.back QI.out QO.out b2⟩)))
                          refine wpQuiet_nil ?_
                          rintro _ ⟨xq, rfl⟩
                          have G2 : Hid (Below wc.heap.size wc (W xq)) := QO.out xq
                          have K6 : Hid ((W xq).cell? ⟨w3.heap.size, 0, none⟩ = some (.string c.bd) ∧ (W xq).cell? ⟨w3.heap.size, 1, none⟩ = some (.slice (some ⟨b2, off2, none⟩) c.ms.length vcap)) := ⟨k0 xq, k1 xq⟩
                          have O6 : Hid (OwnC (W xq) w2.heap.size (.slice (some ⟨go, 0, none⟩) ps.length ocap) ps ∧ Below w2.heap.size w2 (W xq) ∧ OwnM (W xq) w2.heap.size (.slice (some ⟨b2, off2, none⟩) c.ms.length vcap) c.ms) := ⟨QOC.out xq, QZ.out xq, (QM.out xq).mono HZ.out.2.2.2.size⟩
                          clear y1 k0 k1 z1 z2 z3 z4
                          generalize W xq = w6 at G2 K6 O6 ⊢
                          obtain ⟨k0, k1⟩ := K6.out
                          go_wp2_with (at_builtin; go_must (refine list_cert (by rfl) _ _ 33 (by rfl) i0 Tryz.underlying33 hi0 hz0 hz1 hz2 w2.heap.size w2 w6 _ ps (c, .slice (some ⟨b2, off2, none⟩) c.ms.length vcap) (by rfl) (by rfl) O6.out.1 O6.out.2.2 HAP.out O6.out.2.1 O6.out.2.1.size _ (by rfl) (by rfl) HPL.out ?_; intro v7 w7 o7 b7 _))
                          exact ⟨⟨j + 1 + 1, ps ++ [(c, .slice (some ⟨b2, off2, none⟩) c.ms.length vcap)], by omega, by go_num, ⟨HG2.out, HMM.out, o7, b7⟩⟩, by simp [intOf]; omega⟩
              · obtain rfl : k = ts.length := by omega
                have HF : Hid (cfB n x.vw x = true) := HCF.out trivial (rs_yes HZ.out.1)
                have HL2 : Hid (ps.map (·.1) = cfL n x) := by show _ = _; rw [cfL_yes HF.out, HCR.out, HZ.out.2.1, List.take_length]
                have HO2 : Hid (OwnC wr w.heap.size (.slice oa ps.length ocap) ps) := ⟨row_mono HZ.out.2.2.1.row HSW.out, fun p hp => (HZ.out.2.2.1.mem p hp).mono HSW.out, HZ.out.2.2.1.apart⟩
                go_wp2_with fail
                go_ret2
                exact ⟨_, ret_vb HF.out.symm, ⟨ps, HL2.out, HO2.out⟩, (HXB.out _ HZ.out.2.2.2).2.1⟩
  · have f1 : (x.kd != 4) = true := by simp [e1]
    have HF : Hid (cfB n x.vw x = false) := bOf_false fun h => e1 h.2.1
    have HB : Hid (Below w.heap.size w (w.alloc (.cells #[.int .i64 x.kd, .int .i64 x.vw, .int .i64 x.sq, .int .i64 x.fr, .string x.dg, .string x.bd, .string x.mc] 26))) := bel_new _ _
    have OM : Hid (OwnC ((w.alloc (.cells #[.int .i64 x.kd, .int .i64 x.vw, .int .i64 x.sq, .int .i64 x.fr, .string x.dg, .string x.bd, .string x.mc] 26)).alloc (.cells #[] 37)) w.heap.size (.slice (some ⟨w.heap.size + 1, 0, none⟩) 0 0) []) := by
      have := OwnC.made (w.alloc (.cells #[.int .i64 x.kd, .int .i64 x.vw, .int .i64 x.sq, .int .i64 x.fr, .string x.dg, .string x.bd, .string x.mc] 26)) w.heap.size HB.out.size
      rw [Rg.size_new] at this
      exact this
    clear e1 HX
    go_enter Tryz.func36, Tryz.ntmps36
    go_wp2_with fail
    go_ret2
    exact ⟨_, ret_vb HF.out.symm, ⟨[], cfL_no HF.out, OM.out⟩, HB.out.alloc HB.out.size _⟩
end Go.Proofs.YtkfiahemgdppfaaGreatDoor.Wc
