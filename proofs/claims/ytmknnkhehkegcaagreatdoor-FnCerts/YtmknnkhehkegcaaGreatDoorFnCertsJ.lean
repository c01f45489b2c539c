/-
  A drawn certificate is right, its bytes are those of the document, what is read of them is the same, and with a prepare less it is not right.
  Conditions: none beyond the given row's own; the package variable that it reads starts as the program's text lays it (the card ties it).
-/
import Derived.Test.YtmknnkhehkegcaaGreatDoorM21
import Derived.Test.YtmknnkhehkegcaaGreatDoorM22
import Derived.WalkKit
namespace Go.Proofs.YtmknnkhehkegcaaGreatDoor.fnCerts
open Go.ChangeShapes Go.WideShapes Go.ChangeAt Go.RowKit
open Go.ChangeMaps (open_string shut_string)
open Go.Proofs.YtmknnkhehkegcaaGreatDoor.Hl (own laidOut rowed door_met)

open Go.Proofs.YtmknnkhehkegcaaGreatDoor.Sl Go.Proofs.YtmknnkhehkegcaaGreatDoor.By Go.Proofs.YtmknnkhehkegcaaGreatDoor.Ap Go.Proofs.YtmknnkhehkegcaaGreatDoor.Rq Go.Proofs.YtmknnkhehkegcaaGreatDoor.Rr Go.Proofs.YtmknnkhehkegcaaGreatDoor.Sh Go.Proofs.YtmknnkhehkegcaaGreatDoor.Gn Go.Proofs.YtmknnkhehkegcaaGreatDoor.La Go.Proofs.YtmknnkhehkegcaaGreatDoor.Ms Go.Proofs.YtmknnkhehkegcaaGreatDoor.Mp Go.Proofs.YtmknnkhehkegcaaGreatDoor.Si
open Go.Proofs.YtmknnkhehkegcaaGreatDoor.Rg (bel_new RowG.slice RowG.at)
open Go.Proofs.YtmknnkhehkegcaaGreatDoor.Gm (Mg Row)
open Go.Proofs.YtmknnkhehkegcaaGreatDoor.Rc (OwnM OwnM.row OwnM.below OwnM.mono rcCode rcBd rcMs)
open Go.Proofs.YtmknnkhehkegcaaGreatDoor.Cb (cOut cCode crtV)
open Go.Proofs.YtmknnkhehkegcaaGreatDoor.Vt (crtB)
open Go.Proofs.YtmknnkhehkegcaaGreatDoor.Bw (bdP)
open Go.Proofs.YtmknnkhehkegcaaGreatDoor.Bd (dig dOut dCode)
set_option maxRecDepth 100000 in
set_option maxHeartbeats 3200000 in
theorem walk (v0 : Value) (xs0 : List Int) {w : World} (r0 : RowB w v0 xs0) (v1 : Value) (xs1 : List Int) (r1 : RowB w v1 xs1) (hK : KTab w) (hp : 0 < w.heap.size) :
    Calls Tryz.prog 3 #[v0, v1] w fun e w' => e = .returned (.bool true) ∧ Below w.heap.size w w' := by
  have GK : Hid (KTab w ∧ 0 < w.heap.size) := ⟨hK, hp⟩
  have HR : Hid (RowB w v0 xs0 ∧ RowB w v1 xs1) := ⟨r0, r1⟩
  obtain ⟨a0, cA, rfl, _, _⟩ := r0
  obtain ⟨a1, cB, rfl, _, _⟩ := r1
  clear hK hp
  by_cases hb0 : (1048576 : Int) < (xs0.length : Int)
  · go_enter Tryz.func3, Tryz.ntmps3
    go_wp2
    go_ret
    exact ⟨rfl, Below.refl _ _⟩
  by_cases hb1 : (1048576 : Int) < (xs1.length : Int)
  · go_enter Tryz.func3, Tryz.ntmps3
    go_wp2
    go_ret
    exact ⟨rfl, Below.refl _ _⟩
  have HL : Hid (∀ _ : Unit, xs0.length ≤ 1048576 ∧ xs1.length ≤ 1048576) := fun _ => ⟨by omega, by omega⟩
  go_enter Tryz.func3, Tryz.ntmps3
  go_wp2_with fail
  have B0 : Below w.heap.size w (w.alloc (.cells #[.int .i64 1, .int .i64 4, .int .i64 7] 3)) := bel_new _ _
  refine (atN_any _ xs1 0 3 _ (HR.out.2.below B0) (HL.out ()).2 (by decide) (by decide) (by decide)).mono ?_
  rintro e w1 ⟨rfl, b1⟩
  have hf := atN_lt xs1 0 3 (by decide)
  generalize atN xs1 0 3 = f at hf ⊢
  have W1 : Below w.heap.size w w1 := B0.trans (b1.mono (by simp))
  have N1 : w1.heap[w.heap.size]? = some (.cells #[.int .i64 1, .int .i64 4, .int .i64 7] 3 (0, 0)) := (b1.block _ (by simp)).trans (heap_alloc_new _ _)
  obtain ⟨n, HN⟩ : ∃ n : Nat, Hid (3 * f + 1 = n) := ⟨_, rfl⟩
  have cN : w1.cell? ⟨w.heap.size, f, none⟩ = some (.int .i64 (n : Int)) := by
    refine (blk_cell N1 f ?_).1
    rw [← HN.out]
    match f, hf with
    | 0, _ => rfl
    | 1, _ => rfl
    | 2, _ => rfl
  have hf0 : (0 : Int) ≤ (f : Int) := by omega
  have hf3 : (f : Int) < 3 := by omega
  clear b1 B0 N1
  go_wp2_with fail
  refine (atN_any _ xs1 1 5 _ (HR.out.2.below W1) (HL.out ()).2 (by decide) (by decide) (by decide)).mono ?_
  rintro e w2 ⟨rfl, b2⟩
  have hv5 := atN_lt xs1 1 5 (by decide)
  generalize atN xs1 1 5 = vw at hv5 ⊢
  have W2 : Below w.heap.size w w2 := W1.trans (b2.mono W1.size)
  clear b2 cN hf0 hf3
  go_wp2_with fail
  refine (atN_any _ xs1 2 8 _ (HR.out.2.below W2) (HL.out ()).2 (by decide) (by decide) (by decide)).mono ?_
  rintro e w3 ⟨rfl, b3⟩
  have hs8 := atN_lt xs1 2 8 (by decide)
  generalize atN xs1 2 8 = sq at hs8 ⊢
  have W3 : Below w.heap.size w w3 := W2.trans (b3.mono W2.size)
  clear b3 W1 W2
  go_wp2_with fail
  refine (Dc.CertOf_any n f (vw : Int) (1 + (sq : Int)) _ xs0 w3 (HR.out.1.below W3) (HL.out ()).1 HN.out.symm (by omega) ⟨by omega, by omega⟩ ⟨by omega, by omega⟩).mono ?_
  rintro e w4 ⟨bd, u, ms, rfl, o4, hbd, hl, hvs, b4⟩
  have W4 : Below w.heap.size w w4 := W3.trans (b4.mono W3.size)
  obtain ⟨g1, g2, g3, g4, g5, g6, g7, g8, g9, g10, g11⟩ := Dc.good_cert HN.out.symm (by omega) ⟨by omega, by omega⟩ ⟨by omega, by omega⟩ hbd hl hvs
  have r4 := OwnM.row o4
  obtain ⟨ua, ucap, rfl⟩ := RowG.slice r4
  have HSZ : Hid (bd.size ≤ 20000) := Dc.body_size hbd
  have HBD : Hid (bdP n bd = true) := hbd
  have HCR : Hid (crtB n bd ms = true) := g1
  have HLS : Hid (crtB n bd (ms.take (2 * f)) = false) := g11
  have HFC : Hid (Tm.fCode (n : Int) = 0) := (Dc.n_of HN.out.symm (by omega)).1
  have HDG : Hid (∀ x ∈ ms, x.dg = dig bd) := g10
  have HML : Hid (ms.length = 2 * f + 1) := hl
  have HCB : Hid (∀ W, Row W (.slice ua ms.length ucap) ms → Calls Tryz.prog 6 #[.agg #[.string bd, .slice ua ms.length ucap]] W fun e w' => ∃ v, e = .returned (.tuple #[v, .int .i64 0]) ∧ RowB w' v (cOut bd ms) ∧ Below W.heap.size W w') := fun W hW => by
    have h := Cb.implCertBytes_any bd _ ms W hW (by omega) (by have := HSZ.out; omega)
    rw [g2] at h
    exact h.mono fun e w' ⟨v, he, ho, hb⟩ => ⟨v, he, own_rowB ho g7, hb⟩
  have HSB : Hid (∀ W, Row W (.slice ua ms.length ucap) ms → Calls Tryz.prog 7 #[.agg #[.string bd, .slice ua ms.length ucap]] W fun e w' => ∃ v, e = .returned (.tuple #[v, .int .i64 0]) ∧ RowB w' v (cOut bd ms) ∧ Below W.heap.size W w') := fun W hW => by
    have h := Cb.specCertBytes_any bd _ ms W hW (by omega) (by have := HSZ.out; omega)
    rw [g2] at h
    exact h.mono fun e w' ⟨v, he, ho, hb⟩ => ⟨v, he, own_rowB ho g7, hb⟩
  have HRC : Hid (∀ W v, RowB W v (cOut bd ms) → Calls Tryz.prog 8 #[v] W fun e w' => ∃ vp, e = .returned (.tuple #[.agg #[.string bd, vp], .int .i64 0]) ∧ OwnM w' W.heap.size vp ms ∧ Below W.heap.size W w') := fun W v hW => by
    have h := Rc.implReadCert_any v _ W hW (by omega)
    rw [g3, g4, g5] at h
    exact h
  have HBG : Hid (∀ W, Below w.heap.size w W → Calls Tryz.prog 9 #[.string bd] W fun e w' => e = .returned (.tuple #[.string (dig bd), .int .i64 0]) ∧ Below W.heap.size W w') := fun W hW => by
    have h := Bd.implBodyDigest_any bd W (GK.out.1.below hW GK.out.2) (Nat.lt_of_lt_of_le GK.out.2 hW.size)
    rw [g8, g9] at h
    exact h
  have HCK : Hid (∀ W v xs b, Below w.heap.size w W → Row W v xs → xs.length ≤ 1048576 → crtB n bd xs = b → Calls Tryz.prog 10 #[.int .i64 n, .agg #[.string bd, v]] W fun e w' => e = .returned (.bool b) ∧ Below W.heap.size W w') := fun W v xs b hW hr hx he => by
    have h := Vt.implCertOK_any n bd v xs W hr hx (by have := HSZ.out; omega) (GK.out.1.below hW GK.out.2) (Nat.lt_of_lt_of_le GK.out.2 hW.size)
    rw [he] at h
    exact h
  have HBK : Hid (∀ W, Below w.heap.size w W → Calls Tryz.prog 11 #[.int .i64 n, .string bd] W fun e w' => e = .returned (.bool true) ∧ Below W.heap.size W w') := fun W hW => by
    have h := Bw.implBodyOK_any n bd W HFC.out (by have := HSZ.out; omega) (GK.out.1.below hW GK.out.2) (Nat.lt_of_lt_of_le GK.out.2 hW.size)
    rw [HBD.out] at h
    exact h
  generalize cOut bd ms = bs at HCB HSB HRC
  generalize dig bd = D at HDG HBG
  clear g1 g2 g3 g4 g5 g6 g7 g8 g9 g10 g11 hbd hl hvs o4 b4 W3
  have W5 : Below w.heap.size w (w4.alloc (.cells #[.string bd, .slice ua ms.length ucap] 27)) := W4.alloc W4.size _
  have R5 : Hid (Row (w4.alloc (.cells #[.string bd, .slice ua ms.length ucap] 27)) (.slice ua ms.length ucap) ms) := r4.below (bel_new _ _)
  have C5 : Hid ((w4.alloc (.cells #[.string bd, .slice ua ms.length ucap] 27)).heap[w4.heap.size]? = some (.cells #[.string bd, .slice ua ms.length ucap] 27 (0, 0))) := blk_new _ _ _
  go_upto_region 5 with fail
  generalize w4.alloc (.cells #[.string bd, .slice ua ms.length ucap] 27) = w5 at W5 R5 C5 ⊢
  generalize w4.heap.size = x at C5 ⊢
  clear W4 r4
  have c0 := (blk_cell C5.out 0 (x := .string bd) rfl).1
  have c1 := (blk_cell C5.out 1 (x := .slice ua ms.length ucap) rfl).1
  go_wp2_with fail
  refine (HCB.out _ R5.out).mono ?_
  rintro e w6 ⟨v6, rfl, r6, b6⟩
  have W6 := W5.trans (b6.mono W5.size)
  have R6 : Hid (Row w6 (.slice ua ms.length ucap) ms) := R5.out.below b6
  have C6 : Hid (w6.heap[x]? = some (.cells #[.string bd, .slice ua ms.length ucap] 27 (0, 0))) := (b6.block _ (Array.getElem?_eq_some_iff.1 C5.out).1).trans C5.out
  have V6 : Hid (RowB w6 v6 bs) := r6
  obtain ⟨v6a, v6c, rfl, _, _⟩ := r6
  clear b6 W5 R5 C5 c0 c1 HCB
  have c0 := (blk_cell C6.out 0 (x := .string bd) rfl).1
  have c1 := (blk_cell C6.out 1 (x := .slice ua ms.length ucap) rfl).1
  go_wp2_with fail
  refine (HSB.out _ R6.out).mono ?_
  rintro e w7 ⟨v7, rfl, r7, b7⟩
  have W7 := W6.trans (b7.mono W6.size)
  have R7 : Hid (Row w7 (.slice ua ms.length ucap) ms) := R6.out.below b7
  have C7 : Hid (w7.heap[x]? = some (.cells #[.string bd, .slice ua ms.length ucap] 27 (0, 0))) := (b7.block _ (Array.getElem?_eq_some_iff.1 C6.out).1).trans C6.out
  have V7 : Hid (RowB w7 (.slice v6a bs.length v6c) bs) := V6.out.below b7
  have U7 : Hid (RowB w7 v7 bs) := r7
  obtain ⟨v7a, v7c, rfl, _, _⟩ := r7
  clear b7 W6 R6 C6 V6 c0 c1 HSB
  go_wp2_with fail
  refine (HRC.out _ _ V7.out).mono ?_
  rintro e w8 ⟨vp, rfl, o8, b8⟩
  have W8 := W7.trans (b8.mono W7.size)
  have p8 := OwnM.row o8
  obtain ⟨pa, pcap, rfl⟩ := RowG.slice p8
  have L8 := (Array.getElem?_eq_some_iff.1 C7.out).1
  have L9 : x < w8.heap.size := Nat.lt_of_lt_of_le L8 b8.size
  have b9 : Below w7.heap.size w7 (w8.alloc (.cells #[.string bd, .slice pa ms.length pcap] 27)) := b8.alloc b8.size _
  have W9 : Below w.heap.size w (w8.alloc (.cells #[.string bd, .slice pa ms.length pcap] 27)) := W8.alloc W8.size _
  have R9 : Hid (Row (w8.alloc (.cells #[.string bd, .slice pa ms.length pcap] 27)) (.slice ua ms.length ucap) ms) := R7.out.below b9
  have P9 : Hid (Row (w8.alloc (.cells #[.string bd, .slice pa ms.length pcap] 27)) (.slice pa ms.length pcap) ms) := p8.below (bel_new _ _)
  have C9 : Hid ((w8.alloc (.cells #[.string bd, .slice pa ms.length pcap] 27)).heap[x]? = some (.cells #[.string bd, .slice ua ms.length ucap] 27 (0, 0))) := (b9.block _ L8).trans C7.out
  have D9 : Hid ((w8.alloc (.cells #[.string bd, .slice pa ms.length pcap] 27)).heap[w8.heap.size]? = some (.cells #[.string bd, .slice pa ms.length pcap] 27 (0, 0))) := blk_new _ _ _
  have V9 : Hid (RowB (w8.alloc (.cells #[.string bd, .slice pa ms.length pcap] 27)) (.slice v6a bs.length v6c) bs) := V7.out.below b9
  have U9 : Hid (RowB (w8.alloc (.cells #[.string bd, .slice pa ms.length pcap] 27)) (.slice v7a bs.length v7c) bs) := U7.out.below b9
  go_upto_region 8 with fail
  generalize w8.alloc (.cells #[.string bd, .slice pa ms.length pcap] 27) = w9 at W9 R9 P9 C9 D9 V9 U9 ⊢
  generalize w8.heap.size = y at D9 ⊢
  clear b8 b9 W7 R7 C7 V7 U7 W8 p8 o8 L8 HRC L9
  have c0 := (blk_cell C9.out 0 (x := .string bd) rfl).1
  go_wp2_with fail
  refine (HBG.out _ W9).mono ?_
  rintro e wa ⟨rfl, ba⟩
  have WA := W9.trans (ba.mono W9.size)
  have RA : Hid (Row wa (.slice ua ms.length ucap) ms) := R9.out.below ba
  have PA : Hid (Row wa (.slice pa ms.length pcap) ms) := P9.out.below ba
  have CA : Hid (wa.heap[x]? = some (.cells #[.string bd, .slice ua ms.length ucap] 27 (0, 0))) := (ba.block _ (Array.getElem?_eq_some_iff.1 C9.out).1).trans C9.out
  have DA : Hid (wa.heap[y]? = some (.cells #[.string bd, .slice pa ms.length pcap] 27 (0, 0))) := (ba.block _ (Array.getElem?_eq_some_iff.1 D9.out).1).trans D9.out
  have VA : Hid (RowB wa (.slice v6a bs.length v6c) bs) := V9.out.below ba
  have UA : Hid (RowB wa (.slice v7a bs.length v7c) bs) := U9.out.below ba
  clear ba W9 R9 P9 C9 D9 V9 U9 c0 HBG
  have c0 := (blk_cell CA.out 0 (x := .string bd) rfl).1
  have c1 := (blk_cell CA.out 1 (x := .slice ua ms.length ucap) rfl).1
  go_wp2_with fail
  refine (HCK.out _ _ ms true WA RA.out (by have := HML.out; omega) HCR.out).mono ?_
  rintro e wb ⟨rfl, bb⟩
  have WB := WA.trans (bb.mono WA.size)
  have CB : Hid (wb.heap[x]? = some (.cells #[.string bd, .slice ua ms.length ucap] 27 (0, 0))) := (bb.block _ (Array.getElem?_eq_some_iff.1 CA.out).1).trans CA.out
  clear c0 c1
  have c0 := (blk_cell CB.out 0 (x := .string bd) rfl).1
  go_wp2_with fail
  refine (HBK.out _ WB).mono ?_
  rintro e wc ⟨rfl, bc⟩
  have WC := WB.trans (bc.mono WB.size)
  have bac := bb.trans (bc.mono bb.size)
  have RC : Hid (Row wc (.slice ua ms.length ucap) ms) := RA.out.below bac
  have PC : Hid (Row wc (.slice pa ms.length pcap) ms) := PA.out.below bac
  have CC : Hid (wc.heap[x]? = some (.cells #[.string bd, .slice ua ms.length ucap] 27 (0, 0))) := (bac.block _ (Array.getElem?_eq_some_iff.1 CA.out).1).trans CA.out
  have DC : Hid (wc.heap[y]? = some (.cells #[.string bd, .slice pa ms.length pcap] 27 (0, 0))) := (bac.block _ (Array.getElem?_eq_some_iff.1 DA.out).1).trans DA.out
  have q6 := run_convert_row (P := Tryz.prog) wc wc.heap.size 22 5 9 Tryz.underlying22 Tryz.underlying5 Tryz.underlying9 _ bs (RowU.of (VA.out.below bac))
  have q7 := run_convert_row (P := Tryz.prog) wc wc.heap.size 22 5 9 Tryz.underlying22 Tryz.underlying5 Tryz.underlying9 _ bs (RowU.of (UA.out.below bac))
  generalize strOfNums bs = sb at q6 q7
  have qs : (sb.toList != sb.toList) = false := by simp
  have qt : (sb.toList == sb.toList) = true := by simp
  have qb : (bd.toList != bd.toList) = false := by simp
  have qc : (bd.toList == bd.toList) = true := by simp
  clear bb bc bac WA RA PA CA DA VA UA WB CB c0 HBK
  have c0 := (blk_cell CC.out 0 (x := .string bd) rfl).1
  have c1 := (blk_cell CC.out 1 (x := .slice ua ms.length ucap) rfl).1
  have d0 := (blk_cell DC.out 0 (x := .string bd) rfl).1
  have d1 := (blk_cell DC.out 1 (x := .slice pa ms.length pcap) rfl).1
  go_wp2_with fail
  refine (Dc.sameMessages_any _ _ ms _ PC.out RC.out (by have := HML.out; omega)).mono ?_
  rintro e wd ⟨rfl, bD⟩
  have WD := WC.trans (bD.mono WC.size)
  have RD : Hid (Row wd (.slice ua ms.length ucap) ms) := RC.out.below bD
  have CD : Hid (wd.heap[x]? = some (.cells #[.string bd, .slice ua ms.length ucap] 27 (0, 0))) := (bD.block _ (Array.getElem?_eq_some_iff.1 CC.out).1).trans CC.out
  clear bD WC RC PC CC DC q6 q7 qs qt qb qc c0 c1 d0 d1
  have HWD : Hid (Below w.heap.size w wd) := WD
  clear WD
  go_wp2_with fail
  have c0 := (blk_cell CD.out 0 (x := .string bd) rfl).1
  have c1 := (blk_cell CD.out 1 (x := .slice ua ms.length ucap) rfl).1
  go_loopw [15] (fun i wr => ∃ k : Nat, k ≤ ms.length ∧ i = .int .i64 k ∧ wr = wd) (fun i _ => ms.length - (intOf i).toNat)
  case atStart => exact ⟨0, by omega, rfl, rfl⟩
  case round =>
    obtain ⟨k, hk, rfl, rfl⟩ := hrel
    by_cases hlt : k < ms.length
    · obtain ⟨m, hm⟩ := Rg.get_at (xs := ms) hlt
      obtain ⟨b, off, rfl, hb, m0, m1, m2, m3, m4, m5, m6⟩ := RowG.at RD.out rfl hm
      have hdg := HDG.out m (Rg.mem_at hm)
      rw [hdg] at m4
      have hp0 : (0 : Int) ≤ (k : Int) := by omega
      have hp1 : (k : Int) < (ms.length : Int) := by omega
      have qs : (D.toList != D.toList) = false := by simp
      have qt : (D.toList == D.toList) = true := by simp
      have hml : ms.length ≤ 5 := by have := HML.out; omega
      clear hm hdg
      go_wp2_with fail
      exact ⟨⟨k + 1, by omega, by go_num, by first | trivial | rfl⟩, by simp [intOf]; omega⟩
    · have hml := HML.out
      have hcp := Dc.row_cap RD.out (by omega)
      have hl0 : ((ms.length : Int) - 1) = ((2 * f : Nat) : Int) := by omega
      have hl1 : (0 : Int) ≤ (ms.length : Int) - 1 := by omega
      have hl2 : (ms.length : Int) - 1 ≤ (ucap : Int) := by omega
      have hl3 : ((ms.length : Int) - 1).toNat = 2 * f := by omega
      have hxl := (Array.getElem?_eq_some_iff.1 CD.out).1
      have cd0 : wr.drew.cell? ⟨x, 0, none⟩ = some (.string bd) := c0
      have cd1 : wr.drew.cell? ⟨x, 1, none⟩ = some (.slice ua ms.length ucap) := c1
      have ca0 : ∀ o, (wr.alloc o).cell? ⟨x, 0, none⟩ = some (.string bd) := fun o => ((bel_new wr o).cell (p := ⟨x, 0, none⟩) hxl).trans c0
      have ca1 : ∀ o, (wr.alloc o).cell? ⟨x, 1, none⟩ = some (.slice ua ms.length ucap) := fun o => ((bel_new wr o).cell (p := ⟨x, 1, none⟩) hxl).trans c1
      go_upto_region 16 with fail
      go_region
      all_goals
        have WZ : Below w.heap.size w (wr.alloc (.cells #[.string bd, .slice ua (2 * f) ucap] 27)).drew := (HWD.out.alloc HWD.out.size _).drew
        have RZ : Hid (Row (wr.alloc (.cells #[.string bd, .slice ua (2 * f) ucap] 27)).drew (.slice ua (2 * f) ucap) (ms.take (2 * f))) := Dc.row_take (RD.out.below (bel_new wr _).drew) (by omega)
        go_wp2_with fail
        refine (HCK.out _ _ (ms.take (2 * f)) false WZ RZ.out (by rw [List.length_take]; omega) HLS.out).mono ?_
        rintro e wz ⟨rfl, bz⟩
        have WF := WZ.trans (bz.mono WZ.size)
        clear bz WZ RZ
        go_wp2_with fail
        go_ret
        exact ⟨rfl, WF⟩

set_option maxRecDepth 100000 in
theorem lifted (os : Os) (started : os.Started) (H : Type) (enc : TypeId × Value → H) :
    ReturnsInHanded {} Tryz.checked os 3 .any (fun w args => (Rows.fnCertsSpec.pre enc Tryz.prog Tryz.f3 [] false w args ∧ laidMetH Tryz.prog Rows.fnCertsRow.laid w) ∧ sizedMet enc Tryz.prog Tryz.f3 (OpenSpec.ofChange Rows.fnCertsSpec) false w args)
      (Rows.fnCertsSpec.post enc Tryz.prog Tryz.f3 false true false false) := by
  refine returnsInHanded_of_change_and (C := Tryz.checked) (X := fun w _ => laidMetH Tryz.prog Rows.fnCertsRow.laid w) (fun _ _ _ hh h => h.of_heap hh) own started (by kernel_rfl) Tryz.func3
    (ChangeSpec.witness_shaped (enc := enc) (C := Tryz.checked) (os := os) (X := fun w _ => laidMetH Tryz.prog Rows.fnCertsRow.laid w) false (World.doorLaid Tryz.prog 400 os) #[.slice none 0 0, .slice none 0 0] 8 rfl (World.shaped_of_RefB (by kernel_rfl) (by kernel_rfl)) (by kernel_rfl) (by kernel_rfl) (by kernel_rfl) (door_met os _)) ?_
  intro W base args ds gs before hval0 hW _ _ hL _
  have hval : ∀ (j : Nat) t v, Tryz.f3.params[j]? = some t → args[j]? = some v → Value.okWide Tryz.prog W .any base t v := hval0
  have hW' := hW
  obtain ⟨p, q, hA0, hV0, rfl, hfz, hnd⟩ := hW
  have hA : DataW.TrodAll enc Tryz.prog W 0 (fun _ => true) true Tryz.f3.params.toList args.toList ds p := hA0
  have hV : DataW.TrodVars enc Tryz.prog W (fun _ => true) ["loop.example/g00292/impl.roundWords"] gs q := hV0
  rw [Tryz.params3] at hA hval
  obtain ⟨v0, vs0, d0, ds0, p0, q0, hargs, rfl, rfl, h0, r0⟩ := trodAll_cons hA
  obtain ⟨v1, vs1, d1, ds1, p1, q1, rfl, rfl, rfl, h1, r1⟩ := trodAll_cons r0
  obtain ⟨rfl, rfl, rfl⟩ := trodAll_nil r1
  obtain rfl : args = #[v0, v1] := by cases args; simp_all
  obtain ⟨_, _, _, _, dv, _, rfl, _⟩ := trodVars_one hV
  have k00 := h0
  have lt0 : ∀ x ∈ p0, x.block < W.heap.size := by obtain ⟨m, hm⟩ := k00; exact DataW.trod_lt m _ _ _ hm
  obtain ⟨xs0, w0⟩ := Op.open_bytes (hval 0 22 v0 rfl rfl) h0 (fun _ => rfl)
  have k10 := h1
  have lt1 : ∀ x ∈ p1, x.block < W.heap.size := by obtain ⟨m, hm⟩ := k10; exact DataW.trod_lt m _ _ _ hm
  obtain ⟨xs1, w1⟩ := Op.open_bytes (hval 1 22 v1 rfl rfl) h1 (fun _ => rfl)
  clear hA0 hval0 hV0
  have hT := Hl.tab_of hL
  refine (walk v0 xs0 w0 v1 xs1 w1 hT.1 hT.2).mono fun e W' ⟨he, bel⟩ => ?_
  subst he
  exact ⟨_, rfl, _, _, _, [], _, q, hW', trodAll_mk1 (shut_bool Tryz.underlying4 _), (trodAll_cons_mk (Below.trod laidOut (by kernel_rfl) (of_decide_eq_true (by kernel_rfl)) k00 bel lt0) (trodAll_cons_mk (Below.trod laidOut (by kernel_rfl) (of_decide_eq_true (by kernel_rfl)) k10 bel lt1) trodAll_mk0)), Below.trodVars laidOut bel rowed hV, bel.frame _, fun h => by cases h⟩

theorem said : Rows.FnCertsSaid :=
  OpenClaim.holds_of_wide 3 Tryz.f3 rfl rfl rfl rfl rfl rfl rfl ⟨rfl, rfl, rfl, rfl, rfl⟩ rfl rfl rfl rfl rfl (by kernel_rfl) Tryz.func3 (by kernel_rfl)
    (of_decide_eq_true (by kernel_rfl)) (by unfold Func.isWrapper; first | (rw [if_pos (by decide +kernel)]; kernel_rfl) | (rw [if_neg (by decide +kernel)]; exact ⟨rfl, rfl⟩))
    (fun os started H enc _ => lifted os started H enc)

/-- No parameter wants a stand-in; the program's own looks are off. -/
theorem plain (f : FuncId) (fn : Func) (hf : Tryz.pinned.checked.prog.funcNamed "loop.example/g00292/laws.FnCerts" = some f) (hfn : Tryz.pinned.checked.prog.funcs[f]? = some fn) :
    true = Tryz.pinned.checked.prog.looks [] ∧ ∀ (j : Nat) t, fn.params[j]? = some t → Tryz.pinned.checked.prog.wantsStandIn t = false := by
  obtain rfl : f = 3 := Option.some.inj ((show Tryz.prog.funcNamed "loop.example/g00292/laws.FnCerts" = some 3 by kernel_rfl).symm.trans hf) |>.symm
  obtain rfl : fn = Tryz.f3 := (Option.some.inj (Tryz.func3.symm.trans hfn)).symm
  refine ⟨by kernel_rfl, fun j t ht => ?_⟩
  rw [Tryz.params3] at ht
  have hm := Array.mem_of_getElem? ht
  have hl : t ∈ [22, 22] := by simpa using hm
  have hall : ∀ x ∈ [22, 22], Tryz.prog.wantsStandIn x = false := by
    intro x hx
    simp only [List.mem_cons, List.not_mem_nil, or_false] at hx
    rcases hx with rfl | rfl <;> kernel_rfl
  exact hall t hl
end Go.Proofs.YtmknnkhehkegcaaGreatDoor.fnCerts
namespace Go.Proofs.YtmknnkhehkegcaaGreatDoor
/-- THE STATEMENT: the card. -/
theorem fnCerts_holds : Rows.FnCertsCardSaid :=
  Claim7.holds_tied_plain_at .later [] _ _ _ _ fnCerts.said (fun _ h => by cases h) (by kernel_rfl) (fun _ h => by cases h) fnCerts_row_tie rfl ⟨rfl, rfl⟩ (by kernel_rfl) rfl fnCerts.plain (by kernel_rfl)
end Go.Proofs.YtmknnkhehkegcaaGreatDoor
