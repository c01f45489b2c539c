/- Texts put together: Yj. -/
import Derived.Test.YtondmbeccpekiaaGreatDoorH39
/- Right replicas: certificates at their places, view changes: the program. -/
namespace Go.Proofs.YtondmbeccpekiaaGreatDoor.Yr
open Go.RowKit Go.Proofs.YtondmbeccpekiaaGreatDoor.Rg Go.Proofs.YtondmbeccpekiaaGreatDoor.Gm Go.Proofs.YtondmbeccpekiaaGreatDoor.Ty Go.Proofs.YtondmbeccpekiaaGreatDoor.Tm Go.Proofs.YtondmbeccpekiaaGreatDoor.Sh
open Go.Proofs.YtondmbeccpekiaaGreatDoor.Vt (bOf bOf_true bOf_false bOf_iff bOf_eq sg sg_from frn msk msk_step or_add pow_le7 Rise crtB CertP crt_q q_pos allBelow_any with_any implCertOK_any ballotOf_any l06Cert_any)
open Go.Proofs.YtondmbeccpekiaaGreatDoor.Bw (bdP bdB implBodyOK_any l06Body_any)
open Go.Proofs.YtondmbeccpekiaaGreatDoor.Bd (dOut)
open Go.Proofs.YtondmbeccpekiaaGreatDoor.Wc (cfB vcC vcL cfL implViewCerts_any l06Certs_any OwnC)
open Go.Proofs.YtondmbeccpekiaaGreatDoor.Qm (qOut inB)

set_option maxRecDepth 100000 in
set_option maxHeartbeats 1600000 in
theorem noCert_any (bd : ByteArray) (a : Option Addr) (l c : Nat) (w : World) : Calls Tryz.prog 86 #[.agg #[.string bd, .slice a l c]] w fun e w' => e = .returned (.bool (decide (bd.size = 0) && decide (l = 0))) ∧ Below w.heap.size w w' := by
  have HB : Hid (∀ o, Below w.heap.size w (w.alloc o)) := fun o => bel_new w o
  by_cases h0 : bd.size = 0
  · have e0 : (bd.toList == []) = true := by rw [empty_of h0, nil_list]; rfl
    have HE : Hid ((decide (bd.size = 0) && decide (l = 0)) = ((l : Int) == 0)) := by
      show _ = _
      rw [decide_eq_true h0]
      by_cases hl : l = 0
      · subst hl; rfl
      · rw [decide_eq_false hl]; simp; omega
    rw [HE.out]
    clear h0 HE
    go_enter Tryz.func86, Tryz.ntmps86
    go_wp2_with fail
    go_ret
    exact ⟨rfl, HB.out _⟩
  · have e0 : (bd.toList == []) = false := ne_list h0
    have HE : Hid ((decide (bd.size = 0) && decide (l = 0)) = false) := by show _ = _; rw [decide_eq_false h0]; rfl
    rw [HE.out]
    clear h0 HE
    go_enter Tryz.func86, Tryz.ntmps86
    go_wp2_with fail
    go_ret
    exact ⟨rfl, HB.out _⟩
set_option maxRecDepth 100000 in
set_option maxHeartbeats 1600000 in
theorem placedCertsOK_any (r : Rp) (vs vc vl vh : Value) (w : World) (h : RepR w r vs vc vl vh) (hl : r.cs.length ≤ 1048576) (hz : ∀ x ∈ r.cs, CZ 1048576 x) (hK : KTab w) (hp : 0 < w.heap.size) :
    Calls Tryz.prog 107 #[.agg #[.int .i64 r.id, .int .i64 r.n, .int .i64 r.vw, .bool r.ac, vs, vc, vl, vh]] w fun e w' => e = .returned (.bool (plB r.n r.vw r.cs)) ∧ Below w.heap.size w w' := by
  have HR : Hid (RowC w vc r.cs) := h.c
  have HZ0 : Hid (∀ x ∈ r.cs, CZ 1048576 x) := hz
  obtain ⟨a, cap, rfl⟩ := RowG.slice h.c
  obtain ⟨al, kl, rfl, _⟩ := h.l
  obtain ⟨av, kv, rfl⟩ := RowG.slice h.s
  obtain ⟨ah, kh, rfl⟩ := RowG.slice h.h
  have GK : Hid (∀ W, Below w.heap.size w W → KTab W ∧ 0 < W.heap.size) := fun W hW => ⟨hK.below hW hp, Nat.lt_of_lt_of_le hp hW.size⟩
  have HP : Hid (∀ W, Below (w.alloc (.cells #[.int .i64 r.id, .int .i64 r.n, .int .i64 r.vw, .bool r.ac, .slice av r.ss.length kv, .slice a r.cs.length cap, .slice al r.lg.length kl, .slice ah r.ch.length kh] 55)).heap.size (w.alloc (.cells #[.int .i64 r.id, .int .i64 r.n, .int .i64 r.vw, .bool r.ac, .slice av r.ss.length kv, .slice a r.cs.length cap, .slice al r.lg.length kl, .slice ah r.ch.length kh] 55)) W → (W.cell? ⟨w.heap.size, 0, none⟩ = some (.int .i64 r.id) ∧ W.cell? ⟨w.heap.size, 1, none⟩ = some (.int .i64 r.n) ∧ W.cell? ⟨w.heap.size, 2, none⟩ = some (.int .i64 r.vw) ∧ W.cell? ⟨w.heap.size, 3, none⟩ = some (.bool r.ac) ∧ W.cell? ⟨w.heap.size, 4, none⟩ = some (.slice av r.ss.length kv) ∧ W.cell? ⟨w.heap.size, 5, none⟩ = some (.slice a r.cs.length cap) ∧ W.cell? ⟨w.heap.size, 6, none⟩ = some (.slice al r.lg.length kl) ∧ W.cell? ⟨w.heap.size, 7, none⟩ = some (.slice ah r.ch.length kh)) ∧ Below w.heap.size w W) := fun W hW => by
    have h1 := (hW.block w.heap.size (by simp)).trans (heap_alloc_new w _)
    exact ⟨⟨(blk_cell h1 0 rfl).1, (blk_cell h1 1 rfl).1, (blk_cell h1 2 rfl).1, (blk_cell h1 3 rfl).1, (blk_cell h1 4 rfl).1, (blk_cell h1 5 rfl).1, (blk_cell h1 6 rfl).1, (blk_cell h1 7 rfl).1⟩, (bel_new w _).trans (hW.mono (by simp))⟩
  clear h hK hp hz
  obtain ⟨bb, HBB⟩ : ∃ bb, Hid (plB r.n r.vw r.cs = bb) := ⟨_, rfl⟩
  rw [HBB.out]
  go_enter Tryz.func107, Tryz.ntmps107
  go_upto_region 1 with fail
  generalize w.alloc (.cells #[.int .i64 r.id, .int .i64 r.n, .int .i64 r.vw, .bool r.ac, .slice av r.ss.length kv, .slice a r.cs.length cap, .slice al r.lg.length kl, .slice ah r.ch.length kh] 55) = wb at HP ⊢
  obtain ⟨⟨r0, r1, r2, r3, r4, r5, r6, r7⟩, RB⟩ := HP.out wb (Below.refl _ _)
  go_wp2_with fail
  clear r0 r1 r2 r3 r4 r5 r6 r7 RB
  go_loopw [9] (fun i wr => ∃ k : Nat, k ≤ r.cs.length ∧ i = .int .i64 k ∧ Hid ((∀ j s, j < k → r.cs[j]? = some s → PlaceP r.n r.vw j s) ∧ Below wb.heap.size wb wr)) (fun i _ => r.cs.length - (intOf i).toNat)
  case atStart => exact ⟨0, by omega, rfl, ⟨fun j x hj => by omega, Below.refl _ _⟩⟩
  case round =>
    obtain ⟨k, hk, rfl, HZ⟩ := hrel
    by_cases hlt : k < r.cs.length
    · obtain ⟨x, hx⟩ := Rg.get_at hlt
      obtain ⟨b, off, rfl, hbl, u1, c0, c1, s1⟩ := RowG.at ((HR.out.below (HP.out _ HZ.out.2).2)) rfl hx
      obtain ⟨a1, k1, rfl⟩ := RowG.slice s1
      have HX : Hid (r.cs[k]? = some x) := hx
      have hzx := HZ0.out x (mem_at hx)
      have WR : Below w.heap.size w wr := (HP.out _ HZ.out.2).2
      have HA : Hid (∀ W, Below (wr.alloc (.cells #[.string x.bd, .slice a1 x.ms.length k1] 87)).heap.size (wr.alloc (.cells #[.string x.bd, .slice a1 x.ms.length k1] 87)) W → (W.cell? ⟨wr.heap.size, 0, none⟩ = some (.string x.bd) ∧ W.cell? ⟨wr.heap.size, 1, none⟩ = some (.slice a1 x.ms.length k1)) ∧ Below wb.heap.size wb W ∧ Below wr.heap.size wr W) := fun W hW => by
        have h1 := (hW.block wr.heap.size (by simp)).trans (heap_alloc_new wr _)
        have h3 := (bel_new wr _).trans (hW.mono (by simp))
        exact ⟨⟨(blk_cell h1 0 rfl).1, (blk_cell h1 1 rfl).1⟩, HZ.out.2.trans (h3.mono HZ.out.2.size), h3⟩
      have HNC : Hid (∀ W, Below wr.heap.size wr W → Calls Tryz.prog 86 #[.agg #[.string x.bd, .slice a1 x.ms.length k1]] W fun e w' => e = .returned (.bool (decide (x.bd.size = 0) && decide (x.ms.length = 0))) ∧ Below W.heap.size W w') := fun W _ => noCert_any _ _ _ _ W
      have HCO : Hid (∀ W, Below wr.heap.size wr W → Calls Tryz.prog 132 #[.int .i64 r.n, .agg #[.string x.bd, .slice a1 x.ms.length k1]] W fun e w' => e = .returned (.bool (crtB r.n x.bd x.ms)) ∧ Below W.heap.size W w') := fun W hW => by
        have hG := GK.out W (WR.trans (hW.mono WR.size))
        exact implCertOK_any r.n x.bd _ x.ms W (s1.below hW) hzx.2.1 hzx.1 hG.1 hG.2
      have HBL : Hid (∀ y, x.ms[0]? = some y → ∀ W, Below wr.heap.size wr W → Calls Tryz.prog 133 #[.agg #[.string x.bd, .slice a1 x.ms.length k1]] W fun e w' => e = .returned (.agg #[.int .i64 y.vw, .int .i64 y.sq, .string (dOut x.bd)]) ∧ Below W.heap.size W w') := fun y hy W hW => by
        have hG := GK.out W (WR.trans (hW.mono WR.size))
        exact ballotOf_any x.bd _ x.ms y W (s1.below hW) hy hG.1 hG.2
      have HN : Hid (∀ _ : Unit, ¬ PlaceP r.n r.vw k x → bb = false) := fun _ hh => by rw [← HBB.out]; exact plB_no HX.out hh
      have HY : Hid (PlaceP r.n r.vw k x → ∀ j s, j < k + 1 → r.cs[j]? = some s → PlaceP r.n r.vw j s) := fun hh => upto_succ HZ.out.1 HX.out hh
      clear hx hzx s1 WR
      go_upto_region 4 with fail
      generalize wr.alloc (.cells #[.string x.bd, .slice a1 x.ms.length k1] 87) = wa at HA ⊢
      clear c0 c1
      obtain ⟨⟨c0, c1⟩, A1, A2⟩ := HA.out wa (Below.refl _ _)
      obtain ⟨⟨r0, r1, r2, r3, r4, r5, r6, r7⟩, RB⟩ := HP.out wa A1
      have WA : Hid (Below wr.heap.size wr wa) := A2
      clear A1 A2 RB
      by_cases hnc : x.bd.size = 0 ∧ x.ms.length = 0
      · have hd1 : (decide (x.bd.size = 0) && decide (x.ms.length = 0)) = true := by rw [decide_eq_true hnc.1, decide_eq_true hnc.2]; rfl
        have HU : Hid (∀ j s, j < k + 1 → r.cs[j]? = some s → PlaceP r.n r.vw j s) := HY.out (.inl ⟨hnc.1, List.length_eq_zero_iff.1 hnc.2⟩)
        rw [hd1] at HNC
        clear hnc hd1
        go_wp2_with fail
        refine (HNC.out _ WA.out).mono ?_
        rintro e y1 ⟨rfl, b1⟩
        have E1 : Hid (Below wa.heap.size wa y1) := b1
        clear b1 c0 c1 r0 r1 r2 r3 r4 r5 r6 r7
        have D1 : Hid (Below wr.heap.size wr y1) := WA.out.trans (E1.out.mono WA.out.size)
        obtain ⟨⟨c0, c1⟩, A1, _⟩ := HA.out y1 E1.out
        obtain ⟨⟨r0, r1, r2, r3, r4, r5, r6, r7⟩, RB⟩ := HP.out y1 A1
        have G1 : Hid (Below w.heap.size w y1) := RB
        have F1 : Hid (Below wb.heap.size wb y1) := A1
        clear A1 RB
        go_wp2_with fail
        exact ⟨⟨k + 1, by omega, by go_num, ⟨HU.out, F1.out⟩⟩, by simp [intOf]; omega⟩
      · have hd1 : (decide (x.bd.size = 0) && decide (x.ms.length = 0)) = false := by
          cases hh : (decide (x.bd.size = 0) && decide (x.ms.length = 0)) with
          | false => rfl
          | true => rw [Bool.and_eq_true, decide_eq_true_eq, decide_eq_true_eq] at hh; exact absurd hh hnc
        have HNN : Hid (¬ (x.bd.size = 0 ∧ x.ms = [])) := fun hh => hnc ⟨hh.1, by rw [hh.2]; rfl⟩
        rw [hd1] at HNC
        clear hnc hd1
        cases hcr : crtB r.n x.bd x.ms with
        | false =>
          have HF : Hid (bb = false) := HN.out () fun hh => by rcases hh with h | h; exact HNN.out h; rw [hcr] at h; cases h.1
          rw [hcr] at HCO
          clear hcr
          go_wp2_with fail
          refine (HNC.out _ WA.out).mono ?_
          rintro e y1 ⟨rfl, b1⟩
          have E1 : Hid (Below wa.heap.size wa y1) := b1
          clear b1 c0 c1 r0 r1 r2 r3 r4 r5 r6 r7
          have D1 : Hid (Below wr.heap.size wr y1) := WA.out.trans (E1.out.mono WA.out.size)
          obtain ⟨⟨c0, c1⟩, A1, _⟩ := HA.out y1 E1.out
          obtain ⟨⟨r0, r1, r2, r3, r4, r5, r6, r7⟩, RB⟩ := HP.out y1 A1
          have G1 : Hid (Below w.heap.size w y1) := RB
          have F1 : Hid (Below wb.heap.size wb y1) := A1
          clear A1 RB
          go_wp2_with fail
          refine (HCO.out _ D1.out).mono ?_
          rintro e y2 ⟨rfl, b2⟩
          have E2 : Hid (Below wa.heap.size wa y2) := E1.out.trans (b2.mono E1.out.size)
          clear b2 c0 c1 r0 r1 r2 r3 r4 r5 r6 r7
          have D2 : Hid (Below wr.heap.size wr y2) := WA.out.trans (E2.out.mono WA.out.size)
          obtain ⟨⟨c0, c1⟩, A1, _⟩ := HA.out y2 E2.out
          obtain ⟨⟨r0, r1, r2, r3, r4, r5, r6, r7⟩, RB⟩ := HP.out y2 A1
          have G2 : Hid (Below w.heap.size w y2) := RB
          have F2 : Hid (Below wb.heap.size wb y2) := A1
          clear A1 RB
          go_wp2_with fail
          go_ret
          exact ⟨ret_b HF.out.symm, G2.out⟩
        | true =>
          obtain ⟨y, hy⟩ := crt_cons hcr
          have HCR : Hid (crtB r.n x.bd x.ms = true ∧ x.ms[0]? = some y) := ⟨hcr, hy⟩
          have HBY := HBL.out y hy
          have HBQ : Hid (∀ W, Below wr.heap.size wr W → Calls Tryz.prog 133 #[.agg #[.string x.bd, .slice a1 x.ms.length k1]] W fun e w' => e = .returned (.agg #[.int .i64 y.vw, .int .i64 y.sq, .string (dOut x.bd)]) ∧ Below W.heap.size W w') := HBY
          rw [hcr] at HCO
          generalize dOut x.bd = dd at HBQ
          clear hcr hy HBY HBL
          by_cases g1 : y.sq = (k : Int) + 1
          · have g1' : (y.sq != (k : Int) + 1) = false := by simpa using g1
            by_cases g2 : y.vw > r.vw
            · have HF : Hid (bb = false) := HN.out () fun hh => by
                rcases hh with h | ⟨_, z, hz, _, h3⟩
                · exact HNN.out h
                · rw [HCR.out.2] at hz; cases hz; omega
              have g2' : decide (y.vw > r.vw) = true := decide_eq_true g2
              have g2a : r.vw < y.vw := g2
              clear g1 g2
              go_wp2_with fail
              refine (HNC.out _ WA.out).mono ?_
              rintro e y1 ⟨rfl, b1⟩
              have E1 : Hid (Below wa.heap.size wa y1) := b1
              clear b1 c0 c1 r0 r1 r2 r3 r4 r5 r6 r7
              have D1 : Hid (Below wr.heap.size wr y1) := WA.out.trans (E1.out.mono WA.out.size)
              obtain ⟨⟨c0, c1⟩, A1, _⟩ := HA.out y1 E1.out
              obtain ⟨⟨r0, r1, r2, r3, r4, r5, r6, r7⟩, RB⟩ := HP.out y1 A1
              have G1 : Hid (Below w.heap.size w y1) := RB
              have F1 : Hid (Below wb.heap.size wb y1) := A1
              clear A1 RB
              go_wp2_with fail
              refine (HCO.out _ D1.out).mono ?_
              rintro e y2 ⟨rfl, b2⟩
              have E2 : Hid (Below wa.heap.size wa y2) := E1.out.trans (b2.mono E1.out.size)
              clear b2 c0 c1 r0 r1 r2 r3 r4 r5 r6 r7
              have D2 : Hid (Below wr.heap.size wr y2) := WA.out.trans (E2.out.mono WA.out.size)
              obtain ⟨⟨c0, c1⟩, A1, _⟩ := HA.out y2 E2.out
              obtain ⟨⟨r0, r1, r2, r3, r4, r5, r6, r7⟩, RB⟩ := HP.out y2 A1
              have G2 : Hid (Below w.heap.size w y2) := RB
              have F2 : Hid (Below wb.heap.size wb y2) := A1
              clear A1 RB
              go_wp2_with fail
              refine (HBQ.out _ D2.out).mono ?_
              rintro e y3 ⟨rfl, b3⟩
              have EB : Hid (Below wa.heap.size wa y3) := E2.out.trans (b3.mono E2.out.size)
              have HL : Hid ((y3.alloc (.cells #[.int .i64 y.vw, .int .i64 y.sq, .string dd] 178)).heap[y3.heap.size]? = some (.cells #[.int .i64 y.vw, .int .i64 y.sq, .string dd] 178 (0, 0))) := blk_new _ _ _
              have E3 : Hid (Below wa.heap.size wa (y3.alloc (.cells #[.int .i64 y.vw, .int .i64 y.sq, .string dd] 178))) := EB.out.alloc EB.out.size _
              clear b3 c0 c1 r0 r1 r2 r3 r4 r5 r6 r7 EB
              go_upto_region 8 with fail
              generalize y3.alloc (.cells #[.int .i64 y.vw, .int .i64 y.sq, .string dd] 178) = z at E3 HL ⊢
              have l0 := (blk_cell HL.out 0 (x := .int .i64 y.vw) rfl).1
              have l1 := (blk_cell HL.out 1 (x := .int .i64 y.sq) rfl).1
              have D3 : Hid (Below wr.heap.size wr z) := WA.out.trans (E3.out.mono WA.out.size)
              obtain ⟨⟨c0, c1⟩, A1, _⟩ := HA.out z E3.out
              obtain ⟨⟨r0, r1, r2, r3, r4, r5, r6, r7⟩, RB⟩ := HP.out z A1
              have G3 : Hid (Below w.heap.size w z) := RB
              have F3 : Hid (Below wb.heap.size wb z) := A1
              clear A1 RB
              go_wp2_with fail
              go_ret
              exact ⟨ret_b HF.out.symm, G3.out⟩
            · have HU : Hid (∀ j s, j < k + 1 → r.cs[j]? = some s → PlaceP r.n r.vw j s) := HY.out (.inr ⟨HCR.out.1, y, HCR.out.2, g1, by omega⟩)
              have g2' : decide (y.vw > r.vw) = false := decide_eq_false g2
              have g2a : ¬ r.vw < y.vw := g2
              clear g1 g2
              go_wp2_with fail
              refine (HNC.out _ WA.out).mono ?_
              rintro e y1 ⟨rfl, b1⟩
              have E1 : Hid (Below wa.heap.size wa y1) := b1
              clear b1 c0 c1 r0 r1 r2 r3 r4 r5 r6 r7
              have D1 : Hid (Below wr.heap.size wr y1) := WA.out.trans (E1.out.mono WA.out.size)
              obtain ⟨⟨c0, c1⟩, A1, _⟩ := HA.out y1 E1.out
              obtain ⟨⟨r0, r1, r2, r3, r4, r5, r6, r7⟩, RB⟩ := HP.out y1 A1
              have G1 : Hid (Below w.heap.size w y1) := RB
              have F1 : Hid (Below wb.heap.size wb y1) := A1
              clear A1 RB
              go_wp2_with fail
              refine (HCO.out _ D1.out).mono ?_
              rintro e y2 ⟨rfl, b2⟩
              have E2 : Hid (Below wa.heap.size wa y2) := E1.out.trans (b2.mono E1.out.size)
              clear b2 c0 c1 r0 r1 r2 r3 r4 r5 r6 r7
              have D2 : Hid (Below wr.heap.size wr y2) := WA.out.trans (E2.out.mono WA.out.size)
              obtain ⟨⟨c0, c1⟩, A1, _⟩ := HA.out y2 E2.out
              obtain ⟨⟨r0, r1, r2, r3, r4, r5, r6, r7⟩, RB⟩ := HP.out y2 A1
              have G2 : Hid (Below w.heap.size w y2) := RB
              have F2 : Hid (Below wb.heap.size wb y2) := A1
              clear A1 RB
              go_wp2_with fail
              refine (HBQ.out _ D2.out).mono ?_
              rintro e y3 ⟨rfl, b3⟩
              have EB : Hid (Below wa.heap.size wa y3) := E2.out.trans (b3.mono E2.out.size)
              have HL : Hid ((y3.alloc (.cells #[.int .i64 y.vw, .int .i64 y.sq, .string dd] 178)).heap[y3.heap.size]? = some (.cells #[.int .i64 y.vw, .int .i64 y.sq, .string dd] 178 (0, 0))) := blk_new _ _ _
              have E3 : Hid (Below wa.heap.size wa (y3.alloc (.cells #[.int .i64 y.vw, .int .i64 y.sq, .string dd] 178))) := EB.out.alloc EB.out.size _
              clear b3 c0 c1 r0 r1 r2 r3 r4 r5 r6 r7 EB
              go_upto_region 8 with fail
              generalize y3.alloc (.cells #[.int .i64 y.vw, .int .i64 y.sq, .string dd] 178) = z at E3 HL ⊢
              have l0 := (blk_cell HL.out 0 (x := .int .i64 y.vw) rfl).1
              have l1 := (blk_cell HL.out 1 (x := .int .i64 y.sq) rfl).1
              have D3 : Hid (Below wr.heap.size wr z) := WA.out.trans (E3.out.mono WA.out.size)
              obtain ⟨⟨c0, c1⟩, A1, _⟩ := HA.out z E3.out
              obtain ⟨⟨r0, r1, r2, r3, r4, r5, r6, r7⟩, RB⟩ := HP.out z A1
              have G3 : Hid (Below w.heap.size w z) := RB
              have F3 : Hid (Below wb.heap.size wb z) := A1
              clear A1 RB
              go_wp2_with fail
              exact ⟨⟨k + 1, by omega, by go_num, ⟨HU.out, F3.out⟩⟩, by simp [intOf]; omega⟩
          · have g1' : (y.sq != (k : Int) + 1) = true := by simpa using g1
            have HF : Hid (bb = false) := HN.out () fun hh => by
              rcases hh with h | ⟨_, z, hz, h2, _⟩
              · exact HNN.out h
              · rw [HCR.out.2] at hz; cases hz; exact g1 h2
            clear g1
            go_wp2_with fail
            refine (HNC.out _ WA.out).mono ?_
            rintro e y1 ⟨rfl, b1⟩
            have E1 : Hid (Below wa.heap.size wa y1) := b1
            clear b1 c0 c1 r0 r1 r2 r3 r4 r5 r6 r7
            have D1 : Hid (Below wr.heap.size wr y1) := WA.out.trans (E1.out.mono WA.out.size)
            obtain ⟨⟨c0, c1⟩, A1, _⟩ := HA.out y1 E1.out
            obtain ⟨⟨r0, r1, r2, r3, r4, r5, r6, r7⟩, RB⟩ := HP.out y1 A1
            have G1 : Hid (Below w.heap.size w y1) := RB
            have F1 : Hid (Below wb.heap.size wb y1) := A1
            clear A1 RB
            go_wp2_with fail
            refine (HCO.out _ D1.out).mono ?_
            rintro e y2 ⟨rfl, b2⟩
            have E2 : Hid (Below wa.heap.size wa y2) := E1.out.trans (b2.mono E1.out.size)
            clear b2 c0 c1 r0 r1 r2 r3 r4 r5 r6 r7
            have D2 : Hid (Below wr.heap.size wr y2) := WA.out.trans (E2.out.mono WA.out.size)
            obtain ⟨⟨c0, c1⟩, A1, _⟩ := HA.out y2 E2.out
            obtain ⟨⟨r0, r1, r2, r3, r4, r5, r6, r7⟩, RB⟩ := HP.out y2 A1
            have G2 : Hid (Below w.heap.size w y2) := RB
            have F2 : Hid (Below wb.heap.size wb y2) := A1
            clear A1 RB
            go_wp2_with fail
            refine (HBQ.out _ D2.out).mono ?_
            rintro e y3 ⟨rfl, b3⟩
            have EB : Hid (Below wa.heap.size wa y3) := E2.out.trans (b3.mono E2.out.size)
            have HL : Hid ((y3.alloc (.cells #[.int .i64 y.vw, .int .i64 y.sq, .string dd] 178)).heap[y3.heap.size]? = some (.cells #[.int .i64 y.vw, .int .i64 y.sq, .string dd] 178 (0, 0))) := blk_new _ _ _
            have E3 : Hid (Below wa.heap.size wa (y3.alloc (.cells #[.int .i64 y.vw, .int .i64 y.sq, .string dd] 178))) := EB.out.alloc EB.out.size _
            clear b3 c0 c1 r0 r1 r2 r3 r4 r5 r6 r7 EB
            go_upto_region 8 with fail
            generalize y3.alloc (.cells #[.int .i64 y.vw, .int .i64 y.sq, .string dd] 178) = z at E3 HL ⊢
            have l0 := (blk_cell HL.out 0 (x := .int .i64 y.vw) rfl).1
            have l1 := (blk_cell HL.out 1 (x := .int .i64 y.sq) rfl).1
            have D3 : Hid (Below wr.heap.size wr z) := WA.out.trans (E3.out.mono WA.out.size)
            obtain ⟨⟨c0, c1⟩, A1, _⟩ := HA.out z E3.out
            obtain ⟨⟨r0, r1, r2, r3, r4, r5, r6, r7⟩, RB⟩ := HP.out z A1
            have G3 : Hid (Below w.heap.size w z) := RB
            have F3 : Hid (Below wb.heap.size wb z) := A1
            clear A1 RB
            go_wp2_with fail
            go_ret
            exact ⟨ret_b HF.out.symm, G3.out⟩
    · obtain rfl : k = r.cs.length := by omega
      have HT : Hid (bb = true) := by show _ = _; rw [← HBB.out]; exact bOf_true HZ.out.1
      have G0 : Hid (Below w.heap.size w wr) := (HP.out _ HZ.out.2).2
      go_wp2_with fail
      go_ret
      exact ⟨ret_b HT.out.symm, G0.out⟩
theorem chB_no {n vw : Int} {ch : List Mg} {k : Nat} {x y : Mg} (hx : ch[k]? = some x) (hy : ch[0]? = some y) (h : ¬ ChgP n vw y.vw x) : chB n vw ch = false := bOf_false fun hh => h (hh.1 x (mem_at hx) y hy)
theorem chB_rise {n vw : Int} {ch : List Mg} (h : ∀ x ∈ ch, ∀ y, ch[0]? = some y → ChgP n vw y.vw x) : chB n vw ch = bOf (Rise ch ch.length) := by
  by_cases hr : Rise ch ch.length
  · rw [bOf_true hr]; exact bOf_true ⟨h, hr⟩
  · rw [bOf_false hr]; exact bOf_false fun hh => hr hh.2
theorem chg_nod {n vw : Int} {ch : List Mg} (h : ∀ x ∈ ch, ∀ y, ch[0]? = some y → ChgP n vw y.vw x) : ∀ x ∈ ch, Nod x := fun x hx => by
  obtain ⟨y, hy⟩ : ∃ y, ch[0]? = some y := Rg.get_at (by cases hh : ch with | nil => rw [hh] at hx; cases hx | cons a l => simp)
  exact nod_sg (cf_sg (h x hx y hy).1)
set_option maxRecDepth 100000 in
set_option maxHeartbeats 1600000 in
theorem changesOK_any (r : Rp) (vs vc vl vh : Value) (w : World) (h : RepR w r vs vc vl vh) (hl : r.ch.length ≤ 1048576) (hz : ∀ x ∈ r.ch, Tz 1048576 x) (hf : fCode r.n = 0) (hK : KTab w) (hp : 0 < w.heap.size) :
    Calls Tryz.prog 109 #[.agg #[.int .i64 r.id, .int .i64 r.n, .int .i64 r.vw, .bool r.ac, vs, vc, vl, vh]] w fun e w' => e = .returned (.bool (chB r.n r.vw r.ch)) ∧ Below w.heap.size w w' := by
  have HR : Hid (Row w vh r.ch) := h.h
  have HZ0 : Hid ((∀ x ∈ r.ch, Tz 1048576 x) ∧ fCode r.n = 0) := ⟨hz, hf⟩
  obtain ⟨a, cap, rfl⟩ := RowG.slice h.h
  obtain ⟨al, kl, rfl, _⟩ := h.l
  obtain ⟨av, kv, rfl⟩ := RowG.slice h.s
  obtain ⟨ac, kc, rfl⟩ := RowG.slice h.c
  have GK : Hid (∀ W, Below w.heap.size w W → KTab W ∧ 0 < W.heap.size) := fun W hW => ⟨hK.below hW hp, Nat.lt_of_lt_of_le hp hW.size⟩
  have HP : Hid (∀ W, Below (w.alloc (.cells #[.int .i64 r.id, .int .i64 r.n, .int .i64 r.vw, .bool r.ac, .slice av r.ss.length kv, .slice ac r.cs.length kc, .slice al r.lg.length kl, .slice a r.ch.length cap] 55)).heap.size (w.alloc (.cells #[.int .i64 r.id, .int .i64 r.n, .int .i64 r.vw, .bool r.ac, .slice av r.ss.length kv, .slice ac r.cs.length kc, .slice al r.lg.length kl, .slice a r.ch.length cap] 55)) W → (W.cell? ⟨w.heap.size, 0, none⟩ = some (.int .i64 r.id) ∧ W.cell? ⟨w.heap.size, 1, none⟩ = some (.int .i64 r.n) ∧ W.cell? ⟨w.heap.size, 2, none⟩ = some (.int .i64 r.vw) ∧ W.cell? ⟨w.heap.size, 3, none⟩ = some (.bool r.ac) ∧ W.cell? ⟨w.heap.size, 4, none⟩ = some (.slice av r.ss.length kv) ∧ W.cell? ⟨w.heap.size, 5, none⟩ = some (.slice ac r.cs.length kc) ∧ W.cell? ⟨w.heap.size, 6, none⟩ = some (.slice al r.lg.length kl) ∧ W.cell? ⟨w.heap.size, 7, none⟩ = some (.slice a r.ch.length cap)) ∧ Below w.heap.size w W) := fun W hW => by
    have h1 := (hW.block w.heap.size (by simp)).trans (heap_alloc_new w _)
    exact ⟨⟨(blk_cell h1 0 rfl).1, (blk_cell h1 1 rfl).1, (blk_cell h1 2 rfl).1, (blk_cell h1 3 rfl).1, (blk_cell h1 4 rfl).1, (blk_cell h1 5 rfl).1, (blk_cell h1 6 rfl).1, (blk_cell h1 7 rfl).1⟩, (bel_new w _).trans (hW.mono (by simp))⟩
  clear h hK hp hz hf
  obtain ⟨bb, HBB⟩ : ∃ bb, Hid (chB r.n r.vw r.ch = bb) := ⟨_, rfl⟩
  rw [HBB.out]
  have HSR : Hid (∀ W, Below w.heap.size w W → (∀ x ∈ r.ch, ∀ y, r.ch[0]? = some y → ChgP r.n r.vw y.vw x) → Calls Tryz.prog 135 #[.slice a r.ch.length cap] W fun e w' => e = .returned (.bool bb) ∧ Below W.heap.size W w') := fun W hW hall => by
    have := sendersRise_any (.slice a r.ch.length cap) r.ch W (HR.out.below hW) (chg_nod hall) hl
    rw [← chB_rise hall, HBB.out] at this
    exact this
  go_enter Tryz.func109, Tryz.ntmps109
  go_upto_region 1 with fail
  generalize w.alloc (.cells #[.int .i64 r.id, .int .i64 r.n, .int .i64 r.vw, .bool r.ac, .slice av r.ss.length kv, .slice ac r.cs.length kc, .slice al r.lg.length kl, .slice a r.ch.length cap] 55) = wb at HP ⊢
  obtain ⟨⟨r0, r1, r2, r3, r4, r5, r6, r7⟩, RB⟩ := HP.out wb (Below.refl _ _)
  go_wp2_with fail
  clear r0 r1 r2 r3 r4 r5 r6 r7 RB
  go_loopw [10] (fun i wr => ∃ k : Nat, k ≤ r.ch.length ∧ i = .int .i64 k ∧ Hid ((∀ j x, j < k → r.ch[j]? = some x → ∀ y, r.ch[0]? = some y → ChgP r.n r.vw y.vw x) ∧ Below wb.heap.size wb wr)) (fun i _ => r.ch.length - (intOf i).toNat)
  case atStart => exact ⟨0, by omega, rfl, ⟨fun j x hj => by omega, Below.refl _ _⟩⟩
  case round =>
    obtain ⟨k, hk, rfl, HZ⟩ := hrel
    by_cases hlt : k < r.ch.length
    · obtain ⟨x, hx⟩ := Rg.get_at hlt
      obtain ⟨y, hy⟩ := Rg.get_at (xs := r.ch) (k := 0) (by omega)
      have WR : Below w.heap.size w wr := (HP.out _ HZ.out.2).2
      obtain ⟨b, off, rfl, hbl, c0, c1, c2, c3, c4, c5, c6⟩ := RowG.at (HR.out.below WR) rfl hx
      obtain ⟨b0, off0, e0, hbl0, _, z1, _⟩ := RowG.at (HR.out.below WR) rfl hy
      cases e0
      have HX : Hid (r.ch[k]? = some x ∧ r.ch[0]? = some y) := ⟨hx, hy⟩
      have HA : Hid (∀ W, Below (wr.alloc (.cells #[.int .i64 x.kd, .int .i64 x.vw, .int .i64 x.sq, .int .i64 x.fr, .string x.dg, .string x.bd, .string x.mc] 59)).heap.size (wr.alloc (.cells #[.int .i64 x.kd, .int .i64 x.vw, .int .i64 x.sq, .int .i64 x.fr, .string x.dg, .string x.bd, .string x.mc] 59)) W → (W.cell? ⟨wr.heap.size, 0, none⟩ = some (.int .i64 x.kd) ∧ W.cell? ⟨wr.heap.size, 1, none⟩ = some (.int .i64 x.vw) ∧ W.cell? ⟨wr.heap.size, 2, none⟩ = some (.int .i64 x.sq) ∧ W.cell? ⟨wr.heap.size, 3, none⟩ = some (.int .i64 x.fr) ∧ W.cell? ⟨wr.heap.size, 4, none⟩ = some (.string x.dg) ∧ W.cell? ⟨wr.heap.size, 5, none⟩ = some (.string x.bd) ∧ W.cell? ⟨wr.heap.size, 6, none⟩ = some (.string x.mc)) ∧ W.cell? ⟨b, off + 0 * 7 + 1, none⟩ = some (.int .i64 y.vw) ∧ Below wb.heap.size wb W ∧ Below wr.heap.size wr W) := fun W hW => by
        have h1 := (hW.block wr.heap.size (by simp)).trans (heap_alloc_new wr _)
        have h3 := (bel_new wr _).trans (hW.mono (by simp))
        exact ⟨⟨(blk_cell h1 0 rfl).1, (blk_cell h1 1 rfl).1, (blk_cell h1 2 rfl).1, (blk_cell h1 3 rfl).1, (blk_cell h1 4 rfl).1, (blk_cell h1 5 rfl).1, (blk_cell h1 6 rfl).1⟩, (h3.cell (p := ⟨b, _, none⟩) hbl).trans z1, HZ.out.2.trans (h3.mono HZ.out.2.size), h3⟩
      have HVC0 : Hid (∀ W, Below wr.heap.size wr W → Calls Tryz.prog 134 #[.int .i64 r.n, .agg #[.int .i64 x.kd, .int .i64 x.vw, .int .i64 x.sq, .int .i64 x.fr, .string x.dg, .string x.bd, .string x.mc]] W fun e w' => ∃ u, e = .returned (.tuple #[u, .int .i64 (vcC r.n x)]) ∧ Below W.heap.size W w') := fun W hW => by
        have hG := GK.out W (WR.trans (hW.mono WR.size))
        exact (implViewCerts_any r.n x W (HZ0.out.1 x (mem_at hx)).2.1 hG.1 hG.2).mono fun e w' ⟨u, h1, _, h3⟩ => ⟨u, h1, h3⟩
      rw [vc_cf HZ0.out.2] at HVC0
      have HN : Hid (∀ _ : Unit, ¬ ChgP r.n r.vw y.vw x → bb = false) := fun _ hh => by rw [← HBB.out]; exact chB_no HX.out.1 HX.out.2 hh
      have HY : Hid (ChgP r.n r.vw y.vw x → ∀ j z, j < k + 1 → r.ch[j]? = some z → ∀ y, r.ch[0]? = some y → ChgP r.n r.vw y.vw z) := fun hh => upto_succ (P := fun _ z => ∀ y, r.ch[0]? = some y → ChgP r.n r.vw y.vw z) HZ.out.1 HX.out.1 fun y2 hy2 => by rw [HX.out.2] at hy2; cases hy2; exact hh
      have hl0 : (0 : Int) < (r.ch.length : Int) := by omega
      clear hx hy WR z1 hbl0
      go_upto_region 4 with fail
      generalize wr.alloc (.cells #[.int .i64 x.kd, .int .i64 x.vw, .int .i64 x.sq, .int .i64 x.fr, .string x.dg, .string x.bd, .string x.mc] 59) = wa at HA ⊢
      clear c0 c1 c2 c3 c4 c5 c6
      obtain ⟨⟨c0, c1, c2, c3, c4, c5, c6⟩, z1, A1, A2⟩ := HA.out wa (Below.refl _ _)
      obtain ⟨⟨r0, r1, r2, r3, r4, r5, r6, r7⟩, RB⟩ := HP.out wa A1
      have WA : Hid (Below wr.heap.size wr wa) := A2
      clear A1 A2 RB
      cases hcf : cfB r.n x.vw x with
      | false =>
        have HF : Hid (bb = false) := HN.out () fun hh => by have := hh.1; rw [hcf] at this; cases this
        rw [hcf] at HVC0
        have HVC : Hid (∀ W, Below wr.heap.size wr W → Calls Tryz.prog 134 #[.int .i64 r.n, .agg #[.int .i64 x.kd, .int .i64 x.vw, .int .i64 x.sq, .int .i64 x.fr, .string x.dg, .string x.bd, .string x.mc]] W fun e w' => ∃ u, e = .returned (.tuple #[u, .int .i64 12]) ∧ Below W.heap.size W w') := HVC0.out
        clear hcf HVC0
        go_wp2_with fail
        refine (HVC.out _ WA.out).mono ?_
        rintro e y1 ⟨u, rfl, b1⟩
        have E1 : Hid (Below wa.heap.size wa y1) := b1
        clear b1 c0 c1 c2 c3 c4 c5 c6 z1 r0 r1 r2 r3 r4 r5 r6 r7
        go_upto_region 5 with fail
        obtain ⟨⟨c0, c1, c2, c3, c4, c5, c6⟩, z1, A1, _⟩ := HA.out y1 E1.out
        obtain ⟨⟨r0, r1, r2, r3, r4, r5, r6, r7⟩, RB⟩ := HP.out y1 A1
        have F1 : Hid (Below wb.heap.size wb y1) := A1
        have G1 : Hid (Below w.heap.size w y1) := RB
        clear A1 RB c0 c2 c3 c4 c5 c6 r0 r1 r3 r4 r5 r6
        obtain ⟨X, hX, W, QI0, QO0⟩ := Qc.klass y1
        have QI : Hid (∀ w', Below y1.heap.size y1 w' → ∃ x, w' = W x) := QI0
        have QO : Hid (∀ x, Below y1.heap.size y1 (W x)) := QO0
        clear QI0 QO0
        have q1 := Qc.cell_all QO.out c1
        have q2 := Qc.cell_all QO.out z1
        have q3 := Qc.cell_all QO.out r2
        have q4 := Qc.cell_all QO.out r7
        clear c1 z1 r2 r7
        refine Qc.region_class (W := W) (by kernel_rfl) (by kernel_rfl) (QI.out _ Qc.from_drew) ?_
        repeat (go_big_quiet_step (fail))
        refine wpQuiet_nil ?_
        rintro _ ⟨xq, rfl⟩
        have G2 : Hid (Below w.heap.size w (W xq)) := G1.out.trans ((QO.out xq).mono G1.out.size)
        have F2 : Hid (Below wb.heap.size wb (W xq)) := F1.out.trans ((QO.out xq).mono F1.out.size)
        clear q1 q2 q3 q4
        generalize W xq = wq at G2 F2 ⊢
        go_wp2_with fail
        go_ret
        exact ⟨ret_b HF.out.symm, G2.out⟩
      | true =>
        rw [hcf] at HVC0
        have HVC : Hid (∀ W, Below wr.heap.size wr W → Calls Tryz.prog 134 #[.int .i64 r.n, .agg #[.int .i64 x.kd, .int .i64 x.vw, .int .i64 x.sq, .int .i64 x.fr, .string x.dg, .string x.bd, .string x.mc]] W fun e w' => ∃ u, e = .returned (.tuple #[u, .int .i64 0]) ∧ Below W.heap.size W w') := HVC0.out
        have HCF : Hid (cfB r.n x.vw x = true) := hcf
        clear hcf HVC0
        go_wp2_with fail
        refine (HVC.out _ WA.out).mono ?_
        rintro e y1 ⟨u, rfl, b1⟩
        have E1 : Hid (Below wa.heap.size wa y1) := b1
        clear b1 c0 c1 c2 c3 c4 c5 c6 z1 r0 r1 r2 r3 r4 r5 r6 r7
        go_upto_region 5 with fail
        obtain ⟨⟨c0, c1, c2, c3, c4, c5, c6⟩, z1, A1, _⟩ := HA.out y1 E1.out
        obtain ⟨⟨r0, r1, r2, r3, r4, r5, r6, r7⟩, RB⟩ := HP.out y1 A1
        have F1 : Hid (Below wb.heap.size wb y1) := A1
        have G1 : Hid (Below w.heap.size w y1) := RB
        clear A1 RB c0 c2 c3 c4 c5 c6 r0 r1 r3 r4 r5 r6
        obtain ⟨X, hX, W, QI0, QO0⟩ := Qc.klass y1
        have QI : Hid (∀ w', Below y1.heap.size y1 w' → ∃ x, w' = W x) := QI0
        have QO : Hid (∀ x, Below y1.heap.size y1 (W x)) := QO0
        clear QI0 QO0
        have q1 := Qc.cell_all QO.out c1
        have q2 := Qc.cell_all QO.out z1
        have q3 := Qc.cell_all QO.out r2
        have q4 := Qc.cell_all QO.out r7
        clear c1 z1 r2 r7
        by_cases g1 : x.vw < r.vw
        · have HF : Hid (bb = false) := HN.out () fun hh => by have := hh.2.1; omega
          have g1' : decide (x.vw < r.vw) = true := decide_eq_true g1
          refine Qc.region_class (W := W) (by kernel_rfl) (by kernel_rfl) (QI.out _ Qc.from_drew) ?_
          repeat (go_big_quiet_step (fail))
          refine wpQuiet_nil ?_
          rintro _ ⟨xq, rfl⟩
          have G2 : Hid (Below w.heap.size w (W xq)) := G1.out.trans ((QO.out xq).mono G1.out.size)
          have F2 : Hid (Below wb.heap.size wb (W xq)) := F1.out.trans ((QO.out xq).mono F1.out.size)
          clear q1 q2 q3 q4
          generalize W xq = wq at G2 F2 ⊢
          go_wp2_with fail
          go_ret
          exact ⟨ret_b HF.out.symm, G2.out⟩
        · by_cases g2 : x.vw = y.vw
          · have HU : Hid (∀ j z, j < k + 1 → r.ch[j]? = some z → ∀ y, r.ch[0]? = some y → ChgP r.n r.vw y.vw z) := HY.out ⟨HCF.out, by omega, g2⟩
            have g2' : (x.vw != y.vw) = false := by simpa using g2
            have g1' : decide (x.vw < r.vw) = false := decide_eq_false g1
            clear g2
            refine Qc.region_class (W := W) (by kernel_rfl) (by kernel_rfl) (QI.out _ Qc.from_drew) ?_
            repeat (go_big_quiet_step (fail))
            refine wpQuiet_nil ?_
            rintro _ ⟨xq, rfl⟩
            have G2 : Hid (Below w.heap.size w (W xq)) := G1.out.trans ((QO.out xq).mono G1.out.size)
            have F2 : Hid (Below wb.heap.size wb (W xq)) := F1.out.trans ((QO.out xq).mono F1.out.size)
            clear q1 q2 q3 q4
            generalize W xq = wq at G2 F2 ⊢
            go_wp2_with fail
            exact ⟨⟨k + 1, by omega, by go_num, ⟨HU.out, F2.out⟩⟩, by simp [intOf]; omega⟩
          · have HF : Hid (bb = false) := HN.out () fun hh => g2 hh.2.2
            have g2' : (x.vw != y.vw) = true := by simpa using g2
            have g1' : decide (x.vw < r.vw) = false := decide_eq_false g1
            clear g2
            refine Qc.region_class (W := W) (by kernel_rfl) (by kernel_rfl) (QI.out _ Qc.from_drew) ?_
            repeat (go_big_quiet_step (fail))
            refine wpQuiet_nil ?_
            rintro _ ⟨xq, rfl⟩
            have G2 : Hid (Below w.heap.size w (W xq)) := G1.out.trans ((QO.out xq).mono G1.out.size)
            have F2 : Hid (Below wb.heap.size wb (W xq)) := F1.out.trans ((QO.out xq).mono F1.out.size)
            clear q1 q2 q3 q4
            generalize W xq = wq at G2 F2 ⊢
            go_wp2_with fail
            go_ret
            exact ⟨ret_b HF.out.symm, G2.out⟩
    · obtain rfl : k = r.ch.length := by omega
      obtain ⟨⟨r0, r1, r2, r3, r4, r5, r6, r7⟩, RB⟩ := HP.out wr HZ.out.2
      have B2 : Hid (Below w.heap.size w wr) := RB
      clear RB
      go_wp2_with fail
      refine (HSR.out _ B2.out (all_of HZ.out.1)).mono ?_
      rintro e w2 ⟨rfl, b2⟩
      have G2 : Hid (Below w.heap.size w w2) := B2.out.trans (b2.mono B2.out.size)
      clear b2
      go_wp2_with fail
      go_ret
      exact ⟨rfl, G2.out⟩
end Go.Proofs.YtondmbeccpekiaaGreatDoor.Yr
