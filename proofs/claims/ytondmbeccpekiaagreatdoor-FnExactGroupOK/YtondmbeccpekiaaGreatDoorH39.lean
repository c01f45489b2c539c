/- Texts put together: Yg. -/
import Derived.Test.YtondmbeccpekiaaGreatDoorH38
/- Right replicas: slots, certificates at their places, view changes: the program. -/
namespace Go.Proofs.YtondmbeccpekiaaGreatDoor.Yr
open Go.RowKit Go.Proofs.YtondmbeccpekiaaGreatDoor.Rg Go.Proofs.YtondmbeccpekiaaGreatDoor.Gm Go.Proofs.YtondmbeccpekiaaGreatDoor.Ty Go.Proofs.YtondmbeccpekiaaGreatDoor.Tm Go.Proofs.YtondmbeccpekiaaGreatDoor.Sh
open Go.Proofs.YtondmbeccpekiaaGreatDoor.Vt (bOf bOf_true bOf_false bOf_iff bOf_eq sg sg_from frn msk msk_step or_add pow_le7 Rise crtB CertP crt_q q_pos allBelow_any with_any implCertOK_any ballotOf_any l06Cert_any)
open Go.Proofs.YtondmbeccpekiaaGreatDoor.Bw (bdP bdB implBodyOK_any l06Body_any)
open Go.Proofs.YtondmbeccpekiaaGreatDoor.Bd (dOut)
open Go.Proofs.YtondmbeccpekiaaGreatDoor.Wc (cfB vcC vcL cfL implViewCerts_any l06Certs_any OwnC)
open Go.Proofs.YtondmbeccpekiaaGreatDoor.Qm (qOut inB)

noncomputable def slB (n vw : Int) (ss : List St) : Bool := bOf (∀ k s, k < ss.length → ss[k]? = some s → SlotP n vw k s)
noncomputable def plB (n vw : Int) (cs : List Cx) : Bool := bOf (∀ k c, k < cs.length → cs[k]? = some c → PlaceP n vw k c)
noncomputable def chB (n vw : Int) (ch : List Mg) : Bool := bOf ((∀ x ∈ ch, ∀ y, ch[0]? = some y → ChgP n vw y.vw x) ∧ Rise ch ch.length)
theorem slB_no {n vw : Int} {ss : List St} {k : Nat} {s : St} (hx : ss[k]? = some s) (h : ¬ SlotP n vw k s) : slB n vw ss = false := bOf_false fun hh => h (hh k s (lt_at hx) hx)
theorem plB_no {n vw : Int} {cs : List Cx} {k : Nat} {s : Cx} (hx : cs[k]? = some s) (h : ¬ PlaceP n vw k s) : plB n vw cs = false := bOf_false fun hh => h (hh k s (lt_at hx) hx)
theorem empty_of {s : ByteArray} (h : s.size = 0) : s = ⟨#[]⟩ := ByteArray.ext (Array.eq_empty_of_size_eq_zero h)
theorem ne_list {s : ByteArray} (h : ¬ s.size = 0) : (s.toList == ([] : List UInt8)) = false := by
  rw [Lib.toList_data]
  cases e : s.data.toList with
  | nil => exact absurd (by have := congrArg List.length e; rw [Array.length_toList] at this; exact this) h
  | cons a l => rfl
theorem nil_list : (⟨#[]⟩ : ByteArray).toList = [] := by rw [Lib.toList_data]
theorem ne_list2 {s : ByteArray} (h : ¬ s.size = 0) : (s.toList == (⟨#[]⟩ : ByteArray).toList) = false := by rw [nil_list]; exact ne_list h
set_option maxRecDepth 100000 in
set_option maxHeartbeats 1600000 in
theorem slotsOK_any (r : Rp) (vs vc vl vh : Value) (w : World) (h : RepR w r vs vc vl vh) (hl : r.ss.length ≤ 1048576) (hz : ∀ x ∈ r.ss, SZ 1048576 x) (hf : fCode r.n = 0) (hK : KTab w) (hp : 0 < w.heap.size) :
    Calls Tryz.prog 106 #[.agg #[.int .i64 r.id, .int .i64 r.n, .int .i64 r.vw, .bool r.ac, vs, vc, vl, vh]] w fun e w' => e = .returned (.bool (slB r.n r.vw r.ss)) ∧ Below w.heap.size w w' := by
  have HR : Hid (RowS w vs r.ss) := h.s
  have HZ0 : Hid ((∀ x ∈ r.ss, SZ 1048576 x) ∧ fCode r.n = 0) := ⟨hz, hf⟩
  obtain ⟨a, cap, rfl⟩ := RowG.slice h.s
  obtain ⟨al, kl, rfl, _⟩ := h.l
  obtain ⟨ac, kc, rfl⟩ := RowG.slice h.c
  obtain ⟨ah, kh, rfl⟩ := RowG.slice h.h
  have GK : Hid (∀ W, Below w.heap.size w W → KTab W ∧ 0 < W.heap.size) := fun W hW => ⟨hK.below hW hp, Nat.lt_of_lt_of_le hp hW.size⟩
  have HP : Hid (∀ W, Below (w.alloc (.cells #[.int .i64 r.id, .int .i64 r.n, .int .i64 r.vw, .bool r.ac, .slice a r.ss.length cap, .slice ac r.cs.length kc, .slice al r.lg.length kl, .slice ah r.ch.length kh] 55)).heap.size (w.alloc (.cells #[.int .i64 r.id, .int .i64 r.n, .int .i64 r.vw, .bool r.ac, .slice a r.ss.length cap, .slice ac r.cs.length kc, .slice al r.lg.length kl, .slice ah r.ch.length kh] 55)) W → (W.cell? ⟨w.heap.size, 0, none⟩ = some (.int .i64 r.id) ∧ W.cell? ⟨w.heap.size, 1, none⟩ = some (.int .i64 r.n) ∧ W.cell? ⟨w.heap.size, 2, none⟩ = some (.int .i64 r.vw) ∧ W.cell? ⟨w.heap.size, 3, none⟩ = some (.bool r.ac) ∧ W.cell? ⟨w.heap.size, 4, none⟩ = some (.slice a r.ss.length cap) ∧ W.cell? ⟨w.heap.size, 5, none⟩ = some (.slice ac r.cs.length kc) ∧ W.cell? ⟨w.heap.size, 6, none⟩ = some (.slice al r.lg.length kl) ∧ W.cell? ⟨w.heap.size, 7, none⟩ = some (.slice ah r.ch.length kh)) ∧ Below w.heap.size w W) := fun W hW => by
    have h1 := (hW.block w.heap.size (by simp)).trans (heap_alloc_new w _)
    exact ⟨⟨(blk_cell h1 0 rfl).1, (blk_cell h1 1 rfl).1, (blk_cell h1 2 rfl).1, (blk_cell h1 3 rfl).1, (blk_cell h1 4 rfl).1, (blk_cell h1 5 rfl).1, (blk_cell h1 6 rfl).1, (blk_cell h1 7 rfl).1⟩, (bel_new w _).trans (hW.mono (by simp))⟩
  clear h hK hp hz hf
  obtain ⟨bb, HBB⟩ : ∃ bb, Hid (slB r.n r.vw r.ss = bb) := ⟨_, rfl⟩
  rw [HBB.out]
  go_enter Tryz.func106, Tryz.ntmps106
  go_upto_region 1 with fail
  generalize w.alloc (.cells #[.int .i64 r.id, .int .i64 r.n, .int .i64 r.vw, .bool r.ac, .slice a r.ss.length cap, .slice ac r.cs.length kc, .slice al r.lg.length kl, .slice ah r.ch.length kh] 55) = wb at HP ⊢
  obtain ⟨⟨r0, r1, r2, r3, r4, r5, r6, r7⟩, RB⟩ := HP.out wb (Below.refl _ _)
  go_wp2_with fail
  clear r0 r1 r2 r3 r4 r5 r6 r7 RB
  go_loopw [9] (fun i wr => ∃ k : Nat, k ≤ r.ss.length ∧ i = .int .i64 k ∧ Hid ((∀ j s, j < k → r.ss[j]? = some s → SlotP r.n r.vw j s) ∧ Below wb.heap.size wb wr)) (fun i _ => r.ss.length - (intOf i).toNat)
  case atStart => exact ⟨0, by omega, rfl, ⟨fun j x hj => by omega, Below.refl _ _⟩⟩
  case round =>
    obtain ⟨k, hk, rfl, HZ⟩ := hrel
    by_cases hlt : k < r.ss.length
    · obtain ⟨x, hx⟩ := Rg.get_at hlt
      obtain ⟨b, off, rfl, hbl, u1, u2, c0, c1, c2, c3, c4, s1, s2⟩ := RowG.at ((HR.out.below (HP.out _ HZ.out.2).2)) rfl hx
      obtain ⟨a1, k1, rfl⟩ := RowG.slice s1
      obtain ⟨a2, k2, rfl⟩ := RowG.slice s2
      have HX : Hid (r.ss[k]? = some x) := hx
      have hzx := HZ0.out.1 x (mem_at hx)
      have WR : Below w.heap.size w wr := (HP.out _ HZ.out.2).2
      have HM : Hid (∀ W, Below (wr.alloc (.cells #[.string x.bd, .slice a1 x.ps.length k1, .slice a2 x.cs.length k2, .bool x.st, .bool x.dn] 100)).heap.size (wr.alloc (.cells #[.string x.bd, .slice a1 x.ps.length k1, .slice a2 x.cs.length k2, .bool x.st, .bool x.dn] 100)) W → (W.cell? ⟨wr.heap.size, 0, none⟩ = some (.string x.bd) ∧ W.cell? ⟨wr.heap.size, 1, none⟩ = some (.slice a1 x.ps.length k1) ∧ W.cell? ⟨wr.heap.size, 2, none⟩ = some (.slice a2 x.cs.length k2)) ∧ Below wb.heap.size wb W ∧ Below wr.heap.size wr W) := fun W hW => by
        have h1 := (hW.block wr.heap.size (by simp)).trans (heap_alloc_new wr _)
        have h3 := (bel_new wr _).trans (hW.mono (by simp))
        exact ⟨⟨(blk_cell h1 0 rfl).1, (blk_cell h1 1 rfl).1, (blk_cell h1 2 rfl).1⟩, HZ.out.2.trans (h3.mono HZ.out.2.size), h3⟩
      have HBO : Hid (∀ W, Below wr.heap.size wr W → Calls Tryz.prog 130 #[.int .i64 r.n, .string x.bd] W fun e w' => e = .returned (.bool (bdP r.n x.bd)) ∧ Below W.heap.size W w') := fun W hW => by
        have hG := GK.out W (WR.trans (hW.mono WR.size))
        exact implBodyOK_any r.n x.bd W HZ0.out.2 hzx.1 hG.1 hG.2
      have HC2 : Hid (∀ W, Below wr.heap.size wr W → Calls Tryz.prog 131 #[.int .i64 r.n, .int .i64 2, .agg #[.int .i64 0, .int .i64 r.vw, .int .i64 ((k : Int) + 1), .int .i64 0, .string ⟨#[]⟩, .string ⟨#[]⟩, .string ⟨#[]⟩], .slice a1 x.ps.length k1] W fun e w' => e = .returned (.bool (castB r.n 2 r.vw ((k : Int) + 1) x.ps)) ∧ Below W.heap.size W w') := fun W hW => by
        have hG := GK.out W (WR.trans (hW.mono WR.size))
        exact castOK_any r.n 2 r.vw ((k : Int) + 1) _ x.ps W (s1.below hW) hzx.2.1.1 hG.1 hG.2
      have HC3 : Hid (∀ W, Below wr.heap.size wr W → Calls Tryz.prog 131 #[.int .i64 r.n, .int .i64 3, .agg #[.int .i64 0, .int .i64 r.vw, .int .i64 ((k : Int) + 1), .int .i64 0, .string ⟨#[]⟩, .string ⟨#[]⟩, .string ⟨#[]⟩], .slice a2 x.cs.length k2] W fun e w' => e = .returned (.bool (castB r.n 3 r.vw ((k : Int) + 1) x.cs)) ∧ Below W.heap.size W w') := fun W hW => by
        have hG := GK.out W (WR.trans (hW.mono WR.size))
        exact castOK_any r.n 3 r.vw ((k : Int) + 1) _ x.cs W (s2.below hW) hzx.2.2.1 hG.1 hG.2
      have HN : Hid (∀ _ : Unit, ¬ SlotP r.n r.vw k x → bb = false) := fun _ hh => by rw [← HBB.out]; exact slB_no HX.out hh
      have HY : Hid (SlotP r.n r.vw k x → ∀ j s, j < k + 1 → r.ss[j]? = some s → SlotP r.n r.vw j s) := fun hh => upto_succ HZ.out.1 HX.out hh
      clear hx hzx s1 s2 WR
      go_upto_region 4 with fail
      generalize wr.alloc (.cells #[.string x.bd, .slice a1 x.ps.length k1, .slice a2 x.cs.length k2, .bool x.st, .bool x.dn] 100) = wm at HM ⊢
      clear c0 c1 c2 c3 c4
      obtain ⟨⟨c0, c1, c2⟩, M1, M2⟩ := HM.out wm (Below.refl _ _)
      obtain ⟨⟨r0, r1, r2, r3, r4, r5, r6, r7⟩, RB⟩ := HP.out wm M1
      have HA : Hid (∀ W, Below (wm.alloc (.cells #[.int .i64 0, .int .i64 r.vw, .int .i64 ((k : Int) + 1), .int .i64 0, .string ⟨#[]⟩, .string ⟨#[]⟩, .string ⟨#[]⟩] 59)).heap.size (wm.alloc (.cells #[.int .i64 0, .int .i64 r.vw, .int .i64 ((k : Int) + 1), .int .i64 0, .string ⟨#[]⟩, .string ⟨#[]⟩, .string ⟨#[]⟩] 59)) W → (W.cell? ⟨wr.heap.size, 0, none⟩ = some (.string x.bd) ∧ W.cell? ⟨wr.heap.size, 1, none⟩ = some (.slice a1 x.ps.length k1) ∧ W.cell? ⟨wr.heap.size, 2, none⟩ = some (.slice a2 x.cs.length k2)) ∧ (W.cell? ⟨wm.heap.size, 0, none⟩ = some (.int .i64 0) ∧ W.cell? ⟨wm.heap.size, 1, none⟩ = some (.int .i64 r.vw) ∧ W.cell? ⟨wm.heap.size, 2, none⟩ = some (.int .i64 ((k : Int) + 1)) ∧ W.cell? ⟨wm.heap.size, 3, none⟩ = some (.int .i64 0) ∧ W.cell? ⟨wm.heap.size, 4, none⟩ = some (.string ⟨#[]⟩) ∧ W.cell? ⟨wm.heap.size, 5, none⟩ = some (.string ⟨#[]⟩) ∧ W.cell? ⟨wm.heap.size, 6, none⟩ = some (.string ⟨#[]⟩)) ∧ Below wb.heap.size wb W ∧ Below wr.heap.size wr W) := fun W hW => by
        have h2 := (hW.block wm.heap.size (by simp)).trans (heap_alloc_new wm _)
        obtain ⟨m1, m2, m3⟩ := HM.out W ((bel_new wm _).trans (hW.mono (by simp)))
        exact ⟨m1, ⟨(blk_cell h2 0 rfl).1, (blk_cell h2 1 rfl).1, (blk_cell h2 2 rfl).1, (blk_cell h2 3 rfl).1, (blk_cell h2 4 rfl).1, (blk_cell h2 5 rfl).1, (blk_cell h2 6 rfl).1⟩, m2, m3⟩
      clear RB M1 M2 c0 c1 c2
      go_upto_region 5 with fail
      generalize wm.alloc (.cells #[.int .i64 0, .int .i64 r.vw, .int .i64 ((k : Int) + 1), .int .i64 0, .string ⟨#[]⟩, .string ⟨#[]⟩, .string ⟨#[]⟩] 59) = wa at HA ⊢
      clear r0 r1 r2 r3 r4 r5 r6 r7
      obtain ⟨⟨c0, c1, c2⟩, ⟨p0, p1, p2, p3, p4, p5, p6⟩, A1, A2⟩ := HA.out wa (Below.refl _ _)
      obtain ⟨⟨r0, r1, r2, r3, r4, r5, r6, r7⟩, RB⟩ := HP.out wa A1
      have WA : Hid (Below wr.heap.size wr wa) := A2
      clear A1 A2 RB
      by_cases h0 : x.bd.size = 0
      · have t0 := empty_of h0
        have q1 : (x.bd.toList == (⟨#[]⟩ : ByteArray).toList) = true := by rw [t0]; simp
        have q2 : (x.bd.toList != (⟨#[]⟩ : ByteArray).toList) = false := by rw [t0]; simp
        have q3 : (x.bd.toList == []) = true := by rw [← nil_list]; exact q1
        have q4 : (x.bd.toList != []) = false := by rw [← nil_list]; exact q2
        have H0 : Hid (x.bd.size = 0) := h0
        clear h0 t0
        cases h2 : castB r.n 2 r.vw ((k : Int) + 1) x.ps with
        | false =>
          have HF : Hid (bb = false) := HN.out () fun hh => by have := hh.2.1; rw [h2] at this; cases this
          rw [h2] at HC2
          clear h2
          go_wp2_with fail
          refine (HC2.out _ WA.out).mono ?_
          rintro e y1 ⟨rfl, b1⟩
          have E1 : Hid (Below wa.heap.size wa y1) := b1
          have D1 : Hid (Below wr.heap.size wr y1) := WA.out.trans (E1.out.mono WA.out.size)
          clear b1 c0 c1 c2 p0 p1 p2 p3 p4 p5 p6 r0 r1 r2 r3 r4 r5 r6 r7
          obtain ⟨⟨c0, c1, c2⟩, ⟨p0, p1, p2, p3, p4, p5, p6⟩, A1, _⟩ := HA.out y1 E1.out
          obtain ⟨⟨r0, r1, r2, r3, r4, r5, r6, r7⟩, RB⟩ := HP.out y1 A1
          have G1 : Hid (Below w.heap.size w y1) := RB
          have F1 : Hid (Below wb.heap.size wb y1) := A1
          clear A1 RB
          go_wp2_with fail
          go_ret
          exact ⟨ret_b HF.out.symm, G1.out⟩
        | true =>
          cases h3 : castB r.n 3 r.vw ((k : Int) + 1) x.cs with
          | false =>
            have HF : Hid (bb = false) := HN.out () fun hh => by have := hh.2.2; rw [h3] at this; cases this
            rw [h2] at HC2
            rw [h3] at HC3
            clear h2 h3
            go_wp2_with fail
            refine (HC2.out _ WA.out).mono ?_
            rintro e y1 ⟨rfl, b1⟩
            have E1 : Hid (Below wa.heap.size wa y1) := b1
            have D1 : Hid (Below wr.heap.size wr y1) := WA.out.trans (E1.out.mono WA.out.size)
            clear b1 c0 c1 c2 p0 p1 p2 p3 p4 p5 p6 r0 r1 r2 r3 r4 r5 r6 r7
            obtain ⟨⟨c0, c1, c2⟩, ⟨p0, p1, p2, p3, p4, p5, p6⟩, A1, _⟩ := HA.out y1 E1.out
            obtain ⟨⟨r0, r1, r2, r3, r4, r5, r6, r7⟩, RB⟩ := HP.out y1 A1
            have G1 : Hid (Below w.heap.size w y1) := RB
            have F1 : Hid (Below wb.heap.size wb y1) := A1
            clear A1 RB
            go_wp2_with fail
            refine (HC3.out _ D1.out).mono ?_
            rintro e y2 ⟨rfl, b2⟩
            have E2 : Hid (Below wa.heap.size wa y2) := E1.out.trans (b2.mono E1.out.size)
            have D2 : Hid (Below wr.heap.size wr y2) := WA.out.trans (E2.out.mono WA.out.size)
            clear b2 c0 c1 c2 p0 p1 p2 p3 p4 p5 p6 r0 r1 r2 r3 r4 r5 r6 r7
            obtain ⟨⟨c0, c1, c2⟩, ⟨p0, p1, p2, p3, p4, p5, p6⟩, A1, _⟩ := HA.out y2 E2.out
            obtain ⟨⟨r0, r1, r2, r3, r4, r5, r6, r7⟩, RB⟩ := HP.out y2 A1
            have G2 : Hid (Below w.heap.size w y2) := RB
            have F2 : Hid (Below wb.heap.size wb y2) := A1
            clear A1 RB
            go_wp2_with fail
            go_ret
            exact ⟨ret_b HF.out.symm, G2.out⟩
          | true =>
            have HU : Hid (∀ j s, j < k + 1 → r.ss[j]? = some s → SlotP r.n r.vw j s) := HY.out ⟨.inl H0.out, h2, h3⟩
            rw [h2] at HC2
            rw [h3] at HC3
            clear h2 h3
            go_wp2_with fail
            refine (HC2.out _ WA.out).mono ?_
            rintro e y1 ⟨rfl, b1⟩
            have E1 : Hid (Below wa.heap.size wa y1) := b1
            have D1 : Hid (Below wr.heap.size wr y1) := WA.out.trans (E1.out.mono WA.out.size)
            clear b1 c0 c1 c2 p0 p1 p2 p3 p4 p5 p6 r0 r1 r2 r3 r4 r5 r6 r7
            obtain ⟨⟨c0, c1, c2⟩, ⟨p0, p1, p2, p3, p4, p5, p6⟩, A1, _⟩ := HA.out y1 E1.out
            obtain ⟨⟨r0, r1, r2, r3, r4, r5, r6, r7⟩, RB⟩ := HP.out y1 A1
            have G1 : Hid (Below w.heap.size w y1) := RB
            have F1 : Hid (Below wb.heap.size wb y1) := A1
            clear A1 RB
            go_wp2_with fail
            refine (HC3.out _ D1.out).mono ?_
            rintro e y2 ⟨rfl, b2⟩
            have E2 : Hid (Below wa.heap.size wa y2) := E1.out.trans (b2.mono E1.out.size)
            have D2 : Hid (Below wr.heap.size wr y2) := WA.out.trans (E2.out.mono WA.out.size)
            clear b2 c0 c1 c2 p0 p1 p2 p3 p4 p5 p6 r0 r1 r2 r3 r4 r5 r6 r7
            obtain ⟨⟨c0, c1, c2⟩, ⟨p0, p1, p2, p3, p4, p5, p6⟩, A1, _⟩ := HA.out y2 E2.out
            obtain ⟨⟨r0, r1, r2, r3, r4, r5, r6, r7⟩, RB⟩ := HP.out y2 A1
            have G2 : Hid (Below w.heap.size w y2) := RB
            have F2 : Hid (Below wb.heap.size wb y2) := A1
            clear A1 RB
            go_wp2_with fail
            exact ⟨⟨k + 1, by omega, by go_num, ⟨HU.out, F2.out⟩⟩, by simp [intOf]; omega⟩
      · have q1 : (x.bd.toList == (⟨#[]⟩ : ByteArray).toList) = false := ne_list2 h0
        have q2 : (x.bd.toList != (⟨#[]⟩ : ByteArray).toList) = true := by show (!(x.bd.toList == (⟨#[]⟩ : ByteArray).toList)) = true; rw [q1]; rfl
        have q3 : (x.bd.toList == []) = false := by rw [← nil_list]; exact q1
        have q4 : (x.bd.toList != []) = true := by rw [← nil_list]; exact q2
        have H0 : Hid (¬ x.bd.size = 0) := h0
        clear h0
        cases h1 : bdP r.n x.bd with
        | false =>
          have HF : Hid (bb = false) := HN.out () fun hh => by rcases hh.1 with h | h; exact H0.out h; rw [h1] at h; cases h
          rw [h1] at HBO
          clear h1
          go_wp2_with fail
          refine (HBO.out _ WA.out).mono ?_
          rintro e y1 ⟨rfl, b1⟩
          have E1 : Hid (Below wa.heap.size wa y1) := b1
          have D1 : Hid (Below wr.heap.size wr y1) := WA.out.trans (E1.out.mono WA.out.size)
          clear b1 c0 c1 c2 p0 p1 p2 p3 p4 p5 p6 r0 r1 r2 r3 r4 r5 r6 r7
          obtain ⟨⟨c0, c1, c2⟩, ⟨p0, p1, p2, p3, p4, p5, p6⟩, A1, _⟩ := HA.out y1 E1.out
          obtain ⟨⟨r0, r1, r2, r3, r4, r5, r6, r7⟩, RB⟩ := HP.out y1 A1
          have G1 : Hid (Below w.heap.size w y1) := RB
          have F1 : Hid (Below wb.heap.size wb y1) := A1
          clear A1 RB
          go_wp2_with fail
          go_ret
          exact ⟨ret_b HF.out.symm, G1.out⟩
        | true =>
          have H1 : Hid (bdP r.n x.bd = true) := h1
          rw [h1] at HBO
          clear h1
          cases h2 : castB r.n 2 r.vw ((k : Int) + 1) x.ps with
          | false =>
            have HF : Hid (bb = false) := HN.out () fun hh => by have := hh.2.1; rw [h2] at this; cases this
            rw [h2] at HC2
            clear h2
            go_wp2_with fail
            refine (HBO.out _ WA.out).mono ?_
            rintro e y1 ⟨rfl, b1⟩
            have E1 : Hid (Below wa.heap.size wa y1) := b1
            have D1 : Hid (Below wr.heap.size wr y1) := WA.out.trans (E1.out.mono WA.out.size)
            clear b1 c0 c1 c2 p0 p1 p2 p3 p4 p5 p6 r0 r1 r2 r3 r4 r5 r6 r7
            obtain ⟨⟨c0, c1, c2⟩, ⟨p0, p1, p2, p3, p4, p5, p6⟩, A1, _⟩ := HA.out y1 E1.out
            obtain ⟨⟨r0, r1, r2, r3, r4, r5, r6, r7⟩, RB⟩ := HP.out y1 A1
            have G1 : Hid (Below w.heap.size w y1) := RB
            have F1 : Hid (Below wb.heap.size wb y1) := A1
            clear A1 RB
            go_wp2_with fail
            refine (HC2.out _ D1.out).mono ?_
            rintro e y2 ⟨rfl, b2⟩
            have E2 : Hid (Below wa.heap.size wa y2) := E1.out.trans (b2.mono E1.out.size)
            have D2 : Hid (Below wr.heap.size wr y2) := WA.out.trans (E2.out.mono WA.out.size)
            clear b2 c0 c1 c2 p0 p1 p2 p3 p4 p5 p6 r0 r1 r2 r3 r4 r5 r6 r7
            obtain ⟨⟨c0, c1, c2⟩, ⟨p0, p1, p2, p3, p4, p5, p6⟩, A1, _⟩ := HA.out y2 E2.out
            obtain ⟨⟨r0, r1, r2, r3, r4, r5, r6, r7⟩, RB⟩ := HP.out y2 A1
            have G2 : Hid (Below w.heap.size w y2) := RB
            have F2 : Hid (Below wb.heap.size wb y2) := A1
            clear A1 RB
            go_wp2_with fail
            go_ret
            exact ⟨ret_b HF.out.symm, G2.out⟩
          | true =>
            cases h3 : castB r.n 3 r.vw ((k : Int) + 1) x.cs with
            | false =>
              have HF : Hid (bb = false) := HN.out () fun hh => by have := hh.2.2; rw [h3] at this; cases this
              rw [h2] at HC2
              rw [h3] at HC3
              clear h2 h3
              go_wp2_with fail
              refine (HBO.out _ WA.out).mono ?_
              rintro e y1 ⟨rfl, b1⟩
              have E1 : Hid (Below wa.heap.size wa y1) := b1
              have D1 : Hid (Below wr.heap.size wr y1) := WA.out.trans (E1.out.mono WA.out.size)
              clear b1 c0 c1 c2 p0 p1 p2 p3 p4 p5 p6 r0 r1 r2 r3 r4 r5 r6 r7
              obtain ⟨⟨c0, c1, c2⟩, ⟨p0, p1, p2, p3, p4, p5, p6⟩, A1, _⟩ := HA.out y1 E1.out
              obtain ⟨⟨r0, r1, r2, r3, r4, r5, r6, r7⟩, RB⟩ := HP.out y1 A1
              have G1 : Hid (Below w.heap.size w y1) := RB
              have F1 : Hid (Below wb.heap.size wb y1) := A1
              clear A1 RB
              go_wp2_with fail
              refine (HC2.out _ D1.out).mono ?_
              rintro e y2 ⟨rfl, b2⟩
              have E2 : Hid (Below wa.heap.size wa y2) := E1.out.trans (b2.mono E1.out.size)
              have D2 : Hid (Below wr.heap.size wr y2) := WA.out.trans (E2.out.mono WA.out.size)
              clear b2 c0 c1 c2 p0 p1 p2 p3 p4 p5 p6 r0 r1 r2 r3 r4 r5 r6 r7
              obtain ⟨⟨c0, c1, c2⟩, ⟨p0, p1, p2, p3, p4, p5, p6⟩, A1, _⟩ := HA.out y2 E2.out
              obtain ⟨⟨r0, r1, r2, r3, r4, r5, r6, r7⟩, RB⟩ := HP.out y2 A1
              have G2 : Hid (Below w.heap.size w y2) := RB
              have F2 : Hid (Below wb.heap.size wb y2) := A1
              clear A1 RB
              go_wp2_with fail
              refine (HC3.out _ D2.out).mono ?_
              rintro e y3 ⟨rfl, b3⟩
              have E3 : Hid (Below wa.heap.size wa y3) := E2.out.trans (b3.mono E2.out.size)
              have D3 : Hid (Below wr.heap.size wr y3) := WA.out.trans (E3.out.mono WA.out.size)
              clear b3 c0 c1 c2 p0 p1 p2 p3 p4 p5 p6 r0 r1 r2 r3 r4 r5 r6 r7
              obtain ⟨⟨c0, c1, c2⟩, ⟨p0, p1, p2, p3, p4, p5, p6⟩, A1, _⟩ := HA.out y3 E3.out
              obtain ⟨⟨r0, r1, r2, r3, r4, r5, r6, r7⟩, RB⟩ := HP.out y3 A1
              have G3 : Hid (Below w.heap.size w y3) := RB
              have F3 : Hid (Below wb.heap.size wb y3) := A1
              clear A1 RB
              go_wp2_with fail
              go_ret
              exact ⟨ret_b HF.out.symm, G3.out⟩
            | true =>
              have HU : Hid (∀ j s, j < k + 1 → r.ss[j]? = some s → SlotP r.n r.vw j s) := HY.out ⟨.inr H1.out, h2, h3⟩
              rw [h2] at HC2
              rw [h3] at HC3
              clear h2 h3
              go_wp2_with fail
              refine (HBO.out _ WA.out).mono ?_
              rintro e y1 ⟨rfl, b1⟩
              have E1 : Hid (Below wa.heap.size wa y1) := b1
              have D1 : Hid (Below wr.heap.size wr y1) := WA.out.trans (E1.out.mono WA.out.size)
              clear b1 c0 c1 c2 p0 p1 p2 p3 p4 p5 p6 r0 r1 r2 r3 r4 r5 r6 r7
              obtain ⟨⟨c0, c1, c2⟩, ⟨p0, p1, p2, p3, p4, p5, p6⟩, A1, _⟩ := HA.out y1 E1.out
              obtain ⟨⟨r0, r1, r2, r3, r4, r5, r6, r7⟩, RB⟩ := HP.out y1 A1
              have G1 : Hid (Below w.heap.size w y1) := RB
              have F1 : Hid (Below wb.heap.size wb y1) := A1
              clear A1 RB
              go_wp2_with fail
              refine (HC2.out _ D1.out).mono ?_
              rintro e y2 ⟨rfl, b2⟩
              have E2 : Hid (Below wa.heap.size wa y2) := E1.out.trans (b2.mono E1.out.size)
              have D2 : Hid (Below wr.heap.size wr y2) := WA.out.trans (E2.out.mono WA.out.size)
              clear b2 c0 c1 c2 p0 p1 p2 p3 p4 p5 p6 r0 r1 r2 r3 r4 r5 r6 r7
              obtain ⟨⟨c0, c1, c2⟩, ⟨p0, p1, p2, p3, p4, p5, p6⟩, A1, _⟩ := HA.out y2 E2.out
              obtain ⟨⟨r0, r1, r2, r3, r4, r5, r6, r7⟩, RB⟩ := HP.out y2 A1
              have G2 : Hid (Below w.heap.size w y2) := RB
              have F2 : Hid (Below wb.heap.size wb y2) := A1
              clear A1 RB
              go_wp2_with fail
              refine (HC3.out _ D2.out).mono ?_
              rintro e y3 ⟨rfl, b3⟩
              have E3 : Hid (Below wa.heap.size wa y3) := E2.out.trans (b3.mono E2.out.size)
              have D3 : Hid (Below wr.heap.size wr y3) := WA.out.trans (E3.out.mono WA.out.size)
              clear b3 c0 c1 c2 p0 p1 p2 p3 p4 p5 p6 r0 r1 r2 r3 r4 r5 r6 r7
              obtain ⟨⟨c0, c1, c2⟩, ⟨p0, p1, p2, p3, p4, p5, p6⟩, A1, _⟩ := HA.out y3 E3.out
              obtain ⟨⟨r0, r1, r2, r3, r4, r5, r6, r7⟩, RB⟩ := HP.out y3 A1
              have G3 : Hid (Below w.heap.size w y3) := RB
              have F3 : Hid (Below wb.heap.size wb y3) := A1
              clear A1 RB
              go_wp2_with fail
              exact ⟨⟨k + 1, by omega, by go_num, ⟨HU.out, F3.out⟩⟩, by simp [intOf]; omega⟩
    · obtain rfl : k = r.ss.length := by omega
      have HT : Hid (bb = true) := by show _ = _; rw [← HBB.out]; exact bOf_true HZ.out.1
      have G0 : Hid (Below w.heap.size w wr) := (HP.out _ HZ.out.2).2
      go_wp2_with fail
      go_ret
      exact ⟨ret_b HT.out.symm, G0.out⟩
end Go.Proofs.YtondmbeccpekiaaGreatDoor.Yr
