/- Texts put together: Yk. -/
import Derived.Test.YtondmbeccpekiaaGreatDoorH42
import Derived.Test.YtondmbeccpekiaaGreatDoorH41
/- Right replicas: the specification's ReplicaOK. -/
namespace Go.Proofs.YtondmbeccpekiaaGreatDoor.Yr
open Go.RowKit Go.Proofs.YtondmbeccpekiaaGreatDoor.Rg Go.Proofs.YtondmbeccpekiaaGreatDoor.Gm Go.Proofs.YtondmbeccpekiaaGreatDoor.Ty Go.Proofs.YtondmbeccpekiaaGreatDoor.Tm Go.Proofs.YtondmbeccpekiaaGreatDoor.Sh
open Go.Proofs.YtondmbeccpekiaaGreatDoor.Vt (bOf bOf_true bOf_false bOf_iff bOf_eq sg sg_from frn msk msk_step or_add pow_le7 Rise crtB CertP crt_q q_pos allBelow_any with_any implCertOK_any ballotOf_any l06Cert_any)
open Go.Proofs.YtondmbeccpekiaaGreatDoor.Bw (bdP bdB implBodyOK_any l06Body_any)
open Go.Proofs.YtondmbeccpekiaaGreatDoor.Bd (dOut)
open Go.Proofs.YtondmbeccpekiaaGreatDoor.Wc (cfB vcC vcL cfL implViewCerts_any l06Certs_any OwnC)
open Go.Proofs.YtondmbeccpekiaaGreatDoor.Qm (qOut inB)

theorem bdP_big {n : Int} {s : ByteArray} (h : ¬ s.size ≤ 20000) : bdP n s = false := by unfold bdP; rw [decide_eq_false h]; rfl
theorem bdP_small {n : Int} {s : ByteArray} (h : s.size ≤ 20000) : bdP n s = bdB n s := by unfold bdP; rw [decide_eq_true h]; rfl
def OneG (n vw v0 : Int) (ch : List Mg) (j : Nat) (x : Mg) : Prop := ChgP n vw v0 x ∧ ∀ m y, j = m + 1 → ch[m]? = some y → y.fr < x.fr
def AllG (n vw : Int) (ch : List Mg) (k : Nat) : Prop := ∀ j x, j < k → ch[j]? = some x → ∀ y0, ch[0]? = some y0 → OneG n vw y0.vw ch j x
theorem chG_no {n vw : Int} {ch : List Mg} {j : Nat} {x y0 : Mg} (hx : ch[j]? = some x) (h0 : ch[0]? = some y0) (h : ¬ OneG n vw y0.vw ch j x) : chB n vw ch = false := bOf_false fun ⟨h1, h2⟩ => by
  refine h ⟨h1 x (mem_at hx) y0 h0, fun m y e hy => ?_⟩
  subst e
  exact h2 m y x (lt_at hx) hy hx
theorem chG_yes {n vw : Int} {ch : List Mg} (h : AllG n vw ch ch.length) : chB n vw ch = true :=
  bOf_true ⟨all_of fun j x hj hx y0 hy0 => (h j x hj hx y0 hy0).1, fun j x y hj hx hy => by
    obtain ⟨y0, hy0⟩ := Rg.get_at (xs := ch) (k := 0) (by omega)
    exact (h (j + 1) y hj hy y0 hy0).2 j x rfl hx⟩
set_option maxRecDepth 100000 in
set_option maxHeartbeats 20000000 in
theorem specReplicaOK_any (r : Rp) (vs vc vl vh : Value) (w : World) (h : RepR w r vs vc vl vh) (hz : Zr 1048576 r) :
    Calls Tryz.prog 28 #[.agg #[.int .i64 r.id, .int .i64 r.n, .int .i64 r.vw, .bool r.ac, vs, vc, vl, vh]] w fun e w' => e = .returned (.bool (repB r)) ∧ Below w.heap.size w w' := by
  have HR : Hid (RepR w r vs vc vl vh) := h
  have HZ0 : Hid (Zr 1048576 r) := hz
  obtain ⟨ax, ks, rfl⟩ := RowG.slice h.s
  obtain ⟨ac, kc, rfl⟩ := RowG.slice h.c
  obtain ⟨al, kl, rfl, _⟩ := h.l
  obtain ⟨ah, kh, rfl⟩ := RowG.slice h.h
  have HP : Hid (∀ W, Below (w.alloc (.cells #[.int .i64 r.id, .int .i64 r.n, .int .i64 r.vw, .bool r.ac, .slice ax r.ss.length ks, .slice ac r.cs.length kc, .slice al r.lg.length kl, .slice ah r.ch.length kh] 55)).heap.size (w.alloc (.cells #[.int .i64 r.id, .int .i64 r.n, .int .i64 r.vw, .bool r.ac, .slice ax r.ss.length ks, .slice ac r.cs.length kc, .slice al r.lg.length kl, .slice ah r.ch.length kh] 55)) W → (W.cell? ⟨w.heap.size, 0, none⟩ = some (.int .i64 r.id) ∧ W.cell? ⟨w.heap.size, 1, none⟩ = some (.int .i64 r.n) ∧ W.cell? ⟨w.heap.size, 2, none⟩ = some (.int .i64 r.vw) ∧ W.cell? ⟨w.heap.size, 3, none⟩ = some (.bool r.ac) ∧ W.cell? ⟨w.heap.size, 4, none⟩ = some (.slice ax r.ss.length ks) ∧ W.cell? ⟨w.heap.size, 5, none⟩ = some (.slice ac r.cs.length kc) ∧ W.cell? ⟨w.heap.size, 6, none⟩ = some (.slice al r.lg.length kl) ∧ W.cell? ⟨w.heap.size, 7, none⟩ = some (.slice ah r.ch.length kh)) ∧ Below w.heap.size w W) := fun W hW => by
    have h1 := (hW.block w.heap.size (by simp)).trans (heap_alloc_new w _)
    exact ⟨⟨(blk_cell h1 0 rfl).1, (blk_cell h1 1 rfl).1, (blk_cell h1 2 rfl).1, (blk_cell h1 3 rfl).1, (blk_cell h1 4 rfl).1, (blk_cell h1 5 rfl).1, (blk_cell h1 6 rfl).1, (blk_cell h1 7 rfl).1⟩, (bel_new w _).trans (hW.mono (by simp))⟩
  clear h hz
  obtain ⟨bb, HBB⟩ : ∃ bb, Hid (repB r = bb) := ⟨_, rfl⟩
  rw [HBB.out]
  have HN : Hid (∀ _ : Unit, ¬ RepP r → bb = false) := fun _ hh => by rw [← HBB.out]; exact bOf_false hh
  have HNO : Hid (∀ W, Calls Tryz.prog 26 #[.int .i64 r.n] W fun e w' => e = .returned (.bool (decide (fCode r.n = 0))) ∧ W = w') := fun W => Qm.l04Nodes_any r.n W
  have HID : Hid (∀ W, Calls Tryz.prog 29 #[.int .i64 r.id, .int .i64 0, .int .i64 (r.n - 1)] W fun e w' => e = .returned (.bool (inB r.id 0 (r.n - 1))) ∧ W = w') := fun W => Qm.l01In_any r.id 0 (r.n - 1) W
  have HWI : Hid (∀ W, Calls Tryz.prog 29 #[.int .i64 r.vw, .int .i64 0, .int .i64 20] W fun e w' => e = .returned (.bool (inB r.vw 0 20)) ∧ W = w') := fun W => Qm.l01In_any r.vw 0 20 W
  go_enter Tryz.func28, Tryz.ntmps28
  go_upto_region 1 with fail
  generalize w.alloc (.cells #[.int .i64 r.id, .int .i64 r.n, .int .i64 r.vw, .bool r.ac, .slice ax r.ss.length ks, .slice ac r.cs.length kc, .slice al r.lg.length kl, .slice ah r.ch.length kh] 55) = wb at HP ⊢
  obtain ⟨⟨r0, r1, r2, r3, r4, r5, r6, r7⟩, RB⟩ := HP.out wb (Below.refl _ _)
  have G0 : Hid (Below w.heap.size w wb) := RB
  clear RB
  by_cases hf : fCode r.n = 0
  rotate_left
  · have HF : Hid (bb = false) := HN.out () fun hh => hf hh.1.1
    rw [decide_eq_false hf] at HNO
    clear hf
    go_wp2_with fail
    refine (HNO.out _).mono ?_
    rintro e _ ⟨rfl, rfl⟩
    go_wp2_with fail
    go_ret
    exact ⟨ret_b HF.out.symm, G0.out⟩
  rw [decide_eq_true hf] at HNO
  have HF0 : Hid (fCode r.n = 0) := hf
  have hn7 := f_small hf
  clear hf
  cases h1 : inB r.id 0 (r.n - 1) with
  | false =>
    have HF : Hid (bb = false) := HN.out () fun hh => by have := inB_iff.2 hh.1.2; rw [h1] at this; cases this
    rw [h1] at HID
    clear h1
    go_wp2_with fail
    refine (HNO.out _).mono ?_
    rintro e _ ⟨rfl, rfl⟩
    go_wp2_with fail
    refine (HID.out _).mono ?_
    rintro e _ ⟨rfl, rfl⟩
    go_wp2_with fail
    go_ret
    exact ⟨ret_b HF.out.symm, G0.out⟩
  | true =>
    have Ah1 : Hid (inB r.id 0 (r.n - 1) = true) := h1
    rw [h1] at HID
    clear h1
    cases h2 : inB r.vw 0 20 with
    | false =>
      have HF : Hid (bb = false) := HN.out () fun hh => by have := inB_iff.2 hh.2.1; rw [h2] at this; cases this
      rw [h2] at HWI
      clear h2
      go_wp2_with fail
      refine (HNO.out _).mono ?_
      rintro e _ ⟨rfl, rfl⟩
      go_wp2_with fail
      refine (HID.out _).mono ?_
      rintro e _ ⟨rfl, rfl⟩
      go_wp2_with fail
      refine (HWI.out _).mono ?_
      rintro e _ ⟨rfl, rfl⟩
      go_wp2_with fail
      go_ret
      exact ⟨ret_b HF.out.symm, G0.out⟩
    | true =>
      have Ah2 : Hid (inB r.vw 0 20 = true) := h2
      rw [h2] at HWI
      clear h2
      by_cases h3 : r.ss.length = 8
      rotate_left
      · have HF : Hid (bb = false) := HN.out () fun hh => h3 hh.2.2.1.1
        have h3a : ((r.ss.length : Int) != 8) = true := by simpa using (by omega : ¬ (r.ss.length : Int) = 8)
        have h3b : (r.ss.length != 8) = true := by simpa using h3
        clear h3
        go_wp2_with fail
        refine (HNO.out _).mono ?_
        rintro e _ ⟨rfl, rfl⟩
        go_wp2_with fail
        refine (HID.out _).mono ?_
        rintro e _ ⟨rfl, rfl⟩
        go_wp2_with fail
        refine (HWI.out _).mono ?_
        rintro e _ ⟨rfl, rfl⟩
        go_wp2_with fail
        go_ret
        exact ⟨ret_b HF.out.symm, G0.out⟩
      have Ah3 : Hid (r.ss.length = 8) := h3
      have h3a : ((r.ss.length : Int) != 8) = false := by simpa using (by omega : (r.ss.length : Int) = 8)
      have h3b : (r.ss.length != 8) = false := by simpa using h3
      clear h3
      by_cases h5 : r.cs.length = 8
      rotate_left
      · have HF : Hid (bb = false) := HN.out () fun hh => h5 hh.2.2.2.1.1
        have h5a : ((r.cs.length : Int) != 8) = true := by simpa using (by omega : ¬ (r.cs.length : Int) = 8)
        have h5b : (r.cs.length != 8) = true := by simpa using h5
        clear h5
        go_wp2_with fail
        refine (HNO.out _).mono ?_
        rintro e _ ⟨rfl, rfl⟩
        go_wp2_with fail
        refine (HID.out _).mono ?_
        rintro e _ ⟨rfl, rfl⟩
        go_wp2_with fail
        refine (HWI.out _).mono ?_
        rintro e _ ⟨rfl, rfl⟩
        go_wp2_with fail
        go_ret
        exact ⟨ret_b HF.out.symm, G0.out⟩
      have Ah5 : Hid (r.cs.length = 8) := h5
      have h5a : ((r.cs.length : Int) != 8) = false := by simpa using (by omega : (r.cs.length : Int) = 8)
      have h5b : (r.cs.length != 8) = false := by simpa using h5
      clear h5
      by_cases h7 : r.lg.length ≤ 8
      rotate_left
      · have HF : Hid (bb = false) := HN.out () fun hh => h7 hh.2.2.2.2.1.1
        have h7a : (8 : Int) < (r.lg.length : Int) := by omega
        go_wp2_with fail
        refine (HNO.out _).mono ?_
        rintro e _ ⟨rfl, rfl⟩
        go_wp2_with fail
        refine (HID.out _).mono ?_
        rintro e _ ⟨rfl, rfl⟩
        go_wp2_with fail
        refine (HWI.out _).mono ?_
        rintro e _ ⟨rfl, rfl⟩
        go_wp2_with fail
        go_ret
        exact ⟨ret_b HF.out.symm, G0.out⟩
      have h7a : ¬ (8 : Int) < (r.lg.length : Int) := by omega
      by_cases h8 : (r.ch.length : Int) ≤ r.n
      rotate_left
      · have HF : Hid (bb = false) := HN.out () fun hh => h8 (ch_few hh)
        have h8a : r.n < (r.ch.length : Int) := by omega
        go_wp2_with fail
        refine (HNO.out _).mono ?_
        rintro e _ ⟨rfl, rfl⟩
        go_wp2_with fail
        refine (HID.out _).mono ?_
        rintro e _ ⟨rfl, rfl⟩
        go_wp2_with fail
        refine (HWI.out _).mono ?_
        rintro e _ ⟨rfl, rfl⟩
        go_wp2_with fail
        go_ret
        exact ⟨ret_b HF.out.symm, G0.out⟩
      have h8a : ¬ r.n < (r.ch.length : Int) := by omega
      go_wp2_with fail
      refine (HNO.out _).mono ?_
      rintro e _ ⟨rfl, rfl⟩
      go_wp2_with fail
      refine (HID.out _).mono ?_
      rintro e _ ⟨rfl, rfl⟩
      go_wp2_with fail
      refine (HWI.out _).mono ?_
      rintro e _ ⟨rfl, rfl⟩
      go_wp2_with fail
      clear HNO HID HWI r0 r1 r2 r3 r4 r5 r6 r7 h3a h3b h5a h5b
      go_loopw [3] (fun i wr => ∃ k : Nat, k ≤ 8 ∧ i = .int .i64 k ∧ Hid ((∀ j s, j < k → r.ss[j]? = some s → SlotP r.n r.vw j s) ∧ (∀ j c, j < k → r.cs[j]? = some c → PlaceP r.n r.vw j c) ∧ Below wb.heap.size wb wr)) (fun i _ => 8 - (intOf i).toNat)
      case atStart => exact ⟨0, by omega, rfl, ⟨fun j x hj => by omega, fun j x hj => by omega, Below.refl _ _⟩⟩
      case round =>
        obtain ⟨k, hk, rfl, HZ⟩ := hrel
        by_cases hlt : k < 8
        · obtain ⟨x, hx⟩ := Rg.get_at (xs := r.ss) (k := k) (by have := Ah3.out; omega)
          obtain ⟨c, hcx⟩ := Rg.get_at (xs := r.cs) (k := k) (by have := Ah5.out; omega)
          have WR : Below w.heap.size w wr := (HP.out _ HZ.out.2.2).2
          obtain ⟨b, off, rfl, hbl, u1, u2, c0, c1, c2, c3, c4, s1, s2⟩ := RowG.at (HR.out.s.below WR) rfl hx
          obtain ⟨a1, k1, rfl⟩ := RowG.slice s1
          obtain ⟨a2, k2, rfl⟩ := RowG.slice s2
          obtain ⟨b2, off2, rfl, hbl2, u3, d0, d1, s3⟩ := RowG.at (HR.out.c.below WR) rfl hcx
          obtain ⟨a3, k3, rfl⟩ := RowG.slice s3
          have hzx := HZ0.out.sz x (mem_at hx)
          have hzc := HZ0.out.cz c (mem_at hcx)
          have HX : Hid (r.ss[k]? = some x ∧ r.cs[k]? = some c) := ⟨hx, hcx⟩
          have HD : Hid (∀ W, Below wr.heap.size wr W → W.cell? ⟨b2, off2 + k * 2, none⟩ = some (.string c.bd) ∧ W.cell? ⟨b2, off2 + k * 2 + 1, none⟩ = some (.slice a3 c.ms.length k3) ∧ Row W (.slice a3 c.ms.length k3) c.ms) := fun W hW => ⟨(hW.cell (p := ⟨b2, _, none⟩) hbl2).trans d0, (hW.cell (p := ⟨b2, _, none⟩) hbl2).trans d1, s3.below hW⟩
          have HM : Hid (∀ W, Below (wr.alloc (.cells #[.string x.bd, .slice a1 x.ps.length k1, .slice a2 x.cs.length k2, .bool x.st, .bool x.dn] 100)).heap.size (wr.alloc (.cells #[.string x.bd, .slice a1 x.ps.length k1, .slice a2 x.cs.length k2, .bool x.st, .bool x.dn] 100)) W → (W.cell? ⟨wr.heap.size, 0, none⟩ = some (.string x.bd) ∧ W.cell? ⟨wr.heap.size, 1, none⟩ = some (.slice a1 x.ps.length k1) ∧ W.cell? ⟨wr.heap.size, 2, none⟩ = some (.slice a2 x.cs.length k2)) ∧ Below wb.heap.size wb W ∧ Below wr.heap.size wr W) := fun W hW => by
            have h1 := (hW.block wr.heap.size (by simp)).trans (heap_alloc_new wr _)
            have h3 := (bel_new wr _).trans (hW.mono (by simp))
            exact ⟨⟨(blk_cell h1 0 rfl).1, (blk_cell h1 1 rfl).1, (blk_cell h1 2 rfl).1⟩, HZ.out.2.2.trans (h3.mono HZ.out.2.2.size), h3⟩
          have HBO : Hid (x.bd.size ≤ 20000 → ∀ W, Below wr.heap.size wr W → Calls Tryz.prog 62 #[.int .i64 r.n, .string x.bd] W fun e w' => e = .returned (.bool (bdP r.n x.bd)) ∧ Below W.heap.size W w') := fun hs W _ => by
            rw [bdP_small hs]
            exact l06Body_any r.n x.bd W HF0.out hs
          have HC2 : Hid (∀ W, Below wr.heap.size wr W → Calls Tryz.prog 63 #[.agg #[.int .i64 r.id, .int .i64 r.n, .int .i64 r.vw, .bool r.ac, .slice (some ⟨b, off, none⟩) r.ss.length ks, .slice (some ⟨b2, off2, none⟩) r.cs.length kc, .slice al r.lg.length kl, .slice ah r.ch.length kh], .slice a1 x.ps.length k1, .int .i64 2, .int .i64 ((k : Int) + 1)] W fun e w' => e = .returned (.bool (castB r.n 2 r.vw ((k : Int) + 1) x.ps)) ∧ Below W.heap.size W w') := fun W hW => l07Votes_any r _ _ _ _ 2 ((k : Int) + 1) _ x.ps W (HR.out.below (WR.trans (hW.mono WR.size))) HF0.out (s1.below hW) hzx.2.1.1
          have HC3 : Hid (∀ W, Below wr.heap.size wr W → Calls Tryz.prog 63 #[.agg #[.int .i64 r.id, .int .i64 r.n, .int .i64 r.vw, .bool r.ac, .slice (some ⟨b, off, none⟩) r.ss.length ks, .slice (some ⟨b2, off2, none⟩) r.cs.length kc, .slice al r.lg.length kl, .slice ah r.ch.length kh], .slice a2 x.cs.length k2, .int .i64 3, .int .i64 ((k : Int) + 1)] W fun e w' => e = .returned (.bool (castB r.n 3 r.vw ((k : Int) + 1) x.cs)) ∧ Below W.heap.size W w') := fun W hW => l07Votes_any r _ _ _ _ 3 ((k : Int) + 1) _ x.cs W (HR.out.below (WR.trans (hW.mono WR.size))) HF0.out (s2.below hW) hzx.2.2.1
          have HLC : Hid (∀ W, Below wr.heap.size wr W → Calls Tryz.prog 64 #[.int .i64 r.n, .agg #[.string c.bd, .slice a3 c.ms.length k3]] W fun e w' => e = .returned (.bool (crtB r.n c.bd c.ms)) ∧ Below W.heap.size W w') := fun W hW => l06Cert_any r.n c.bd _ c.ms W HF0.out (s3.below hW) hzc.2.1
          have HNS : Hid (∀ _ : Unit, ¬ SlotP r.n r.vw k x → bb = false) := fun _ hh => HN.out () fun hr => hh (hr.2.2.1.2 k x hlt HX.out.1)
          have HNP : Hid (∀ _ : Unit, ¬ PlaceP r.n r.vw k c → bb = false) := fun _ hh => HN.out () fun hr => hh (hr.2.2.2.1.2 k c hlt HX.out.2)
          have HYS : Hid (SlotP r.n r.vw k x → ∀ j s, j < k + 1 → r.ss[j]? = some s → SlotP r.n r.vw j s) := fun hh => upto_succ HZ.out.1 HX.out.1 hh
          have HYP : Hid (PlaceP r.n r.vw k c → ∀ j s, j < k + 1 → r.cs[j]? = some s → PlaceP r.n r.vw j s) := fun hh => upto_succ HZ.out.2.1 HX.out.2 hh
          obtain ⟨⟨r0, r1, r2, r3, r4, r5, r6, r7⟩, RB⟩ := HP.out wr HZ.out.2.2
          have hp0 : (0 : Int) ≤ (k : Int) := by omega
          have hp1 : (k : Int) < (r.ss.length : Int) := by have := Ah3.out; omega
          have hp2 : (k : Int) < (r.cs.length : Int) := by have := Ah5.out; omega
          have hw1 : IntKind.i64.wrap ((k : Int) + 1) = (k : Int) + 1 := by rw [IntKind.wrap_i64]; omega
          clear hx hcx s1 s2 s3 hzx hzc WR RB d0 d1
          go_upto_region 7 with fail
          generalize wr.alloc (.cells #[.string x.bd, .slice a1 x.ps.length k1, .slice a2 x.cs.length k2, .bool x.st, .bool x.dn] 100) = wa at HM ⊢
          clear c0 c1 c2 c3 c4 r0 r1 r2 r3 r4 r5 r6 r7
          obtain ⟨⟨c0, c1, c2⟩, A1, A2⟩ := HM.out wa (Below.refl _ _)
          obtain ⟨⟨r0, r1, r2, r3, r4, r5, r6, r7⟩, RB⟩ := HP.out wa A1
          have D0 : Hid (Below wr.heap.size wr wa) := A2
          have E0 : Hid (Below wa.heap.size wa wa) := Below.refl _ _
          have Y0 : Hid (Below w.heap.size w wa) := RB
          have F0 : Hid (Below wb.heap.size wb wa) := A1
          clear A1 A2 RB
          by_cases hbig : x.bd.size ≤ 20000
          rotate_left
          · have hbig1 : (20000 : Int) < (x.bd.size : Int) := by omega
            have HF : Hid (bb = false) := HNS.out () fun hh => by
              rcases hh.1 with h | h
              · omega
              · rw [bdP_big hbig] at h; cases h
            go_wp2_with fail
            go_ret
            exact ⟨ret_b HF.out.symm, Y0.out⟩
          have hbig1 : ¬ (20000 : Int) < (x.bd.size : Int) := by omega
          have HBO2 := HBO.out hbig
          have HBO3 : Hid (∀ W, Below wr.heap.size wr W → Calls Tryz.prog 62 #[.int .i64 r.n, .string x.bd] W fun e w' => e = .returned (.bool (bdP r.n x.bd)) ∧ Below W.heap.size W w') := HBO2
          clear HBO HBO2 hbig
          by_cases h0 : x.bd.size = 0
          · have q1 : (x.bd.toList == []) = true := by rw [empty_of h0, nil_list]; rfl
            have q2 : (x.bd.toList != []) = false := by rw [empty_of h0, nil_list]; rfl
            have H0 : Hid (x.bd.size = 0 ∨ bdP r.n x.bd = true) := .inl h0
            clear h0
            cases h2 : castB r.n 2 r.vw ((k : Int) + 1) x.ps with
            | false =>
              have HF : Hid (bb = false) := HNS.out () fun hh => by have := hh.2.1; rw [h2] at this; cases this
              rw [h2] at HC2
              clear h2
              go_wp2_with fail
              refine (HC2.out _ D0.out).mono ?_
              rintro e y1 ⟨rfl, b1⟩
              have E1 : Hid (Below wa.heap.size wa y1) := E0.out.trans (b1.mono E0.out.size)
              have D1 : Hid (Below wr.heap.size wr y1) := D0.out.trans (E1.out.mono D0.out.size)
              clear b1 c0 c1 c2 r0 r1 r2 r3 r4 r5 r6 r7
              obtain ⟨⟨c0, c1, c2⟩, A1, _⟩ := HM.out y1 E1.out
              obtain ⟨⟨r0, r1, r2, r3, r4, r5, r6, r7⟩, RB⟩ := HP.out y1 A1
              have Y1 : Hid (Below w.heap.size w y1) := RB
              have F1 : Hid (Below wb.heap.size wb y1) := A1
              clear A1 RB
              go_wp2_with fail
              go_ret
              exact ⟨ret_b HF.out.symm, Y1.out⟩
            | true =>
              cases h3 : castB r.n 3 r.vw ((k : Int) + 1) x.cs with
              | false =>
                have HF : Hid (bb = false) := HNS.out () fun hh => by have := hh.2.2; rw [h3] at this; cases this
                rw [h2] at HC2
                rw [h3] at HC3
                clear h2 h3
                go_wp2_with fail
                refine (HC2.out _ D0.out).mono ?_
                rintro e y1 ⟨rfl, b1⟩
                have E1 : Hid (Below wa.heap.size wa y1) := E0.out.trans (b1.mono E0.out.size)
                have D1 : Hid (Below wr.heap.size wr y1) := D0.out.trans (E1.out.mono D0.out.size)
                clear b1 c0 c1 c2 r0 r1 r2 r3 r4 r5 r6 r7
                obtain ⟨⟨c0, c1, c2⟩, A1, _⟩ := HM.out y1 E1.out
                obtain ⟨⟨r0, r1, r2, r3, r4, r5, r6, r7⟩, RB⟩ := HP.out y1 A1
                have Y1 : Hid (Below w.heap.size w y1) := RB
                have F1 : Hid (Below wb.heap.size wb y1) := A1
                clear A1 RB
                go_wp2_with fail
                refine (HC3.out _ D1.out).mono ?_
                rintro e y2 ⟨rfl, b2⟩
                have E2 : Hid (Below wa.heap.size wa y2) := E1.out.trans (b2.mono E1.out.size)
                have D2 : Hid (Below wr.heap.size wr y2) := D0.out.trans (E2.out.mono D0.out.size)
                clear b2 c0 c1 c2 r0 r1 r2 r3 r4 r5 r6 r7
                obtain ⟨⟨c0, c1, c2⟩, A1, _⟩ := HM.out y2 E2.out
                obtain ⟨⟨r0, r1, r2, r3, r4, r5, r6, r7⟩, RB⟩ := HP.out y2 A1
                have Y2 : Hid (Below w.heap.size w y2) := RB
                have F2 : Hid (Below wb.heap.size wb y2) := A1
                clear A1 RB
                go_wp2_with fail
                go_ret
                exact ⟨ret_b HF.out.symm, Y2.out⟩
              | true =>
                have HUS : Hid (∀ j s, j < k + 1 → r.ss[j]? = some s → SlotP r.n r.vw j s) := HYS.out ⟨H0.out, h2, h3⟩
                rw [h2] at HC2
                rw [h3] at HC3
                clear h2 h3
                go_wp2_with fail
                refine (HC2.out _ D0.out).mono ?_
                rintro e y1 ⟨rfl, b1⟩
                have E1 : Hid (Below wa.heap.size wa y1) := E0.out.trans (b1.mono E0.out.size)
                have D1 : Hid (Below wr.heap.size wr y1) := D0.out.trans (E1.out.mono D0.out.size)
                clear b1 c0 c1 c2 r0 r1 r2 r3 r4 r5 r6 r7
                obtain ⟨⟨c0, c1, c2⟩, A1, _⟩ := HM.out y1 E1.out
                obtain ⟨⟨r0, r1, r2, r3, r4, r5, r6, r7⟩, RB⟩ := HP.out y1 A1
                have Y1 : Hid (Below w.heap.size w y1) := RB
                have F1 : Hid (Below wb.heap.size wb y1) := A1
                clear A1 RB
                go_wp2_with fail
                refine (HC3.out _ D1.out).mono ?_
                rintro e y2 ⟨rfl, b2⟩
                have E2 : Hid (Below wa.heap.size wa y2) := E1.out.trans (b2.mono E1.out.size)
                have D2 : Hid (Below wr.heap.size wr y2) := D0.out.trans (E2.out.mono D0.out.size)
                clear b2 c0 c1 c2 r0 r1 r2 r3 r4 r5 r6 r7
                obtain ⟨⟨c0, c1, c2⟩, A1, _⟩ := HM.out y2 E2.out
                obtain ⟨⟨r0, r1, r2, r3, r4, r5, r6, r7⟩, RB⟩ := HP.out y2 A1
                have Y2 : Hid (Below w.heap.size w y2) := RB
                have F2 : Hid (Below wb.heap.size wb y2) := A1
                clear A1 RB
                obtain ⟨d0, d1, s3⟩ := HD.out y2 D2.out
                have HQ : Hid (∀ W, Below (y2.alloc (.cells #[.string c.bd, .slice a3 c.ms.length k3] 87)).heap.size (y2.alloc (.cells #[.string c.bd, .slice a3 c.ms.length k3] 87)) W → (W.cell? ⟨y2.heap.size, 0, none⟩ = some (.string c.bd) ∧ W.cell? ⟨y2.heap.size, 1, none⟩ = some (.slice a3 c.ms.length k3)) ∧ Below wb.heap.size wb W ∧ Below wr.heap.size wr W) := fun W hW => by
                  have h1 := (hW.block y2.heap.size (by simp)).trans (heap_alloc_new y2 _)
                  have h3 := (bel_new y2 _).trans (hW.mono (by simp))
                  exact ⟨⟨(blk_cell h1 0 rfl).1, (blk_cell h1 1 rfl).1⟩, F2.out.trans (h3.mono F2.out.size), D2.out.trans (h3.mono D2.out.size)⟩
                go_upto_region 10 with fail
                generalize y2.alloc (.cells #[.string c.bd, .slice a3 c.ms.length k3] 87) = wc at HQ ⊢
                clear d0 d1 s3 c0 c1 c2 r0 r1 r2 r3 r4 r5 r6 r7
                obtain ⟨⟨c0, c1⟩, A1, A2⟩ := HQ.out wc (Below.refl _ _)
                obtain ⟨⟨r0, r1, r2, r3, r4, r5, r6, r7⟩, RB⟩ := HP.out wc A1
                have F9 : Hid (Below wb.heap.size wb wc) := A1
                have G9 : Hid (Below w.heap.size w wc) := RB
                have D9 : Hid (Below wr.heap.size wr wc) := A2
                clear A1 A2 RB
                by_cases hm0 : c.ms.length = 0
                · have m1 : ((c.ms.length : Int) == 0) = true := by simpa using (by omega : (c.ms.length : Int) = 0)
                  have m2 : (c.ms.length == 0) = true := by simpa using hm0
                  have HM0 : Hid (c.ms = []) := List.length_eq_zero_iff.1 hm0
                  clear hm0
                  by_cases h9 : c.bd.size = 0
                  · have HU : Hid (∀ j s, j < k + 1 → r.cs[j]? = some s → PlaceP r.n r.vw j s) := HYP.out (.inl ⟨h9, HM0.out⟩)
                    have t1 : (c.bd.toList == []) = true := by rw [empty_of h9, nil_list]; rfl
                    have t2 : (c.bd.toList != []) = false := by rw [empty_of h9, nil_list]; rfl
                    clear h9
                    go_wp2_with fail
                    exact ⟨⟨k + 1, by omega, by go_num, ⟨HUS.out, HU.out, F9.out⟩⟩, by simp [intOf]; omega⟩
                  · have HF : Hid (bb = false) := HNP.out () fun hh => by
                      rcases hh with h | ⟨h, _⟩
                      · exact h9 h.1
                      · rw [HM0.out, crt_nil] at h; cases h
                    have t1 : (c.bd.toList == []) = false := ne_list h9
                    have t2 : (c.bd.toList != []) = true := by show (!(c.bd.toList == [])) = true; rw [t1]; rfl
                    clear h9
                    go_wp2_with fail
                    go_ret
                    exact ⟨ret_b HF.out.symm, G9.out⟩
                · have m1 : ((c.ms.length : Int) == 0) = false := by simpa using (by omega : ¬ (c.ms.length : Int) = 0)
                  have m2 : (c.ms.length == 0) = false := by simpa using hm0
                  have ml : (0 : Int) < (c.ms.length : Int) := by omega
                  have HMN : Hid (¬ c.ms = []) := fun hh => hm0 (by rw [hh]; rfl)
                  obtain ⟨y, hy⟩ := Rg.get_at (xs := c.ms) (k := 0) (by omega)
                  have HYY : Hid (c.ms[0]? = some y) := hy
                  obtain ⟨b5, off5, rfl, hb5, z0, z1, z2, _⟩ := RowG.at ((HD.out wc D9.out).2.2) rfl hy
                  clear hm0 hy z0
                  go_upto_region 13 with fail
                  obtain ⟨X, hX, W, QI0, QO0⟩ := Qc.klass wc
                  have QI : Hid (∀ w', Below wc.heap.size wc w' → ∃ x, w' = W x) := QI0
                  have QO : Hid (∀ x, Below wc.heap.size wc (W x)) := QO0
                  clear QI0 QO0
                  have q0 := Qc.cell_all QO.out c0
                  have qa := Qc.cell_all QO.out c1
                  have qb := Qc.cell_all QO.out z1
                  have qc := Qc.cell_all QO.out z2
                  have qd := Qc.cell_all QO.out r1
                  have qe := Qc.cell_all QO.out r2
                  have HLW : Hid (∀ x, Below wr.heap.size wr (W x)) := fun x => D9.out.trans ((QO.out x).mono D9.out.size)
                  clear c0 c1 z1 z2 r0 r1 r2 r3 r4 r5 r6 r7
                  cases hcr : crtB r.n c.bd c.ms with
                  | false =>
                    have HF : Hid (bb = false) := HNP.out () fun hh => by
                      rcases hh with h | ⟨h, _⟩
                      · exact HMN.out h.2
                      · rw [hcr] at h; cases h
                    rw [hcr] at HLC
                    clear hcr
                    refine Qc.region_class (W := W) (by kernel_rfl) (by kernel_rfl) (QI.out _ Qc.from_drew) ?_
                    repeat (go_big_quiet_step (first | (go_at_call 64; refine (HLC.out _ (HLW.out _)).mono ?_; rintro e w2 ⟨rfl, b2⟩; exact ⟨rfl, Qc.back QI.out QO.out b2⟩)))
                    refine wpQuiet_nil ?_
                    rintro _ ⟨xq, rfl⟩
                    have G2 : Hid (Below w.heap.size w (W xq)) := G9.out.trans ((QO.out xq).mono G9.out.size)
                    have F2 : Hid (Below wb.heap.size wb (W xq)) := F9.out.trans ((QO.out xq).mono F9.out.size)
                    clear q0 qa qb qc qd qe HLW
                    generalize W xq = wq at G2 F2 ⊢
                    go_wp2_with fail
                    go_ret
                    exact ⟨ret_b HF.out.symm, G2.out⟩
                  | true =>
                    have HCR : Hid (crtB r.n c.bd c.ms = true) := hcr
                    rw [hcr] at HLC
                    clear hcr
                    by_cases g1 : y.sq = (k : Int) + 1
                    · have g1' : (y.sq != (k : Int) + 1) = false := by simpa using g1
                      by_cases g2 : r.vw < y.vw
                      · have HF : Hid (bb = false) := HNP.out () fun hh => by
                          rcases hh with h | ⟨_, z, hz, _, h3⟩
                          · exact HMN.out h.2
                          · rw [HYY.out] at hz; cases hz; omega
                        clear g1
                        refine Qc.region_class (W := W) (by kernel_rfl) (by kernel_rfl) (QI.out _ Qc.from_drew) ?_
                        repeat (go_big_quiet_step (first | (go_at_call 64; refine (HLC.out _ (HLW.out _)).mono ?_; rintro e w2 ⟨rfl, b2⟩; exact ⟨rfl, Qc.back QI.out QO.out b2⟩)))
                        refine wpQuiet_nil ?_
                        rintro _ ⟨xq, rfl⟩
                        have G2 : Hid (Below w.heap.size w (W xq)) := G9.out.trans ((QO.out xq).mono G9.out.size)
                        have F2 : Hid (Below wb.heap.size wb (W xq)) := F9.out.trans ((QO.out xq).mono F9.out.size)
                        clear q0 qa qb qc qd qe HLW
                        generalize W xq = wq at G2 F2 ⊢
                        go_wp2_with fail
                        go_ret
                        exact ⟨ret_b HF.out.symm, G2.out⟩
                      · have HU : Hid (∀ j s, j < k + 1 → r.cs[j]? = some s → PlaceP r.n r.vw j s) := HYP.out (.inr ⟨HCR.out, y, HYY.out, g1, by omega⟩)
                        clear g1
                        refine Qc.region_class (W := W) (by kernel_rfl) (by kernel_rfl) (QI.out _ Qc.from_drew) ?_
                        repeat (go_big_quiet_step (first | (go_at_call 64; refine (HLC.out _ (HLW.out _)).mono ?_; rintro e w2 ⟨rfl, b2⟩; exact ⟨rfl, Qc.back QI.out QO.out b2⟩)))
                        refine wpQuiet_nil ?_
                        rintro _ ⟨xq, rfl⟩
                        have G2 : Hid (Below w.heap.size w (W xq)) := G9.out.trans ((QO.out xq).mono G9.out.size)
                        have F2 : Hid (Below wb.heap.size wb (W xq)) := F9.out.trans ((QO.out xq).mono F9.out.size)
                        clear q0 qa qb qc qd qe HLW
                        generalize W xq = wq at G2 F2 ⊢
                        go_wp2_with fail
                        exact ⟨⟨k + 1, by omega, by go_num, ⟨HUS.out, HU.out, F2.out⟩⟩, by simp [intOf]; omega⟩
                    · have g1' : (y.sq != (k : Int) + 1) = true := by simpa using g1
                      have HF : Hid (bb = false) := HNP.out () fun hh => by
                        rcases hh with h | ⟨_, z, hz, h2, _⟩
                        · exact HMN.out h.2
                        · rw [HYY.out] at hz; cases hz; exact g1 h2
                      clear g1
                      refine Qc.region_class (W := W) (by kernel_rfl) (by kernel_rfl) (QI.out _ Qc.from_drew) ?_
                      repeat (go_big_quiet_step (first | (go_at_call 64; refine (HLC.out _ (HLW.out _)).mono ?_; rintro e w2 ⟨rfl, b2⟩; exact ⟨rfl, Qc.back QI.out QO.out b2⟩)))
                      refine wpQuiet_nil ?_
                      rintro _ ⟨xq, rfl⟩
                      have G2 : Hid (Below w.heap.size w (W xq)) := G9.out.trans ((QO.out xq).mono G9.out.size)
                      have F2 : Hid (Below wb.heap.size wb (W xq)) := F9.out.trans ((QO.out xq).mono F9.out.size)
                      clear q0 qa qb qc qd qe HLW
                      generalize W xq = wq at G2 F2 ⊢
                      go_wp2_with fail
                      go_ret
                      exact ⟨ret_b HF.out.symm, G2.out⟩
          · have q1 : (x.bd.toList == []) = false := ne_list h0
            have q2 : (x.bd.toList != []) = true := by show (!(x.bd.toList == [])) = true; rw [q1]; rfl
            have H00 : Hid (¬ x.bd.size = 0) := h0
            clear h0
            cases h1 : bdP r.n x.bd with
            | false =>
              have HF : Hid (bb = false) := HNS.out () fun hh => by rcases hh.1 with h | h; exact H00.out h; rw [h1] at h; cases h
              rw [h1] at HBO3
              clear h1
              go_wp2_with fail
              refine (HBO3.out _ D0.out).mono ?_
              rintro e y1 ⟨rfl, b1⟩
              have E1 : Hid (Below wa.heap.size wa y1) := E0.out.trans (b1.mono E0.out.size)
              have D1 : Hid (Below wr.heap.size wr y1) := D0.out.trans (E1.out.mono D0.out.size)
              clear b1 c0 c1 c2 r0 r1 r2 r3 r4 r5 r6 r7
              obtain ⟨⟨c0, c1, c2⟩, A1, _⟩ := HM.out y1 E1.out
              obtain ⟨⟨r0, r1, r2, r3, r4, r5, r6, r7⟩, RB⟩ := HP.out y1 A1
              have Y1 : Hid (Below w.heap.size w y1) := RB
              have F1 : Hid (Below wb.heap.size wb y1) := A1
              clear A1 RB
              go_wp2_with fail
              go_ret
              exact ⟨ret_b HF.out.symm, Y1.out⟩
            | true =>
              have H0 : Hid (x.bd.size = 0 ∨ bdP r.n x.bd = true) := .inr h1
              rw [h1] at HBO3
              clear h1
              cases h2 : castB r.n 2 r.vw ((k : Int) + 1) x.ps with
              | false =>
                have HF : Hid (bb = false) := HNS.out () fun hh => by have := hh.2.1; rw [h2] at this; cases this
                rw [h2] at HC2
                clear h2
                go_wp2_with fail
                refine (HBO3.out _ D0.out).mono ?_
                rintro e y1 ⟨rfl, b1⟩
                have E1 : Hid (Below wa.heap.size wa y1) := E0.out.trans (b1.mono E0.out.size)
                have D1 : Hid (Below wr.heap.size wr y1) := D0.out.trans (E1.out.mono D0.out.size)
                clear b1 c0 c1 c2 r0 r1 r2 r3 r4 r5 r6 r7
                obtain ⟨⟨c0, c1, c2⟩, A1, _⟩ := HM.out y1 E1.out
                obtain ⟨⟨r0, r1, r2, r3, r4, r5, r6, r7⟩, RB⟩ := HP.out y1 A1
                have Y1 : Hid (Below w.heap.size w y1) := RB
                have F1 : Hid (Below wb.heap.size wb y1) := A1
                clear A1 RB
                go_wp2_with fail
                refine (HC2.out _ D1.out).mono ?_
                rintro e y2 ⟨rfl, b2⟩
                have E2 : Hid (Below wa.heap.size wa y2) := E1.out.trans (b2.mono E1.out.size)
                have D2 : Hid (Below wr.heap.size wr y2) := D0.out.trans (E2.out.mono D0.out.size)
                clear b2 c0 c1 c2 r0 r1 r2 r3 r4 r5 r6 r7
                obtain ⟨⟨c0, c1, c2⟩, A1, _⟩ := HM.out y2 E2.out
                obtain ⟨⟨r0, r1, r2, r3, r4, r5, r6, r7⟩, RB⟩ := HP.out y2 A1
                have Y2 : Hid (Below w.heap.size w y2) := RB
                have F2 : Hid (Below wb.heap.size wb y2) := A1
                clear A1 RB
                go_wp2_with fail
                go_ret
                exact ⟨ret_b HF.out.symm, Y2.out⟩
              | true =>
                cases h3 : castB r.n 3 r.vw ((k : Int) + 1) x.cs with
                | false =>
                  have HF : Hid (bb = false) := HNS.out () fun hh => by have := hh.2.2; rw [h3] at this; cases this
                  rw [h2] at HC2
                  rw [h3] at HC3
                  clear h2 h3
                  go_wp2_with fail
                  refine (HBO3.out _ D0.out).mono ?_
                  rintro e y1 ⟨rfl, b1⟩
                  have E1 : Hid (Below wa.heap.size wa y1) := E0.out.trans (b1.mono E0.out.size)
                  have D1 : Hid (Below wr.heap.size wr y1) := D0.out.trans (E1.out.mono D0.out.size)
                  clear b1 c0 c1 c2 r0 r1 r2 r3 r4 r5 r6 r7
                  obtain ⟨⟨c0, c1, c2⟩, A1, _⟩ := HM.out y1 E1.out
                  obtain ⟨⟨r0, r1, r2, r3, r4, r5, r6, r7⟩, RB⟩ := HP.out y1 A1
                  have Y1 : Hid (Below w.heap.size w y1) := RB
                  have F1 : Hid (Below wb.heap.size wb y1) := A1
                  clear A1 RB
                  go_wp2_with fail
                  refine (HC2.out _ D1.out).mono ?_
                  rintro e y2 ⟨rfl, b2⟩
                  have E2 : Hid (Below wa.heap.size wa y2) := E1.out.trans (b2.mono E1.out.size)
                  have D2 : Hid (Below wr.heap.size wr y2) := D0.out.trans (E2.out.mono D0.out.size)
                  clear b2 c0 c1 c2 r0 r1 r2 r3 r4 r5 r6 r7
                  obtain ⟨⟨c0, c1, c2⟩, A1, _⟩ := HM.out y2 E2.out
                  obtain ⟨⟨r0, r1, r2, r3, r4, r5, r6, r7⟩, RB⟩ := HP.out y2 A1
                  have Y2 : Hid (Below w.heap.size w y2) := RB
                  have F2 : Hid (Below wb.heap.size wb y2) := A1
                  clear A1 RB
                  go_wp2_with fail
                  refine (HC3.out _ D2.out).mono ?_
                  rintro e y3 ⟨rfl, b3⟩
                  have E3 : Hid (Below wa.heap.size wa y3) := E2.out.trans (b3.mono E2.out.size)
                  have D3 : Hid (Below wr.heap.size wr y3) := D0.out.trans (E3.out.mono D0.out.size)
                  clear b3 c0 c1 c2 r0 r1 r2 r3 r4 r5 r6 r7
                  obtain ⟨⟨c0, c1, c2⟩, A1, _⟩ := HM.out y3 E3.out
                  obtain ⟨⟨r0, r1, r2, r3, r4, r5, r6, r7⟩, RB⟩ := HP.out y3 A1
                  have Y3 : Hid (Below w.heap.size w y3) := RB
                  have F3 : Hid (Below wb.heap.size wb y3) := A1
                  clear A1 RB
                  go_wp2_with fail
                  go_ret
                  exact ⟨ret_b HF.out.symm, Y3.out⟩
                | true =>
                  have HUS : Hid (∀ j s, j < k + 1 → r.ss[j]? = some s → SlotP r.n r.vw j s) := HYS.out ⟨H0.out, h2, h3⟩
                  rw [h2] at HC2
                  rw [h3] at HC3
                  clear h2 h3
                  go_wp2_with fail
                  refine (HBO3.out _ D0.out).mono ?_
                  rintro e y1 ⟨rfl, b1⟩
                  have E1 : Hid (Below wa.heap.size wa y1) := E0.out.trans (b1.mono E0.out.size)
                  have D1 : Hid (Below wr.heap.size wr y1) := D0.out.trans (E1.out.mono D0.out.size)
                  clear b1 c0 c1 c2 r0 r1 r2 r3 r4 r5 r6 r7
                  obtain ⟨⟨c0, c1, c2⟩, A1, _⟩ := HM.out y1 E1.out
                  obtain ⟨⟨r0, r1, r2, r3, r4, r5, r6, r7⟩, RB⟩ := HP.out y1 A1
                  have Y1 : Hid (Below w.heap.size w y1) := RB
                  have F1 : Hid (Below wb.heap.size wb y1) := A1
                  clear A1 RB
                  go_wp2_with fail
                  refine (HC2.out _ D1.out).mono ?_
                  rintro e y2 ⟨rfl, b2⟩
                  have E2 : Hid (Below wa.heap.size wa y2) := E1.out.trans (b2.mono E1.out.size)
                  have D2 : Hid (Below wr.heap.size wr y2) := D0.out.trans (E2.out.mono D0.out.size)
                  clear b2 c0 c1 c2 r0 r1 r2 r3 r4 r5 r6 r7
                  obtain ⟨⟨c0, c1, c2⟩, A1, _⟩ := HM.out y2 E2.out
                  obtain ⟨⟨r0, r1, r2, r3, r4, r5, r6, r7⟩, RB⟩ := HP.out y2 A1
                  have Y2 : Hid (Below w.heap.size w y2) := RB
                  have F2 : Hid (Below wb.heap.size wb y2) := A1
                  clear A1 RB
                  go_wp2_with fail
                  refine (HC3.out _ D2.out).mono ?_
                  rintro e y3 ⟨rfl, b3⟩
                  have E3 : Hid (Below wa.heap.size wa y3) := E2.out.trans (b3.mono E2.out.size)
                  have D3 : Hid (Below wr.heap.size wr y3) := D0.out.trans (E3.out.mono D0.out.size)
                  clear b3 c0 c1 c2 r0 r1 r2 r3 r4 r5 r6 r7
                  obtain ⟨⟨c0, c1, c2⟩, A1, _⟩ := HM.out y3 E3.out
                  obtain ⟨⟨r0, r1, r2, r3, r4, r5, r6, r7⟩, RB⟩ := HP.out y3 A1
                  have Y3 : Hid (Below w.heap.size w y3) := RB
                  have F3 : Hid (Below wb.heap.size wb y3) := A1
                  clear A1 RB
                  obtain ⟨d0, d1, s3⟩ := HD.out y3 D3.out
                  have HQ : Hid (∀ W, Below (y3.alloc (.cells #[.string c.bd, .slice a3 c.ms.length k3] 87)).heap.size (y3.alloc (.cells #[.string c.bd, .slice a3 c.ms.length k3] 87)) W → (W.cell? ⟨y3.heap.size, 0, none⟩ = some (.string c.bd) ∧ W.cell? ⟨y3.heap.size, 1, none⟩ = some (.slice a3 c.ms.length k3)) ∧ Below wb.heap.size wb W ∧ Below wr.heap.size wr W) := fun W hW => by
                    have h1 := (hW.block y3.heap.size (by simp)).trans (heap_alloc_new y3 _)
                    have h3 := (bel_new y3 _).trans (hW.mono (by simp))
                    exact ⟨⟨(blk_cell h1 0 rfl).1, (blk_cell h1 1 rfl).1⟩, F3.out.trans (h3.mono F3.out.size), D3.out.trans (h3.mono D3.out.size)⟩
                  go_upto_region 10 with fail
                  generalize y3.alloc (.cells #[.string c.bd, .slice a3 c.ms.length k3] 87) = wc at HQ ⊢
                  clear d0 d1 s3 c0 c1 c2 r0 r1 r2 r3 r4 r5 r6 r7
                  obtain ⟨⟨c0, c1⟩, A1, A2⟩ := HQ.out wc (Below.refl _ _)
                  obtain ⟨⟨r0, r1, r2, r3, r4, r5, r6, r7⟩, RB⟩ := HP.out wc A1
                  have F9 : Hid (Below wb.heap.size wb wc) := A1
                  have G9 : Hid (Below w.heap.size w wc) := RB
                  have D9 : Hid (Below wr.heap.size wr wc) := A2
                  clear A1 A2 RB
                  by_cases hm0 : c.ms.length = 0
                  · have m1 : ((c.ms.length : Int) == 0) = true := by simpa using (by omega : (c.ms.length : Int) = 0)
                    have m2 : (c.ms.length == 0) = true := by simpa using hm0
                    have HM0 : Hid (c.ms = []) := List.length_eq_zero_iff.1 hm0
                    clear hm0
                    by_cases h9 : c.bd.size = 0
                    · have HU : Hid (∀ j s, j < k + 1 → r.cs[j]? = some s → PlaceP r.n r.vw j s) := HYP.out (.inl ⟨h9, HM0.out⟩)
                      have t1 : (c.bd.toList == []) = true := by rw [empty_of h9, nil_list]; rfl
                      have t2 : (c.bd.toList != []) = false := by rw [empty_of h9, nil_list]; rfl
                      clear h9
                      go_wp2_with fail
                      exact ⟨⟨k + 1, by omega, by go_num, ⟨HUS.out, HU.out, F9.out⟩⟩, by simp [intOf]; omega⟩
                    · have HF : Hid (bb = false) := HNP.out () fun hh => by
                        rcases hh with h | ⟨h, _⟩
                        · exact h9 h.1
                        · rw [HM0.out, crt_nil] at h; cases h
                      have t1 : (c.bd.toList == []) = false := ne_list h9
                      have t2 : (c.bd.toList != []) = true := by show (!(c.bd.toList == [])) = true; rw [t1]; rfl
                      clear h9
                      go_wp2_with fail
                      go_ret
                      exact ⟨ret_b HF.out.symm, G9.out⟩
                  · have m1 : ((c.ms.length : Int) == 0) = false := by simpa using (by omega : ¬ (c.ms.length : Int) = 0)
                    have m2 : (c.ms.length == 0) = false := by simpa using hm0
                    have ml : (0 : Int) < (c.ms.length : Int) := by omega
                    have HMN : Hid (¬ c.ms = []) := fun hh => hm0 (by rw [hh]; rfl)
                    obtain ⟨y, hy⟩ := Rg.get_at (xs := c.ms) (k := 0) (by omega)
                    have HYY : Hid (c.ms[0]? = some y) := hy
                    obtain ⟨b5, off5, rfl, hb5, z0, z1, z2, _⟩ := RowG.at ((HD.out wc D9.out).2.2) rfl hy
                    clear hm0 hy z0
                    go_upto_region 13 with fail
                    obtain ⟨X, hX, W, QI0, QO0⟩ := Qc.klass wc
                    have QI : Hid (∀ w', Below wc.heap.size wc w' → ∃ x, w' = W x) := QI0
                    have QO : Hid (∀ x, Below wc.heap.size wc (W x)) := QO0
                    clear QI0 QO0
                    have q0 := Qc.cell_all QO.out c0
                    have qa := Qc.cell_all QO.out c1
                    have qb := Qc.cell_all QO.out z1
                    have qc := Qc.cell_all QO.out z2
                    have qd := Qc.cell_all QO.out r1
                    have qe := Qc.cell_all QO.out r2
                    have HLW : Hid (∀ x, Below wr.heap.size wr (W x)) := fun x => D9.out.trans ((QO.out x).mono D9.out.size)
                    clear c0 c1 z1 z2 r0 r1 r2 r3 r4 r5 r6 r7
                    cases hcr : crtB r.n c.bd c.ms with
                    | false =>
                      have HF : Hid (bb = false) := HNP.out () fun hh => by
                        rcases hh with h | ⟨h, _⟩
                        · exact HMN.out h.2
                        · rw [hcr] at h; cases h
                      rw [hcr] at HLC
                      clear hcr
                      refine Qc.region_class (W := W) (by kernel_rfl) (by kernel_rfl) (QI.out _ Qc.from_drew) ?_
                      repeat (go_big_quiet_step (first | (go_at_call 64; refine (HLC.out _ (HLW.out _)).mono ?_; rintro e w2 ⟨rfl, b2⟩; exact ⟨rfl, Qc.back QI.out QO.out b2⟩)))
                      refine wpQuiet_nil ?_
                      rintro _ ⟨xq, rfl⟩
                      have G2 : Hid (Below w.heap.size w (W xq)) := G9.out.trans ((QO.out xq).mono G9.out.size)
                      have F2 : Hid (Below wb.heap.size wb (W xq)) := F9.out.trans ((QO.out xq).mono F9.out.size)
                      clear q0 qa qb qc qd qe HLW
                      generalize W xq = wq at G2 F2 ⊢
                      go_wp2_with fail
                      go_ret
                      exact ⟨ret_b HF.out.symm, G2.out⟩
                    | true =>
                      have HCR : Hid (crtB r.n c.bd c.ms = true) := hcr
                      rw [hcr] at HLC
                      clear hcr
                      by_cases g1 : y.sq = (k : Int) + 1
                      · have g1' : (y.sq != (k : Int) + 1) = false := by simpa using g1
                        by_cases g2 : r.vw < y.vw
                        · have HF : Hid (bb = false) := HNP.out () fun hh => by
                            rcases hh with h | ⟨_, z, hz, _, h3⟩
                            · exact HMN.out h.2
                            · rw [HYY.out] at hz; cases hz; omega
                          clear g1
                          refine Qc.region_class (W := W) (by kernel_rfl) (by kernel_rfl) (QI.out _ Qc.from_drew) ?_
                          repeat (go_big_quiet_step (first | (go_at_call 64; refine (HLC.out _ (HLW.out _)).mono ?_; rintro e w2 ⟨rfl, b2⟩; exact ⟨rfl, Qc.back QI.out QO.out b2⟩)))
                          refine wpQuiet_nil ?_
                          rintro _ ⟨xq, rfl⟩
                          have G2 : Hid (Below w.heap.size w (W xq)) := G9.out.trans ((QO.out xq).mono G9.out.size)
                          have F2 : Hid (Below wb.heap.size wb (W xq)) := F9.out.trans ((QO.out xq).mono F9.out.size)
                          clear q0 qa qb qc qd qe HLW
                          generalize W xq = wq at G2 F2 ⊢
                          go_wp2_with fail
                          go_ret
                          exact ⟨ret_b HF.out.symm, G2.out⟩
                        · have HU : Hid (∀ j s, j < k + 1 → r.cs[j]? = some s → PlaceP r.n r.vw j s) := HYP.out (.inr ⟨HCR.out, y, HYY.out, g1, by omega⟩)
                          clear g1
                          refine Qc.region_class (W := W) (by kernel_rfl) (by kernel_rfl) (QI.out _ Qc.from_drew) ?_
                          repeat (go_big_quiet_step (first | (go_at_call 64; refine (HLC.out _ (HLW.out _)).mono ?_; rintro e w2 ⟨rfl, b2⟩; exact ⟨rfl, Qc.back QI.out QO.out b2⟩)))
                          refine wpQuiet_nil ?_
                          rintro _ ⟨xq, rfl⟩
                          have G2 : Hid (Below w.heap.size w (W xq)) := G9.out.trans ((QO.out xq).mono G9.out.size)
                          have F2 : Hid (Below wb.heap.size wb (W xq)) := F9.out.trans ((QO.out xq).mono F9.out.size)
                          clear q0 qa qb qc qd qe HLW
                          generalize W xq = wq at G2 F2 ⊢
                          go_wp2_with fail
                          exact ⟨⟨k + 1, by omega, by go_num, ⟨HUS.out, HU.out, F2.out⟩⟩, by simp [intOf]; omega⟩
                      · have g1' : (y.sq != (k : Int) + 1) = true := by simpa using g1
                        have HF : Hid (bb = false) := HNP.out () fun hh => by
                          rcases hh with h | ⟨_, z, hz, h2, _⟩
                          · exact HMN.out h.2
                          · rw [HYY.out] at hz; cases hz; exact g1 h2
                        clear g1
                        refine Qc.region_class (W := W) (by kernel_rfl) (by kernel_rfl) (QI.out _ Qc.from_drew) ?_
                        repeat (go_big_quiet_step (first | (go_at_call 64; refine (HLC.out _ (HLW.out _)).mono ?_; rintro e w2 ⟨rfl, b2⟩; exact ⟨rfl, Qc.back QI.out QO.out b2⟩)))
                        refine wpQuiet_nil ?_
                        rintro _ ⟨xq, rfl⟩
                        have G2 : Hid (Below w.heap.size w (W xq)) := G9.out.trans ((QO.out xq).mono G9.out.size)
                        have F2 : Hid (Below wb.heap.size wb (W xq)) := F9.out.trans ((QO.out xq).mono F9.out.size)
                        clear q0 qa qb qc qd qe HLW
                        generalize W xq = wq at G2 F2 ⊢
                        go_wp2_with fail
                        go_ret
                        exact ⟨ret_b HF.out.symm, G2.out⟩
        · obtain rfl : k = 8 := by omega
          have HSS : Hid ((∀ k s, k < 8 → r.ss[k]? = some s → SlotP r.n r.vw k s) ∧ ∀ k c, k < 8 → r.cs[k]? = some c → PlaceP r.n r.vw k c) := ⟨HZ.out.1, HZ.out.2.1⟩
          have B1 : Hid (Below wb.heap.size wb wr) := HZ.out.2.2
          clear HZ
          go_wp2_with fail
          go_loopw [6] (fun i wr => ∃ k : Nat, k ≤ r.lg.length ∧ i = .int .i64 k ∧ Hid ((∀ j, j < k → bdP r.n (tnth r.lg j) = true) ∧ Below wb.heap.size wb wr)) (fun i _ => r.lg.length - (intOf i).toNat)
          case atStart => exact ⟨0, by omega, rfl, ⟨fun j hj => by omega, B1.out⟩⟩
          case round =>
            clear B1
            obtain ⟨k, hk, rfl, HZ⟩ := hrel
            obtain ⟨⟨r0, r1, r2, r3, r4, r5, r6, r7⟩, RB⟩ := HP.out wr HZ.out.2
            have G1 : Hid (Below w.heap.size w wr) := RB
            have F1 : Hid (Below wb.heap.size wb wr) := HZ.out.2
            clear RB
            by_cases hlt : k < r.lg.length
            · obtain ⟨a', cap', e, hh⟩ := HR.out.l.below G1.out
              cases e
              rcases hh with hh | ⟨b, off, rfl, hc, hb, hcell⟩
              · exact absurd hlt (by rw [hh]; simp)
              have c0 := hcell k hlt
              have HBD : Hid ((tnth r.lg k).size ≤ 20000 → ∀ W, Calls Tryz.prog 62 #[.int .i64 r.n, .string (tnth r.lg k)] W fun e w' => e = .returned (.bool (bdP r.n (tnth r.lg k))) ∧ Below W.heap.size W w') := fun hs W => by
                rw [bdP_small hs]
                exact l06Body_any r.n _ W HF0.out hs
              have HNL : Hid (∀ _ : Unit, bdP r.n (tnth r.lg k) = false → bb = false) := fun _ hh => HN.out () fun hr => by
                have h1 := lgB_no hlt hh
                rw [bOf_true hr.2.2.2.2.1.2] at h1
                cases h1
              have HYL : Hid (bdP r.n (tnth r.lg k) = true → ∀ j, j < k + 1 → bdP r.n (tnth r.lg j) = true) := fun hh j hj => by
                by_cases e : j = k
                · rw [e]; exact hh
                · exact HZ.out.1 j (by omega)
              have HBG : Hid (¬ (tnth r.lg k).size ≤ 20000 → bdP r.n (tnth r.lg k) = false) := fun hh => bdP_big hh
              have hzt : (tnth r.lg k).size ≤ 1048576 := tnth_size HZ0.out.lz hlt
              clear hcell HZ
              generalize bdP r.n (tnth r.lg k) = ob at HBD HNL HYL HBG
              generalize tnth r.lg k = t at c0 HBD HBG hzt
              have hp0 : (0 : Int) ≤ (k : Int) := by omega
              have hp1 : (k : Int) < (r.lg.length : Int) := by omega
              go_upto_region 18 with fail
              obtain ⟨X, hX, W, QI0, QO0⟩ := Qc.klass wr
              have QI : Hid (∀ w', Below wr.heap.size wr w' → ∃ x, w' = W x) := QI0
              have QO : Hid (∀ x, Below wr.heap.size wr (W x)) := QO0
              clear QI0 QO0
              have q0 := Qc.cell_all QO.out c0
              have q1 := Qc.cell_all QO.out r1
              have q2 := Qc.cell_all QO.out r6
              clear c0 r0 r1 r2 r3 r4 r5 r6 r7
              by_cases hbig : t.size ≤ 20000
              · have hbig1 : ¬ (20000 : Int) < (t.size : Int) := by omega
                have HBT := HBD.out hbig
                cases ob with
                | false =>
                  have HF : Hid (bb = false) := HNL.out () rfl
                  clear hbig
                  refine Qc.region_class (W := W) (by kernel_rfl) (by kernel_rfl) (QI.out _ Qc.from_drew) ?_
                  repeat (go_big_quiet_step (first | (go_at_call 62; refine (HBT _).mono ?_; rintro e w2 ⟨rfl, b2⟩; exact ⟨rfl, Qc.back QI.out QO.out b2⟩)))
                  refine wpQuiet_nil ?_
                  rintro _ ⟨xq, rfl⟩
                  have G2 : Hid (Below w.heap.size w (W xq)) := G1.out.trans ((QO.out xq).mono G1.out.size)
                  have F2 : Hid (Below wb.heap.size wb (W xq)) := F1.out.trans ((QO.out xq).mono F1.out.size)
                  clear q0 q1 q2
                  generalize W xq = wq at G2 F2 ⊢
                  go_wp2_with fail
                  go_ret
                  exact ⟨ret_b HF.out.symm, G2.out⟩
                | true =>
                  have HU : Hid (∀ j, j < k + 1 → bdP r.n (tnth r.lg j) = true) := HYL.out rfl
                  clear hbig
                  refine Qc.region_class (W := W) (by kernel_rfl) (by kernel_rfl) (QI.out _ Qc.from_drew) ?_
                  repeat (go_big_quiet_step (first | (go_at_call 62; refine (HBT _).mono ?_; rintro e w2 ⟨rfl, b2⟩; exact ⟨rfl, Qc.back QI.out QO.out b2⟩)))
                  refine wpQuiet_nil ?_
                  rintro _ ⟨xq, rfl⟩
                  have G2 : Hid (Below w.heap.size w (W xq)) := G1.out.trans ((QO.out xq).mono G1.out.size)
                  have F2 : Hid (Below wb.heap.size wb (W xq)) := F1.out.trans ((QO.out xq).mono F1.out.size)
                  clear q0 q1 q2
                  generalize W xq = wq at G2 F2 ⊢
                  go_wp2_with fail
                  exact ⟨⟨k + 1, by omega, by go_num, ⟨HU.out, F2.out⟩⟩, by simp [intOf]; omega⟩
              · have hbig1 : (20000 : Int) < (t.size : Int) := by omega
                have HF : Hid (bb = false) := HNL.out () (HBG.out hbig)
                clear hbig
                refine Qc.region_class (W := W) (by kernel_rfl) (by kernel_rfl) (QI.out _ Qc.from_drew) ?_
                repeat (go_big_quiet_step (fail))
                refine wpQuiet_nil ?_
                rintro _ ⟨xq, rfl⟩
                have G2 : Hid (Below w.heap.size w (W xq)) := G1.out.trans ((QO.out xq).mono G1.out.size)
                have F2 : Hid (Below wb.heap.size wb (W xq)) := F1.out.trans ((QO.out xq).mono F1.out.size)
                clear q0 q1 q2
                generalize W xq = wq at G2 F2 ⊢
                go_wp2_with fail
                go_ret
                exact ⟨ret_b HF.out.symm, G2.out⟩
            · obtain rfl : k = r.lg.length := by omega
              have HLL : Hid (bOf (∀ t ∈ r.lg, bdP r.n t = true) = true) := lgB_yes HZ.out.1
              clear HZ
              go_wp2_with fail
              clear r0 r1 r2 r3 r4 r5 r6 r7
              go_loopw [7] (fun i wr => ∃ k : Nat, k ≤ r.ch.length ∧ i = .int .i64 k ∧ Hid (AllG r.n r.vw r.ch k ∧ Below wb.heap.size wb wr)) (fun i _ => r.ch.length - (intOf i).toNat)
              case atStart => exact ⟨0, by omega, rfl, ⟨fun j x hj => by omega, F1.out⟩⟩
              case round =>
                clear F1 G1
                obtain ⟨k, hk, rfl, HZ⟩ := hrel
                obtain ⟨⟨r0, r1, r2, r3, r4, r5, r6, r7⟩, RB⟩ := HP.out wr HZ.out.2
                have G1 : Hid (Below w.heap.size w wr) := RB
                clear RB
                by_cases hlt : k < r.ch.length
                · obtain ⟨x, hx⟩ := Rg.get_at hlt
                  obtain ⟨y, hy⟩ := Rg.get_at (xs := r.ch) (k := 0) (by omega)
                  obtain ⟨b, off, rfl, hbl, c0, c1, c2, c3, c4, c5, c6⟩ := RowG.at (HR.out.h.below G1.out) rfl hx
                  obtain ⟨b0, off0, e0, hbl0, _, z1, _⟩ := RowG.at (HR.out.h.below G1.out) rfl hy
                  cases e0
                  have HX : Hid (r.ch[k]? = some x ∧ r.ch[0]? = some y) := ⟨hx, hy⟩
                  have HRW : Hid (Row wr (.slice (some ⟨b, off, none⟩) r.ch.length kh) r.ch) := HR.out.h.below G1.out
                  have HA : Hid (∀ W, Below (wr.alloc (.cells #[.int .i64 x.kd, .int .i64 x.vw, .int .i64 x.sq, .int .i64 x.fr, .string x.dg, .string x.bd, .string x.mc] 59)).heap.size (wr.alloc (.cells #[.int .i64 x.kd, .int .i64 x.vw, .int .i64 x.sq, .int .i64 x.fr, .string x.dg, .string x.bd, .string x.mc] 59)) W → (W.cell? ⟨wr.heap.size, 0, none⟩ = some (.int .i64 x.kd) ∧ W.cell? ⟨wr.heap.size, 1, none⟩ = some (.int .i64 x.vw) ∧ W.cell? ⟨wr.heap.size, 2, none⟩ = some (.int .i64 x.sq) ∧ W.cell? ⟨wr.heap.size, 3, none⟩ = some (.int .i64 x.fr) ∧ W.cell? ⟨wr.heap.size, 4, none⟩ = some (.string x.dg) ∧ W.cell? ⟨wr.heap.size, 5, none⟩ = some (.string x.bd) ∧ W.cell? ⟨wr.heap.size, 6, none⟩ = some (.string x.mc)) ∧ W.cell? ⟨b, off + 0 * 7 + 1, none⟩ = some (.int .i64 y.vw) ∧ Below wb.heap.size wb W ∧ Below wr.heap.size wr W) := fun W hW => by
                    have h1 := (hW.block wr.heap.size (by simp)).trans (heap_alloc_new wr _)
                    have h3 := (bel_new wr _).trans (hW.mono (by simp))
                    exact ⟨⟨(blk_cell h1 0 rfl).1, (blk_cell h1 1 rfl).1, (blk_cell h1 2 rfl).1, (blk_cell h1 3 rfl).1, (blk_cell h1 4 rfl).1, (blk_cell h1 5 rfl).1, (blk_cell h1 6 rfl).1⟩, (h3.cell (p := ⟨b, _, none⟩) hbl).trans z1, HZ.out.2.trans (h3.mono HZ.out.2.size), h3⟩
                  have HVC : Hid (∀ W, Calls Tryz.prog 65 #[.int .i64 r.n, .agg #[.int .i64 x.kd, .int .i64 x.vw, .int .i64 x.sq, .int .i64 x.fr, .string x.dg, .string x.bd, .string x.mc]] W fun e w' => ∃ u, e = .returned (.tuple #[u, .bool (cfB r.n x.vw x)]) ∧ Below W.heap.size W w') := fun W => (l06Certs_any r.n x W HF0.out).mono fun e w' ⟨u, h1, _, h3⟩ => ⟨u, h1, h3⟩
                  have HNC : Hid (∀ _ : Unit, ¬ OneG r.n r.vw y.vw r.ch k x → bb = false) := fun _ hh => HN.out () fun hr => by
                    have h1 := chG_no HX.out.1 HX.out.2 hh
                    rw [(rep_parts.1 hr).2.2.2.2.2.2.2.2] at h1
                    cases h1
                  have HYC : Hid (OneG r.n r.vw y.vw r.ch k x → AllG r.n r.vw r.ch (k + 1)) := fun hh => upto_succ (P := fun (j : Nat) (z : Mg) => ∀ y0 : Mg, r.ch[0]? = some y0 → OneG r.n r.vw y0.vw r.ch j z) (xs := r.ch) HZ.out.1 HX.out.1 fun y2 hy2 => by rw [HX.out.2] at hy2; cases hy2; exact hh
                  have hl0 : (0 : Int) < (r.ch.length : Int) := by omega
                  have hp0 : (0 : Int) ≤ (k : Int) := by omega
                  have hp1 : (k : Int) < (r.ch.length : Int) := by omega
                  clear hx hy z1 hbl0
                  go_upto_region 24 with fail
                  generalize wr.alloc (.cells #[.int .i64 x.kd, .int .i64 x.vw, .int .i64 x.sq, .int .i64 x.fr, .string x.dg, .string x.bd, .string x.mc] 59) = wa at HA ⊢
                  clear c0 c1 c2 c3 c4 c5 c6 r0 r1 r2 r3 r4 r5 r6 r7
                  obtain ⟨⟨c0, c1, c2, c3, c4, c5, c6⟩, z1, A1, A2⟩ := HA.out wa (Below.refl _ _)
                  obtain ⟨⟨r0, r1, r2, r3, r4, r5, r6, r7⟩, RB⟩ := HP.out wa A1
                  clear A1 A2 RB
                  obtain ⟨ok, HOK⟩ : ∃ ok, Hid (cfB r.n x.vw x = ok) := ⟨_, rfl⟩
                  rw [HOK.out] at HVC
                  go_wp2_with fail
                  refine (HVC.out _).mono ?_
                  rintro e y1 ⟨u, rfl, b1⟩
                  have E1 : Hid (Below wa.heap.size wa y1) := b1
                  clear b1 c0 c1 c2 c3 c4 c5 c6 z1 r0 r1 r2 r3 r4 r5 r6 r7
                  go_upto_region 25 with fail
                  obtain ⟨⟨c0, c1, c2, c3, c4, c5, c6⟩, z1, A1, A2⟩ := HA.out y1 E1.out
                  obtain ⟨⟨r0, r1, r2, r3, r4, r5, r6, r7⟩, RB⟩ := HP.out y1 A1
                  have F1 : Hid (Below wb.heap.size wb y1) := A1
                  have G2 : Hid (Below w.heap.size w y1) := RB
                  have RA : Hid (Row y1 (.slice (some ⟨b, off, none⟩) r.ch.length kh) r.ch) := HRW.out.below A2
                  clear A1 A2 RB c0 c2 c4 c5 c6 r0 r1 r3 r4 r5 r6
                  obtain ⟨X, hX, W, QI0, QO0⟩ := Qc.klass y1
                  have QI : Hid (∀ w', Below y1.heap.size y1 w' → ∃ x, w' = W x) := QI0
                  have QO : Hid (∀ x, Below y1.heap.size y1 (W x)) := QO0
                  clear QI0 QO0
                  have q0 := Qc.cell_all QO.out c1
                  have q1 := Qc.cell_all QO.out c3
                  have q2 := Qc.cell_all QO.out z1
                  have q3 := Qc.cell_all QO.out r2
                  have q4 := Qc.cell_all QO.out r7
                  clear c1 c3 z1 r2 r7
                  cases ok with
                  | false =>
                    have HF : Hid (bb = false) := HNC.out () fun hh => by have := hh.1.1; rw [HOK.out] at this; cases this
                    refine Qc.region_class (W := W) (by kernel_rfl) (by kernel_rfl) (QI.out _ Qc.from_drew) ?_
                    repeat (go_big_quiet_step (fail))
                    refine wpQuiet_nil ?_
                    rintro _ ⟨xq, rfl⟩
                    have G3 : Hid (Below w.heap.size w (W xq)) := G2.out.trans ((QO.out xq).mono G2.out.size)
                    have F3 : Hid (Below wb.heap.size wb (W xq)) := F1.out.trans ((QO.out xq).mono F1.out.size)
                    clear q0 q1 q2 q3 q4
                    generalize W xq = wq at G3 F3 ⊢
                    go_wp2_with fail
                    go_ret
                    exact ⟨ret_b HF.out.symm, G3.out⟩
                  | true =>
                    by_cases g1 : x.vw < r.vw
                    · have HF : Hid (bb = false) := HNC.out () fun hh => by have := hh.1.2.1; omega
                      refine Qc.region_class (W := W) (by kernel_rfl) (by kernel_rfl) (QI.out _ Qc.from_drew) ?_
                      repeat (go_big_quiet_step (fail))
                      refine wpQuiet_nil ?_
                      rintro _ ⟨xq, rfl⟩
                      have G3 : Hid (Below w.heap.size w (W xq)) := G2.out.trans ((QO.out xq).mono G2.out.size)
                      have F3 : Hid (Below wb.heap.size wb (W xq)) := F1.out.trans ((QO.out xq).mono F1.out.size)
                      clear q0 q1 q2 q3 q4
                      generalize W xq = wq at G3 F3 ⊢
                      go_wp2_with fail
                      go_ret
                      exact ⟨ret_b HF.out.symm, G3.out⟩
                    · by_cases g2 : x.vw = y.vw
                      rotate_left
                      · have HF : Hid (bb = false) := HNC.out () fun hh => g2 hh.1.2.2
                        have g2' : (x.vw != y.vw) = true := by simpa using g2
                        clear g2
                        refine Qc.region_class (W := W) (by kernel_rfl) (by kernel_rfl) (QI.out _ Qc.from_drew) ?_
                        repeat (go_big_quiet_step (fail))
                        refine wpQuiet_nil ?_
                        rintro _ ⟨xq, rfl⟩
                        have G3 : Hid (Below w.heap.size w (W xq)) := G2.out.trans ((QO.out xq).mono G2.out.size)
                        have F3 : Hid (Below wb.heap.size wb (W xq)) := F1.out.trans ((QO.out xq).mono F1.out.size)
                        clear q0 q1 q2 q3 q4
                        generalize W xq = wq at G3 F3 ⊢
                        go_wp2_with fail
                        go_ret
                        exact ⟨ret_b HF.out.symm, G3.out⟩
                      have HCP : Hid (ChgP r.n r.vw y.vw x) := ⟨HOK.out, by omega, g2⟩
                      have g2' : (x.vw != y.vw) = false := by simpa using g2
                      clear g2
                      by_cases hk0 : k = 0
                      · subst hk0
                        have HU : Hid (AllG r.n r.vw r.ch (0 + 1)) := HYC.out ⟨HCP.out, fun m y e => by omega⟩
                        refine Qc.region_class (W := W) (by kernel_rfl) (by kernel_rfl) (QI.out _ Qc.from_drew) ?_
                        repeat (go_big_quiet_step (fail))
                        refine wpQuiet_nil ?_
                        rintro _ ⟨xq, rfl⟩
                        have G3 : Hid (Below w.heap.size w (W xq)) := G2.out.trans ((QO.out xq).mono G2.out.size)
                        have F3 : Hid (Below wb.heap.size wb (W xq)) := F1.out.trans ((QO.out xq).mono F1.out.size)
                        clear q0 q1 q2 q3 q4
                        generalize W xq = wq at G3 F3 ⊢
                        go_wp2_with fail
                        exact ⟨⟨0 + 1, by omega, by go_num, ⟨HU.out, F3.out⟩⟩, by simp [intOf]; omega⟩
                      · obtain ⟨m, rfl⟩ : ∃ m, k = m + 1 := ⟨k - 1, by omega⟩
                        obtain ⟨z, hzz⟩ := Rg.get_at (xs := r.ch) (k := m) (by omega)
                        obtain ⟨b3, off3, e3, hb3, d0, d1, d2, d3, d4, d5, d6⟩ := RowG.at RA.out rfl hzz
                        cases e3
                        have q9 := Qc.cell_all QO.out d3
                        clear d0 d1 d2 d3 d4 d5 d6 hk0
                        have hm1 : ((m + 1 : Nat) : Int) - 1 = (m : Int) := by omega
                        have hw1 : IntKind.i64.wrap (((m + 1 : Nat) : Int) - 1) = (m : Int) := by rw [IntKind.wrap_i64]; omega
                        have hw2 : IntKind.i64.wrap (m : Int) = (m : Int) := by rw [IntKind.wrap_i64]; omega
                        have hm0 : (0 : Int) < ((m + 1 : Nat) : Int) := by omega
                        have hm2 : (m : Int) < (r.ch.length : Int) := by omega
                        have hm3 : (0 : Int) ≤ (m : Int) := by omega
                        by_cases g4 : z.fr < x.fr
                        · have HU : Hid (AllG r.n r.vw r.ch (m + 1 + 1)) := HYC.out ⟨HCP.out, fun m' y' e hy' => by
                            have e2 : m' = m := by omega
                            subst e2
                            rw [hzz] at hy'
                            cases hy'
                            exact g4⟩
                          have g4a : ¬ z.fr ≥ x.fr := by omega
                          have g4b : ¬ x.fr ≤ z.fr := by omega
                          clear g4 hzz
                          refine Qc.region_class (W := W) (by kernel_rfl) (by kernel_rfl) (QI.out _ Qc.from_drew) ?_
                          repeat (go_big_quiet_step (fail))
                          refine wpQuiet_nil ?_
                          rintro _ ⟨xq, rfl⟩
                          have G3 : Hid (Below w.heap.size w (W xq)) := G2.out.trans ((QO.out xq).mono G2.out.size)
                          have F3 : Hid (Below wb.heap.size wb (W xq)) := F1.out.trans ((QO.out xq).mono F1.out.size)
                          clear q0 q1 q2 q3 q4 q9
                          generalize W xq = wq at G3 F3 ⊢
                          go_wp2_with fail
                          exact ⟨⟨m + 1 + 1, by omega, by go_num, ⟨HU.out, F3.out⟩⟩, by simp [intOf]; omega⟩
                        · have HF : Hid (bb = false) := HNC.out () fun hh => g4 (hh.2 m z rfl hzz)
                          have g4a : z.fr ≥ x.fr := by omega
                          have g4b : x.fr ≤ z.fr := by omega
                          clear g4 hzz
                          refine Qc.region_class (W := W) (by kernel_rfl) (by kernel_rfl) (QI.out _ Qc.from_drew) ?_
                          repeat (go_big_quiet_step (fail))
                          refine wpQuiet_nil ?_
                          rintro _ ⟨xq, rfl⟩
                          have G3 : Hid (Below w.heap.size w (W xq)) := G2.out.trans ((QO.out xq).mono G2.out.size)
                          have F3 : Hid (Below wb.heap.size wb (W xq)) := F1.out.trans ((QO.out xq).mono F1.out.size)
                          clear q0 q1 q2 q3 q4 q9
                          generalize W xq = wq at G3 F3 ⊢
                          go_wp2_with fail
                          go_ret
                          exact ⟨ret_b HF.out.symm, G3.out⟩
                · obtain rfl : k = r.ch.length := by omega
                  have HT : Hid (bb = true) := by
                    show _ = _
                    rw [← HBB.out]
                    exact bOf_true (rep_parts.2 ⟨okN_iff.2 ⟨HF0.out, inB_iff.1 Ah1.out⟩, Ah2.out, Ah3.out, bOf_true fun k s hk hx => HSS.out.1 k s (by have := Ah3.out; omega) hx, Ah5.out, bOf_true fun k s hk hx => HSS.out.2 k s (by have := Ah5.out; omega) hx, h7, HLL.out, chG_yes HZ.out.1⟩)
                  go_wp2_with fail
                  go_ret
                  exact ⟨ret_b HT.out.symm, G1.out⟩
end Go.Proofs.YtondmbeccpekiaaGreatDoor.Yr
