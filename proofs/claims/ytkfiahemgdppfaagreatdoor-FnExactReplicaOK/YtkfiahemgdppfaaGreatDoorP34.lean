/- Texts put together: Yk, Yb, Yc. -/
import Derived.Test.YtkfiahemgdppfaaGreatDoorP33
import Derived.Test.YtkfiahemgdppfaaGreatDoorP4
import Derived.Deep.CutRange
import Derived.Deep.DeepCutAuto
/- Right replicas: the specification's ReplicaOK. -/
namespace Go.Proofs.YtkfiahemgdppfaaGreatDoor.Yr
open Go.RowKit Go.Proofs.YtkfiahemgdppfaaGreatDoor.Rg Go.Proofs.YtkfiahemgdppfaaGreatDoor.Gm Go.Proofs.YtkfiahemgdppfaaGreatDoor.Ty Go.Proofs.YtkfiahemgdppfaaGreatDoor.Tm Go.Proofs.YtkfiahemgdppfaaGreatDoor.Sh
open Go.Proofs.YtkfiahemgdppfaaGreatDoor.Vt (bOf bOf_true bOf_false bOf_iff bOf_eq sg sg_from frn msk msk_step or_add pow_le7 Rise crtB CertP crt_q q_pos allBelow_any with_any implCertOK_any ballotOf_any l06Cert_any)
open Go.Proofs.YtkfiahemgdppfaaGreatDoor.Bw (bdP bdB implBodyOK_any l06Body_any)
open Go.Proofs.YtkfiahemgdppfaaGreatDoor.Bd (dOut)
open Go.Proofs.YtkfiahemgdppfaaGreatDoor.Wc (cfB vcC vcL cfL implViewCerts_any l06Certs_any OwnC)
open Go.Proofs.YtkfiahemgdppfaaGreatDoor.Qm (qOut inB)

theorem bdP_big {n : Int} {s : ByteArray} (h : ¬ s.size ≤ 20000) : bdP n s = false := by unfold bdP; rw [decide_eq_false h]; rfl
theorem bdP_small {n : Int} {s : ByteArray} (h : s.size ≤ 20000) : bdP n s = bdB n s := by unfold bdP; rw [decide_eq_true h]; rfl
/-- The j-th change is right, and behind the one ahead of it. -/
def OneG (n vw v0 : Int) (ch : List Mg) (j : Nat) (x : Mg) : Prop := ChgP n vw v0 x ∧ ∀ m y, j = m + 1 → ch[m]? = some y → y.fr < x.fr
def AllG (n vw : Int) (ch : List Mg) (k : Nat) : Prop := ∀ j x, j < k → ch[j]? = some x → ∀ y0, ch[0]? = some y0 → OneG n vw y0.vw ch j x
theorem chG_no {n vw : Int} {ch : List Mg} {j : Nat} {x y0 : Mg} (hx : ch[j]? = some x) (h0 : ch[0]? = some y0) (h : ¬ OneG n vw y0.vw ch j x) : chB n vw ch = false := bOf_false fun ⟨h1, h2⟩ => by
  refine h ⟨h1 x (mem_at hx) y0 h0, fun m y e hy => ?_⟩
  subst e
  exact h2 m y x (lt_at hx) hy hx
theorem chG_yes {n vw : Int} {ch : List Mg} (h : AllG n vw ch ch.length) : chB n vw ch = true :=
  bOf_true ⟨all_of fun j x hj hx y0 hy0 => (h j x hj hx y0 hy0).1, fun j x y hj hx hy => by
    obtain ⟨y0, hy0⟩ := Rg.get_at (xs := ch) (k := 0) (by omega)
    exact (h (j + 1) y hj hy y0 hy0).2 j x rfl hx⟩
set_option maxRecDepth 100000 in
set_option maxHeartbeats 20000000 in
theorem specReplicaOK_any (r : Rp) (vs vc vl vh : Value) (w : World) (h : RepR w r vs vc vl vh) (hz : Zr 1048576 r) :
    Calls Tryz.prog 12 #[.agg #[.int .i64 r.id, .int .i64 r.n, .int .i64 r.vw, .bool r.ac, vs, vc, vl, vh]] w fun e w' => e = .returned (.bool (repB r)) ∧ Below w.heap.size w w' := by
  have HR : Hid (RepR w r vs vc vl vh) := h
  have HZ0 : Hid (Zr 1048576 r) := hz
  obtain ⟨ax, ks, rfl⟩ := RowG.slice h.s
  obtain ⟨ac, kc, rfl⟩ := RowG.slice h.c
  obtain ⟨al, kl, rfl, _⟩ := h.l
  obtain ⟨ah, kh, rfl⟩ := RowG.slice h.h
  have HP : Hid (∀ W, Below (w.alloc (.cells #[.int .i64 r.id, .int .i64 r.n, .int .i64 r.vw, .bool r.ac, .slice ax r.ss.length ks, .slice ac r.cs.length kc, .slice al r.lg.length kl, .slice ah r.ch.length kh] 48)).heap.size (w.alloc (.cells #[.int .i64 r.id, .int .i64 r.n, .int .i64 r.vw, .bool r.ac, .slice ax r.ss.length ks, .slice ac r.cs.length kc, .slice al r.lg.length kl, .slice ah r.ch.length kh] 48)) W → (W.cell? ⟨w.heap.size, 0, none⟩ = some (.int .i64 r.id) ∧ W.cell? ⟨w.heap.size, 1, none⟩ = some (.int .i64 r.n) ∧ W.cell? ⟨w.heap.size, 2, none⟩ = some (.int .i64 r.vw) ∧ W.cell? ⟨w.heap.size, 3, none⟩ = some (.bool r.ac) ∧ W.cell? ⟨w.heap.size, 4, none⟩ = some (.slice ax r.ss.length ks) ∧ W.cell? ⟨w.heap.size, 5, none⟩ = some (.slice ac r.cs.length kc) ∧ W.cell? ⟨w.heap.size, 6, none⟩ = some (.slice al r.lg.length kl) ∧ W.cell? ⟨w.heap.size, 7, none⟩ = some (.slice ah r.ch.length kh)) ∧ Below w.heap.size w W) := fun W hW => by
    have h1 := (hW.block w.heap.size (by simp)).trans (heap_alloc_new w _)
    exact ⟨⟨(blk_cell h1 0 rfl).1, (blk_cell h1 1 rfl).1, (blk_cell h1 2 rfl).1, (blk_cell h1 3 rfl).1, (blk_cell h1 4 rfl).1, (blk_cell h1 5 rfl).1, (blk_cell h1 6 rfl).1, (blk_cell h1 7 rfl).1⟩, (bel_new w _).trans (hW.mono (by simp))⟩
  clear h hz
  obtain ⟨bb, HBB⟩ : ∃ bb, Hid (repB r = bb) := ⟨_, rfl⟩
  rw [HBB.out]
  have HN : Hid (∀ _ : Unit, ¬ RepP r → bb = false) := fun _ hh => by rw [← HBB.out]; exact bOf_false hh
  have HNO : Hid (∀ W, Calls Tryz.prog 22 #[.int .i64 r.n] W fun e w' => e = .returned (.bool (decide (fCode r.n = 0))) ∧ W = w') := fun W => Qm.l04Nodes_any r.n W
  have HID : Hid (∀ W, Calls Tryz.prog 23 #[.int .i64 r.id, .int .i64 0, .int .i64 (r.n - 1)] W fun e w' => e = .returned (.bool (inB r.id 0 (r.n - 1))) ∧ W = w') := fun W => Qm.l01In_any r.id 0 (r.n - 1) W
  have HWI : Hid (∀ W, Calls Tryz.prog 23 #[.int .i64 r.vw, .int .i64 0, .int .i64 20] W fun e w' => e = .returned (.bool (inB r.vw 0 20)) ∧ W = w') := fun W => Qm.l01In_any r.vw 0 20 W
  go_enter Tryz.func12, Tryz.ntmps12
  go_upto_region 1 with fail
  generalize w.alloc (.cells #[.int .i64 r.id, .int .i64 r.n, .int .i64 r.vw, .bool r.ac, .slice ax r.ss.length ks, .slice ac r.cs.length kc, .slice al r.lg.length kl, .slice ah r.ch.length kh] 48) = wb at HP ⊢
  obtain ⟨⟨r0, r1, r2, r3, r4, r5, r6, r7⟩, RB⟩ := HP.out wb (Below.refl _ _)
  have G0 : Hid (Below w.heap.size w wb) := RB
  clear RB
  by_cases hf : fCode r.n = 0
  rotate_left
  · have HF : Hid (bb = false) := HN.out () fun hh => hf hh.1.1
    rw [decide_eq_false hf] at HNO
    clear hf
    go_wp2_with fail
    refine (HNO.out _).mono ?_
    rintro e _ ⟨rfl, rfl⟩
    go_wp2_with fail
    go_ret
    exact ⟨ret_b HF.out.symm, G0.out⟩
  rw [decide_eq_true hf] at HNO
  have HF0 : Hid (fCode r.n = 0) := hf
  have hn7 := f_small hf
  clear hf
  cases h1 : inB r.id 0 (r.n - 1) with
  | false =>
    have HF : Hid (bb = false) := HN.out () fun hh => by have := inB_iff.2 hh.1.2; rw [h1] at this; cases this
    rw [h1] at HID
    clear h1
    go_wp2_with fail
    refine (HNO.out _).mono ?_
    rintro e _ ⟨rfl, rfl⟩
    go_wp2_with fail
    refine (HID.out _).mono ?_
    rintro e _ ⟨rfl, rfl⟩
    go_wp2_with fail
    go_ret
    exact ⟨ret_b HF.out.symm, G0.out⟩
  | true =>
    have Ah1 : Hid (inB r.id 0 (r.n - 1) = true) := h1
    rw [h1] at HID
    clear h1
    cases h2 : inB r.vw 0 20 with
    | false =>
      have HF : Hid (bb = false) := HN.out () fun hh => by have := inB_iff.2 hh.2.1; rw [h2] at this; cases this
      rw [h2] at HWI
      clear h2
      go_wp2_with fail
      refine (HNO.out _).mono ?_
      rintro e _ ⟨rfl, rfl⟩
      go_wp2_with fail
      refine (HID.out _).mono ?_
      rintro e _ ⟨rfl, rfl⟩
      go_wp2_with fail
      refine (HWI.out _).mono ?_
      rintro e _ ⟨rfl, rfl⟩
      go_wp2_with fail
      go_ret
      exact ⟨ret_b HF.out.symm, G0.out⟩
    | true =>
      have Ah2 : Hid (inB r.vw 0 20 = true) := h2
      rw [h2] at HWI
      clear h2
      by_cases h3 : r.ss.length = 8
      rotate_left
      · have HF : Hid (bb = false) := HN.out () fun hh => h3 hh.2.2.1.1
        have h3a : ((r.ss.length : Int) != 8) = true := by simpa using (by omega : ¬ (r.ss.length : Int) = 8)
        have h3b : (r.ss.length != 8) = true := by simpa using h3
        clear h3
        go_wp2_with fail
        refine (HNO.out _).mono ?_
        rintro e _ ⟨rfl, rfl⟩
        go_wp2_with fail
        refine (HID.out _).mono ?_
        rintro e _ ⟨rfl, rfl⟩
        go_wp2_with fail
        refine (HWI.out _).mono ?_
        rintro e _ ⟨rfl, rfl⟩
        go_wp2_with fail
        go_ret
        exact ⟨ret_b HF.out.symm, G0.out⟩
      have Ah3 : Hid (r.ss.length = 8) := h3
      have h3a : ((r.ss.length : Int) != 8) = false := by simpa using (by omega : (r.ss.length : Int) = 8)
      have h3b : (r.ss.length != 8) = false := by simpa using h3
      clear h3
      by_cases h5 : r.cs.length = 8
      rotate_left
      · have HF : Hid (bb = false) := HN.out () fun hh => h5 hh.2.2.2.1.1
        have h5a : ((r.cs.length : Int) != 8) = true := by simpa using (by omega : ¬ (r.cs.length : Int) = 8)
        have h5b : (r.cs.length != 8) = true := by simpa using h5
        clear h5
        go_wp2_with fail
        refine (HNO.out _).mono ?_
        rintro e _ ⟨rfl, rfl⟩
        go_wp2_with fail
        refine (HID.out _).mono ?_
        rintro e _ ⟨rfl, rfl⟩
        go_wp2_with fail
        refine (HWI.out _).mono ?_
        rintro e _ ⟨rfl, rfl⟩
        go_wp2_with fail
        go_ret
        exact ⟨ret_b HF.out.symm, G0.out⟩
      have Ah5 : Hid (r.cs.length = 8) := h5
      have h5a : ((r.cs.length : Int) != 8) = false := by simpa using (by omega : (r.cs.length : Int) = 8)
      have h5b : (r.cs.length != 8) = false := by simpa using h5
      clear h5
      by_cases h7 : r.lg.length ≤ 8
      rotate_left
      · have HF : Hid (bb = false) := HN.out () fun hh => h7 hh.2.2.2.2.1.1
        have h7a : (8 : Int) < (r.lg.length : Int) := by omega
        go_wp2_with fail
        refine (HNO.out _).mono ?_
        rintro e _ ⟨rfl, rfl⟩
        go_wp2_with fail
        refine (HID.out _).mono ?_
        rintro e _ ⟨rfl, rfl⟩
        go_wp2_with fail
        refine (HWI.out _).mono ?_
        rintro e _ ⟨rfl, rfl⟩
        go_wp2_with fail
        go_ret
        exact ⟨ret_b HF.out.symm, G0.out⟩
      have h7a : ¬ (8 : Int) < (r.lg.length : Int) := by omega
      by_cases h8 : (r.ch.length : Int) ≤ r.n
      rotate_left
      · have HF : Hid (bb = false) := HN.out () fun hh => h8 (ch_few hh)
        have h8a : r.n < (r.ch.length : Int) := by omega
        go_wp2_with fail
        refine (HNO.out _).mono ?_
        rintro e _ ⟨rfl, rfl⟩
        go_wp2_with fail
        refine (HID.out _).mono ?_
        rintro e _ ⟨rfl, rfl⟩
        go_wp2_with fail
        refine (HWI.out _).mono ?_
        rintro e _ ⟨rfl, rfl⟩
        go_wp2_with fail
        go_ret
        exact ⟨ret_b HF.out.symm, G0.out⟩
      have h8a : ¬ r.n < (r.ch.length : Int) := by omega
      go_wp2_with fail
      refine (HNO.out _).mono ?_
      rintro e _ ⟨rfl, rfl⟩
      go_wp2_with fail
      refine (HID.out _).mono ?_
      rintro e _ ⟨rfl, rfl⟩
      go_wp2_with fail
      refine (HWI.out _).mono ?_
      rintro e _ ⟨rfl, rfl⟩
      go_wp2_with fail
      clear HNO HID HWI r0 r1 r2 r3 r4 r5 r6 r7 h3a h3b h5a h5b
      go_loopw [3] (fun i wr => ∃ k : Nat, k ≤ 8 ∧ i = .int .i64 k ∧ Hid ((∀ j s, j < k → r.ss[j]? = some s → SlotP r.n r.vw j s) ∧ (∀ j c, j < k → r.cs[j]? = some c → PlaceP r.n r.vw j c) ∧ Below wb.heap.size wb wr)) (fun i _ => 8 - (intOf i).toNat)
      case atStart => exact ⟨0, by omega, rfl, ⟨fun j x hj => by omega, fun j x hj => by omega, Below.refl _ _⟩⟩
      case round =>
        obtain ⟨k, hk, rfl, HZ⟩ := hrel
        by_cases hlt : k < 8
        · obtain ⟨x, hx⟩ := Rg.get_at (xs := r.ss) (k := k) (by have := Ah3.out; omega)
          obtain ⟨c, hcx⟩ := Rg.get_at (xs := r.cs) (k := k) (by have := Ah5.out; omega)
          have WR : Below w.heap.size w wr := (HP.out _ HZ.out.2.2).2
          obtain ⟨b, off, rfl, hbl, u1, u2, c0, c1, c2, c3, c4, s1, s2⟩ := RowG.at (HR.out.s.below WR) rfl hx
          obtain ⟨a1, k1, rfl⟩ := RowG.slice s1
          obtain ⟨a2, k2, rfl⟩ := RowG.slice s2
          obtain ⟨b2, off2, rfl, hbl2, u3, d0, d1, s3⟩ := RowG.at (HR.out.c.below WR) rfl hcx
          obtain ⟨a3, k3, rfl⟩ := RowG.slice s3
          have hzx := HZ0.out.sz x (mem_at hx)
          have hzc := HZ0.out.cz c (mem_at hcx)
          have HX : Hid (r.ss[k]? = some x ∧ r.cs[k]? = some c) := ⟨hx, hcx⟩
          have HD : Hid (∀ W, Below wr.heap.size wr W → W.cell? ⟨b2, off2 + k * 2, none⟩ = some (.string c.bd) ∧ W.cell? ⟨b2, off2 + k * 2 + 1, none⟩ = some (.slice a3 c.ms.length k3) ∧ Row W (.slice a3 c.ms.length k3) c.ms) := fun W hW => ⟨(hW.cell (p := ⟨b2, _, none⟩) hbl2).trans d0, (hW.cell (p := ⟨b2, _, none⟩) hbl2).trans d1, s3.below hW⟩
          have HM : Hid (∀ W, Below (wr.alloc (.cells #[.string x.bd, .slice a1 x.ps.length k1, .slice a2 x.cs.length k2, .bool x.st, .bool x.dn] 74)).heap.size (wr.alloc (.cells #[.string x.bd, .slice a1 x.ps.length k1, .slice a2 x.cs.length k2, .bool x.st, .bool x.dn] 74)) W → (W.cell? ⟨wr.heap.size, 0, none⟩ = some (.string x.bd) ∧ W.cell? ⟨wr.heap.size, 1, none⟩ = some (.slice a1 x.ps.length k1) ∧ W.cell? ⟨wr.heap.size, 2, none⟩ = some (.slice a2 x.cs.length k2)) ∧ Below wb.heap.size wb W ∧ Below wr.heap.size wr W) := fun W hW => by
            have h1 := (hW.block wr.heap.size (by simp)).trans (heap_alloc_new wr _)
            have h3 := (bel_new wr _).trans (hW.mono (by simp))
            exact ⟨⟨(blk_cell h1 0 rfl).1, (blk_cell h1 1 rfl).1, (blk_cell h1 2 rfl).1⟩, HZ.out.2.2.trans (h3.mono HZ.out.2.2.size), h3⟩
          have HBO : Hid (x.bd.size ≤ 20000 → ∀ W, Below wr.heap.size wr W → Calls Tryz.prog 33 #[.int .i64 r.n, .string x.bd] W fun e w' => e = .returned (.bool (bdP r.n x.bd)) ∧ Below W.heap.size W w') := fun hs W _ => by
            rw [bdP_small hs]
            exact l06Body_any r.n x.bd W HF0.out hs
          have HC2 : Hid (∀ W, Below wr.heap.size wr W → Calls Tryz.prog 34 #[.agg #[.int .i64 r.id, .int .i64 r.n, .int .i64 r.vw, .bool r.ac, .slice (some ⟨b, off, none⟩) r.ss.length ks, .slice (some ⟨b2, off2, none⟩) r.cs.length kc, .slice al r.lg.length kl, .slice ah r.ch.length kh], .slice a1 x.ps.length k1, .int .i64 2, .int .i64 ((k : Int) + 1)] W fun e w' => e = .returned (.bool (castB r.n 2 r.vw ((k : Int) + 1) x.ps)) ∧ Below W.heap.size W w') := fun W hW => l07Votes_any r _ _ _ _ 2 ((k : Int) + 1) _ x.ps W (HR.out.below (WR.trans (hW.mono WR.size))) HF0.out (s1.below hW) hzx.2.1.1
          have HC3 : Hid (∀ W, Below wr.heap.size wr W → Calls Tryz.prog 34 #[.agg #[.int .i64 r.id, .int .i64 r.n, .int .i64 r.vw, .bool r.ac, .slice (some ⟨b, off, none⟩) r.ss.length ks, .slice (some ⟨b2, off2, none⟩) r.cs.length kc, .slice al r.lg.length kl, .slice ah r.ch.length kh], .slice a2 x.cs.length k2, .int .i64 3, .int .i64 ((k : Int) + 1)] W fun e w' => e = .returned (.bool (castB r.n 3 r.vw ((k : Int) + 1) x.cs)) ∧ Below W.heap.size W w') := fun W hW => l07Votes_any r _ _ _ _ 3 ((k : Int) + 1) _ x.cs W (HR.out.below (WR.trans (hW.mono WR.size))) HF0.out (s2.below hW) hzx.2.2.1
          have HLC : Hid (∀ W, Below wr.heap.size wr W → Calls Tryz.prog 35 #[.int .i64 r.n, .agg #[.string c.bd, .slice a3 c.ms.length k3]] W fun e w' => e = .returned (.bool (crtB r.n c.bd c.ms)) ∧ Below W.heap.size W w') := fun W hW => l06Cert_any r.n c.bd _ c.ms W HF0.out (s3.below hW) hzc.2.1
          have HNS : Hid (∀ _ : Unit, ¬ SlotP r.n r.vw k x → bb = false) := fun _ hh => HN.out () fun hr => hh (hr.2.2.1.2 k x hlt HX.out.1)
          have HNP : Hid (∀ _ : Unit, ¬ PlaceP r.n r.vw k c → bb = false) := fun _ hh => HN.out () fun hr => hh (hr.2.2.2.1.2 k c hlt HX.out.2)
          have HYS : Hid (SlotP r.n r.vw k x → ∀ j s, j < k + 1 → r.ss[j]? = some s → SlotP r.n r.vw j s) := fun hh => upto_succ HZ.out.1 HX.out.1 hh
          have HYP : Hid (PlaceP r.n r.vw k c → ∀ j s, j < k + 1 → r.cs[j]? = some s → PlaceP r.n r.vw j s) := fun hh => upto_succ HZ.out.2.1 HX.out.2 hh
          obtain ⟨⟨r0, r1, r2, r3, r4, r5, r6, r7⟩, RB⟩ := HP.out wr HZ.out.2.2
          have hp0 : (0 : Int) ≤ (k : Int) := by omega
          have hp1 : (k : Int) < (r.ss.length : Int) := by have := Ah3.out; omega
          have hp2 : (k : Int) < (r.cs.length : Int) := by have := Ah5.out; omega
          have hw1 : IntKind.i64.wrap ((k : Int) + 1) = (k : Int) + 1 := by rw [IntKind.wrap_i64]; omega
          clear hx hcx s1 s2 s3 hzx hzc WR RB d0 d1
          go_upto_region 7 with fail
          generalize wr.alloc (.cells #[.string x.bd, .slice a1 x.ps.length k1, .slice a2 x.cs.length k2, .bool x.st, .bool x.dn] 74) = wa at HM ⊢
          clear c0 c1 c2 c3 c4 r0 r1 r2 r3 r4 r5 r6 r7
          obtain ⟨⟨c0, c1, c2⟩, A1, A2⟩ := HM.out wa (Below.refl _ _)
          obtain ⟨⟨r0, r1, r2, r3, r4, r5, r6, r7⟩, RB⟩ := HP.out wa A1
          have D0 : Hid (Below wr.heap.size wr wa) := A2
          have E0 : Hid (Below wa.heap.size wa wa) := Below.refl _ _
          have Y0 : Hid (Below w.heap.size w wa) := RB
          have F0 : Hid (Below wb.heap.size wb wa) := A1
          clear A1 A2 RB
          by_cases hbig : x.bd.size ≤ 20000
          rotate_left
          · have hbig1 : (20000 : Int) < (x.bd.size : Int) := by omega
            have HF : Hid (bb = false) := HNS.out () fun hh => by
              rcases hh.1 with h | h
              · omega
              · rw [bdP_big hbig] at h; cases h
            go_wp2_with fail
            go_ret
            exact ⟨ret_b HF.out.symm, Y0.out⟩
          have hbig1 : ¬ (20000 : Int) < (x.bd.size : Int) := by omega
          have HBO2 := HBO.out hbig
          have HBO3 : Hid (∀ W, Below wr.heap.size wr W → Calls Tryz.prog 33 #[.int .i64 r.n, .string x.bd] W fun e w' => e = .returned (.bool (bdP r.n x.bd)) ∧ Below W.heap.size W w') := HBO2
          clear HBO HBO2 hbig
          by_cases h0 : x.bd.size = 0
          · have q1 : (x.bd.toList == []) = true := by rw [empty_of h0, nil_list]; rfl
            have q2 : (x.bd.toList != []) = false := by rw [empty_of h0, nil_list]; rfl
            have H0 : Hid (x.bd.size = 0 ∨ bdP r.n x.bd = true) := .inl h0
            clear h0
            cases h2 : castB r.n 2 r.vw ((k : Int) + 1) x.ps with
            | false =>
              have HF : Hid (bb = false) := HNS.out () fun hh => by have := hh.2.1; rw [h2] at this; cases this
              rw [h2] at HC2
              clear h2
              go_wp2_with fail
              refine (HC2.out _ D0.out).mono ?_
              rintro e y1 ⟨rfl, b1⟩
              have E1 : Hid (Below wa.heap.size wa y1) := E0.out.trans (b1.mono E0.out.size)
              have D1 : Hid (Below wr.heap.size wr y1) := D0.out.trans (E1.out.mono D0.out.size)
              clear b1 c0 c1 c2 r0 r1 r2 r3 r4 r5 r6 r7
              obtain ⟨⟨c0, c1, c2⟩, A1, _⟩ := HM.out y1 E1.out
              obtain ⟨⟨r0, r1, r2, r3, r4, r5, r6, r7⟩, RB⟩ := HP.out y1 A1
              have Y1 : Hid (Below w.heap.size w y1) := RB
              have F1 : Hid (Below wb.heap.size wb y1) := A1
              clear A1 RB
              go_wp2_with fail
              go_ret
              exact ⟨ret_b HF.out.symm, Y1.out⟩
            | true =>
              cases h3 : castB r.n 3 r.vw ((k : Int) + 1) x.cs with
              | false =>
                have HF : Hid (bb = false) := HNS.out () fun hh => by have := hh.2.2; rw [h3] at this; cases this
                rw [h2] at HC2
                rw [h3] at HC3
                clear h2 h3
                go_wp2_with fail
                refine (HC2.out _ D0.out).mono ?_
                rintro e y1 ⟨rfl, b1⟩
                have E1 : Hid (Below wa.heap.size wa y1) := E0.out.trans (b1.mono E0.out.size)
                have D1 : Hid (Below wr.heap.size wr y1) := D0.out.trans (E1.out.mono D0.out.size)
                clear b1 c0 c1 c2 r0 r1 r2 r3 r4 r5 r6 r7
                obtain ⟨⟨c0, c1, c2⟩, A1, _⟩ := HM.out y1 E1.out
                obtain ⟨⟨r0, r1, r2, r3, r4, r5, r6, r7⟩, RB⟩ := HP.out y1 A1
                have Y1 : Hid (Below w.heap.size w y1) := RB
                have F1 : Hid (Below wb.heap.size wb y1) := A1
                clear A1 RB
                go_wp2_with fail
                refine (HC3.out _ D1.out).mono ?_
                rintro e y2 ⟨rfl, b2⟩
                have E2 : Hid (Below wa.heap.size wa y2) := E1.out.trans (b2.mono E1.out.size)
                have D2 : Hid (Below wr.heap.size wr y2) := D0.out.trans (E2.out.mono D0.out.size)
                clear b2 c0 c1 c2 r0 r1 r2 r3 r4 r5 r6 r7
                obtain ⟨⟨c0, c1, c2⟩, A1, _⟩ := HM.out y2 E2.out
                obtain ⟨⟨r0, r1, r2, r3, r4, r5, r6, r7⟩, RB⟩ := HP.out y2 A1
                have Y2 : Hid (Below w.heap.size w y2) := RB
                have F2 : Hid (Below wb.heap.size wb y2) := A1
                clear A1 RB
                go_wp2_with fail
                go_ret
                exact ⟨ret_b HF.out.symm, Y2.out⟩
              | true =>
                have HUS : Hid (∀ j s, j < k + 1 → r.ss[j]? = some s → SlotP r.n r.vw j s) := HYS.out ⟨H0.out, h2, h3⟩
                rw [h2] at HC2
                rw [h3] at HC3
                clear h2 h3
                go_wp2_with fail
                refine (HC2.out _ D0.out).mono ?_
                rintro e y1 ⟨rfl, b1⟩
                have E1 : Hid (Below wa.heap.size wa y1) := E0.out.trans (b1.mono E0.out.size)
                have D1 : Hid (Below wr.heap.size wr y1) := D0.out.trans (E1.out.mono D0.out.size)
                clear b1 c0 c1 c2 r0 r1 r2 r3 r4 r5 r6 r7
                obtain ⟨⟨c0, c1, c2⟩, A1, _⟩ := HM.out y1 E1.out
                obtain ⟨⟨r0, r1, r2, r3, r4, r5, r6, r7⟩, RB⟩ := HP.out y1 A1
                have Y1 : Hid (Below w.heap.size w y1) := RB
                have F1 : Hid (Below wb.heap.size wb y1) := A1
                clear A1 RB
                go_wp2_with fail
                refine (HC3.out _ D1.out).mono ?_
                rintro e y2 ⟨rfl, b2⟩
                have E2 : Hid (Below wa.heap.size wa y2) := E1.out.trans (b2.mono E1.out.size)
                have D2 : Hid (Below wr.heap.size wr y2) := D0.out.trans (E2.out.mono D0.out.size)
                clear b2 c0 c1 c2 r0 r1 r2 r3 r4 r5 r6 r7
                obtain ⟨⟨c0, c1, c2⟩, A1, _⟩ := HM.out y2 E2.out
                obtain ⟨⟨r0, r1, r2, r3, r4, r5, r6, r7⟩, RB⟩ := HP.out y2 A1
                have Y2 : Hid (Below w.heap.size w y2) := RB
                have F2 : Hid (Below wb.heap.size wb y2) := A1
                clear A1 RB
                obtain ⟨d0, d1, s3⟩ := HD.out y2 D2.out
                have HQ : Hid (∀ W, Below (y2.alloc (.cells #[.string c.bd, .slice a3 c.ms.length k3] 37)).heap.size (y2.alloc (.cells #[.string c.bd, .slice a3 c.ms.length k3] 37)) W → (W.cell? ⟨y2.heap.size, 0, none⟩ = some (.string c.bd) ∧ W.cell? ⟨y2.heap.size, 1, none⟩ = some (.slice a3 c.ms.length k3)) ∧ Below wb.heap.size wb W ∧ Below wr.heap.size wr W) := fun W hW => by
                  have h1 := (hW.block y2.heap.size (by simp)).trans (heap_alloc_new y2 _)
                  have h3 := (bel_new y2 _).trans (hW.mono (by simp))
                  exact ⟨⟨(blk_cell h1 0 rfl).1, (blk_cell h1 1 rfl).1⟩, F2.out.trans (h3.mono F2.out.size), D2.out.trans (h3.mono D2.out.size)⟩
                go_upto_region 10 with fail
                generalize y2.alloc (.cells #[.string c.bd, .slice a3 c.ms.length k3] 37) = wc at HQ ⊢
                clear d0 d1 s3 c0 c1 c2 r0 r1 r2 r3 r4 r5 r6 r7
                obtain ⟨⟨c0, c1⟩, A1, A2⟩ := HQ.out wc (Below.refl _ _)
                obtain ⟨⟨r0, r1, r2, r3, r4, r5, r6, r7⟩, RB⟩ := HP.out wc A1
                have F9 : Hid (Below wb.heap.size wb wc) := A1
                have G9 : Hid (Below w.heap.size w wc) := RB
                have D9 : Hid (Below wr.heap.size wr wc) := A2
                clear A1 A2 RB
                by_cases hm0 : c.ms.length = 0
                · have m1 : ((c.ms.length : Int) == 0) = true := by simpa using (by omega : (c.ms.length : Int) = 0)
                  have m2 : (c.ms.length == 0) = true := by simpa using hm0
                  have HM0 : Hid (c.ms = []) := List.length_eq_zero_iff.1 hm0
                  clear hm0
                  by_cases h9 : c.bd.size = 0
                  · have HU : Hid (∀ j s, j < k + 1 → r.cs[j]? = some s → PlaceP r.n r.vw j s) := HYP.out (.inl ⟨h9, HM0.out⟩)
                    have t1 : (c.bd.toList == []) = true := by rw [empty_of h9, nil_list]; rfl
                    have t2 : (c.bd.toList != []) = false := by rw [empty_of h9, nil_list]; rfl
                    clear h9
                    go_wp2_with fail
                    exact ⟨⟨k + 1, by omega, by go_num, ⟨HUS.out, HU.out, F9.out⟩⟩, by simp [intOf]; omega⟩
                  · have HF : Hid (bb = false) := HNP.out () fun hh => by
                      rcases hh with h | ⟨h, _⟩
                      · exact h9 h.1
                      · rw [HM0.out, crt_nil] at h; cases h
                    have t1 : (c.bd.toList == []) = false := ne_list h9
                    have t2 : (c.bd.toList != []) = true := by show (!(c.bd.toList == [])) = true; rw [t1]; rfl
                    clear h9
                    go_wp2_with fail
                    go_ret
                    exact ⟨ret_b HF.out.symm, G9.out⟩
                · have m1 : ((c.ms.length : Int) == 0) = false := by simpa using (by omega : ¬ (c.ms.length : Int) = 0)
                  have m2 : (c.ms.length == 0) = false := by simpa using hm0
                  have ml : (0 : Int) < (c.ms.length : Int) := by omega
                  have HMN : Hid (¬ c.ms = []) := fun hh => hm0 (by rw [hh]; rfl)
                  obtain ⟨y, hy⟩ := Rg.get_at (xs := c.ms) (k := 0) (by omega)
                  have HYY : Hid (c.ms[0]? = some y) := hy
                  obtain ⟨b5, off5, rfl, hb5, z0, z1, z2, _⟩ := RowG.at ((HD.out wc D9.out).2.2) rfl hy
                  clear hm0 hy z0
                  go_upto_region 13 with fail
                  obtain ⟨X, hX, W, QI0, QO0⟩ := Qc.klass wc
                  have QI : Hid (∀ w', Below wc.heap.size wc w' → ∃ x, w' = W x) := QI0
                  have QO : Hid (∀ x, Below wc.heap.size wc (W x)) := QO0
                  clear QI0 QO0
                  have q0 := Qc.cell_all QO.out c0
                  have qa := Qc.cell_all QO.out c1
                  have qb := Qc.cell_all QO.out z1
                  have qc := Qc.cell_all QO.out z2
                  have qd := Qc.cell_all QO.out r1
                  have qe := Qc.cell_all QO.out r2
                  have HLW : Hid (∀ x, Below wr.heap.size wr (W x)) := fun x => D9.out.trans ((QO.out x).mono D9.out.size)
                  clear c0 c1 z1 z2 r0 r1 r2 r3 r4 r5 r6 r7
                  cases hcr : crtB r.n c.bd c.ms with
                  | false =>
                    have HF : Hid (bb = false) := HNP.out () fun hh => by
                      rcases hh with h | ⟨h, _⟩
                      · exact HMN.out h.2
                      · rw [hcr] at h; cases h
                    rw [hcr] at HLC
                    clear hcr
                    refine Qc.region_class (W := W) (by kernel_rfl) (by kernel_rfl) (QI.out _ Qc.from_drew) ?_
                    repeat (go_big_quiet_step (first | (go_at_call 35; refine (HLC.out _ (HLW.out _)).mono ?_; rintro e w2 ⟨rfl, b2⟩; exact ⟨rfl, Qc.back QI.out QO.out b2⟩)))
                    refine wpQuiet_nil ?_
                    rintro _ ⟨xq, rfl⟩
                    have G2 : Hid (Below w.heap.size w (W xq)) := G9.out.trans ((QO.out xq).mono G9.out.size)
                    have F2 : Hid (Below wb.heap.size wb (W xq)) := F9.out.trans ((QO.out xq).mono F9.out.size)
                    clear q0 qa qb qc qd qe HLW
                    generalize W xq = wq at G2 F2 ⊢
                    go_wp2_with fail
                    go_ret
                    exact ⟨ret_b HF.out.symm, G2.out⟩
                  | true =>
                    have HCR : Hid (crtB r.n c.bd c.ms = true) := hcr
                    rw [hcr] at HLC
                    clear hcr
                    by_cases g1 : y.sq = (k : Int) + 1
                    · have g1' : (y.sq != (k : Int) + 1) = false := by simpa using g1
                      by_cases g2 : r.vw < y.vw
                      · have HF : Hid (bb = false) := HNP.out () fun hh => by
                          rcases hh with h | ⟨_, z, hz, _, h3⟩
                          · exact HMN.out h.2
                          · rw [HYY.out] at hz; cases hz; omega
                        clear g1
                        refine Qc.region_class (W := W) (by kernel_rfl) (by kernel_rfl) (QI.out _ Qc.from_drew) ?_
                        repeat (go_big_quiet_step (first | (go_at_call 35; refine (HLC.out _ (HLW.out _)).mono ?_; rintro e w2 ⟨rfl, b2⟩; exact ⟨rfl, Qc.back QI.out QO.out b2⟩)))
                        refine wpQuiet_nil ?_
                        rintro _ ⟨xq, rfl⟩
                        have G2 : Hid (Below w.heap.size w (W xq)) := G9.out.trans ((QO.out xq).mono G9.out.size)
                        have F2 : Hid (Below wb.heap.size wb (W xq)) := F9.out.trans ((QO.out xq).mono F9.out.size)
                        clear q0 qa qb qc qd qe HLW
                        generalize W xq = wq at G2 F2 ⊢
                        go_wp2_with fail
                        go_ret
                        exact ⟨ret_b HF.out.symm, G2.out⟩
                      · have HU : Hid (∀ j s, j < k + 1 → r.cs[j]? = some s → PlaceP r.n r.vw j s) := HYP.out (.inr ⟨HCR.out, y, HYY.out, g1, by omega⟩)
                        clear g1
                        refine Qc.region_class (W := W) (by kernel_rfl) (by kernel_rfl) (QI.out _ Qc.from_drew) ?_
                        repeat (go_big_quiet_step (first | (go_at_call 35; refine (HLC.out _ (HLW.out _)).mono ?_; rintro e w2 ⟨rfl, b2⟩; exact ⟨rfl, Qc.back QI.out QO.out b2⟩)))
                        refine wpQuiet_nil ?_
                        rintro _ ⟨xq, rfl⟩
                        have G2 : Hid (Below w.heap.size w (W xq)) := G9.out.trans ((QO.out xq).mono G9.out.size)
                        have F2 : Hid (Below wb.heap.size wb (W xq)) := F9.out.trans ((QO.out xq).mono F9.out.size)
                        clear q0 qa qb qc qd qe HLW
                        generalize W xq = wq at G2 F2 ⊢
                        go_wp2_with fail
                        exact ⟨⟨k + 1, by omega, by go_num, ⟨HUS.out, HU.out, F2.out⟩⟩, by simp [intOf]; omega⟩
                    · have g1' : (y.sq != (k : Int) + 1) = true := by simpa using g1
                      have HF : Hid (bb = false) := HNP.out () fun hh => by
                        rcases hh with h | ⟨_, z, hz, h2, _⟩
                        · exact HMN.out h.2
                        · rw [HYY.out] at hz; cases hz; exact g1 h2
                      clear g1
                      refine Qc.region_class (W := W) (by kernel_rfl) (by kernel_rfl) (QI.out _ Qc.from_drew) ?_
                      repeat (go_big_quiet_step (first | (go_at_call 35; refine (HLC.out _ (HLW.out _)).mono ?_; rintro e w2 ⟨rfl, b2⟩; exact ⟨rfl, Qc.back QI.out QO.out b2⟩)))
                      refine wpQuiet_nil ?_
                      rintro _ ⟨xq, rfl⟩
                      have G2 : Hid (Below w.heap.size w (W xq)) := G9.out.trans ((QO.out xq).mono G9.out.size)
                      have F2 : Hid (Below wb.heap.size wb (W xq)) := F9.out.trans ((QO.out xq).mono F9.out.size)
                      clear q0 qa qb qc qd qe HLW
                      generalize W xq = wq at G2 F2 ⊢
                      go_wp2_with fail
                      go_ret
                      exact ⟨ret_b HF.out.symm, G2.out⟩
          · have q1 : (x.bd.toList == []) = false := ne_list h0
            have q2 : (x.bd.toList != []) = true := by show (!(x.bd.toList == [])) = true; rw [q1]; rfl
            have H00 : Hid (¬ x.bd.size = 0) := h0
            clear h0
            cases h1 : bdP r.n x.bd with
            | false =>
              have HF : Hid (bb = false) := HNS.out () fun hh => by rcases hh.1 with h | h; exact H00.out h; rw [h1] at h; cases h
              rw [h1] at HBO3
              clear h1
              go_wp2_with fail
              refine (HBO3.out _ D0.out).mono ?_
              rintro e y1 ⟨rfl, b1⟩
              have E1 : Hid (Below wa.heap.size wa y1) := E0.out.trans (b1.mono E0.out.size)
              have D1 : Hid (Below wr.heap.size wr y1) := D0.out.trans (E1.out.mono D0.out.size)
              clear b1 c0 c1 c2 r0 r1 r2 r3 r4 r5 r6 r7
              obtain ⟨⟨c0, c1, c2⟩, A1, _⟩ := HM.out y1 E1.out
              obtain ⟨⟨r0, r1, r2, r3, r4, r5, r6, r7⟩, RB⟩ := HP.out y1 A1
              have Y1 : Hid (Below w.heap.size w y1) := RB
              have F1 : Hid (Below wb.heap.size wb y1) := A1
              clear A1 RB
              go_wp2_with fail
              go_ret
              exact ⟨ret_b HF.out.symm, Y1.out⟩
            | true =>
              have H0 : Hid (x.bd.size = 0 ∨ bdP r.n x.bd = true) := .inr h1
              rw [h1] at HBO3
              clear h1
              cases h2 : castB r.n 2 r.vw ((k : Int) + 1) x.ps with
              | false =>
                have HF : Hid (bb = false) := HNS.out () fun hh => by have := hh.2.1; rw [h2] at this; cases this
                rw [h2] at HC2
                clear h2
                go_wp2_with fail
                refine (HBO3.out _ D0.out).mono ?_
                rintro e y1 ⟨rfl, b1⟩
                have E1 : Hid (Below wa.heap.size wa y1) := E0.out.trans (b1.mono E0.out.size)
                have D1 : Hid (Below wr.heap.size wr y1) := D0.out.trans (E1.out.mono D0.out.size)
                clear b1 c0 c1 c2 r0 r1 r2 r3 r4 r5 r6 r7
                obtain ⟨⟨c0, c1, c2⟩, A1, _⟩ := HM.out y1 E1.out
                obtain ⟨⟨r0, r1, r2, r3, r4, r5, r6, r7⟩, RB⟩ := HP.out y1 A1
                have Y1 : Hid (Below w.heap.size w y1) := RB
                have F1 : Hid (Below wb.heap.size wb y1) := A1
                clear A1 RB
                go_wp2_with fail
                refine (HC2.out _ D1.out).mono ?_
                rintro e y2 ⟨rfl, b2⟩
                have E2 : Hid (Below wa.heap.size wa y2) := E1.out.trans (b2.mono E1.out.size)
                have D2 : Hid (Below wr.heap.size wr y2) := D0.out.trans (E2.out.mono D0.out.size)
                clear b2 c0 c1 c2 r0 r1 r2 r3 r4 r5 r6 r7
                obtain ⟨⟨c0, c1, c2⟩, A1, _⟩ := HM.out y2 E2.out
                obtain ⟨⟨r0, r1, r2, r3, r4, r5, r6, r7⟩, RB⟩ := HP.out y2 A1
                have Y2 : Hid (Below w.heap.size w y2) := RB
                have F2 : Hid (Below wb.heap.size wb y2) := A1
                clear A1 RB
                go_wp2_with fail
                go_ret
                exact ⟨ret_b HF.out.symm, Y2.out⟩
              | true =>
                cases h3 : castB r.n 3 r.vw ((k : Int) + 1) x.cs with
                | false =>
                  have HF : Hid (bb = false) := HNS.out () fun hh => by have := hh.2.2; rw [h3] at this; cases this
                  rw [h2] at HC2
                  rw [h3] at HC3
                  clear h2 h3
                  go_wp2_with fail
                  refine (HBO3.out _ D0.out).mono ?_
                  rintro e y1 ⟨rfl, b1⟩
                  have E1 : Hid (Below wa.heap.size wa y1) := E0.out.trans (b1.mono E0.out.size)
                  have D1 : Hid (Below wr.heap.size wr y1) := D0.out.trans (E1.out.mono D0.out.size)
                  clear b1 c0 c1 c2 r0 r1 r2 r3 r4 r5 r6 r7
                  obtain ⟨⟨c0, c1, c2⟩, A1, _⟩ := HM.out y1 E1.out
                  obtain ⟨⟨r0, r1, r2, r3, r4, r5, r6, r7⟩, RB⟩ := HP.out y1 A1
                  have Y1 : Hid (Below w.heap.size w y1) := RB
                  have F1 : Hid (Below wb.heap.size wb y1) := A1
                  clear A1 RB
                  go_wp2_with fail
                  refine (HC2.out _ D1.out).mono ?_
                  rintro e y2 ⟨rfl, b2⟩
                  have E2 : Hid (Below wa.heap.size wa y2) := E1.out.trans (b2.mono E1.out.size)
                  have D2 : Hid (Below wr.heap.size wr y2) := D0.out.trans (E2.out.mono D0.out.size)
                  clear b2 c0 c1 c2 r0 r1 r2 r3 r4 r5 r6 r7
                  obtain ⟨⟨c0, c1, c2⟩, A1, _⟩ := HM.out y2 E2.out
                  obtain ⟨⟨r0, r1, r2, r3, r4, r5, r6, r7⟩, RB⟩ := HP.out y2 A1
                  have Y2 : Hid (Below w.heap.size w y2) := RB
                  have F2 : Hid (Below wb.heap.size wb y2) := A1
                  clear A1 RB
                  go_wp2_with fail
                  refine (HC3.out _ D2.out).mono ?_
                  rintro e y3 ⟨rfl, b3⟩
                  have E3 : Hid (Below wa.heap.size wa y3) := E2.out.trans (b3.mono E2.out.size)
                  have D3 : Hid (Below wr.heap.size wr y3) := D0.out.trans (E3.out.mono D0.out.size)
                  clear b3 c0 c1 c2 r0 r1 r2 r3 r4 r5 r6 r7
                  obtain ⟨⟨c0, c1, c2⟩, A1, _⟩ := HM.out y3 E3.out
                  obtain ⟨⟨r0, r1, r2, r3, r4, r5, r6, r7⟩, RB⟩ := HP.out y3 A1
                  have Y3 : Hid (Below w.heap.size w y3) := RB
                  have F3 : Hid (Below wb.heap.size wb y3) := A1
                  clear A1 RB
                  go_wp2_with fail
                  go_ret
                  exact ⟨ret_b HF.out.symm, Y3.out⟩
                | true =>
                  have HUS : Hid (∀ j s, j < k + 1 → r.ss[j]? = some s → SlotP r.n r.vw j s) := HYS.out ⟨H0.out, h2, h3⟩
                  rw [h2] at HC2
                  rw [h3] at HC3
                  clear h2 h3
                  go_wp2_with fail
                  refine (HBO3.out _ D0.out).mono ?_
                  rintro e y1 ⟨rfl, b1⟩
                  have E1 : Hid (Below wa.heap.size wa y1) := E0.out.trans (b1.mono E0.out.size)
                  have D1 : Hid (Below wr.heap.size wr y1) := D0.out.trans (E1.out.mono D0.out.size)
                  clear b1 c0 c1 c2 r0 r1 r2 r3 r4 r5 r6 r7
                  obtain ⟨⟨c0, c1, c2⟩, A1, _⟩ := HM.out y1 E1.out
                  obtain ⟨⟨r0, r1, r2, r3, r4, r5, r6, r7⟩, RB⟩ := HP.out y1 A1
                  have Y1 : Hid (Below w.heap.size w y1) := RB
                  have F1 : Hid (Below wb.heap.size wb y1) := A1
                  clear A1 RB
                  go_wp2_with fail
                  refine (HC2.out _ D1.out).mono ?_
                  rintro e y2 ⟨rfl, b2⟩
                  have E2 : Hid (Below wa.heap.size wa y2) := E1.out.trans (b2.mono E1.out.size)
                  have D2 : Hid (Below wr.heap.size wr y2) := D0.out.trans (E2.out.mono D0.out.size)
                  clear b2 c0 c1 c2 r0 r1 r2 r3 r4 r5 r6 r7
                  obtain ⟨⟨c0, c1, c2⟩, A1, _⟩ := HM.out y2 E2.out
                  obtain ⟨⟨r0, r1, r2, r3, r4, r5, r6, r7⟩, RB⟩ := HP.out y2 A1
                  have Y2 : Hid (Below w.heap.size w y2) := RB
                  have F2 : Hid (Below wb.heap.size wb y2) := A1
                  clear A1 RB
                  go_wp2_with fail
                  refine (HC3.out _ D2.out).mono ?_
                  rintro e y3 ⟨rfl, b3⟩
                  have E3 : Hid (Below wa.heap.size wa y3) := E2.out.trans (b3.mono E2.out.size)
                  have D3 : Hid (Below wr.heap.size wr y3) := D0.out.trans (E3.out.mono D0.out.size)
                  clear b3 c0 c1 c2 r0 r1 r2 r3 r4 r5 r6 r7
                  obtain ⟨⟨c0, c1, c2⟩, A1, _⟩ := HM.out y3 E3.out
                  obtain ⟨⟨r0, r1, r2, r3, r4, r5, r6, r7⟩, RB⟩ := HP.out y3 A1
                  have Y3 : Hid (Below w.heap.size w y3) := RB
                  have F3 : Hid (Below wb.heap.size wb y3) := A1
                  clear A1 RB
                  obtain ⟨d0, d1, s3⟩ := HD.out y3 D3.out
                  have HQ : Hid (∀ W, Below (y3.alloc (.cells #[.string c.bd, .slice a3 c.ms.length k3] 37)).heap.size (y3.alloc (.cells #[.string c.bd, .slice a3 c.ms.length k3] 37)) W → (W.cell? ⟨y3.heap.size, 0, none⟩ = some (.string c.bd) ∧ W.cell? ⟨y3.heap.size, 1, none⟩ = some (.slice a3 c.ms.length k3)) ∧ Below wb.heap.size wb W ∧ Below wr.heap.size wr W) := fun W hW => by
                    have h1 := (hW.block y3.heap.size (by simp)).trans (heap_alloc_new y3 _)
                    have h3 := (bel_new y3 _).trans (hW.mono (by simp))
                    exact ⟨⟨(blk_cell h1 0 rfl).1, (blk_cell h1 1 rfl).1⟩, F3.out.trans (h3.mono F3.out.size), D3.out.trans (h3.mono D3.out.size)⟩
                  go_upto_region 10 with fail
                  generalize y3.alloc (.cells #[.string c.bd, .slice a3 c.ms.length k3] 37) = wc at HQ ⊢
                  clear d0 d1 s3 c0 c1 c2 r0 r1 r2 r3 r4 r5 r6 r7
                  obtain ⟨⟨c0, c1⟩, A1, A2⟩ := HQ.out wc (Below.refl _ _)
                  obtain ⟨⟨r0, r1, r2, r3, r4, r5, r6, r7⟩, RB⟩ := HP.out wc A1
                  have F9 : Hid (Below wb.heap.size wb wc) := A1
                  have G9 : Hid (Below w.heap.size w wc) := RB
                  have D9 : Hid (Below wr.heap.size wr wc) := A2
                  clear A1 A2 RB
                  by_cases hm0 : c.ms.length = 0
                  · have m1 : ((c.ms.length : Int) == 0) = true := by simpa using (by omega : (c.ms.length : Int) = 0)
                    have m2 : (c.ms.length == 0) = true := by simpa using hm0
                    have HM0 : Hid (c.ms = []) := List.length_eq_zero_iff.1 hm0
                    clear hm0
                    by_cases h9 : c.bd.size = 0
                    · have HU : Hid (∀ j s, j < k + 1 → r.cs[j]? = some s → PlaceP r.n r.vw j s) := HYP.out (.inl ⟨h9, HM0.out⟩)
                      have t1 : (c.bd.toList == []) = true := by rw [empty_of h9, nil_list]; rfl
                      have t2 : (c.bd.toList != []) = false := by rw [empty_of h9, nil_list]; rfl
                      clear h9
                      go_wp2_with fail
                      exact ⟨⟨k + 1, by omega, by go_num, ⟨HUS.out, HU.out, F9.out⟩⟩, by simp [intOf]; omega⟩
                    · have HF : Hid (bb = false) := HNP.out () fun hh => by
                        rcases hh with h | ⟨h, _⟩
                        · exact h9 h.1
                        · rw [HM0.out, crt_nil] at h; cases h
                      have t1 : (c.bd.toList == []) = false := ne_list h9
                      have t2 : (c.bd.toList != []) = true := by show (!(c.bd.toList == [])) = true; rw [t1]; rfl
                      clear h9
                      go_wp2_with fail
                      go_ret
                      exact ⟨ret_b HF.out.symm, G9.out⟩
                  · have m1 : ((c.ms.length : Int) == 0) = false := by simpa using (by omega : ¬ (c.ms.length : Int) = 0)
                    have m2 : (c.ms.length == 0) = false := by simpa using hm0
                    have ml : (0 : Int) < (c.ms.length : Int) := by omega
                    have HMN : Hid (¬ c.ms = []) := fun hh => hm0 (by rw [hh]; rfl)
                    obtain ⟨y, hy⟩ := Rg.get_at (xs := c.ms) (k := 0) (by omega)
                    have HYY : Hid (c.ms[0]? = some y) := hy
                    obtain ⟨b5, off5, rfl, hb5, z0, z1, z2, _⟩ := RowG.at ((HD.out wc D9.out).2.2) rfl hy
                    clear hm0 hy z0
                    go_upto_region 13 with fail
                    obtain ⟨X, hX, W, QI0, QO0⟩ := Qc.klass wc
                    have QI : Hid (∀ w', Below wc.heap.size wc w' → ∃ x, w' = W x) := QI0
                    have QO : Hid (∀ x, Below wc.heap.size wc (W x)) := QO0
                    clear QI0 QO0
                    have q0 := Qc.cell_all QO.out c0
                    have qa := Qc.cell_all QO.out c1
                    have qb := Qc.cell_all QO.out z1
                    have qc := Qc.cell_all QO.out z2
                    have qd := Qc.cell_all QO.out r1
                    have qe := Qc.cell_all QO.out r2
                    have HLW : Hid (∀ x, Below wr.heap.size wr (W x)) := fun x => D9.out.trans ((QO.out x).mono D9.out.size)
                    clear c0 c1 z1 z2 r0 r1 r2 r3 r4 r5 r6 r7
                    cases hcr : crtB r.n c.bd c.ms with
                    | false =>
                      have HF : Hid (bb = false) := HNP.out () fun hh => by
                        rcases hh with h | ⟨h, _⟩
                        · exact HMN.out h.2
                        · rw [hcr] at h; cases h
                      rw [hcr] at HLC
                      clear hcr
                      refine Qc.region_class (W := W) (by kernel_rfl) (by kernel_rfl) (QI.out _ Qc.from_drew) ?_
                      repeat (go_big_quiet_step (first | (go_at_call 35; refine (HLC.out _ (HLW.out _)).mono ?_; rintro e w2 ⟨rfl, b2⟩; exact ⟨rfl, Qc.back QI.out QO.out b2⟩)))
                      refine wpQuiet_nil ?_
                      rintro _ ⟨xq, rfl⟩
                      have G2 : Hid (Below w.heap.size w (W xq)) := G9.out.trans ((QO.out xq).mono G9.out.size)
                      have F2 : Hid (Below wb.heap.size wb (W xq)) := F9.out.trans ((QO.out xq).mono F9.out.size)
                      clear q0 qa qb qc qd qe HLW
                      generalize W xq = wq at G2 F2 ⊢
                      go_wp2_with fail
                      go_ret
                      exact ⟨ret_b HF.out.symm, G2.out⟩
                    | true =>
                      have HCR : Hid (crtB r.n c.bd c.ms = true) := hcr
                      rw [hcr] at HLC
                      clear hcr
                      by_cases g1 : y.sq = (k : Int) + 1
                      · have g1' : (y.sq != (k : Int) + 1) = false := by simpa using g1
                        by_cases g2 : r.vw < y.vw
                        · have HF : Hid (bb = false) := HNP.out () fun hh => by
                            rcases hh with h | ⟨_, z, hz, _, h3⟩
                            · exact HMN.out h.2
                            · rw [HYY.out] at hz; cases hz; omega
                          clear g1
                          refine Qc.region_class (W := W) (by kernel_rfl) (by kernel_rfl) (QI.out _ Qc.from_drew) ?_
                          repeat (go_big_quiet_step (first | (go_at_call 35; refine (HLC.out _ (HLW.out _)).mono ?_; rintro e w2 ⟨rfl, b2⟩; exact ⟨rfl, Qc.back QI.out QO.out b2⟩)))
                          refine wpQuiet_nil ?_
                          rintro _ ⟨xq, rfl⟩
                          have G2 : Hid (Below w.heap.size w (W xq)) := G9.out.trans ((QO.out xq).mono G9.out.size)
                          have F2 : Hid (Below wb.heap.size wb (W xq)) := F9.out.trans ((QO.out xq).mono F9.out.size)
                          clear q0 qa qb qc qd qe HLW
                          generalize W xq = wq at G2 F2 ⊢
                          go_wp2_with fail
                          go_ret
                          exact ⟨ret_b HF.out.symm, G2.out⟩
                        · have HU : Hid (∀ j s, j < k + 1 → r.cs[j]? = some s → PlaceP r.n r.vw j s) := HYP.out (.inr ⟨HCR.out, y, HYY.out, g1, by omega⟩)
                          clear g1
                          refine Qc.region_class (W := W) (by kernel_rfl) (by kernel_rfl) (QI.out _ Qc.from_drew) ?_
                          repeat (go_big_quiet_step (first | (go_at_call 35; refine (HLC.out _ (HLW.out _)).mono ?_; rintro e w2 ⟨rfl, b2⟩; exact ⟨rfl, Qc.back QI.out QO.out b2⟩)))
                          refine wpQuiet_nil ?_
                          rintro _ ⟨xq, rfl⟩
                          have G2 : Hid (Below w.heap.size w (W xq)) := G9.out.trans ((QO.out xq).mono G9.out.size)
                          have F2 : Hid (Below wb.heap.size wb (W xq)) := F9.out.trans ((QO.out xq).mono F9.out.size)
                          clear q0 qa qb qc qd qe HLW
                          generalize W xq = wq at G2 F2 ⊢
                          go_wp2_with fail
                          exact ⟨⟨k + 1, by omega, by go_num, ⟨HUS.out, HU.out, F2.out⟩⟩, by simp [intOf]; omega⟩
                      · have g1' : (y.sq != (k : Int) + 1) = true := by simpa using g1
                        have HF : Hid (bb = false) := HNP.out () fun hh => by
                          rcases hh with h | ⟨_, z, hz, h2, _⟩
                          · exact HMN.out h.2
                          · rw [HYY.out] at hz; cases hz; exact g1 h2
                        clear g1
                        refine Qc.region_class (W := W) (by kernel_rfl) (by kernel_rfl) (QI.out _ Qc.from_drew) ?_
                        repeat (go_big_quiet_step (first | (go_at_call 35; refine (HLC.out _ (HLW.out _)).mono ?_; rintro e w2 ⟨rfl, b2⟩; exact ⟨rfl, Qc.back QI.out QO.out b2⟩)))
                        refine wpQuiet_nil ?_
                        rintro _ ⟨xq, rfl⟩
                        have G2 : Hid (Below w.heap.size w (W xq)) := G9.out.trans ((QO.out xq).mono G9.out.size)
                        have F2 : Hid (Below wb.heap.size wb (W xq)) := F9.out.trans ((QO.out xq).mono F9.out.size)
                        clear q0 qa qb qc qd qe HLW
                        generalize W xq = wq at G2 F2 ⊢
                        go_wp2_with fail
                        go_ret
                        exact ⟨ret_b HF.out.symm, G2.out⟩
        · obtain rfl : k = 8 := by omega
          have HSS : Hid ((∀ k s, k < 8 → r.ss[k]? = some s → SlotP r.n r.vw k s) ∧ ∀ k c, k < 8 → r.cs[k]? = some c → PlaceP r.n r.vw k c) := ⟨HZ.out.1, HZ.out.2.1⟩
          have B1 : Hid (Below wb.heap.size wb wr) := HZ.out.2.2
          clear HZ
          go_wp2_with fail
          go_loopw [6] (fun i wr => ∃ k : Nat, k ≤ r.lg.length ∧ i = .int .i64 k ∧ Hid ((∀ j, j < k → bdP r.n (tnth r.lg j) = true) ∧ Below wb.heap.size wb wr)) (fun i _ => r.lg.length - (intOf i).toNat)
          case atStart => exact ⟨0, by omega, rfl, ⟨fun j hj => by omega, B1.out⟩⟩
          case round =>
            clear B1
            obtain ⟨k, hk, rfl, HZ⟩ := hrel
            obtain ⟨⟨r0, r1, r2, r3, r4, r5, r6, r7⟩, RB⟩ := HP.out wr HZ.out.2
            have G1 : Hid (Below w.heap.size w wr) := RB
            have F1 : Hid (Below wb.heap.size wb wr) := HZ.out.2
            clear RB
            by_cases hlt : k < r.lg.length
            · obtain ⟨a', cap', e, hh⟩ := HR.out.l.below G1.out
              cases e
              rcases hh with hh | ⟨b, off, rfl, hc, hb, hcell⟩
              · exact absurd hlt (by rw [hh]; simp)
              have c0 := hcell k hlt
              have HBD : Hid ((tnth r.lg k).size ≤ 20000 → ∀ W, Calls Tryz.prog 33 #[.int .i64 r.n, .string (tnth r.lg k)] W fun e w' => e = .returned (.bool (bdP r.n (tnth r.lg k))) ∧ Below W.heap.size W w') := fun hs W => by
                rw [bdP_small hs]
                exact l06Body_any r.n _ W HF0.out hs
              have HNL : Hid (∀ _ : Unit, bdP r.n (tnth r.lg k) = false → bb = false) := fun _ hh => HN.out () fun hr => by
                have h1 := lgB_no hlt hh
                rw [bOf_true hr.2.2.2.2.1.2] at h1
                cases h1
              have HYL : Hid (bdP r.n (tnth r.lg k) = true → ∀ j, j < k + 1 → bdP r.n (tnth r.lg j) = true) := fun hh j hj => by
                by_cases e : j = k
                · rw [e]; exact hh
                · exact HZ.out.1 j (by omega)
              have HBG : Hid (¬ (tnth r.lg k).size ≤ 20000 → bdP r.n (tnth r.lg k) = false) := fun hh => bdP_big hh
              have hzt : (tnth r.lg k).size ≤ 1048576 := tnth_size HZ0.out.lz hlt
              clear hcell HZ
              generalize bdP r.n (tnth r.lg k) = ob at HBD HNL HYL HBG
              generalize tnth r.lg k = t at c0 HBD HBG hzt
              have hp0 : (0 : Int) ≤ (k : Int) := by omega
              have hp1 : (k : Int) < (r.lg.length : Int) := by omega
              go_upto_region 18 with fail
              obtain ⟨X, hX, W, QI0, QO0⟩ := Qc.klass wr
              have QI : Hid (∀ w', Below wr.heap.size wr w' → ∃ x, w' = W x) := QI0
              have QO : Hid (∀ x, Below wr.heap.size wr (W x)) := QO0
              clear QI0 QO0
              have q0 := Qc.cell_all QO.out c0
              have q1 := Qc.cell_all QO.out r1
              have q2 := Qc.cell_all QO.out r6
              clear c0 r0 r1 r2 r3 r4 r5 r6 r7
              by_cases hbig : t.size ≤ 20000
              · have hbig1 : ¬ (20000 : Int) < (t.size : Int) := by omega
                have HBT := HBD.out hbig
                cases ob with
                | false =>
                  have HF : Hid (bb = false) := HNL.out () rfl
                  clear hbig
                  refine Qc.region_class (W := W) (by kernel_rfl) (by kernel_rfl) (QI.out _ Qc.from_drew) ?_
                  repeat (go_big_quiet_step (first | (go_at_call 33; refine (HBT _).mono ?_; rintro e w2 ⟨rfl, b2⟩; exact ⟨rfl, Qc.back QI.out QO.out b2⟩)))
                  refine wpQuiet_nil ?_
                  rintro _ ⟨xq, rfl⟩
                  have G2 : Hid (Below w.heap.size w (W xq)) := G1.out.trans ((QO.out xq).mono G1.out.size)
                  have F2 : Hid (Below wb.heap.size wb (W xq)) := F1.out.trans ((QO.out xq).mono F1.out.size)
                  clear q0 q1 q2
                  generalize W xq = wq at G2 F2 ⊢
                  go_wp2_with fail
                  go_ret
                  exact ⟨ret_b HF.out.symm, G2.out⟩
                | true =>
                  have HU : Hid (∀ j, j < k + 1 → bdP r.n (tnth r.lg j) = true) := HYL.out rfl
                  clear hbig
                  refine Qc.region_class (W := W) (by kernel_rfl) (by kernel_rfl) (QI.out _ Qc.from_drew) ?_
                  repeat (go_big_quiet_step (first | (go_at_call 33; refine (HBT _).mono ?_; rintro e w2 ⟨rfl, b2⟩; exact ⟨rfl, Qc.back QI.out QO.out b2⟩)))
                  refine wpQuiet_nil ?_
                  rintro _ ⟨xq, rfl⟩
                  have G2 : Hid (Below w.heap.size w (W xq)) := G1.out.trans ((QO.out xq).mono G1.out.size)
                  have F2 : Hid (Below wb.heap.size wb (W xq)) := F1.out.trans ((QO.out xq).mono F1.out.size)
                  clear q0 q1 q2
                  generalize W xq = wq at G2 F2 ⊢
                  go_wp2_with fail
                  exact ⟨⟨k + 1, by omega, by go_num, ⟨HU.out, F2.out⟩⟩, by simp [intOf]; omega⟩
              · have hbig1 : (20000 : Int) < (t.size : Int) := by omega
                have HF : Hid (bb = false) := HNL.out () (HBG.out hbig)
                clear hbig
                refine Qc.region_class (W := W) (by kernel_rfl) (by kernel_rfl) (QI.out _ Qc.from_drew) ?_
                repeat (go_big_quiet_step (fail))
                refine wpQuiet_nil ?_
                rintro _ ⟨xq, rfl⟩
                have G2 : Hid (Below w.heap.size w (W xq)) := G1.out.trans ((QO.out xq).mono G1.out.size)
                have F2 : Hid (Below wb.heap.size wb (W xq)) := F1.out.trans ((QO.out xq).mono F1.out.size)
                clear q0 q1 q2
                generalize W xq = wq at G2 F2 ⊢
                go_wp2_with fail
                go_ret
                exact ⟨ret_b HF.out.symm, G2.out⟩
            · obtain rfl : k = r.lg.length := by omega
              have HLL : Hid (bOf (∀ t ∈ r.lg, bdP r.n t = true) = true) := lgB_yes HZ.out.1
              clear HZ
              go_wp2_with fail
              clear r0 r1 r2 r3 r4 r5 r6 r7
              go_loopw [7] (fun i wr => ∃ k : Nat, k ≤ r.ch.length ∧ i = .int .i64 k ∧ Hid (AllG r.n r.vw r.ch k ∧ Below wb.heap.size wb wr)) (fun i _ => r.ch.length - (intOf i).toNat)
              case atStart => exact ⟨0, by omega, rfl, ⟨fun j x hj => by omega, F1.out⟩⟩
              case round =>
                clear F1 G1
                obtain ⟨k, hk, rfl, HZ⟩ := hrel
                obtain ⟨⟨r0, r1, r2, r3, r4, r5, r6, r7⟩, RB⟩ := HP.out wr HZ.out.2
                have G1 : Hid (Below w.heap.size w wr) := RB
                clear RB
                by_cases hlt : k < r.ch.length
                · obtain ⟨x, hx⟩ := Rg.get_at hlt
                  obtain ⟨y, hy⟩ := Rg.get_at (xs := r.ch) (k := 0) (by omega)
                  obtain ⟨b, off, rfl, hbl, c0, c1, c2, c3, c4, c5, c6⟩ := RowG.at (HR.out.h.below G1.out) rfl hx
                  obtain ⟨b0, off0, e0, hbl0, _, z1, _⟩ := RowG.at (HR.out.h.below G1.out) rfl hy
                  cases e0
                  have HX : Hid (r.ch[k]? = some x ∧ r.ch[0]? = some y) := ⟨hx, hy⟩
                  have HRW : Hid (Row wr (.slice (some ⟨b, off, none⟩) r.ch.length kh) r.ch) := HR.out.h.below G1.out
                  have HA : Hid (∀ W, Below (wr.alloc (.cells #[.int .i64 x.kd, .int .i64 x.vw, .int .i64 x.sq, .int .i64 x.fr, .string x.dg, .string x.bd, .string x.mc] 26)).heap.size (wr.alloc (.cells #[.int .i64 x.kd, .int .i64 x.vw, .int .i64 x.sq, .int .i64 x.fr, .string x.dg, .string x.bd, .string x.mc] 26)) W → (W.cell? ⟨wr.heap.size, 0, none⟩ = some (.int .i64 x.kd) ∧ W.cell? ⟨wr.heap.size, 1, none⟩ = some (.int .i64 x.vw) ∧ W.cell? ⟨wr.heap.size, 2, none⟩ = some (.int .i64 x.sq) ∧ W.cell? ⟨wr.heap.size, 3, none⟩ = some (.int .i64 x.fr) ∧ W.cell? ⟨wr.heap.size, 4, none⟩ = some (.string x.dg) ∧ W.cell? ⟨wr.heap.size, 5, none⟩ = some (.string x.bd) ∧ W.cell? ⟨wr.heap.size, 6, none⟩ = some (.string x.mc)) ∧ W.cell? ⟨b, off + 0 * 7 + 1, none⟩ = some (.int .i64 y.vw) ∧ Below wb.heap.size wb W ∧ Below wr.heap.size wr W) := fun W hW => by
                    have h1 := (hW.block wr.heap.size (by simp)).trans (heap_alloc_new wr _)
                    have h3 := (bel_new wr _).trans (hW.mono (by simp))
                    exact ⟨⟨(blk_cell h1 0 rfl).1, (blk_cell h1 1 rfl).1, (blk_cell h1 2 rfl).1, (blk_cell h1 3 rfl).1, (blk_cell h1 4 rfl).1, (blk_cell h1 5 rfl).1, (blk_cell h1 6 rfl).1⟩, (h3.cell (p := ⟨b, _, none⟩) hbl).trans z1, HZ.out.2.trans (h3.mono HZ.out.2.size), h3⟩
                  have HVC : Hid (∀ W, Calls Tryz.prog 36 #[.int .i64 r.n, .agg #[.int .i64 x.kd, .int .i64 x.vw, .int .i64 x.sq, .int .i64 x.fr, .string x.dg, .string x.bd, .string x.mc]] W fun e w' => ∃ u, e = .returned (.tuple #[u, .bool (cfB r.n x.vw x)]) ∧ Below W.heap.size W w') := fun W => (l06Certs_any r.n x W HF0.out).mono fun e w' ⟨u, h1, _, h3⟩ => ⟨u, h1, h3⟩
                  have HNC : Hid (∀ _ : Unit, ¬ OneG r.n r.vw y.vw r.ch k x → bb = false) := fun _ hh => HN.out () fun hr => by
                    have h1 := chG_no HX.out.1 HX.out.2 hh
                    rw [(rep_parts.1 hr).2.2.2.2.2.2.2.2] at h1
                    cases h1
                  have HYC : Hid (OneG r.n r.vw y.vw r.ch k x → AllG r.n r.vw r.ch (k + 1)) := fun hh => upto_succ (P := fun (j : Nat) (z : Mg) => ∀ y0 : Mg, r.ch[0]? = some y0 → OneG r.n r.vw y0.vw r.ch j z) (xs := r.ch) HZ.out.1 HX.out.1 fun y2 hy2 => by rw [HX.out.2] at hy2; cases hy2; exact hh
                  have hl0 : (0 : Int) < (r.ch.length : Int) := by omega
                  have hp0 : (0 : Int) ≤ (k : Int) := by omega
                  have hp1 : (k : Int) < (r.ch.length : Int) := by omega
                  clear hx hy z1 hbl0
                  go_upto_region 24 with fail
                  generalize wr.alloc (.cells #[.int .i64 x.kd, .int .i64 x.vw, .int .i64 x.sq, .int .i64 x.fr, .string x.dg, .string x.bd, .string x.mc] 26) = wa at HA ⊢
                  clear c0 c1 c2 c3 c4 c5 c6 r0 r1 r2 r3 r4 r5 r6 r7
                  obtain ⟨⟨c0, c1, c2, c3, c4, c5, c6⟩, z1, A1, A2⟩ := HA.out wa (Below.refl _ _)
                  obtain ⟨⟨r0, r1, r2, r3, r4, r5, r6, r7⟩, RB⟩ := HP.out wa A1
                  clear A1 A2 RB
                  obtain ⟨ok, HOK⟩ : ∃ ok, Hid (cfB r.n x.vw x = ok) := ⟨_, rfl⟩
                  rw [HOK.out] at HVC
                  go_wp2_with fail
                  refine (HVC.out _).mono ?_
                  rintro e y1 ⟨u, rfl, b1⟩
                  have E1 : Hid (Below wa.heap.size wa y1) := b1
                  clear b1 c0 c1 c2 c3 c4 c5 c6 z1 r0 r1 r2 r3 r4 r5 r6 r7
                  go_upto_region 25 with fail
                  obtain ⟨⟨c0, c1, c2, c3, c4, c5, c6⟩, z1, A1, A2⟩ := HA.out y1 E1.out
                  obtain ⟨⟨r0, r1, r2, r3, r4, r5, r6, r7⟩, RB⟩ := HP.out y1 A1
                  have F1 : Hid (Below wb.heap.size wb y1) := A1
                  have G2 : Hid (Below w.heap.size w y1) := RB
                  have RA : Hid (Row y1 (.slice (some ⟨b, off, none⟩) r.ch.length kh) r.ch) := HRW.out.below A2
                  clear A1 A2 RB c0 c2 c4 c5 c6 r0 r1 r3 r4 r5 r6
                  obtain ⟨X, hX, W, QI0, QO0⟩ := Qc.klass y1
                  have QI : Hid (∀ w', Below y1.heap.size y1 w' → ∃ x, w' = W x) := QI0
                  have QO : Hid (∀ x, Below y1.heap.size y1 (W x)) := QO0
                  clear QI0 QO0
                  have q0 := Qc.cell_all QO.out c1
                  have q1 := Qc.cell_all QO.out c3
                  have q2 := Qc.cell_all QO.out z1
                  have q3 := Qc.cell_all QO.out r2
                  have q4 := Qc.cell_all QO.out r7
                  clear c1 c3 z1 r2 r7
                  cases ok with
                  | false =>
                    have HF : Hid (bb = false) := HNC.out () fun hh => by have := hh.1.1; rw [HOK.out] at this; cases this
                    refine Qc.region_class (W := W) (by kernel_rfl) (by kernel_rfl) (QI.out _ Qc.from_drew) ?_
                    repeat (go_big_quiet_step (fail))
                    refine wpQuiet_nil ?_
                    rintro _ ⟨xq, rfl⟩
                    have G3 : Hid (Below w.heap.size w (W xq)) := G2.out.trans ((QO.out xq).mono G2.out.size)
                    have F3 : Hid (Below wb.heap.size wb (W xq)) := F1.out.trans ((QO.out xq).mono F1.out.size)
                    clear q0 q1 q2 q3 q4
                    generalize W xq = wq at G3 F3 ⊢
                    go_wp2_with fail
                    go_ret
                    exact ⟨ret_b HF.out.symm, G3.out⟩
                  | true =>
                    by_cases g1 : x.vw < r.vw
                    · have HF : Hid (bb = false) := HNC.out () fun hh => by have := hh.1.2.1; omega
                      refine Qc.region_class (W := W) (by kernel_rfl) (by kernel_rfl) (QI.out _ Qc.from_drew) ?_
                      repeat (go_big_quiet_step (fail))
                      refine wpQuiet_nil ?_
                      rintro _ ⟨xq, rfl⟩
                      have G3 : Hid (Below w.heap.size w (W xq)) := G2.out.trans ((QO.out xq).mono G2.out.size)
                      have F3 : Hid (Below wb.heap.size wb (W xq)) := F1.out.trans ((QO.out xq).mono F1.out.size)
                      clear q0 q1 q2 q3 q4
                      generalize W xq = wq at G3 F3 ⊢
                      go_wp2_with fail
                      go_ret
                      exact ⟨ret_b HF.out.symm, G3.out⟩
                    · by_cases g2 : x.vw = y.vw
                      rotate_left
                      · have HF : Hid (bb = false) := HNC.out () fun hh => g2 hh.1.2.2
                        have g2' : (x.vw != y.vw) = true := by simpa using g2
                        clear g2
                        refine Qc.region_class (W := W) (by kernel_rfl) (by kernel_rfl) (QI.out _ Qc.from_drew) ?_
                        repeat (go_big_quiet_step (fail))
                        refine wpQuiet_nil ?_
                        rintro _ ⟨xq, rfl⟩
                        have G3 : Hid (Below w.heap.size w (W xq)) := G2.out.trans ((QO.out xq).mono G2.out.size)
                        have F3 : Hid (Below wb.heap.size wb (W xq)) := F1.out.trans ((QO.out xq).mono F1.out.size)
                        clear q0 q1 q2 q3 q4
                        generalize W xq = wq at G3 F3 ⊢
                        go_wp2_with fail
                        go_ret
                        exact ⟨ret_b HF.out.symm, G3.out⟩
                      have HCP : Hid (ChgP r.n r.vw y.vw x) := ⟨HOK.out, by omega, g2⟩
                      have g2' : (x.vw != y.vw) = false := by simpa using g2
                      clear g2
                      by_cases hk0 : k = 0
                      · subst hk0
                        have HU : Hid (AllG r.n r.vw r.ch (0 + 1)) := HYC.out ⟨HCP.out, fun m y e => by omega⟩
                        refine Qc.region_class (W := W) (by kernel_rfl) (by kernel_rfl) (QI.out _ Qc.from_drew) ?_
                        repeat (go_big_quiet_step (fail))
                        refine wpQuiet_nil ?_
                        rintro _ ⟨xq, rfl⟩
                        have G3 : Hid (Below w.heap.size w (W xq)) := G2.out.trans ((QO.out xq).mono G2.out.size)
                        have F3 : Hid (Below wb.heap.size wb (W xq)) := F1.out.trans ((QO.out xq).mono F1.out.size)
                        clear q0 q1 q2 q3 q4
                        generalize W xq = wq at G3 F3 ⊢
                        go_wp2_with fail
                        exact ⟨⟨0 + 1, by omega, by go_num, ⟨HU.out, F3.out⟩⟩, by simp [intOf]; omega⟩
                      · obtain ⟨m, rfl⟩ : ∃ m, k = m + 1 := ⟨k - 1, by omega⟩
                        obtain ⟨z, hzz⟩ := Rg.get_at (xs := r.ch) (k := m) (by omega)
                        obtain ⟨b3, off3, e3, hb3, d0, d1, d2, d3, d4, d5, d6⟩ := RowG.at RA.out rfl hzz
                        cases e3
                        have q9 := Qc.cell_all QO.out d3
                        clear d0 d1 d2 d3 d4 d5 d6 hk0
                        have hm1 : ((m + 1 : Nat) : Int) - 1 = (m : Int) := by omega
                        have hw1 : IntKind.i64.wrap (((m + 1 : Nat) : Int) - 1) = (m : Int) := by rw [IntKind.wrap_i64]; omega
                        have hw2 : IntKind.i64.wrap (m : Int) = (m : Int) := by rw [IntKind.wrap_i64]; omega
                        have hm0 : (0 : Int) < ((m + 1 : Nat) : Int) := by omega
                        have hm2 : (m : Int) < (r.ch.length : Int) := by omega
                        have hm3 : (0 : Int) ≤ (m : Int) := by omega
                        by_cases g4 : z.fr < x.fr
                        · have HU : Hid (AllG r.n r.vw r.ch (m + 1 + 1)) := HYC.out ⟨HCP.out, fun m' y' e hy' => by
                            have e2 : m' = m := by omega
                            subst e2
                            rw [hzz] at hy'
                            cases hy'
                            exact g4⟩
                          have g4a : ¬ z.fr ≥ x.fr := by omega
                          have g4b : ¬ x.fr ≤ z.fr := by omega
                          clear g4 hzz
                          refine Qc.region_class (W := W) (by kernel_rfl) (by kernel_rfl) (QI.out _ Qc.from_drew) ?_
                          repeat (go_big_quiet_step (fail))
                          refine wpQuiet_nil ?_
                          rintro _ ⟨xq, rfl⟩
                          have G3 : Hid (Below w.heap.size w (W xq)) := G2.out.trans ((QO.out xq).mono G2.out.size)
                          have F3 : Hid (Below wb.heap.size wb (W xq)) := F1.out.trans ((QO.out xq).mono F1.out.size)
                          clear q0 q1 q2 q3 q4 q9
                          generalize W xq = wq at G3 F3 ⊢
                          go_wp2_with fail
                          exact ⟨⟨m + 1 + 1, by omega, by go_num, ⟨HU.out, F3.out⟩⟩, by simp [intOf]; omega⟩
                        · have HF : Hid (bb = false) := HNC.out () fun hh => g4 (hh.2 m z rfl hzz)
                          have g4a : z.fr ≥ x.fr := by omega
                          have g4b : x.fr ≤ z.fr := by omega
                          clear g4 hzz
                          refine Qc.region_class (W := W) (by kernel_rfl) (by kernel_rfl) (QI.out _ Qc.from_drew) ?_
                          repeat (go_big_quiet_step (fail))
                          refine wpQuiet_nil ?_
                          rintro _ ⟨xq, rfl⟩
                          have G3 : Hid (Below w.heap.size w (W xq)) := G2.out.trans ((QO.out xq).mono G2.out.size)
                          have F3 : Hid (Below wb.heap.size wb (W xq)) := F1.out.trans ((QO.out xq).mono F1.out.size)
                          clear q0 q1 q2 q3 q4 q9
                          generalize W xq = wq at G3 F3 ⊢
                          go_wp2_with fail
                          go_ret
                          exact ⟨ret_b HF.out.symm, G3.out⟩
                · obtain rfl : k = r.ch.length := by omega
                  have HT : Hid (bb = true) := by
                    show _ = _
                    rw [← HBB.out]
                    exact bOf_true (rep_parts.2 ⟨okN_iff.2 ⟨HF0.out, inB_iff.1 Ah1.out⟩, Ah2.out, Ah3.out, bOf_true fun k s hk hx => HSS.out.1 k s (by have := Ah3.out; omega) hx, Ah5.out, bOf_true fun k s hk hx => HSS.out.2 k s (by have := Ah5.out; omega) hx, h7, HLL.out, chG_yes HZ.out.1⟩)
                  go_wp2_with fail
                  go_ret
                  exact ⟨ret_b HT.out.symm, G1.out⟩
end Go.Proofs.YtkfiahemgdppfaaGreatDoor.Yr

/- Replicas measured. -/
namespace Go.Proofs.YtkfiahemgdppfaaGreatDoor.Yr
open Go.RowKit Go.Proofs.YtkfiahemgdppfaaGreatDoor.Rg Go.Proofs.YtkfiahemgdppfaaGreatDoor.Gm Go.Proofs.YtkfiahemgdppfaaGreatDoor.Ty


set_option maxRecDepth 100000 in
set_option maxHeartbeats 800000 in
theorem szSlot_any (x : St) (u1 u2 : Value) (l : Nat) (w : World) (hl : l ≤ 1048576) (hz : SZ maxLen x) (hu1 : Row w u1 x.ps) (hu2 : Row w u2 x.cs) :
    Calls Tryz.prog 61 #[stV x u1 u2, .int .i64 l] w fun e w' => (∃ r : Int, e = .returned (.int .i64 r) ∧ (r = -1 ∨ ∃ q : Nat, r = q ∧ q ≤ 1048576 ∧ SZ 1048576 x)) ∧ Below w.heap.size w w' := by
  have hm := hz.1
  unfold maxLen at hm
  have HZ : Hid (SZ maxLen x) := hz
  have Hu1 : Hid (Row w u1 x.ps) := hu1
  have Hu2 : Hid (Row w u2 x.cs) := hu2
  clear hz hu1 hu2
  unfold stV
  have HB1 : Hid (Below w.heap.size w (w.alloc (.cells #[.string x.bd, u1, u2, .bool x.st, .bool x.dn] 111))) := bel_new _ _
  by_cases hb : (l : Int) < (x.bd.size : Int)
  · have hb' : (l : Int) - (x.bd.size : Int) < 0 := by omega
    go_enter Tryz.func61, Tryz.ntmps61
    go_wp2_with fail
    go_ret
    exact ⟨⟨_, rfl, .inl rfl⟩, HB1.out⟩
  obtain ⟨q0, hq0⟩ : ∃ q : Nat, (l : Int) - (x.bd.size : Int) = q := ⟨l - x.bd.size, by omega⟩
  have hq1 : ¬ (l : Int) - (x.bd.size : Int) < 0 := by omega
  have hql : q0 ≤ 1048576 := by omega
  have HBD : Hid (x.bd.size ≤ 1048576) := by show _ ≤ _; omega
  have HC : Hid (∀ W, Below (w.alloc (.cells #[.string x.bd, u1, u2, .bool x.st, .bool x.dn] 111)).heap.size (w.alloc (.cells #[.string x.bd, u1, u2, .bool x.st, .bool x.dn] 111)) W → W.cell? ⟨w.heap.size, 0, none⟩ = some (.string x.bd) ∧ W.cell? ⟨w.heap.size, 1, none⟩ = some u1 ∧ W.cell? ⟨w.heap.size, 2, none⟩ = some u2 ∧ W.cell? ⟨w.heap.size, 3, none⟩ = some (.bool x.st) ∧ W.cell? ⟨w.heap.size, 4, none⟩ = some (.bool x.dn)) := fun W hW => by
    have h1 := (hW.block w.heap.size (by simp)).trans (heap_alloc_new w _)
    exact ⟨(blk_cell h1 0 rfl).1, (blk_cell h1 1 rfl).1, (blk_cell h1 2 rfl).1, (blk_cell h1 3 rfl).1, (blk_cell h1 4 rfl).1⟩
  have HS0 := szS_any u1 x.ps q0 (w.alloc (.cells #[.string x.bd, u1, u2, .bool x.st, .bool x.dn] 111)) (Hu1.out.below HB1.out) HZ.out.2.1.2 HZ.out.2.1.1 (by omega)
  rw [← hq0] at HS0
  clear hq0
  go_enter Tryz.func61, Tryz.ntmps61
  go_wp2_with fail
  refine HS0.mono ?_
  clear HS0
  generalize w.alloc (.cells #[.string x.bd, u1, u2, .bool x.st, .bool x.dn] 111) = wb at HB1 HC ⊢
  rintro e w1 ⟨⟨r, rfl, hr⟩, b1⟩
  have HB2 : Hid (Below w.heap.size w w1) := HB1.out.trans (b1.mono HB1.out.size)
  have D1 : Hid (Below wb.heap.size wb w1) := b1
  clear b1
  rcases hr with rfl | ⟨q1, rfl, hq10, hlen1, hall1⟩
  · go_wp2_with fail
    go_ret
    exact ⟨⟨_, rfl, .inl rfl⟩, HB2.out⟩
  have HZ1 : Hid (x.ps.length ≤ 1048576 ∧ ∀ y ∈ x.ps, Tz 1048576 y) := ⟨hlen1, hall1⟩
  have hp1 : ¬ (q1 : Int) < 0 := by omega
  clear hall1 hlen1
  obtain ⟨c0, c1, c2, c3, c4⟩ := HC.out w1 D1.out
  go_wp2_with fail
  refine (szS_any u2 x.cs q1 w1 (Hu2.out.below HB2.out) HZ.out.2.2.2 HZ.out.2.2.1 hq10).mono ?_
  rintro e w2 ⟨⟨r, rfl, hr⟩, b2⟩
  have HB3 : Hid (Below w.heap.size w w2) := HB2.out.trans (b2.mono HB2.out.size)
  have D2 : Hid (Below wb.heap.size wb w2) := D1.out.trans (b2.mono D1.out.size)
  clear b2
  rcases hr with rfl | ⟨q2, rfl, hq11, hlen2, hall2⟩
  · go_wp2_with fail
    go_ret
    exact ⟨⟨_, rfl, .inl rfl⟩, HB3.out⟩
  have HZ2 : Hid (x.cs.length ≤ 1048576 ∧ ∀ y ∈ x.cs, Tz 1048576 y) := ⟨hlen2, hall2⟩
  have hp2 : ¬ (q2 : Int) < 0 := by omega
  clear hall2 hlen2
  go_wp2_with fail
  go_ret
  exact ⟨⟨_, rfl, .inr ⟨q2, rfl, hq11, ⟨HBD.out, HZ1.out, HZ2.out.1, HZ2.out.2⟩⟩⟩, HB3.out⟩
set_option maxRecDepth 100000 in
set_option maxHeartbeats 800000 in
theorem szCert_any (x : Cx) (u : Value) (l : Nat) (w : World) (hl : l ≤ 1048576) (hz : CZ maxLen x) (hu : Row w u x.ms) :
    Calls Tryz.prog 62 #[cxV x u, .int .i64 l] w fun e w' => (∃ r : Int, e = .returned (.int .i64 r) ∧ (r = -1 ∨ ∃ q : Nat, r = q ∧ q ≤ 1048576 ∧ CZ 1048576 x)) ∧ Below w.heap.size w w' := by
  have hm := hz.1
  unfold maxLen at hm
  have HZ : Hid (CZ maxLen x) := hz
  have Hu : Hid (Row w u x.ms) := hu
  clear hz hu
  unfold cxV
  have HB1 : Hid (Below w.heap.size w (w.alloc (.cells #[.string x.bd, u] 114))) := bel_new _ _
  by_cases hb : (l : Int) < (x.bd.size : Int)
  · have hb' : (l : Int) - (x.bd.size : Int) < 0 := by omega
    go_enter Tryz.func62, Tryz.ntmps62
    go_wp2_with fail
    go_ret
    exact ⟨⟨_, rfl, .inl rfl⟩, HB1.out⟩
  obtain ⟨q0, hq0⟩ : ∃ q : Nat, (l : Int) - (x.bd.size : Int) = q := ⟨l - x.bd.size, by omega⟩
  have hq1 : ¬ (l : Int) - (x.bd.size : Int) < 0 := by omega
  have hql : q0 ≤ 1048576 := by omega
  have HBD : Hid (x.bd.size ≤ 1048576) := by show _ ≤ _; omega
  have HC : Hid (∀ W, Below (w.alloc (.cells #[.string x.bd, u] 114)).heap.size (w.alloc (.cells #[.string x.bd, u] 114)) W → W.cell? ⟨w.heap.size, 0, none⟩ = some (.string x.bd) ∧ W.cell? ⟨w.heap.size, 1, none⟩ = some u) := fun W hW => by
    have h1 := (hW.block w.heap.size (by simp)).trans (heap_alloc_new w _)
    exact ⟨(blk_cell h1 0 rfl).1, (blk_cell h1 1 rfl).1⟩
  have HS0 := szS_any u x.ms q0 (w.alloc (.cells #[.string x.bd, u] 114)) (Hu.out.below HB1.out) HZ.out.2.2 HZ.out.2.1 (by omega)
  rw [← hq0] at HS0
  clear hq0
  go_enter Tryz.func62, Tryz.ntmps62
  go_wp2_with fail
  refine HS0.mono ?_
  clear HS0
  generalize w.alloc (.cells #[.string x.bd, u] 114) = wb at HB1 HC ⊢
  rintro e w1 ⟨⟨r, rfl, hr⟩, b1⟩
  have HB2 : Hid (Below w.heap.size w w1) := HB1.out.trans (b1.mono HB1.out.size)
  have D1 : Hid (Below wb.heap.size wb w1) := b1
  clear b1
  rcases hr with rfl | ⟨q1, rfl, hq10, hlen1, hall1⟩
  · go_wp2_with fail
    go_ret
    exact ⟨⟨_, rfl, .inl rfl⟩, HB2.out⟩
  have HZ1 : Hid (x.ms.length ≤ 1048576 ∧ ∀ y ∈ x.ms, Tz 1048576 y) := ⟨hlen1, hall1⟩
  have hp1 : ¬ (q1 : Int) < 0 := by omega
  clear hall1 hlen1
  go_wp2_with fail
  go_ret
  exact ⟨⟨_, rfl, .inr ⟨q1, rfl, hq10, ⟨HBD.out, HZ1.out.1, HZ1.out.2⟩⟩⟩, HB2.out⟩
set_option maxRecDepth 100000 in
set_option maxHeartbeats 800000 in
theorem szSlotS_any (v : Value) (xs : List St) (l : Nat) (w : World) (h : RowS w v xs) (hm : ∀ x ∈ xs, SZ maxLen x) (hz : xs.length ≤ maxLen) (hl : l ≤ 1048576) :
    Calls Tryz.prog 29 #[v, .int .i64 l] w fun e w' => (∃ r : Int, e = .returned (.int .i64 r) ∧ (r = -1 ∨ ∃ q : Nat, r = q ∧ q ≤ 1048576 ∧ xs.length ≤ 1048576 ∧ ∀ x ∈ xs, SZ 1048576 x)) ∧ Below w.heap.size w w' := by
  have hz2 : xs.length ≤ 9223372036854775807 := by unfold maxLen at hz; omega
  have HM : Hid (∀ x ∈ xs, SZ maxLen x) := hm
  have HR : Hid (RowS w v xs) := h
  obtain ⟨a, cap, rfl⟩ := RowG.slice h
  clear hz hm h
  by_cases hb : (l : Int) < (xs.length : Int)
  · have hb' : (l : Int) - (xs.length : Int) < 0 := by omega
    go_enter Tryz.func29, Tryz.ntmps29
    go_wp2_with fail
    go_ret
    exact ⟨⟨_, rfl, .inl rfl⟩, Below.refl _ _⟩
  have hb' : ¬ (l : Int) - (xs.length : Int) < 0 := by omega
  go_enter Tryz.func29, Tryz.ntmps29
  go_wp2_with fail
  go_loopw [1, 5] (fun l0 i wr => ∃ (k q : Nat), k ≤ xs.length ∧ i = .int .i64 k ∧ l0 = .int .i64 q ∧ q ≤ 1048576 ∧ Hid (∀ j x, j < k → xs[j]? = some x → SZ 1048576 x) ∧ Hid (Below w.heap.size w wr)) (fun _ i _ => xs.length - (intOf i).toNat)
  case atStart => exact ⟨0, l - xs.length, by omega, rfl, by congr 1; omega, by omega, fun j x hj => by omega, Below.refl _ _⟩
  case round =>
    obtain ⟨k, q, hk, rfl, rfl, hq, HJ, HB⟩ := hrel
    by_cases hlt : k < xs.length
    · obtain ⟨x, hx⟩ := Rg.get_at hlt
      obtain ⟨b, off, rfl, hbl, u1, u2, c0, c1, c2, c3, c4, r0, r1⟩ := RowG.at (HR.out.below HB.out) rfl hx
      have HK : Hid (xs[k]? = some x) := hx
      have HX0 : Hid (Row wr u1 x.ps) := r0
      have HX1 : Hid (Row wr u2 x.cs) := r1
      have HMk : Hid (SZ maxLen x) := HM.out _ (mem_at hx)
      clear hx r0 r1
      go_wp2_with fail
      refine (szSlot_any x u1 u2 q wr hq HMk.out HX0.out HX1.out).mono ?_
      rintro e w2 ⟨⟨r, rfl, hr⟩, b2⟩
      have HB2 : Hid (Below w.heap.size w w2) := HB.out.trans (b2.mono HB.out.size)
      clear b2
      rcases hr with rfl | ⟨p, rfl, hp, hs⟩
      · go_wp2_with fail
        go_ret
        exact ⟨⟨_, rfl, .inl rfl⟩, HB2.out⟩
      · have HJ2 : Hid (∀ j y, j < k + 1 → xs[j]? = some y → SZ 1048576 y) := fun j y hj hy => by
          by_cases e : j = k
          · subst e
            rw [HK.out] at hy
            cases hy
            exact hs
          · exact HJ.out j y (by omega) hy
        have hp0 : ¬ (p : Int) < 0 := by omega
        clear hs
        go_wp2_with fail
        exact ⟨⟨k + 1, p, by omega, by go_num, rfl, by omega, HJ2, HB2⟩, by simp [intOf]; omega⟩
    · obtain rfl : k = xs.length := by omega
      go_wp2_with fail
      go_ret
      refine ⟨⟨_, rfl, .inr ⟨q, rfl, hq, by omega, fun x hx => ?_⟩⟩, HB.out⟩
      obtain ⟨j, hj, e⟩ := List.mem_iff_getElem.1 hx
      exact HJ.out j x hj (by rw [List.getElem?_eq_getElem hj, e])
set_option maxRecDepth 100000 in
set_option maxHeartbeats 800000 in
theorem szCertS_any (v : Value) (xs : List Cx) (l : Nat) (w : World) (h : RowC w v xs) (hm : ∀ x ∈ xs, CZ maxLen x) (hz : xs.length ≤ maxLen) (hl : l ≤ 1048576) :
    Calls Tryz.prog 30 #[v, .int .i64 l] w fun e w' => (∃ r : Int, e = .returned (.int .i64 r) ∧ (r = -1 ∨ ∃ q : Nat, r = q ∧ q ≤ 1048576 ∧ xs.length ≤ 1048576 ∧ ∀ x ∈ xs, CZ 1048576 x)) ∧ Below w.heap.size w w' := by
  have hz2 : xs.length ≤ 9223372036854775807 := by unfold maxLen at hz; omega
  have HM : Hid (∀ x ∈ xs, CZ maxLen x) := hm
  have HR : Hid (RowC w v xs) := h
  obtain ⟨a, cap, rfl⟩ := RowG.slice h
  clear hz hm h
  by_cases hb : (l : Int) < (xs.length : Int)
  · have hb' : (l : Int) - (xs.length : Int) < 0 := by omega
    go_enter Tryz.func30, Tryz.ntmps30
    go_wp2_with fail
    go_ret
    exact ⟨⟨_, rfl, .inl rfl⟩, Below.refl _ _⟩
  have hb' : ¬ (l : Int) - (xs.length : Int) < 0 := by omega
  go_enter Tryz.func30, Tryz.ntmps30
  go_wp2_with fail
  go_loopw [1, 5] (fun l0 i wr => ∃ (k q : Nat), k ≤ xs.length ∧ i = .int .i64 k ∧ l0 = .int .i64 q ∧ q ≤ 1048576 ∧ Hid (∀ j x, j < k → xs[j]? = some x → CZ 1048576 x) ∧ Hid (Below w.heap.size w wr)) (fun _ i _ => xs.length - (intOf i).toNat)
  case atStart => exact ⟨0, l - xs.length, by omega, rfl, by congr 1; omega, by omega, fun j x hj => by omega, Below.refl _ _⟩
  case round =>
    obtain ⟨k, q, hk, rfl, rfl, hq, HJ, HB⟩ := hrel
    by_cases hlt : k < xs.length
    · obtain ⟨x, hx⟩ := Rg.get_at hlt
      obtain ⟨b, off, rfl, hbl, u, c0, c1, r0⟩ := RowG.at (HR.out.below HB.out) rfl hx
      have HK : Hid (xs[k]? = some x) := hx
      have HX0 : Hid (Row wr u x.ms) := r0
      have HMk : Hid (CZ maxLen x) := HM.out _ (mem_at hx)
      clear hx r0
      go_wp2_with fail
      refine (szCert_any x u q wr hq HMk.out HX0.out).mono ?_
      rintro e w2 ⟨⟨r, rfl, hr⟩, b2⟩
      have HB2 : Hid (Below w.heap.size w w2) := HB.out.trans (b2.mono HB.out.size)
      clear b2
      rcases hr with rfl | ⟨p, rfl, hp, hs⟩
      · go_wp2_with fail
        go_ret
        exact ⟨⟨_, rfl, .inl rfl⟩, HB2.out⟩
      · have HJ2 : Hid (∀ j y, j < k + 1 → xs[j]? = some y → CZ 1048576 y) := fun j y hj hy => by
          by_cases e : j = k
          · subst e
            rw [HK.out] at hy
            cases hy
            exact hs
          · exact HJ.out j y (by omega) hy
        have hp0 : ¬ (p : Int) < 0 := by omega
        clear hs
        go_wp2_with fail
        exact ⟨⟨k + 1, p, by omega, by go_num, rfl, by omega, HJ2, HB2⟩, by simp [intOf]; omega⟩
    · obtain rfl : k = xs.length := by omega
      go_wp2_with fail
      go_ret
      refine ⟨⟨_, rfl, .inr ⟨q, rfl, hq, by omega, fun x hx => ?_⟩⟩, HB.out⟩
      obtain ⟨j, hj, e⟩ := List.mem_iff_getElem.1 hx
      exact HJ.out j x hj (by rw [List.getElem?_eq_getElem hj, e])
theorem Rl_val {a b : Int} (h : a = b) : Value.int .i64 a = .int .i64 b := by rw [h]
set_option maxRecDepth 100000 in
set_option maxHeartbeats 800000 in
theorem szTexts_any (v : Value) (ts : List ByteArray) (l : Nat) (w : World) (h : RowT w v ts) (hm : ∀ t ∈ ts, t.size ≤ maxLen) (hz : ts.length ≤ maxLen) (hl : l ≤ 1048576) :
    Calls Tryz.prog 31 #[v, .int .i64 l] w fun e w' => (∃ r : Int, e = .returned (.int .i64 r) ∧ (r = -1 ∨ ∃ q : Nat, r = q ∧ q ≤ 1048576 ∧ ts.length ≤ 1048576 ∧ ∀ t ∈ ts, t.size ≤ 1048576)) ∧ w = w' := by
  have hz2 : ts.length ≤ 9223372036854775807 := by unfold maxLen at hz; omega
  have HT : Hid (∀ i, i < ts.length → (tnth ts i).size ≤ maxLen) := fun i hi => hm _ (by unfold tnth; rw [List.getD_eq_getElem?_getD, List.getElem?_eq_getElem hi]; exact List.getElem_mem hi)
  obtain ⟨a, cap, rfl, h⟩ := h
  clear hz hm
  by_cases hb : (l : Int) < (ts.length : Int)
  · have hb' : (l : Int) - (ts.length : Int) < 0 := by omega
    go_enter Tryz.func31, Tryz.ntmps31
    go_wp2_with fail
    go_ret
    exact ⟨⟨_, rfl, .inl rfl⟩, rfl⟩
  have hb' : ¬ (l : Int) - (ts.length : Int) < 0 := by omega
  go_enter Tryz.func31, Tryz.ntmps31
  go_wp2_with fail
  go_loop [1, 5] (fun m i => ∃ k q : Nat, k ≤ ts.length ∧ i = .int .i64 k ∧ m = .int .i64 q ∧ q ≤ 1048576 ∧ Hid (∀ j, j < k → (tnth ts j).size ≤ 1048576)) (fun _ i => ts.length - (intOf i).toNat)
  case atStart => exact ⟨0, l - ts.length, by omega, rfl, by congr 1; omega, by omega, fun j hj => by omega⟩
  case round =>
    obtain ⟨k, q, hk, rfl, rfl, hq, HJ⟩ := hrel
    by_cases hlt : k < ts.length
    · rcases h with h | ⟨b, off, rfl, hc, hbw, hcell⟩
      · exact absurd hlt (by rw [h]; simp)
      have hc1 := hcell k hlt
      have hm := HT.out k hlt
      unfold maxLen at hm
      have HK : Hid (∀ s, (tnth ts k).size = s → s ≤ 1048576 → ∀ j, j < k + 1 → (tnth ts j).size ≤ 1048576) := fun s hs hs2 j hj => by
        by_cases e : j = k
        · subst e; omega
        · exact HJ.out j (by omega)
      generalize tnth ts k = t at hc1 hm HK
      clear hcell
      by_cases hbig : (q : Int) < (t.size : Int)
      · have hbig' : (q : Int) - (t.size : Int) < 0 := by omega
        go_wp2_with fail
        go_ret
        exact ⟨⟨_, rfl, .inl rfl⟩, rfl⟩
      · have hbig' : ¬ (q : Int) - (t.size : Int) < 0 := by omega
        have HQ : Hid ((q : Int) - (t.size : Int) = ((q - t.size : Nat) : Int)) := by show _ = _; omega
        have HS : Hid (∀ j, j < k + 1 → (tnth ts j).size ≤ 1048576) := HK.out _ rfl (by omega)
        go_wp2_with fail
        go_round
        case rel => exact ⟨k + 1, q - t.size, by omega, by go_num, Rl_val HQ.out, by omega, HS⟩
        case measure => simp [intOf]; omega
    · obtain rfl : k = ts.length := by omega
      go_wp2_with fail
      go_ret
      refine ⟨⟨_, rfl, .inr ⟨q, rfl, hq, by omega, fun t ht => ?_⟩⟩, rfl⟩
      obtain ⟨j, hj, e⟩ := List.mem_iff_getElem.1 ht
      have := HJ.out j hj
      unfold tnth at this
      rw [List.getD_eq_getElem?_getD, List.getElem?_eq_getElem hj, e] at this
      exact this
set_option maxRecDepth 100000 in
set_option maxHeartbeats 800000 in
theorem szReplica_any (r : Rp) (vs vc vl vh : Value) (w : World) (h : RepR w r vs vc vl vh) (hz : Zr maxLen r) (l : Nat) (hl : l ≤ 1048576) :
    Calls Tryz.prog 11 #[repV r vs vc vl vh, .int .i64 l] w fun e w' => (∃ q : Int, e = .returned (.int .i64 q) ∧ (q = -1 ∨ ∃ p : Nat, q = p ∧ p ≤ 1048576 ∧ Zr 1048576 r)) ∧ Below w.heap.size w w' := by
  have HR : Hid (RepR w r vs vc vl vh) := h
  have HZ : Hid (Zr maxLen r) := hz
  clear h hz
  unfold repV
  have HB0 : Hid (Below w.heap.size w (w.alloc (.cells #[.int .i64 r.id, .int .i64 r.n, .int .i64 r.vw, .bool r.ac, vs, vc, vl, vh] 43))) := bel_new _ _
  have HC : Hid (∀ W, Below (w.alloc (.cells #[.int .i64 r.id, .int .i64 r.n, .int .i64 r.vw, .bool r.ac, vs, vc, vl, vh] 43)).heap.size (w.alloc (.cells #[.int .i64 r.id, .int .i64 r.n, .int .i64 r.vw, .bool r.ac, vs, vc, vl, vh] 43)) W → W.cell? ⟨w.heap.size, 4, none⟩ = some vs ∧ W.cell? ⟨w.heap.size, 5, none⟩ = some vc ∧ W.cell? ⟨w.heap.size, 6, none⟩ = some vl ∧ W.cell? ⟨w.heap.size, 7, none⟩ = some vh) := fun W hW => by
    have h1 := (hW.block w.heap.size (by simp)).trans (heap_alloc_new w _)
    exact ⟨(blk_cell h1 4 rfl).1, (blk_cell h1 5 rfl).1, (blk_cell h1 6 rfl).1, (blk_cell h1 7 rfl).1⟩
  go_enter Tryz.func11, Tryz.ntmps11
  go_upto_region 1 with fail
  generalize w.alloc (.cells #[.int .i64 r.id, .int .i64 r.n, .int .i64 r.vw, .bool r.ac, vs, vc, vl, vh] 43) = wb at HB0 HC ⊢
  obtain ⟨c4, c5, c6, c7⟩ := HC.out wb (Below.refl _ _)
  go_wp2_with fail
  refine (szSlotS_any vs r.ss l wb (HR.out.s.below HB0.out) HZ.out.sz HZ.out.s hl).mono ?_
  rintro e w1 ⟨⟨r1, rfl, hr⟩, b1⟩
  have D1 : Hid (Below wb.heap.size wb w1) := b1
  have B1 : Hid (Below w.heap.size w w1) := HB0.out.trans (b1.mono HB0.out.size)
  clear b1 c4 c5 c6 c7
  rcases hr with rfl | ⟨q1, rfl, hq1, y1, z1⟩
  · go_wp2_with fail
    go_ret
    exact ⟨⟨_, rfl, .inl rfl⟩, B1.out⟩
  have Z1 : Hid (r.ss.length ≤ 1048576 ∧ ∀ x ∈ r.ss, SZ 1048576 x) := ⟨y1, z1⟩
  have hp1 : ¬ (q1 : Int) < 0 := by omega
  clear y1 z1
  obtain ⟨c4, c5, c6, c7⟩ := HC.out w1 D1.out
  go_wp2_with fail
  refine (szCertS_any vc r.cs q1 w1 (HR.out.c.below B1.out) HZ.out.cz HZ.out.c hq1).mono ?_
  rintro e w2 ⟨⟨r1, rfl, hr⟩, b2⟩
  have D2 : Hid (Below wb.heap.size wb w2) := D1.out.trans (b2.mono D1.out.size)
  have B2 : Hid (Below w.heap.size w w2) := B1.out.trans (b2.mono B1.out.size)
  clear b2 c4 c5 c6 c7
  rcases hr with rfl | ⟨q2, rfl, hq2, y2, z2⟩
  · go_wp2_with fail
    go_ret
    exact ⟨⟨_, rfl, .inl rfl⟩, B2.out⟩
  have Z2 : Hid (r.cs.length ≤ 1048576 ∧ ∀ x ∈ r.cs, CZ 1048576 x) := ⟨y2, z2⟩
  have hp2 : ¬ (q2 : Int) < 0 := by omega
  clear y2 z2
  obtain ⟨c4, c5, c6, c7⟩ := HC.out w2 D2.out
  go_wp2_with fail
  refine (szTexts_any vl r.lg q2 w2 (HR.out.l.below B2.out) HZ.out.lz HZ.out.l hq2).mono ?_
  rintro e w3 ⟨⟨r1, rfl, hr⟩, rfl⟩
  rcases hr with rfl | ⟨q3, rfl, hq3, y3, z3⟩
  · go_wp2_with fail
    go_ret
    exact ⟨⟨_, rfl, .inl rfl⟩, B2.out⟩
  have Z3 : Hid (r.lg.length ≤ 1048576 ∧ ∀ t ∈ r.lg, t.size ≤ 1048576) := ⟨y3, z3⟩
  have hp3 : ¬ (q3 : Int) < 0 := by omega
  clear y3 z3
  go_wp2_with fail
  refine (szS_any vh r.ch q3 w2 (HR.out.h.below B2.out) HZ.out.hz HZ.out.h hq3).mono ?_
  rintro e w4 ⟨⟨r1, rfl, hr⟩, b4⟩
  have B4 : Hid (Below w.heap.size w w4) := B2.out.trans (b4.mono B2.out.size)
  clear b4 c4 c5 c6 c7
  rcases hr with rfl | ⟨q4, rfl, hq4, y4, z4⟩
  · go_wp2_with fail
    go_ret
    exact ⟨⟨_, rfl, .inl rfl⟩, B4.out⟩
  have Z4 : Hid (r.ch.length ≤ 1048576 ∧ ∀ x ∈ r.ch, Tz 1048576 x) := ⟨y4, z4⟩
  have hp4 : ¬ (q4 : Int) < 0 := by omega
  clear y4 z4
  go_wp2_with fail
  go_ret
  exact ⟨⟨_, rfl, .inr ⟨q4, rfl, hq4, ⟨Z1.out.1, Z1.out.2, Z2.out.1, Z2.out.2, Z3.out.1, Z3.out.2, Z4.out.1, Z4.out.2⟩⟩⟩, B4.out⟩
end Go.Proofs.YtkfiahemgdppfaaGreatDoor.Yr

/- Copies of slots, of certificates, of replicas: all in new memory. -/
namespace Go.Proofs.YtkfiahemgdppfaaGreatDoor.Yr
open Go.RowKit Go.Proofs.YtkfiahemgdppfaaGreatDoor.Rg Go.Proofs.YtkfiahemgdppfaaGreatDoor.Gm Go.Proofs.YtkfiahemgdppfaaGreatDoor.Ty

/-- From block B on both worlds are alike. -/
def Abv (B : Nat) (w w' : World) : Prop := w.heap.size ≤ w'.heap.size ∧ ∀ k, B ≤ k → k < w.heap.size → w'.heap[k]? = w.heap[k]?
theorem Abv.cell {B : Nat} {w w' : World} (h : Abv B w w') {b o : Nat} (hB : B ≤ b) {v : Value} (hc : w.cell? ⟨b, o, none⟩ = some v) : w'.cell? ⟨b, o, none⟩ = some v :=
  (World.cell?_of_block (w := w) (h.2 b hB (World.block_lt_of_cell? w _ hc))).trans hc
theorem Abv.set {B : Nat} {w w' : World} (h : Abv B w w') {p i : Nat} (hp : p < B) (v : Value) : Abv B w (w'.setCell ⟨p, i, none⟩ v) :=
  ⟨by simpa using h.1, fun k hk hk2 => (blk_far (by omega) i v).trans (h.2 k hk hk2)⟩
theorem Abv.refl (B : Nat) (w : World) : Abv B w w := ⟨Nat.le_refl _, fun _ _ _ => rfl⟩
theorem Abv.of {B : Nat} {w w' : World} (h : Below w.heap.size w w') : Abv B w w' := ⟨h.size, fun k _ hk => h.block k hk⟩
theorem Abv.trans {B : Nat} {w w' w2 : World} (h : Abv B w w') (g : Abv B w' w2) : Abv B w w2 := ⟨Nat.le_trans h.1 g.1, fun k hk hl => (g.2 k hk (Nat.lt_of_lt_of_le hl h.1)).trans (h.2 k hk hl)⟩
theorem row_keep {α : Type} {c B : Nat} {E E' : World → Nat → Nat → α → Prop} {w w' : World} {v : Value} {xs : List α} (h : RowG c E w v xs) (ha : Abv B w w') (hE : ∀ b o x, b < w.heap.size → E w b o x → E' w' b o x) : RowG c E' w' v xs := by
  obtain ⟨a, cap, rfl, h⟩ := h
  refine ⟨a, cap, rfl, ?_⟩
  rcases h with h | ⟨b, off, rfl, hc, hlt, h⟩
  · exact .inl h
  · exact .inr ⟨b, off, rfl, hc, Nat.lt_of_lt_of_le hlt ha.1, fun i x hi => hE _ _ _ hlt (h i x hi)⟩
/-- Rows that lie from block B on, with all that they hold. -/
def EMA (B : Nat) (w : World) (b o : Nat) (x : Mg) : Prop := B ≤ b ∧ E1 w b o x
def RowA (B : Nat) (w : World) (v : Value) (xs : List Mg) : Prop := RowG 7 (EMA B) w v xs
def ESA (B : Nat) (w : World) (b o : Nat) (x : St) : Prop := B ≤ b ∧ ∃ u1 u2, w.cell? ⟨b, o, none⟩ = some (.string x.bd) ∧ w.cell? ⟨b, o + 1, none⟩ = some u1 ∧ w.cell? ⟨b, o + 2, none⟩ = some u2 ∧ w.cell? ⟨b, o + 3, none⟩ = some (.bool x.st) ∧ w.cell? ⟨b, o + 4, none⟩ = some (.bool x.dn) ∧ RowA B w u1 x.ps ∧ RowA B w u2 x.cs
def RowSA (B : Nat) (w : World) (v : Value) (xs : List St) : Prop := RowG 5 (ESA B) w v xs
def ECA (B : Nat) (w : World) (b o : Nat) (x : Cx) : Prop := B ≤ b ∧ ∃ u, w.cell? ⟨b, o, none⟩ = some (.string x.bd) ∧ w.cell? ⟨b, o + 1, none⟩ = some u ∧ RowA B w u x.ms
def RowCA (B : Nat) (w : World) (v : Value) (xs : List Cx) : Prop := RowG 2 (ECA B) w v xs
theorem ema_keep {B B' : Nat} {w w' : World} (ha : Abv B w w') (hB : B' ≤ B) {b o : Nat} {x : Mg} (h : EMA B w b o x) : EMA B' w' b o x := by
  obtain ⟨hb, h0, h1, h2, h3, h4, h5, h6⟩ := h
  exact ⟨Nat.le_trans hB hb, ha.cell hb h0, ha.cell hb h1, ha.cell hb h2, ha.cell hb h3, ha.cell hb h4, ha.cell hb h5, ha.cell hb h6⟩
theorem RowA.to {B B' : Nat} {w w' : World} {v : Value} {xs : List Mg} (h : RowA B w v xs) (ha : Abv B w w') (hB : B' ≤ B) : RowA B' w' v xs := row_keep h ha fun _ _ _ _ hx => ema_keep ha hB hx
theorem RowA.keep {B : Nat} {w w' : World} {v : Value} {xs : List Mg} (h : RowA B w v xs) (ha : Abv B w w') : RowA B w' v xs := h.to ha (Nat.le_refl _)
theorem RowA.row {B : Nat} {w : World} {v : Value} {xs : List Mg} (h : RowA B w v xs) : Row w v xs := row_keep h (Abv.refl B w) fun _ _ _ _ hx => hx.2
theorem RowSA.to {B B' : Nat} {w w' : World} {v : Value} {xs : List St} (h : RowSA B w v xs) (ha : Abv B w w') (hB : B' ≤ B) : RowSA B' w' v xs :=
  row_keep h ha fun _ _ _ _ ⟨hb, u1, u2, h0, h1, h2, h3, h4, h5, h6⟩ => ⟨Nat.le_trans hB hb, u1, u2, ha.cell hb h0, ha.cell hb h1, ha.cell hb h2, ha.cell hb h3, ha.cell hb h4, h5.to ha hB, h6.to ha hB⟩
theorem RowSA.keep {B : Nat} {w w' : World} {v : Value} {xs : List St} (h : RowSA B w v xs) (ha : Abv B w w') : RowSA B w' v xs := h.to ha (Nat.le_refl _)
theorem RowSA.row {B : Nat} {w : World} {v : Value} {xs : List St} (h : RowSA B w v xs) : RowS w v xs :=
  row_keep h (Abv.refl B w) fun _ _ _ _ ⟨_, u1, u2, h0, h1, h2, h3, h4, h5, h6⟩ => ⟨u1, u2, h0, h1, h2, h3, h4, h5.row, h6.row⟩
theorem RowCA.to {B B' : Nat} {w w' : World} {v : Value} {xs : List Cx} (h : RowCA B w v xs) (ha : Abv B w w') (hB : B' ≤ B) : RowCA B' w' v xs :=
  row_keep h ha fun _ _ _ _ ⟨hb, u, h0, h1, h2⟩ => ⟨Nat.le_trans hB hb, u, ha.cell hb h0, ha.cell hb h1, h2.to ha hB⟩
theorem RowCA.keep {B : Nat} {w w' : World} {v : Value} {xs : List Cx} (h : RowCA B w v xs) (ha : Abv B w w') : RowCA B w' v xs := h.to ha (Nat.le_refl _)
theorem RowCA.row {B : Nat} {w : World} {v : Value} {xs : List Cx} (h : RowCA B w v xs) : RowC w v xs :=
  row_keep h (Abv.refl B w) fun _ _ _ _ ⟨_, u, h0, h1, h2⟩ => ⟨u, h0, h1, h2.row⟩
theorem ownT_to {B B' : Nat} {w w' : World} {v : Value} {ts : List ByteArray} (h : OwnT w B v ts) (ha : Abv B w w') (hB : B' ≤ B) : OwnT w' B' v ts := by
  obtain ⟨g, A, rfl, h1, h2, h3, h4⟩ := h
  exact ⟨g, A, rfl, Nat.le_trans hB h1, (ha.2 g h1 (Array.getElem?_eq_some_iff.1 h2).1).trans h2, h3, h4⟩
theorem ownT_keep {B : Nat} {w w' : World} {v : Value} {ts : List ByteArray} (h : OwnT w B v ts) (ha : Abv B w w') : OwnT w' B v ts := ownT_to h ha (Nat.le_refl _)
theorem ownT_slice {B : Nat} {w : World} {v : Value} {ts : List ByteArray} (h : OwnT w B v ts) : ∃ a cap, v = .slice a ts.length cap := by obtain ⟨g, A, rfl, _⟩ := h; exact ⟨_, _, rfl⟩
theorem toM_any (v : Value) (xs : List Mg) (w : World) (h : Row w v xs) (hl : xs.length ≤ 1048576) :
    Calls Tryz.prog 40 #[v] w fun e w' => ∃ v', e = .returned v' ∧ RowA w.heap.size w' v' xs ∧ Below w.heap.size w w' :=
  (toS_any v xs w h hl).mono fun e w' ⟨g, he, hg0, hg1, hr, hb, _⟩ => ⟨_, he, ⟨_, _, rfl, .inr ⟨g, 0, rfl, Nat.le_refl _, hg1, fun i x hi => by rw [Nat.zero_add]; exact ⟨hg0, hr i x hi⟩⟩⟩, hb⟩
/-- A whole replica from block B on. -/
structure RepA (B : Nat) (w : World) (r : Rp) (vs vc vl vh : Value) : Prop where
  s : RowSA B w vs r.ss
  c : RowCA B w vc r.cs
  l : OwnT w B vl r.lg
  h : RowA B w vh r.ch
theorem RepA.rep {B : Nat} {w : World} {r : Rp} {vs vc vl vh : Value} (h : RepA B w r vs vc vl vh) : RepR w r vs vc vl vh := ⟨h.s.row, h.c.row, h.l.row, h.h.row⟩
theorem RepA.to {B B' : Nat} {w w' : World} {r : Rp} {vs vc vl vh : Value} (h : RepA B w r vs vc vl vh) (ha : Abv B w w') (hB : B' ≤ B) : RepA B' w' r vs vc vl vh := ⟨h.s.to ha hB, h.c.to ha hB, ownT_to h.l ha hB, h.h.to ha hB⟩
set_option maxRecDepth 100000 in
set_option maxHeartbeats 1600000 in
theorem toSlot_any (x : St) (u1 u2 : Value) (w : World) (h1 : Row w u1 x.ps) (h2 : Row w u2 x.cs) (l1 : x.ps.length ≤ 1048576) (l2 : x.cs.length ≤ 1048576) :
    Calls Tryz.prog 70 #[stV x u1 u2] w fun e w' => ∃ v1 v2, e = .returned (stV x v1 v2) ∧ RowA w.heap.size w' v1 x.ps ∧ RowA w.heap.size w' v2 x.cs ∧ Below w.heap.size w w' := by
  have H1 : Hid (Row w u1 x.ps) := h1
  have H2 : Hid (Row w u2 x.cs) := h2
  clear h1 h2
  unfold stV
  have HB : Hid (∀ o0 o1 o2, Below w.heap.size w (((w.alloc o0).alloc o1).alloc o2)) := fun o0 o1 o2 => (three (Below.refl _ _)).2.2.2.2
  have HS : Hid (∀ o0 o1 o2, (((w.alloc o0).alloc o1).alloc o2).heap.size = w.heap.size + 1 + 1 + 1) := fun o0 o1 o2 => by rw [Rg.size_new, Rg.size_new, Rg.size_new]
  go_enter Tryz.func70, Tryz.ntmps70
  go_wp2_with fail
  refine (toM_any u1 x.ps _ (H1.out.below (HB.out _ _ _)) l1).mono ?_
  rintro e w1 ⟨v1, rfl, hr, b1⟩
  obtain ⟨a1, c1, rfl⟩ := RowG.slice hr
  obtain ⟨k0, k1, k2, kS, kB⟩ := three b1
  rw [HS.out] at hr
  have K0 : Hid (w1.heap[w.heap.size]? = some (.cells #[.string x.bd, u1, u2, .bool x.st, .bool x.dn] 111 (0, 0))) := k0
  have K1 : Hid (w1.heap[w.heap.size + 1]? = some (.cells #[.string ⟨#[]⟩, .slice none 0 0, .slice none 0 0, .bool false, .bool false] 74 (0, 0))) := k1
  have K2 : Hid (w1.heap[w.heap.size + 1 + 1]? = some (.cells #[.string x.bd, .slice none 0 0, .slice none 0 0, .bool false, .bool false] 74 (0, 0))) := k2
  have KB : Hid (Below w.heap.size w w1) := kB
  have KZ : Hid (w.heap.size + 1 + 1 + 1 ≤ w1.heap.size) := kS
  have R1 : Hid (RowA (w.heap.size + 1 + 1 + 1) w1 (.slice a1 x.ps.length c1) x.ps) := hr
  clear hr b1 k0 k1 k2 kS kB HB HS
  obtain ⟨s0, t0⟩ := blk_cell K2.out 1 (x := .slice none 0 0) rfl
  have L0 : Hid ((w1.setCell ⟨w.heap.size + 1 + 1, 1, none⟩ (.slice a1 x.ps.length c1)).heap[w.heap.size]? = some (.cells #[.string x.bd, u1, u2, .bool x.st, .bool x.dn] 111 (0, 0))) := (blk_far (by omega) 1 (.slice a1 x.ps.length c1)).trans K0.out
  have L1 : Hid ((w1.setCell ⟨w.heap.size + 1 + 1, 1, none⟩ (.slice a1 x.ps.length c1)).heap[w.heap.size + 1]? = some (.cells #[.string ⟨#[]⟩, .slice none 0 0, .slice none 0 0, .bool false, .bool false] 74 (0, 0))) := (blk_far (by omega) 1 (.slice a1 x.ps.length c1)).trans K1.out
  have L2 : Hid ((w1.setCell ⟨w.heap.size + 1 + 1, 1, none⟩ (.slice a1 x.ps.length c1)).heap[w.heap.size + 1 + 1]? = some (.cells #[.string x.bd, .slice a1 x.ps.length c1, .slice none 0 0, .bool false, .bool false] 74 (0, 0))) := blk_set K2.out 1 (.slice a1 x.ps.length c1)
  have LB : Hid (Below w.heap.size w (w1.setCell ⟨w.heap.size + 1 + 1, 1, none⟩ (.slice a1 x.ps.length c1))) := Below.setCell KB.out (p := ⟨w.heap.size + 1 + 1, 1, none⟩) (by show _ ≤ w.heap.size + 1 + 1; omega) (.slice a1 x.ps.length c1)
  have LZ : Hid (w.heap.size + 1 + 1 + 1 ≤ (w1.setCell ⟨w.heap.size + 1 + 1, 1, none⟩ (.slice a1 x.ps.length c1)).heap.size) := by show _ ≤ _; have := KZ.out; simpa using this
  have T1 : Hid (RowA (w.heap.size + 1 + 1 + 1) (w1.setCell ⟨w.heap.size + 1 + 1, 1, none⟩ (.slice a1 x.ps.length c1)) (.slice a1 x.ps.length c1) x.ps) := RowA.keep R1.out ((Abv.refl _ _).set (by omega) _)
  clear K0 K1 K2 KB KZ R1
  go_upto_region 4 with fail
  generalize (w1.setCell ⟨w.heap.size + 1 + 1, 1, none⟩ (.slice a1 x.ps.length c1)) = w2 at L0 L1 L2 LB LZ T1 ⊢
  clear s0 t0
  have K0 := L0
  have K1 := L1
  have K2 := L2
  have KB := LB
  have KZ := LZ
  clear L0 L1 L2 LB LZ
  have R1 := T1
  clear T1
  have x2 := (blk_cell K0.out 2 (x := u2) rfl).1
  go_wp2_with fail
  refine (toM_any u2 x.cs w2 (H2.out.below KB.out) l2).mono ?_
  rintro e w3 ⟨v2, rfl, hr, bn⟩
  obtain ⟨a2, c2, rfl⟩ := RowG.slice hr
  have R2 : Hid (RowA (w.heap.size + 1 + 1 + 1) w3 (.slice a2 x.cs.length c2) x.cs) := RowA.to hr (Abv.refl _ _) KZ.out
  have T1 : Hid (RowA (w.heap.size + 1 + 1 + 1) w3 (.slice a1 x.ps.length c1) x.ps) := RowA.keep R1.out (Abv.of bn)
  clear R1
  have R1 := T1
  clear T1
  have L0 : Hid (w3.heap[w.heap.size]? = some (.cells #[.string x.bd, u1, u2, .bool x.st, .bool x.dn] 111 (0, 0))) := (bn.block _ (by have := KZ.out; omega)).trans K0.out
  have L1 : Hid (w3.heap[w.heap.size + 1]? = some (.cells #[.string ⟨#[]⟩, .slice none 0 0, .slice none 0 0, .bool false, .bool false] 74 (0, 0))) := (bn.block _ (by have := KZ.out; omega)).trans K1.out
  have L2 : Hid (w3.heap[w.heap.size + 1 + 1]? = some (.cells #[.string x.bd, .slice a1 x.ps.length c1, .slice none 0 0, .bool false, .bool false] 74 (0, 0))) := (bn.block _ (by have := KZ.out; omega)).trans K2.out
  have LB : Hid (Below w.heap.size w w3) := KB.out.trans (bn.mono KB.out.size)
  have LZ : Hid (w.heap.size + 1 + 1 + 1 ≤ w3.heap.size) := Nat.le_trans KZ.out bn.size
  clear hr bn K0 K1 K2 KB KZ x2
  have K0 := L0
  have K1 := L1
  have K2 := L2
  have KB := LB
  have KZ := LZ
  clear L0 L1 L2 LB LZ
  obtain ⟨s0, t0⟩ := blk_cell K2.out 2 (x := .slice none 0 0) rfl
  have L0 : Hid ((w3.setCell ⟨w.heap.size + 1 + 1, 2, none⟩ (.slice a2 x.cs.length c2)).heap[w.heap.size]? = some (.cells #[.string x.bd, u1, u2, .bool x.st, .bool x.dn] 111 (0, 0))) := (blk_far (by omega) 2 (.slice a2 x.cs.length c2)).trans K0.out
  have L1 : Hid ((w3.setCell ⟨w.heap.size + 1 + 1, 2, none⟩ (.slice a2 x.cs.length c2)).heap[w.heap.size + 1]? = some (.cells #[.string ⟨#[]⟩, .slice none 0 0, .slice none 0 0, .bool false, .bool false] 74 (0, 0))) := (blk_far (by omega) 2 (.slice a2 x.cs.length c2)).trans K1.out
  have L2 : Hid ((w3.setCell ⟨w.heap.size + 1 + 1, 2, none⟩ (.slice a2 x.cs.length c2)).heap[w.heap.size + 1 + 1]? = some (.cells #[.string x.bd, .slice a1 x.ps.length c1, .slice a2 x.cs.length c2, .bool false, .bool false] 74 (0, 0))) := blk_set K2.out 2 (.slice a2 x.cs.length c2)
  have LB : Hid (Below w.heap.size w (w3.setCell ⟨w.heap.size + 1 + 1, 2, none⟩ (.slice a2 x.cs.length c2))) := Below.setCell KB.out (p := ⟨w.heap.size + 1 + 1, 2, none⟩) (by show _ ≤ w.heap.size + 1 + 1; omega) (.slice a2 x.cs.length c2)
  have LZ : Hid (w.heap.size + 1 + 1 + 1 ≤ (w3.setCell ⟨w.heap.size + 1 + 1, 2, none⟩ (.slice a2 x.cs.length c2)).heap.size) := by show _ ≤ _; have := KZ.out; simpa using this
  have T1 : Hid (RowA (w.heap.size + 1 + 1 + 1) (w3.setCell ⟨w.heap.size + 1 + 1, 2, none⟩ (.slice a2 x.cs.length c2)) (.slice a1 x.ps.length c1) x.ps) := RowA.keep R1.out ((Abv.refl _ _).set (by omega) _)
  have T2 : Hid (RowA (w.heap.size + 1 + 1 + 1) (w3.setCell ⟨w.heap.size + 1 + 1, 2, none⟩ (.slice a2 x.cs.length c2)) (.slice a2 x.cs.length c2) x.cs) := RowA.keep R2.out ((Abv.refl _ _).set (by omega) _)
  clear K0 K1 K2 KB KZ R1 R2
  go_upto_region 5 with fail
  generalize (w3.setCell ⟨w.heap.size + 1 + 1, 2, none⟩ (.slice a2 x.cs.length c2)) = w4 at L0 L1 L2 LB LZ T1 T2 ⊢
  clear s0 t0
  have K0 := L0
  have K1 := L1
  have K2 := L2
  have KB := LB
  have KZ := LZ
  clear L0 L1 L2 LB LZ
  have R1 := T1
  clear T1
  have R2 := T2
  clear T2
  have x3 := (blk_cell K0.out 3 (x := .bool x.st) rfl).1
  obtain ⟨s0, t0⟩ := blk_cell K2.out 3 (x := .bool false) rfl
  have L0 : Hid ((w4.setCell ⟨w.heap.size + 1 + 1, 3, none⟩ (.bool x.st)).heap[w.heap.size]? = some (.cells #[.string x.bd, u1, u2, .bool x.st, .bool x.dn] 111 (0, 0))) := (blk_far (by omega) 3 (.bool x.st)).trans K0.out
  have L1 : Hid ((w4.setCell ⟨w.heap.size + 1 + 1, 3, none⟩ (.bool x.st)).heap[w.heap.size + 1]? = some (.cells #[.string ⟨#[]⟩, .slice none 0 0, .slice none 0 0, .bool false, .bool false] 74 (0, 0))) := (blk_far (by omega) 3 (.bool x.st)).trans K1.out
  have L2 : Hid ((w4.setCell ⟨w.heap.size + 1 + 1, 3, none⟩ (.bool x.st)).heap[w.heap.size + 1 + 1]? = some (.cells #[.string x.bd, .slice a1 x.ps.length c1, .slice a2 x.cs.length c2, .bool x.st, .bool false] 74 (0, 0))) := blk_set K2.out 3 (.bool x.st)
  have LB : Hid (Below w.heap.size w (w4.setCell ⟨w.heap.size + 1 + 1, 3, none⟩ (.bool x.st))) := Below.setCell KB.out (p := ⟨w.heap.size + 1 + 1, 3, none⟩) (by show _ ≤ w.heap.size + 1 + 1; omega) (.bool x.st)
  have LZ : Hid (w.heap.size + 1 + 1 + 1 ≤ (w4.setCell ⟨w.heap.size + 1 + 1, 3, none⟩ (.bool x.st)).heap.size) := by show _ ≤ _; have := KZ.out; simpa using this
  have T1 : Hid (RowA (w.heap.size + 1 + 1 + 1) (w4.setCell ⟨w.heap.size + 1 + 1, 3, none⟩ (.bool x.st)) (.slice a1 x.ps.length c1) x.ps) := RowA.keep R1.out ((Abv.refl _ _).set (by omega) _)
  have T2 : Hid (RowA (w.heap.size + 1 + 1 + 1) (w4.setCell ⟨w.heap.size + 1 + 1, 3, none⟩ (.bool x.st)) (.slice a2 x.cs.length c2) x.cs) := RowA.keep R2.out ((Abv.refl _ _).set (by omega) _)
  clear K0 K1 K2 KB KZ R1 R2
  go_upto_region 6 with fail
  generalize (w4.setCell ⟨w.heap.size + 1 + 1, 3, none⟩ (.bool x.st)) = w5 at L0 L1 L2 LB LZ T1 T2 ⊢
  clear s0 t0 x3
  have K0 := L0
  have K1 := L1
  have K2 := L2
  have KB := LB
  have KZ := LZ
  clear L0 L1 L2 LB LZ
  have R1 := T1
  clear T1
  have R2 := T2
  clear T2
  have x4 := (blk_cell K0.out 4 (x := .bool x.dn) rfl).1
  obtain ⟨s0, t0⟩ := blk_cell K2.out 4 (x := .bool false) rfl
  have L0 : Hid ((w5.setCell ⟨w.heap.size + 1 + 1, 4, none⟩ (.bool x.dn)).heap[w.heap.size]? = some (.cells #[.string x.bd, u1, u2, .bool x.st, .bool x.dn] 111 (0, 0))) := (blk_far (by omega) 4 (.bool x.dn)).trans K0.out
  have L1 : Hid ((w5.setCell ⟨w.heap.size + 1 + 1, 4, none⟩ (.bool x.dn)).heap[w.heap.size + 1]? = some (.cells #[.string ⟨#[]⟩, .slice none 0 0, .slice none 0 0, .bool false, .bool false] 74 (0, 0))) := (blk_far (by omega) 4 (.bool x.dn)).trans K1.out
  have L2 : Hid ((w5.setCell ⟨w.heap.size + 1 + 1, 4, none⟩ (.bool x.dn)).heap[w.heap.size + 1 + 1]? = some (.cells #[.string x.bd, .slice a1 x.ps.length c1, .slice a2 x.cs.length c2, .bool x.st, .bool x.dn] 74 (0, 0))) := blk_set K2.out 4 (.bool x.dn)
  have LB : Hid (Below w.heap.size w (w5.setCell ⟨w.heap.size + 1 + 1, 4, none⟩ (.bool x.dn))) := Below.setCell KB.out (p := ⟨w.heap.size + 1 + 1, 4, none⟩) (by show _ ≤ w.heap.size + 1 + 1; omega) (.bool x.dn)
  have LZ : Hid (w.heap.size + 1 + 1 + 1 ≤ (w5.setCell ⟨w.heap.size + 1 + 1, 4, none⟩ (.bool x.dn)).heap.size) := by show _ ≤ _; have := KZ.out; simpa using this
  have T1 : Hid (RowA (w.heap.size + 1 + 1 + 1) (w5.setCell ⟨w.heap.size + 1 + 1, 4, none⟩ (.bool x.dn)) (.slice a1 x.ps.length c1) x.ps) := RowA.keep R1.out ((Abv.refl _ _).set (by omega) _)
  have T2 : Hid (RowA (w.heap.size + 1 + 1 + 1) (w5.setCell ⟨w.heap.size + 1 + 1, 4, none⟩ (.bool x.dn)) (.slice a2 x.cs.length c2) x.cs) := RowA.keep R2.out ((Abv.refl _ _).set (by omega) _)
  clear K0 K1 K2 KB KZ R1 R2
  go_upto_region 7 with fail
  generalize (w5.setCell ⟨w.heap.size + 1 + 1, 4, none⟩ (.bool x.dn)) = w6 at L0 L1 L2 LB LZ T1 T2 ⊢
  clear s0 t0 x4
  have K0 := L0
  have K1 := L1
  have K2 := L2
  have KB := LB
  have KZ := LZ
  clear L0 L1 L2 LB LZ
  have R1 := T1
  clear T1
  have R2 := T2
  clear T2
  have p0 := (blk_cell K2.out 0 (x := .string x.bd) rfl).1
  have p1 := (blk_cell K2.out 1 (x := .slice a1 x.ps.length c1) rfl).1
  have p2 := (blk_cell K2.out 2 (x := .slice a2 x.cs.length c2) rfl).1
  have p3 := (blk_cell K2.out 3 (x := .bool x.st) rfl).1
  have p4 := (blk_cell K2.out 4 (x := .bool x.dn) rfl).1
  obtain ⟨m0, n0⟩ := blk_cell K1.out 0 (x := .string ⟨#[]⟩) rfl
  obtain ⟨m1, n1⟩ := blk_cell K1.out 1 (x := .slice none 0 0) rfl
  obtain ⟨m2, n2⟩ := blk_cell K1.out 2 (x := .slice none 0 0) rfl
  obtain ⟨m3, n3⟩ := blk_cell K1.out 3 (x := .bool false) rfl
  obtain ⟨m4, n4⟩ := blk_cell K1.out 4 (x := .bool false) rfl
  have AF : (((((w6.setCell ⟨w.heap.size + 1, 0, none⟩ (.string x.bd)).setCell ⟨w.heap.size + 1, 1, none⟩ (.slice a1 x.ps.length c1)).setCell ⟨w.heap.size + 1, 2, none⟩ (.slice a2 x.cs.length c2)).setCell ⟨w.heap.size + 1, 3, none⟩ (.bool x.st)).setCell ⟨w.heap.size + 1, 4, none⟩ (.bool x.dn)).heap[w.heap.size + 1]? = some (.cells #[.string x.bd, .slice a1 x.ps.length c1, .slice a2 x.cs.length c2, .bool x.st, .bool x.dn] 74 (0, 0)) := (blk_set (blk_set (blk_set (blk_set (blk_set K1.out 0 (.string x.bd)) 1 (.slice a1 x.ps.length c1)) 2 (.slice a2 x.cs.length c2)) 3 (.bool x.st)) 4 (.bool x.dn))
  have T1 : Hid (RowA (w.heap.size + 1 + 1 + 1) (((((w6.setCell ⟨w.heap.size + 1, 0, none⟩ (.string x.bd)).setCell ⟨w.heap.size + 1, 1, none⟩ (.slice a1 x.ps.length c1)).setCell ⟨w.heap.size + 1, 2, none⟩ (.slice a2 x.cs.length c2)).setCell ⟨w.heap.size + 1, 3, none⟩ (.bool x.st)).setCell ⟨w.heap.size + 1, 4, none⟩ (.bool x.dn)) (.slice a1 x.ps.length c1) x.ps) := RowA.keep R1.out ((((((Abv.refl _ _).set (by omega) _).set (by omega) _).set (by omega) _).set (by omega) _).set (by omega) _)
  have T2 : Hid (RowA (w.heap.size + 1 + 1 + 1) (((((w6.setCell ⟨w.heap.size + 1, 0, none⟩ (.string x.bd)).setCell ⟨w.heap.size + 1, 1, none⟩ (.slice a1 x.ps.length c1)).setCell ⟨w.heap.size + 1, 2, none⟩ (.slice a2 x.cs.length c2)).setCell ⟨w.heap.size + 1, 3, none⟩ (.bool x.st)).setCell ⟨w.heap.size + 1, 4, none⟩ (.bool x.dn)) (.slice a2 x.cs.length c2) x.cs) := RowA.keep R2.out ((((((Abv.refl _ _).set (by omega) _).set (by omega) _).set (by omega) _).set (by omega) _).set (by omega) _)
  have GF : Hid (Below w.heap.size w (((((w6.setCell ⟨w.heap.size + 1, 0, none⟩ (.string x.bd)).setCell ⟨w.heap.size + 1, 1, none⟩ (.slice a1 x.ps.length c1)).setCell ⟨w.heap.size + 1, 2, none⟩ (.slice a2 x.cs.length c2)).setCell ⟨w.heap.size + 1, 3, none⟩ (.bool x.st)).setCell ⟨w.heap.size + 1, 4, none⟩ (.bool x.dn))) := (Below.setCell (Below.setCell (Below.setCell (Below.setCell (Below.setCell KB.out (p := ⟨w.heap.size + 1, 0, none⟩) (by show _ ≤ w.heap.size + 1; omega) (.string x.bd)) (p := ⟨w.heap.size + 1, 1, none⟩) (by show _ ≤ w.heap.size + 1; omega) (.slice a1 x.ps.length c1)) (p := ⟨w.heap.size + 1, 2, none⟩) (by show _ ≤ w.heap.size + 1; omega) (.slice a2 x.cs.length c2)) (p := ⟨w.heap.size + 1, 3, none⟩) (by show _ ≤ w.heap.size + 1; omega) (.bool x.st)) (p := ⟨w.heap.size + 1, 4, none⟩) (by show _ ≤ w.heap.size + 1; omega) (.bool x.dn))
  clear K0 K1 K2 KB KZ R1 R2
  go_wp2_with fail
  generalize (((((w6.setCell ⟨w.heap.size + 1, 0, none⟩ (.string x.bd)).setCell ⟨w.heap.size + 1, 1, none⟩ (.slice a1 x.ps.length c1)).setCell ⟨w.heap.size + 1, 2, none⟩ (.slice a2 x.cs.length c2)).setCell ⟨w.heap.size + 1, 3, none⟩ (.bool x.st)).setCell ⟨w.heap.size + 1, 4, none⟩ (.bool x.dn)) = wf at AF GF T1 T2 ⊢
  have d0 := (blk_cell AF 0 (x := .string x.bd) rfl).1
  have d1 := (blk_cell AF 1 (x := .slice a1 x.ps.length c1) rfl).1
  have d2 := (blk_cell AF 2 (x := .slice a2 x.cs.length c2) rfl).1
  have d3 := (blk_cell AF 3 (x := .bool x.st) rfl).1
  have d4 := (blk_cell AF 4 (x := .bool x.dn) rfl).1
  exact bodyPost_ret (v := stV x (.slice a1 x.ps.length c1) (.slice a2 x.cs.length c2)) (by simp [stV, results, Tryz.results70, go_sem, d0, d1, d2, d3, d4]) rfl ⟨_, _, rfl, RowA.to T1.out (Abv.refl _ _) (by omega), RowA.to T2.out (Abv.refl _ _) (by omega), GF.out⟩
set_option maxRecDepth 100000 in
set_option maxHeartbeats 1600000 in
theorem toCert_any (x : Cx) (u : Value) (w : World) (h1 : Row w u x.ms) (l1 : x.ms.length ≤ 1048576) :
    Calls Tryz.prog 71 #[cxV x u] w fun e w' => ∃ v, e = .returned (cxV x v) ∧ RowA w.heap.size w' v x.ms ∧ Below w.heap.size w w' := by
  have H1 : Hid (Row w u x.ms) := h1
  clear h1
  unfold cxV
  have HB : Hid (∀ o0 o1 o2, Below w.heap.size w (((w.alloc o0).alloc o1).alloc o2)) := fun o0 o1 o2 => (three (Below.refl _ _)).2.2.2.2
  have HS : Hid (∀ o0 o1 o2, (((w.alloc o0).alloc o1).alloc o2).heap.size = w.heap.size + 1 + 1 + 1) := fun o0 o1 o2 => by rw [Rg.size_new, Rg.size_new, Rg.size_new]
  go_enter Tryz.func71, Tryz.ntmps71
  go_wp2_with fail
  refine (toM_any u x.ms _ (H1.out.below (HB.out _ _ _)) l1).mono ?_
  rintro e w1 ⟨v1, rfl, hr, b1⟩
  obtain ⟨a1, c1, rfl⟩ := RowG.slice hr
  obtain ⟨k0, k1, k2, kS, kB⟩ := three b1
  rw [HS.out] at hr
  have K0 : Hid (w1.heap[w.heap.size]? = some (.cells #[.string x.bd, u] 114 (0, 0))) := k0
  have K1 : Hid (w1.heap[w.heap.size + 1]? = some (.cells #[.string ⟨#[]⟩, .slice none 0 0] 37 (0, 0))) := k1
  have K2 : Hid (w1.heap[w.heap.size + 1 + 1]? = some (.cells #[.string x.bd, .slice none 0 0] 37 (0, 0))) := k2
  have KB : Hid (Below w.heap.size w w1) := kB
  have KZ : Hid (w.heap.size + 1 + 1 + 1 ≤ w1.heap.size) := kS
  have R1 : Hid (RowA (w.heap.size + 1 + 1 + 1) w1 (.slice a1 x.ms.length c1) x.ms) := hr
  clear hr b1 k0 k1 k2 kS kB HB HS
  obtain ⟨s0, t0⟩ := blk_cell K2.out 1 (x := .slice none 0 0) rfl
  have L0 : Hid ((w1.setCell ⟨w.heap.size + 1 + 1, 1, none⟩ (.slice a1 x.ms.length c1)).heap[w.heap.size]? = some (.cells #[.string x.bd, u] 114 (0, 0))) := (blk_far (by omega) 1 (.slice a1 x.ms.length c1)).trans K0.out
  have L1 : Hid ((w1.setCell ⟨w.heap.size + 1 + 1, 1, none⟩ (.slice a1 x.ms.length c1)).heap[w.heap.size + 1]? = some (.cells #[.string ⟨#[]⟩, .slice none 0 0] 37 (0, 0))) := (blk_far (by omega) 1 (.slice a1 x.ms.length c1)).trans K1.out
  have L2 : Hid ((w1.setCell ⟨w.heap.size + 1 + 1, 1, none⟩ (.slice a1 x.ms.length c1)).heap[w.heap.size + 1 + 1]? = some (.cells #[.string x.bd, .slice a1 x.ms.length c1] 37 (0, 0))) := blk_set K2.out 1 (.slice a1 x.ms.length c1)
  have LB : Hid (Below w.heap.size w (w1.setCell ⟨w.heap.size + 1 + 1, 1, none⟩ (.slice a1 x.ms.length c1))) := Below.setCell KB.out (p := ⟨w.heap.size + 1 + 1, 1, none⟩) (by show _ ≤ w.heap.size + 1 + 1; omega) (.slice a1 x.ms.length c1)
  have LZ : Hid (w.heap.size + 1 + 1 + 1 ≤ (w1.setCell ⟨w.heap.size + 1 + 1, 1, none⟩ (.slice a1 x.ms.length c1)).heap.size) := by show _ ≤ _; have := KZ.out; simpa using this
  have T1 : Hid (RowA (w.heap.size + 1 + 1 + 1) (w1.setCell ⟨w.heap.size + 1 + 1, 1, none⟩ (.slice a1 x.ms.length c1)) (.slice a1 x.ms.length c1) x.ms) := RowA.keep R1.out ((Abv.refl _ _).set (by omega) _)
  clear K0 K1 K2 KB KZ R1
  go_upto_region 4 with fail
  generalize (w1.setCell ⟨w.heap.size + 1 + 1, 1, none⟩ (.slice a1 x.ms.length c1)) = w2 at L0 L1 L2 LB LZ T1 ⊢
  clear s0 t0
  have K0 := L0
  have K1 := L1
  have K2 := L2
  have KB := LB
  have KZ := LZ
  clear L0 L1 L2 LB LZ
  have R1 := T1
  clear T1
  have p0 := (blk_cell K2.out 0 (x := .string x.bd) rfl).1
  have p1 := (blk_cell K2.out 1 (x := .slice a1 x.ms.length c1) rfl).1
  obtain ⟨m0, n0⟩ := blk_cell K1.out 0 (x := .string ⟨#[]⟩) rfl
  obtain ⟨m1, n1⟩ := blk_cell K1.out 1 (x := .slice none 0 0) rfl
  have AF : ((w2.setCell ⟨w.heap.size + 1, 0, none⟩ (.string x.bd)).setCell ⟨w.heap.size + 1, 1, none⟩ (.slice a1 x.ms.length c1)).heap[w.heap.size + 1]? = some (.cells #[.string x.bd, .slice a1 x.ms.length c1] 37 (0, 0)) := (blk_set (blk_set K1.out 0 (.string x.bd)) 1 (.slice a1 x.ms.length c1))
  have T1 : Hid (RowA (w.heap.size + 1 + 1 + 1) ((w2.setCell ⟨w.heap.size + 1, 0, none⟩ (.string x.bd)).setCell ⟨w.heap.size + 1, 1, none⟩ (.slice a1 x.ms.length c1)) (.slice a1 x.ms.length c1) x.ms) := RowA.keep R1.out (((Abv.refl _ _).set (by omega) _).set (by omega) _)
  have GF : Hid (Below w.heap.size w ((w2.setCell ⟨w.heap.size + 1, 0, none⟩ (.string x.bd)).setCell ⟨w.heap.size + 1, 1, none⟩ (.slice a1 x.ms.length c1))) := (Below.setCell (Below.setCell KB.out (p := ⟨w.heap.size + 1, 0, none⟩) (by show _ ≤ w.heap.size + 1; omega) (.string x.bd)) (p := ⟨w.heap.size + 1, 1, none⟩) (by show _ ≤ w.heap.size + 1; omega) (.slice a1 x.ms.length c1))
  clear K0 K1 K2 KB KZ R1
  go_wp2_with fail
  generalize ((w2.setCell ⟨w.heap.size + 1, 0, none⟩ (.string x.bd)).setCell ⟨w.heap.size + 1, 1, none⟩ (.slice a1 x.ms.length c1)) = wf at AF GF T1 ⊢
  have d0 := (blk_cell AF 0 (x := .string x.bd) rfl).1
  have d1 := (blk_cell AF 1 (x := .slice a1 x.ms.length c1) rfl).1
  exact bodyPost_ret (v := cxV x (.slice a1 x.ms.length c1)) (by simp [cxV, results, Tryz.results71, go_sem, d0, d1]) rfl ⟨_, rfl, RowA.to T1.out (Abv.refl _ _) (by omega), GF.out⟩
theorem info_toSlotS : (Tryz.prog.info? 74).map (fun i => (i.zero, i.size, i.bytes)) = some (some (.agg #[.string ⟨#[]⟩, .slice none 0 0, .slice none 0 0, .bool false, .bool false]), 5, 72) := by kernel_rfl
/-- The copy: its first k are written, each with rows from block B on. -/
def CoptoSlotS (B : Nat) (w : World) (xs : List St) (k : Nat) (A : Array Value) : Prop := A.size = xs.length * 5 ∧ ∀ j x, j < k → xs[j]? = some x → ∃ u1 u2, A[j * 5]? = some (.string x.bd) ∧ A[j * 5 + 1]? = some (u1) ∧ A[j * 5 + 2]? = some (u2) ∧ A[j * 5 + 3]? = some (.bool x.st) ∧ A[j * 5 + 4]? = some (.bool x.dn) ∧ RowA B w u1 x.ps ∧ RowA B w u2 x.cs
theorem CoptoSlotS.keep {B : Nat} {w w' : World} {xs : List St} {k : Nat} {A : Array Value} (h : CoptoSlotS B w xs k A) (ha : Abv B w w') : CoptoSlotS B w' xs k A :=
  ⟨h.1, fun j x hj hx => by
    obtain ⟨u1, u2, h0, h1, h2, h3, h4, h5, h6⟩ := h.2 j x hj hx
    exact ⟨u1, u2, h0, h1, h2, h3, h4, h5.keep ha, h6.keep ha⟩⟩
theorem coptoSlotS {B : Nat} {w : World} {xs : List St} {k : Nat} {A : Array Value} {x : St} {u1 u2 : Value} (h : CoptoSlotS B w xs k A) (hx : xs[k]? = some x) (r0 : RowA B w u1 x.ps) (r1 : RowA B w u2 x.cs) :
    CoptoSlotS B w xs (k + 1) ((((((A).setIfInBounds (k * 5) (.string x.bd)).setIfInBounds (k * 5 + 1) (u1)).setIfInBounds (k * 5 + 2) (u2)).setIfInBounds (k * 5 + 3) (.bool x.st)).setIfInBounds (k * 5 + 4) (.bool x.dn)) := by
  have hk := lt_at hx
  have hs := h.1
  refine ⟨by simpa using h.1, fun j y hj hy => ?_⟩
  simp only [Array.getElem?_setIfInBounds, Array.size_setIfInBounds]
  by_cases e : j = k
  · subst e
    rw [hx] at hy
    cases hy
    refine ⟨u1, u2, ?_, ?_, ?_, ?_, ?_, r0, r1⟩
    all_goals (repeat' (first | rw [if_pos rfl, if_pos (by omega)] | rw [if_neg (by omega)]))
  · obtain ⟨z0, z1, h0, h1, h2, h3, h4, h5, h6⟩ := h.2 j y (by omega) hy
    refine ⟨z0, z1, ?_, ?_, ?_, ?_, ?_, h5, h6⟩
    all_goals (repeat' rw [if_neg (by omega)])
    all_goals assumption
set_option maxRecDepth 100000 in
set_option maxHeartbeats 1600000 in
theorem toSlotS_any (v : Value) (xs : List St) (w : World) (h : RowS w v xs) (hl : xs.length ≤ 1048576) (hw : ∀ x ∈ xs, SZ 1048576 x) :
    Calls Tryz.prog 37 #[v] w fun e w' => ∃ v', e = .returned v' ∧ RowSA w.heap.size w' v' xs ∧ Below w.heap.size w w' := by
  have HR : Hid (RowS w v xs ∧ ∀ x ∈ xs, SZ 1048576 x) := ⟨h, hw⟩
  obtain ⟨a, cap, rfl⟩ := RowG.slice h
  clear h hw
  obtain ⟨i0, hi, hz0, hz1, hz2⟩ := info_parts info_toSlotS
  have hmk := run_make (P := Tryz.prog) w 46 74 i0 (.agg #[.string ⟨#[]⟩, .slice none 0 0, .slice none 0 0, .bool false, .bool false]) Tryz.underlying46 hi hz0 .i64 .i64 (xs.length : Int) (xs.length : Int) (by omega) (by omega) (by rw [hz2]; omega) (by omega)
  have hA0 : CoptoSlotS (w.heap.size + 1) (w.alloc (.cells (madeCells (Value.agg #[.string ⟨#[]⟩, .slice none 0 0, .slice none 0 0, .bool false, .bool false]).cells ((xs.length : Int).toNat * i0.size)) 74)) xs 0 (madeCells (Value.agg #[.string ⟨#[]⟩, .slice none 0 0, .slice none 0 0, .bool false, .bool false]).cells ((xs.length : Int).toNat * i0.size)) := ⟨by rw [hz1]; simp [madeCells, Value.cells], fun j x hj => absurd hj (by omega)⟩
  generalize madeCells (Value.agg #[.string ⟨#[]⟩, .slice none 0 0, .slice none 0 0, .bool false, .bool false]).cells ((xs.length : Int).toNat * i0.size) = A0 at hmk hA0
  rw [Int.toNat_natCast] at hmk
  have HA0 : Hid (CoptoSlotS (w.heap.size + 1) (w.alloc (.cells A0 74)) xs 0 A0) := hA0
  clear hA0
  go_enter Tryz.func37, Tryz.ntmps37
  go_wp2_with fail
  clear hmk
  go_loopw [4] (fun i wr => ∃ k : Nat, ∃ A : Array Value, k ≤ xs.length ∧ i = .int .i64 k ∧ Hid (wr.heap[w.heap.size]? = some (.cells A 74 (0, 0)) ∧ CoptoSlotS (w.heap.size + 1) wr xs k A ∧ Below w.heap.size w wr)) (fun i _ => xs.length - (intOf i).toNat)
  case atStart => exact ⟨0, A0, by omega, rfl, ⟨heap_alloc_new w _, HA0.out, bel_new _ _⟩⟩
  case round =>
    clear HA0
    obtain ⟨k, A, hk, rfl, HA⟩ := hrel
    by_cases hlt : k < xs.length
    · obtain ⟨x, hx⟩ := Rg.get_at hlt
      obtain ⟨b, off, rfl, hbl, u1, u2, c0, c1, c2, c3, c4, r0, r1⟩ := RowG.at (HR.out.1.below HA.out.2.2) rfl hx
      have HX : Hid (xs[k]? = some x) := hx
      have HY : Hid (Row wr u1 x.ps ∧ Row wr u2 x.cs) := ⟨r0, r1⟩
      have hzx := HR.out.2 _ (mem_at hx)
      have HZ : Hid (SZ 1048576 x) := hzx
      clear hx hzx r0 r1
      go_wp2_with fail
      refine (toSlot_any x u1 u2 wr HY.out.1 HY.out.2 HZ.out.2.1.1 HZ.out.2.2.1).mono ?_
      rintro e w2 ⟨y0, y1, rfl, r0, r1, b2⟩
      obtain ⟨q0a, q0c, rfl⟩ := RowG.slice r0
      obtain ⟨q1a, q1c, rfl⟩ := RowG.slice r1
      have hg := (Array.getElem?_eq_some_iff.1 HA.out.1).1
      have HA2 : Hid (w2.heap[w.heap.size]? = some (.cells A 74 (0, 0)) ∧ CoptoSlotS (w.heap.size + 1) w2 xs k A ∧ Below w.heap.size w w2) := ⟨(b2.block _ hg).trans HA.out.1, HA.out.2.1.keep (Abv.of b2), HA.out.2.2.trans (b2.mono HA.out.2.2.size)⟩
      have HQ0 : Hid (RowA (w.heap.size + 1) w2 (.slice q0a x.ps.length q0c) x.ps) := r0.to (Abv.refl _ _) (by omega)
      have HQ1 : Hid (RowA (w.heap.size + 1) w2 (.slice q1a x.cs.length q1c) x.cs) := r1.to (Abv.refl _ _) (by omega)
      clear b2 c0 c1 c2 c3 c4 HA r0 r1
      have hsz : k * 5 + 4 < A.size := by rw [HA2.out.2.1.1]; omega
      obtain ⟨d0, f0⟩ := blk_cell HA2.out.1 (k * 5) (x := A[k * 5]) (Array.getElem?_eq_getElem (by omega))
      obtain ⟨d1, f1⟩ := blk_cell HA2.out.1 (k * 5 + 1) (x := A[k * 5 + 1]) (Array.getElem?_eq_getElem (by omega))
      obtain ⟨d2, f2⟩ := blk_cell HA2.out.1 (k * 5 + 2) (x := A[k * 5 + 2]) (Array.getElem?_eq_getElem (by omega))
      obtain ⟨d3, f3⟩ := blk_cell HA2.out.1 (k * 5 + 3) (x := A[k * 5 + 3]) (Array.getElem?_eq_getElem (by omega))
      obtain ⟨d4, f4⟩ := blk_cell HA2.out.1 (k * 5 + 4) (x := A[k * 5 + 4]) (Array.getElem?_eq_getElem (by omega))
      unfold stV
      go_wp2_with fail
      refine ⟨⟨k + 1, (((((A).setIfInBounds (k * 5) (.string x.bd)).setIfInBounds (k * 5 + 1) (.slice q0a x.ps.length q0c)).setIfInBounds (k * 5 + 2) (.slice q1a x.cs.length q1c)).setIfInBounds (k * 5 + 3) (.bool x.st)).setIfInBounds (k * 5 + 4) (.bool x.dn), by omega, by go_num, ⟨(blk_set (blk_set (blk_set (blk_set (blk_set HA2.out.1 _ _) _ _) _ _) _ _) _ _), ?_, (Below.setCell (Below.setCell (Below.setCell (Below.setCell (Below.setCell HA2.out.2.2 (p := ⟨w.heap.size, k * 5, none⟩) (Nat.le_refl _) (.string x.bd)) (p := ⟨w.heap.size, k * 5 + 1, none⟩) (Nat.le_refl _) (.slice q0a x.ps.length q0c)) (p := ⟨w.heap.size, k * 5 + 2, none⟩) (Nat.le_refl _) (.slice q1a x.cs.length q1c)) (p := ⟨w.heap.size, k * 5 + 3, none⟩) (Nat.le_refl _) (.bool x.st)) (p := ⟨w.heap.size, k * 5 + 4, none⟩) (Nat.le_refl _) (.bool x.dn))⟩⟩, by simp [intOf]; omega⟩
      exact (coptoSlotS HA2.out.2.1 HX.out HQ0.out HQ1.out).keep ((((((Abv.refl _ _).set (Nat.lt_succ_self _) _).set (Nat.lt_succ_self _) _).set (Nat.lt_succ_self _) _).set (Nat.lt_succ_self _) _).set (Nat.lt_succ_self _) _)
    · obtain rfl : k = xs.length := by omega
      go_wp2_with fail
      go_ret
      refine ⟨_, rfl, ⟨some ⟨w.heap.size, 0, none⟩, xs.length, rfl, .inr ⟨w.heap.size, 0, rfl, Nat.le_refl _, (Array.getElem?_eq_some_iff.1 HA.out.1).1, fun i x hi => ?_⟩⟩, HA.out.2.2⟩
      obtain ⟨u1, u2, e0, e1, e2, e3, e4, e5, e6⟩ := HA.out.2.1.2 i x (lt_at hi) hi
      rw [Nat.zero_add]
      exact ⟨Nat.le_refl _, u1, u2, (Joins.cell_of_block HA.out.1 _).trans e0, (Joins.cell_of_block HA.out.1 _).trans e1, (Joins.cell_of_block HA.out.1 _).trans e2, (Joins.cell_of_block HA.out.1 _).trans e3, (Joins.cell_of_block HA.out.1 _).trans e4, e5.to (Abv.refl _ _) (by omega), e6.to (Abv.refl _ _) (by omega)⟩
theorem info_toCertS : (Tryz.prog.info? 37).map (fun i => (i.zero, i.size, i.bytes)) = some (some (.agg #[.string ⟨#[]⟩, .slice none 0 0]), 2, 40) := by kernel_rfl
/-- The copy: its first k are written, each with rows from block B on. -/
def CoptoCertS (B : Nat) (w : World) (xs : List Cx) (k : Nat) (A : Array Value) : Prop := A.size = xs.length * 2 ∧ ∀ j x, j < k → xs[j]? = some x → ∃ u1, A[j * 2]? = some (.string x.bd) ∧ A[j * 2 + 1]? = some (u1) ∧ RowA B w u1 x.ms
theorem CoptoCertS.keep {B : Nat} {w w' : World} {xs : List Cx} {k : Nat} {A : Array Value} (h : CoptoCertS B w xs k A) (ha : Abv B w w') : CoptoCertS B w' xs k A :=
  ⟨h.1, fun j x hj hx => by
    obtain ⟨u1, h0, h1, h2⟩ := h.2 j x hj hx
    exact ⟨u1, h0, h1, h2.keep ha⟩⟩
theorem coptoCertS {B : Nat} {w : World} {xs : List Cx} {k : Nat} {A : Array Value} {x : Cx} {u1 : Value} (h : CoptoCertS B w xs k A) (hx : xs[k]? = some x) (r0 : RowA B w u1 x.ms) :
    CoptoCertS B w xs (k + 1) (((A).setIfInBounds (k * 2) (.string x.bd)).setIfInBounds (k * 2 + 1) (u1)) := by
  have hk := lt_at hx
  have hs := h.1
  refine ⟨by simpa using h.1, fun j y hj hy => ?_⟩
  simp only [Array.getElem?_setIfInBounds, Array.size_setIfInBounds]
  by_cases e : j = k
  · subst e
    rw [hx] at hy
    cases hy
    refine ⟨u1, ?_, ?_, r0⟩
    all_goals (repeat' (first | rw [if_pos rfl, if_pos (by omega)] | rw [if_neg (by omega)]))
  · obtain ⟨z0, h0, h1, h2⟩ := h.2 j y (by omega) hy
    refine ⟨z0, ?_, ?_, h2⟩
    all_goals (repeat' rw [if_neg (by omega)])
    all_goals assumption
set_option maxRecDepth 100000 in
set_option maxHeartbeats 1600000 in
theorem toCertS_any (v : Value) (xs : List Cx) (w : World) (h : RowC w v xs) (hl : xs.length ≤ 1048576) (hw : ∀ x ∈ xs, CZ 1048576 x) :
    Calls Tryz.prog 38 #[v] w fun e w' => ∃ v', e = .returned v' ∧ RowCA w.heap.size w' v' xs ∧ Below w.heap.size w w' := by
  have HR : Hid (RowC w v xs ∧ ∀ x ∈ xs, CZ 1048576 x) := ⟨h, hw⟩
  obtain ⟨a, cap, rfl⟩ := RowG.slice h
  clear h hw
  obtain ⟨i0, hi, hz0, hz1, hz2⟩ := info_parts info_toCertS
  have hmk := run_make (P := Tryz.prog) w 33 37 i0 (.agg #[.string ⟨#[]⟩, .slice none 0 0]) Tryz.underlying33 hi hz0 .i64 .i64 (xs.length : Int) (xs.length : Int) (by omega) (by omega) (by rw [hz2]; omega) (by omega)
  have hA0 : CoptoCertS (w.heap.size + 1) (w.alloc (.cells (madeCells (Value.agg #[.string ⟨#[]⟩, .slice none 0 0]).cells ((xs.length : Int).toNat * i0.size)) 37)) xs 0 (madeCells (Value.agg #[.string ⟨#[]⟩, .slice none 0 0]).cells ((xs.length : Int).toNat * i0.size)) := ⟨by rw [hz1]; simp [madeCells, Value.cells], fun j x hj => absurd hj (by omega)⟩
  generalize madeCells (Value.agg #[.string ⟨#[]⟩, .slice none 0 0]).cells ((xs.length : Int).toNat * i0.size) = A0 at hmk hA0
  rw [Int.toNat_natCast] at hmk
  have HA0 : Hid (CoptoCertS (w.heap.size + 1) (w.alloc (.cells A0 37)) xs 0 A0) := hA0
  clear hA0
  go_enter Tryz.func38, Tryz.ntmps38
  go_wp2_with fail
  clear hmk
  go_loopw [4] (fun i wr => ∃ k : Nat, ∃ A : Array Value, k ≤ xs.length ∧ i = .int .i64 k ∧ Hid (wr.heap[w.heap.size]? = some (.cells A 37 (0, 0)) ∧ CoptoCertS (w.heap.size + 1) wr xs k A ∧ Below w.heap.size w wr)) (fun i _ => xs.length - (intOf i).toNat)
  case atStart => exact ⟨0, A0, by omega, rfl, ⟨heap_alloc_new w _, HA0.out, bel_new _ _⟩⟩
  case round =>
    clear HA0
    obtain ⟨k, A, hk, rfl, HA⟩ := hrel
    by_cases hlt : k < xs.length
    · obtain ⟨x, hx⟩ := Rg.get_at hlt
      obtain ⟨b, off, rfl, hbl, u1, c0, c1, r0⟩ := RowG.at (HR.out.1.below HA.out.2.2) rfl hx
      have HX : Hid (xs[k]? = some x) := hx
      have HY : Hid (Row wr u1 x.ms) := r0
      have hzx := HR.out.2 _ (mem_at hx)
      have HZ : Hid (CZ 1048576 x) := hzx
      clear hx hzx r0
      go_wp2_with fail
      refine (toCert_any x u1 wr HY.out HZ.out.2.1).mono ?_
      rintro e w2 ⟨y0, rfl, r0, b2⟩
      obtain ⟨q0a, q0c, rfl⟩ := RowG.slice r0
      have hg := (Array.getElem?_eq_some_iff.1 HA.out.1).1
      have HA2 : Hid (w2.heap[w.heap.size]? = some (.cells A 37 (0, 0)) ∧ CoptoCertS (w.heap.size + 1) w2 xs k A ∧ Below w.heap.size w w2) := ⟨(b2.block _ hg).trans HA.out.1, HA.out.2.1.keep (Abv.of b2), HA.out.2.2.trans (b2.mono HA.out.2.2.size)⟩
      have HQ0 : Hid (RowA (w.heap.size + 1) w2 (.slice q0a x.ms.length q0c) x.ms) := r0.to (Abv.refl _ _) (by omega)
      clear b2 c0 c1 HA r0
      have hsz : k * 2 + 1 < A.size := by rw [HA2.out.2.1.1]; omega
      obtain ⟨d0, f0⟩ := blk_cell HA2.out.1 (k * 2) (x := A[k * 2]) (Array.getElem?_eq_getElem (by omega))
      obtain ⟨d1, f1⟩ := blk_cell HA2.out.1 (k * 2 + 1) (x := A[k * 2 + 1]) (Array.getElem?_eq_getElem (by omega))
      unfold cxV
      go_wp2_with fail
      refine ⟨⟨k + 1, ((A).setIfInBounds (k * 2) (.string x.bd)).setIfInBounds (k * 2 + 1) (.slice q0a x.ms.length q0c), by omega, by go_num, ⟨(blk_set (blk_set HA2.out.1 _ _) _ _), ?_, (Below.setCell (Below.setCell HA2.out.2.2 (p := ⟨w.heap.size, k * 2, none⟩) (Nat.le_refl _) (.string x.bd)) (p := ⟨w.heap.size, k * 2 + 1, none⟩) (Nat.le_refl _) (.slice q0a x.ms.length q0c))⟩⟩, by simp [intOf]; omega⟩
      exact (coptoCertS HA2.out.2.1 HX.out HQ0.out).keep (((Abv.refl _ _).set (Nat.lt_succ_self _) _).set (Nat.lt_succ_self _) _)
    · obtain rfl : k = xs.length := by omega
      go_wp2_with fail
      go_ret
      refine ⟨_, rfl, ⟨some ⟨w.heap.size, 0, none⟩, xs.length, rfl, .inr ⟨w.heap.size, 0, rfl, Nat.le_refl _, (Array.getElem?_eq_some_iff.1 HA.out.1).1, fun i x hi => ?_⟩⟩, HA.out.2.2⟩
      obtain ⟨u1, e0, e1, e2⟩ := HA.out.2.1.2 i x (lt_at hi) hi
      rw [Nat.zero_add]
      exact ⟨Nat.le_refl _, u1, (Joins.cell_of_block HA.out.1 _).trans e0, (Joins.cell_of_block HA.out.1 _).trans e1, e2.to (Abv.refl _ _) (by omega)⟩
set_option maxRecDepth 100000 in
set_option maxHeartbeats 1600000 in
theorem toReplica_any (r : Rp) (vs vc vl vh : Value) (w : World) (h : RepR w r vs vc vl vh) (hz : Zr 1048576 r) :
    Calls Tryz.prog 13 #[repV r vs vc vl vh] w fun e w' => ∃ us uc ul uh, e = .returned (repV r us uc ul uh) ∧ RepA w.heap.size w' r us uc ul uh ∧ Below w.heap.size w w' := by
  have HR : Hid (RepR w r vs vc vl vh) := h
  have HZ : Hid (Zr 1048576 r) := hz
  clear h hz
  unfold repV
  have HB : Hid (∀ o0 o1 o2, Below w.heap.size w (((w.alloc o0).alloc o1).alloc o2)) := fun o0 o1 o2 => (three (Below.refl _ _)).2.2.2.2
  have HS : Hid (∀ o0 o1 o2, (((w.alloc o0).alloc o1).alloc o2).heap.size = w.heap.size + 1 + 1 + 1) := fun o0 o1 o2 => by rw [Rg.size_new, Rg.size_new, Rg.size_new]
  go_enter Tryz.func13, Tryz.ntmps13
  go_wp2_with fail
  refine (toSlotS_any vs r.ss _ (HR.out.s.below (HB.out _ _ _)) HZ.out.s HZ.out.sz).mono ?_
  rintro e w1 ⟨v4, rfl, hr, b1⟩
  obtain ⟨a4, c4, rfl⟩ := RowG.slice hr
  obtain ⟨k0, k1, k2, kS, kB⟩ := three b1
  rw [HS.out] at hr
  have K0 : Hid (w1.heap[w.heap.size]? = some (.cells #[.int .i64 r.id, .int .i64 r.n, .int .i64 r.vw, .bool r.ac, vs, vc, vl, vh] 43 (0, 0))) := k0
  have K1 : Hid (w1.heap[w.heap.size + 1]? = some (.cells #[.int .i64 0, .int .i64 0, .int .i64 0, .bool false, .slice none 0 0, .slice none 0 0, .slice none 0 0, .slice none 0 0] 48 (0, 0))) := k1
  have K2 : Hid (w1.heap[w.heap.size + 1 + 1]? = some (.cells #[.int .i64 r.id, .int .i64 r.n, .int .i64 r.vw, .bool r.ac, .slice none 0 0, .slice none 0 0, .slice none 0 0, .slice none 0 0] 48 (0, 0))) := k2
  have KB : Hid (Below w.heap.size w w1) := kB
  have KZ : Hid (w.heap.size + 1 + 1 + 1 ≤ w1.heap.size) := kS
  have R4 : Hid (RowSA (w.heap.size + 1 + 1 + 1) w1 (.slice a4 r.ss.length c4) r.ss) := hr
  clear hr b1 k0 k1 k2 kS kB HB HS
  obtain ⟨s0, t0⟩ := blk_cell K2.out 4 (x := .slice none 0 0) rfl
  have L0 : Hid ((w1.setCell ⟨w.heap.size + 1 + 1, 4, none⟩ (.slice a4 r.ss.length c4)).heap[w.heap.size]? = some (.cells #[.int .i64 r.id, .int .i64 r.n, .int .i64 r.vw, .bool r.ac, vs, vc, vl, vh] 43 (0, 0))) := (blk_far (by omega) 4 (.slice a4 r.ss.length c4)).trans K0.out
  have L1 : Hid ((w1.setCell ⟨w.heap.size + 1 + 1, 4, none⟩ (.slice a4 r.ss.length c4)).heap[w.heap.size + 1]? = some (.cells #[.int .i64 0, .int .i64 0, .int .i64 0, .bool false, .slice none 0 0, .slice none 0 0, .slice none 0 0, .slice none 0 0] 48 (0, 0))) := (blk_far (by omega) 4 (.slice a4 r.ss.length c4)).trans K1.out
  have L2 : Hid ((w1.setCell ⟨w.heap.size + 1 + 1, 4, none⟩ (.slice a4 r.ss.length c4)).heap[w.heap.size + 1 + 1]? = some (.cells #[.int .i64 r.id, .int .i64 r.n, .int .i64 r.vw, .bool r.ac, .slice a4 r.ss.length c4, .slice none 0 0, .slice none 0 0, .slice none 0 0] 48 (0, 0))) := blk_set K2.out 4 (.slice a4 r.ss.length c4)
  have LB : Hid (Below w.heap.size w (w1.setCell ⟨w.heap.size + 1 + 1, 4, none⟩ (.slice a4 r.ss.length c4))) := Below.setCell KB.out (p := ⟨w.heap.size + 1 + 1, 4, none⟩) (by show _ ≤ w.heap.size + 1 + 1; omega) (.slice a4 r.ss.length c4)
  have LZ : Hid (w.heap.size + 1 + 1 + 1 ≤ (w1.setCell ⟨w.heap.size + 1 + 1, 4, none⟩ (.slice a4 r.ss.length c4)).heap.size) := by show _ ≤ _; have := KZ.out; simpa using this
  have T4 : Hid (RowSA (w.heap.size + 1 + 1 + 1) (w1.setCell ⟨w.heap.size + 1 + 1, 4, none⟩ (.slice a4 r.ss.length c4)) (.slice a4 r.ss.length c4) r.ss) := RowSA.keep R4.out ((Abv.refl _ _).set (by omega) _)
  clear K0 K1 K2 KB KZ R4
  go_upto_region 7 with fail
  generalize (w1.setCell ⟨w.heap.size + 1 + 1, 4, none⟩ (.slice a4 r.ss.length c4)) = w2 at L0 L1 L2 LB LZ T4 ⊢
  clear s0 t0
  have K0 := L0
  have K1 := L1
  have K2 := L2
  have KB := LB
  have KZ := LZ
  clear L0 L1 L2 LB LZ
  have R4 := T4
  clear T4
  have x5 := (blk_cell K0.out 5 (x := vc) rfl).1
  go_wp2_with fail
  refine (toCertS_any vc r.cs w2 (HR.out.c.below KB.out) HZ.out.c HZ.out.cz).mono ?_
  rintro e w3 ⟨v5, rfl, hr, bn⟩
  obtain ⟨a5, c5, rfl⟩ := RowG.slice hr
  have R5 : Hid (RowCA (w.heap.size + 1 + 1 + 1) w3 (.slice a5 r.cs.length c5) r.cs) := RowCA.to hr (Abv.refl _ _) KZ.out
  have T4 : Hid (RowSA (w.heap.size + 1 + 1 + 1) w3 (.slice a4 r.ss.length c4) r.ss) := RowSA.keep R4.out (Abv.of bn)
  clear R4
  have R4 := T4
  clear T4
  have L0 : Hid (w3.heap[w.heap.size]? = some (.cells #[.int .i64 r.id, .int .i64 r.n, .int .i64 r.vw, .bool r.ac, vs, vc, vl, vh] 43 (0, 0))) := (bn.block _ (by have := KZ.out; omega)).trans K0.out
  have L1 : Hid (w3.heap[w.heap.size + 1]? = some (.cells #[.int .i64 0, .int .i64 0, .int .i64 0, .bool false, .slice none 0 0, .slice none 0 0, .slice none 0 0, .slice none 0 0] 48 (0, 0))) := (bn.block _ (by have := KZ.out; omega)).trans K1.out
  have L2 : Hid (w3.heap[w.heap.size + 1 + 1]? = some (.cells #[.int .i64 r.id, .int .i64 r.n, .int .i64 r.vw, .bool r.ac, .slice a4 r.ss.length c4, .slice none 0 0, .slice none 0 0, .slice none 0 0] 48 (0, 0))) := (bn.block _ (by have := KZ.out; omega)).trans K2.out
  have LB : Hid (Below w.heap.size w w3) := KB.out.trans (bn.mono KB.out.size)
  have LZ : Hid (w.heap.size + 1 + 1 + 1 ≤ w3.heap.size) := Nat.le_trans KZ.out bn.size
  clear hr bn K0 K1 K2 KB KZ x5
  have K0 := L0
  have K1 := L1
  have K2 := L2
  have KB := LB
  have KZ := LZ
  clear L0 L1 L2 LB LZ
  obtain ⟨s0, t0⟩ := blk_cell K2.out 5 (x := .slice none 0 0) rfl
  have L0 : Hid ((w3.setCell ⟨w.heap.size + 1 + 1, 5, none⟩ (.slice a5 r.cs.length c5)).heap[w.heap.size]? = some (.cells #[.int .i64 r.id, .int .i64 r.n, .int .i64 r.vw, .bool r.ac, vs, vc, vl, vh] 43 (0, 0))) := (blk_far (by omega) 5 (.slice a5 r.cs.length c5)).trans K0.out
  have L1 : Hid ((w3.setCell ⟨w.heap.size + 1 + 1, 5, none⟩ (.slice a5 r.cs.length c5)).heap[w.heap.size + 1]? = some (.cells #[.int .i64 0, .int .i64 0, .int .i64 0, .bool false, .slice none 0 0, .slice none 0 0, .slice none 0 0, .slice none 0 0] 48 (0, 0))) := (blk_far (by omega) 5 (.slice a5 r.cs.length c5)).trans K1.out
  have L2 : Hid ((w3.setCell ⟨w.heap.size + 1 + 1, 5, none⟩ (.slice a5 r.cs.length c5)).heap[w.heap.size + 1 + 1]? = some (.cells #[.int .i64 r.id, .int .i64 r.n, .int .i64 r.vw, .bool r.ac, .slice a4 r.ss.length c4, .slice a5 r.cs.length c5, .slice none 0 0, .slice none 0 0] 48 (0, 0))) := blk_set K2.out 5 (.slice a5 r.cs.length c5)
  have LB : Hid (Below w.heap.size w (w3.setCell ⟨w.heap.size + 1 + 1, 5, none⟩ (.slice a5 r.cs.length c5))) := Below.setCell KB.out (p := ⟨w.heap.size + 1 + 1, 5, none⟩) (by show _ ≤ w.heap.size + 1 + 1; omega) (.slice a5 r.cs.length c5)
  have LZ : Hid (w.heap.size + 1 + 1 + 1 ≤ (w3.setCell ⟨w.heap.size + 1 + 1, 5, none⟩ (.slice a5 r.cs.length c5)).heap.size) := by show _ ≤ _; have := KZ.out; simpa using this
  have T4 : Hid (RowSA (w.heap.size + 1 + 1 + 1) (w3.setCell ⟨w.heap.size + 1 + 1, 5, none⟩ (.slice a5 r.cs.length c5)) (.slice a4 r.ss.length c4) r.ss) := RowSA.keep R4.out ((Abv.refl _ _).set (by omega) _)
  have T5 : Hid (RowCA (w.heap.size + 1 + 1 + 1) (w3.setCell ⟨w.heap.size + 1 + 1, 5, none⟩ (.slice a5 r.cs.length c5)) (.slice a5 r.cs.length c5) r.cs) := RowCA.keep R5.out ((Abv.refl _ _).set (by omega) _)
  clear K0 K1 K2 KB KZ R4 R5
  go_upto_region 8 with fail
  generalize (w3.setCell ⟨w.heap.size + 1 + 1, 5, none⟩ (.slice a5 r.cs.length c5)) = w4 at L0 L1 L2 LB LZ T4 T5 ⊢
  clear s0 t0
  have K0 := L0
  have K1 := L1
  have K2 := L2
  have KB := LB
  have KZ := LZ
  clear L0 L1 L2 LB LZ
  have R4 := T4
  clear T4
  have R5 := T5
  clear T5
  have x6 := (blk_cell K0.out 6 (x := vl) rfl).1
  go_wp2_with fail
  refine (toStringS_any vl r.lg w4 (HR.out.l.below KB.out) HZ.out.l).mono ?_
  rintro e w5 ⟨v6, rfl, hr, bn⟩
  obtain ⟨a6, c6, rfl⟩ := ownT_slice hr
  have R6 : Hid (OwnT (w5) (w.heap.size + 1 + 1 + 1) (.slice a6 r.lg.length c6) r.lg) := ownT_to hr (Abv.refl _ _) KZ.out
  have T4 : Hid (RowSA (w.heap.size + 1 + 1 + 1) w5 (.slice a4 r.ss.length c4) r.ss) := RowSA.keep R4.out (Abv.of bn)
  clear R4
  have R4 := T4
  clear T4
  have T5 : Hid (RowCA (w.heap.size + 1 + 1 + 1) w5 (.slice a5 r.cs.length c5) r.cs) := RowCA.keep R5.out (Abv.of bn)
  clear R5
  have R5 := T5
  clear T5
  have L0 : Hid (w5.heap[w.heap.size]? = some (.cells #[.int .i64 r.id, .int .i64 r.n, .int .i64 r.vw, .bool r.ac, vs, vc, vl, vh] 43 (0, 0))) := (bn.block _ (by have := KZ.out; omega)).trans K0.out
  have L1 : Hid (w5.heap[w.heap.size + 1]? = some (.cells #[.int .i64 0, .int .i64 0, .int .i64 0, .bool false, .slice none 0 0, .slice none 0 0, .slice none 0 0, .slice none 0 0] 48 (0, 0))) := (bn.block _ (by have := KZ.out; omega)).trans K1.out
  have L2 : Hid (w5.heap[w.heap.size + 1 + 1]? = some (.cells #[.int .i64 r.id, .int .i64 r.n, .int .i64 r.vw, .bool r.ac, .slice a4 r.ss.length c4, .slice a5 r.cs.length c5, .slice none 0 0, .slice none 0 0] 48 (0, 0))) := (bn.block _ (by have := KZ.out; omega)).trans K2.out
  have LB : Hid (Below w.heap.size w w5) := KB.out.trans (bn.mono KB.out.size)
  have LZ : Hid (w.heap.size + 1 + 1 + 1 ≤ w5.heap.size) := Nat.le_trans KZ.out bn.size
  clear hr bn K0 K1 K2 KB KZ x6
  have K0 := L0
  have K1 := L1
  have K2 := L2
  have KB := LB
  have KZ := LZ
  clear L0 L1 L2 LB LZ
  obtain ⟨s0, t0⟩ := blk_cell K2.out 6 (x := .slice none 0 0) rfl
  have L0 : Hid ((w5.setCell ⟨w.heap.size + 1 + 1, 6, none⟩ (.slice a6 r.lg.length c6)).heap[w.heap.size]? = some (.cells #[.int .i64 r.id, .int .i64 r.n, .int .i64 r.vw, .bool r.ac, vs, vc, vl, vh] 43 (0, 0))) := (blk_far (by omega) 6 (.slice a6 r.lg.length c6)).trans K0.out
  have L1 : Hid ((w5.setCell ⟨w.heap.size + 1 + 1, 6, none⟩ (.slice a6 r.lg.length c6)).heap[w.heap.size + 1]? = some (.cells #[.int .i64 0, .int .i64 0, .int .i64 0, .bool false, .slice none 0 0, .slice none 0 0, .slice none 0 0, .slice none 0 0] 48 (0, 0))) := (blk_far (by omega) 6 (.slice a6 r.lg.length c6)).trans K1.out
  have L2 : Hid ((w5.setCell ⟨w.heap.size + 1 + 1, 6, none⟩ (.slice a6 r.lg.length c6)).heap[w.heap.size + 1 + 1]? = some (.cells #[.int .i64 r.id, .int .i64 r.n, .int .i64 r.vw, .bool r.ac, .slice a4 r.ss.length c4, .slice a5 r.cs.length c5, .slice a6 r.lg.length c6, .slice none 0 0] 48 (0, 0))) := blk_set K2.out 6 (.slice a6 r.lg.length c6)
  have LB : Hid (Below w.heap.size w (w5.setCell ⟨w.heap.size + 1 + 1, 6, none⟩ (.slice a6 r.lg.length c6))) := Below.setCell KB.out (p := ⟨w.heap.size + 1 + 1, 6, none⟩) (by show _ ≤ w.heap.size + 1 + 1; omega) (.slice a6 r.lg.length c6)
  have LZ : Hid (w.heap.size + 1 + 1 + 1 ≤ (w5.setCell ⟨w.heap.size + 1 + 1, 6, none⟩ (.slice a6 r.lg.length c6)).heap.size) := by show _ ≤ _; have := KZ.out; simpa using this
  have T4 : Hid (RowSA (w.heap.size + 1 + 1 + 1) (w5.setCell ⟨w.heap.size + 1 + 1, 6, none⟩ (.slice a6 r.lg.length c6)) (.slice a4 r.ss.length c4) r.ss) := RowSA.keep R4.out ((Abv.refl _ _).set (by omega) _)
  have T5 : Hid (RowCA (w.heap.size + 1 + 1 + 1) (w5.setCell ⟨w.heap.size + 1 + 1, 6, none⟩ (.slice a6 r.lg.length c6)) (.slice a5 r.cs.length c5) r.cs) := RowCA.keep R5.out ((Abv.refl _ _).set (by omega) _)
  have T6 : Hid (OwnT ((w5.setCell ⟨w.heap.size + 1 + 1, 6, none⟩ (.slice a6 r.lg.length c6))) (w.heap.size + 1 + 1 + 1) (.slice a6 r.lg.length c6) r.lg) := ownT_keep R6.out ((Abv.refl _ _).set (by omega) _)
  clear K0 K1 K2 KB KZ R4 R5 R6
  go_upto_region 9 with fail
  generalize (w5.setCell ⟨w.heap.size + 1 + 1, 6, none⟩ (.slice a6 r.lg.length c6)) = w6 at L0 L1 L2 LB LZ T4 T5 T6 ⊢
  clear s0 t0
  have K0 := L0
  have K1 := L1
  have K2 := L2
  have KB := LB
  have KZ := LZ
  clear L0 L1 L2 LB LZ
  have R4 := T4
  clear T4
  have R5 := T5
  clear T5
  have R6 := T6
  clear T6
  have x7 := (blk_cell K0.out 7 (x := vh) rfl).1
  go_wp2_with fail
  refine (toM_any vh r.ch w6 (HR.out.h.below KB.out) HZ.out.h).mono ?_
  rintro e w7 ⟨v7, rfl, hr, bn⟩
  obtain ⟨a7, c7, rfl⟩ := RowG.slice hr
  have R7 : Hid (RowA (w.heap.size + 1 + 1 + 1) w7 (.slice a7 r.ch.length c7) r.ch) := RowA.to hr (Abv.refl _ _) KZ.out
  have T4 : Hid (RowSA (w.heap.size + 1 + 1 + 1) w7 (.slice a4 r.ss.length c4) r.ss) := RowSA.keep R4.out (Abv.of bn)
  clear R4
  have R4 := T4
  clear T4
  have T5 : Hid (RowCA (w.heap.size + 1 + 1 + 1) w7 (.slice a5 r.cs.length c5) r.cs) := RowCA.keep R5.out (Abv.of bn)
  clear R5
  have R5 := T5
  clear T5
  have T6 : Hid (OwnT (w7) (w.heap.size + 1 + 1 + 1) (.slice a6 r.lg.length c6) r.lg) := ownT_keep R6.out (Abv.of bn)
  clear R6
  have R6 := T6
  clear T6
  have L0 : Hid (w7.heap[w.heap.size]? = some (.cells #[.int .i64 r.id, .int .i64 r.n, .int .i64 r.vw, .bool r.ac, vs, vc, vl, vh] 43 (0, 0))) := (bn.block _ (by have := KZ.out; omega)).trans K0.out
  have L1 : Hid (w7.heap[w.heap.size + 1]? = some (.cells #[.int .i64 0, .int .i64 0, .int .i64 0, .bool false, .slice none 0 0, .slice none 0 0, .slice none 0 0, .slice none 0 0] 48 (0, 0))) := (bn.block _ (by have := KZ.out; omega)).trans K1.out
  have L2 : Hid (w7.heap[w.heap.size + 1 + 1]? = some (.cells #[.int .i64 r.id, .int .i64 r.n, .int .i64 r.vw, .bool r.ac, .slice a4 r.ss.length c4, .slice a5 r.cs.length c5, .slice a6 r.lg.length c6, .slice none 0 0] 48 (0, 0))) := (bn.block _ (by have := KZ.out; omega)).trans K2.out
  have LB : Hid (Below w.heap.size w w7) := KB.out.trans (bn.mono KB.out.size)
  have LZ : Hid (w.heap.size + 1 + 1 + 1 ≤ w7.heap.size) := Nat.le_trans KZ.out bn.size
  clear hr bn K0 K1 K2 KB KZ x7
  have K0 := L0
  have K1 := L1
  have K2 := L2
  have KB := LB
  have KZ := LZ
  clear L0 L1 L2 LB LZ
  obtain ⟨s0, t0⟩ := blk_cell K2.out 7 (x := .slice none 0 0) rfl
  have L0 : Hid ((w7.setCell ⟨w.heap.size + 1 + 1, 7, none⟩ (.slice a7 r.ch.length c7)).heap[w.heap.size]? = some (.cells #[.int .i64 r.id, .int .i64 r.n, .int .i64 r.vw, .bool r.ac, vs, vc, vl, vh] 43 (0, 0))) := (blk_far (by omega) 7 (.slice a7 r.ch.length c7)).trans K0.out
  have L1 : Hid ((w7.setCell ⟨w.heap.size + 1 + 1, 7, none⟩ (.slice a7 r.ch.length c7)).heap[w.heap.size + 1]? = some (.cells #[.int .i64 0, .int .i64 0, .int .i64 0, .bool false, .slice none 0 0, .slice none 0 0, .slice none 0 0, .slice none 0 0] 48 (0, 0))) := (blk_far (by omega) 7 (.slice a7 r.ch.length c7)).trans K1.out
  have L2 : Hid ((w7.setCell ⟨w.heap.size + 1 + 1, 7, none⟩ (.slice a7 r.ch.length c7)).heap[w.heap.size + 1 + 1]? = some (.cells #[.int .i64 r.id, .int .i64 r.n, .int .i64 r.vw, .bool r.ac, .slice a4 r.ss.length c4, .slice a5 r.cs.length c5, .slice a6 r.lg.length c6, .slice a7 r.ch.length c7] 48 (0, 0))) := blk_set K2.out 7 (.slice a7 r.ch.length c7)
  have LB : Hid (Below w.heap.size w (w7.setCell ⟨w.heap.size + 1 + 1, 7, none⟩ (.slice a7 r.ch.length c7))) := Below.setCell KB.out (p := ⟨w.heap.size + 1 + 1, 7, none⟩) (by show _ ≤ w.heap.size + 1 + 1; omega) (.slice a7 r.ch.length c7)
  have LZ : Hid (w.heap.size + 1 + 1 + 1 ≤ (w7.setCell ⟨w.heap.size + 1 + 1, 7, none⟩ (.slice a7 r.ch.length c7)).heap.size) := by show _ ≤ _; have := KZ.out; simpa using this
  have T4 : Hid (RowSA (w.heap.size + 1 + 1 + 1) (w7.setCell ⟨w.heap.size + 1 + 1, 7, none⟩ (.slice a7 r.ch.length c7)) (.slice a4 r.ss.length c4) r.ss) := RowSA.keep R4.out ((Abv.refl _ _).set (by omega) _)
  have T5 : Hid (RowCA (w.heap.size + 1 + 1 + 1) (w7.setCell ⟨w.heap.size + 1 + 1, 7, none⟩ (.slice a7 r.ch.length c7)) (.slice a5 r.cs.length c5) r.cs) := RowCA.keep R5.out ((Abv.refl _ _).set (by omega) _)
  have T6 : Hid (OwnT ((w7.setCell ⟨w.heap.size + 1 + 1, 7, none⟩ (.slice a7 r.ch.length c7))) (w.heap.size + 1 + 1 + 1) (.slice a6 r.lg.length c6) r.lg) := ownT_keep R6.out ((Abv.refl _ _).set (by omega) _)
  have T7 : Hid (RowA (w.heap.size + 1 + 1 + 1) (w7.setCell ⟨w.heap.size + 1 + 1, 7, none⟩ (.slice a7 r.ch.length c7)) (.slice a7 r.ch.length c7) r.ch) := RowA.keep R7.out ((Abv.refl _ _).set (by omega) _)
  clear K0 K1 K2 KB KZ R4 R5 R6 R7
  go_upto_region 10 with fail
  generalize (w7.setCell ⟨w.heap.size + 1 + 1, 7, none⟩ (.slice a7 r.ch.length c7)) = w8 at L0 L1 L2 LB LZ T4 T5 T6 T7 ⊢
  clear s0 t0
  have K0 := L0
  have K1 := L1
  have K2 := L2
  have KB := LB
  have KZ := LZ
  clear L0 L1 L2 LB LZ
  have R4 := T4
  clear T4
  have R5 := T5
  clear T5
  have R6 := T6
  clear T6
  have R7 := T7
  clear T7
  have p0 := (blk_cell K2.out 0 (x := .int .i64 r.id) rfl).1
  have p1 := (blk_cell K2.out 1 (x := .int .i64 r.n) rfl).1
  have p2 := (blk_cell K2.out 2 (x := .int .i64 r.vw) rfl).1
  have p3 := (blk_cell K2.out 3 (x := .bool r.ac) rfl).1
  have p4 := (blk_cell K2.out 4 (x := .slice a4 r.ss.length c4) rfl).1
  have p5 := (blk_cell K2.out 5 (x := .slice a5 r.cs.length c5) rfl).1
  have p6 := (blk_cell K2.out 6 (x := .slice a6 r.lg.length c6) rfl).1
  have p7 := (blk_cell K2.out 7 (x := .slice a7 r.ch.length c7) rfl).1
  obtain ⟨m0, n0⟩ := blk_cell K1.out 0 (x := .int .i64 0) rfl
  obtain ⟨m1, n1⟩ := blk_cell K1.out 1 (x := .int .i64 0) rfl
  obtain ⟨m2, n2⟩ := blk_cell K1.out 2 (x := .int .i64 0) rfl
  obtain ⟨m3, n3⟩ := blk_cell K1.out 3 (x := .bool false) rfl
  obtain ⟨m4, n4⟩ := blk_cell K1.out 4 (x := .slice none 0 0) rfl
  obtain ⟨m5, n5⟩ := blk_cell K1.out 5 (x := .slice none 0 0) rfl
  obtain ⟨m6, n6⟩ := blk_cell K1.out 6 (x := .slice none 0 0) rfl
  obtain ⟨m7, n7⟩ := blk_cell K1.out 7 (x := .slice none 0 0) rfl
  have AF : ((((((((w8.setCell ⟨w.heap.size + 1, 0, none⟩ (.int .i64 r.id)).setCell ⟨w.heap.size + 1, 1, none⟩ (.int .i64 r.n)).setCell ⟨w.heap.size + 1, 2, none⟩ (.int .i64 r.vw)).setCell ⟨w.heap.size + 1, 3, none⟩ (.bool r.ac)).setCell ⟨w.heap.size + 1, 4, none⟩ (.slice a4 r.ss.length c4)).setCell ⟨w.heap.size + 1, 5, none⟩ (.slice a5 r.cs.length c5)).setCell ⟨w.heap.size + 1, 6, none⟩ (.slice a6 r.lg.length c6)).setCell ⟨w.heap.size + 1, 7, none⟩ (.slice a7 r.ch.length c7)).heap[w.heap.size + 1]? = some (.cells #[.int .i64 r.id, .int .i64 r.n, .int .i64 r.vw, .bool r.ac, .slice a4 r.ss.length c4, .slice a5 r.cs.length c5, .slice a6 r.lg.length c6, .slice a7 r.ch.length c7] 48 (0, 0)) := (blk_set (blk_set (blk_set (blk_set (blk_set (blk_set (blk_set (blk_set K1.out 0 (.int .i64 r.id)) 1 (.int .i64 r.n)) 2 (.int .i64 r.vw)) 3 (.bool r.ac)) 4 (.slice a4 r.ss.length c4)) 5 (.slice a5 r.cs.length c5)) 6 (.slice a6 r.lg.length c6)) 7 (.slice a7 r.ch.length c7))
  have T4 : Hid (RowSA (w.heap.size + 1 + 1 + 1) ((((((((w8.setCell ⟨w.heap.size + 1, 0, none⟩ (.int .i64 r.id)).setCell ⟨w.heap.size + 1, 1, none⟩ (.int .i64 r.n)).setCell ⟨w.heap.size + 1, 2, none⟩ (.int .i64 r.vw)).setCell ⟨w.heap.size + 1, 3, none⟩ (.bool r.ac)).setCell ⟨w.heap.size + 1, 4, none⟩ (.slice a4 r.ss.length c4)).setCell ⟨w.heap.size + 1, 5, none⟩ (.slice a5 r.cs.length c5)).setCell ⟨w.heap.size + 1, 6, none⟩ (.slice a6 r.lg.length c6)).setCell ⟨w.heap.size + 1, 7, none⟩ (.slice a7 r.ch.length c7)) (.slice a4 r.ss.length c4) r.ss) := RowSA.keep R4.out (((((((((Abv.refl _ _).set (by omega) _).set (by omega) _).set (by omega) _).set (by omega) _).set (by omega) _).set (by omega) _).set (by omega) _).set (by omega) _)
  have T5 : Hid (RowCA (w.heap.size + 1 + 1 + 1) ((((((((w8.setCell ⟨w.heap.size + 1, 0, none⟩ (.int .i64 r.id)).setCell ⟨w.heap.size + 1, 1, none⟩ (.int .i64 r.n)).setCell ⟨w.heap.size + 1, 2, none⟩ (.int .i64 r.vw)).setCell ⟨w.heap.size + 1, 3, none⟩ (.bool r.ac)).setCell ⟨w.heap.size + 1, 4, none⟩ (.slice a4 r.ss.length c4)).setCell ⟨w.heap.size + 1, 5, none⟩ (.slice a5 r.cs.length c5)).setCell ⟨w.heap.size + 1, 6, none⟩ (.slice a6 r.lg.length c6)).setCell ⟨w.heap.size + 1, 7, none⟩ (.slice a7 r.ch.length c7)) (.slice a5 r.cs.length c5) r.cs) := RowCA.keep R5.out (((((((((Abv.refl _ _).set (by omega) _).set (by omega) _).set (by omega) _).set (by omega) _).set (by omega) _).set (by omega) _).set (by omega) _).set (by omega) _)
  have T6 : Hid (OwnT (((((((((w8.setCell ⟨w.heap.size + 1, 0, none⟩ (.int .i64 r.id)).setCell ⟨w.heap.size + 1, 1, none⟩ (.int .i64 r.n)).setCell ⟨w.heap.size + 1, 2, none⟩ (.int .i64 r.vw)).setCell ⟨w.heap.size + 1, 3, none⟩ (.bool r.ac)).setCell ⟨w.heap.size + 1, 4, none⟩ (.slice a4 r.ss.length c4)).setCell ⟨w.heap.size + 1, 5, none⟩ (.slice a5 r.cs.length c5)).setCell ⟨w.heap.size + 1, 6, none⟩ (.slice a6 r.lg.length c6)).setCell ⟨w.heap.size + 1, 7, none⟩ (.slice a7 r.ch.length c7))) (w.heap.size + 1 + 1 + 1) (.slice a6 r.lg.length c6) r.lg) := ownT_keep R6.out (((((((((Abv.refl _ _).set (by omega) _).set (by omega) _).set (by omega) _).set (by omega) _).set (by omega) _).set (by omega) _).set (by omega) _).set (by omega) _)
  have T7 : Hid (RowA (w.heap.size + 1 + 1 + 1) ((((((((w8.setCell ⟨w.heap.size + 1, 0, none⟩ (.int .i64 r.id)).setCell ⟨w.heap.size + 1, 1, none⟩ (.int .i64 r.n)).setCell ⟨w.heap.size + 1, 2, none⟩ (.int .i64 r.vw)).setCell ⟨w.heap.size + 1, 3, none⟩ (.bool r.ac)).setCell ⟨w.heap.size + 1, 4, none⟩ (.slice a4 r.ss.length c4)).setCell ⟨w.heap.size + 1, 5, none⟩ (.slice a5 r.cs.length c5)).setCell ⟨w.heap.size + 1, 6, none⟩ (.slice a6 r.lg.length c6)).setCell ⟨w.heap.size + 1, 7, none⟩ (.slice a7 r.ch.length c7)) (.slice a7 r.ch.length c7) r.ch) := RowA.keep R7.out (((((((((Abv.refl _ _).set (by omega) _).set (by omega) _).set (by omega) _).set (by omega) _).set (by omega) _).set (by omega) _).set (by omega) _).set (by omega) _)
  have GF : Hid (Below w.heap.size w ((((((((w8.setCell ⟨w.heap.size + 1, 0, none⟩ (.int .i64 r.id)).setCell ⟨w.heap.size + 1, 1, none⟩ (.int .i64 r.n)).setCell ⟨w.heap.size + 1, 2, none⟩ (.int .i64 r.vw)).setCell ⟨w.heap.size + 1, 3, none⟩ (.bool r.ac)).setCell ⟨w.heap.size + 1, 4, none⟩ (.slice a4 r.ss.length c4)).setCell ⟨w.heap.size + 1, 5, none⟩ (.slice a5 r.cs.length c5)).setCell ⟨w.heap.size + 1, 6, none⟩ (.slice a6 r.lg.length c6)).setCell ⟨w.heap.size + 1, 7, none⟩ (.slice a7 r.ch.length c7))) := (Below.setCell (Below.setCell (Below.setCell (Below.setCell (Below.setCell (Below.setCell (Below.setCell (Below.setCell KB.out (p := ⟨w.heap.size + 1, 0, none⟩) (by show _ ≤ w.heap.size + 1; omega) (.int .i64 r.id)) (p := ⟨w.heap.size + 1, 1, none⟩) (by show _ ≤ w.heap.size + 1; omega) (.int .i64 r.n)) (p := ⟨w.heap.size + 1, 2, none⟩) (by show _ ≤ w.heap.size + 1; omega) (.int .i64 r.vw)) (p := ⟨w.heap.size + 1, 3, none⟩) (by show _ ≤ w.heap.size + 1; omega) (.bool r.ac)) (p := ⟨w.heap.size + 1, 4, none⟩) (by show _ ≤ w.heap.size + 1; omega) (.slice a4 r.ss.length c4)) (p := ⟨w.heap.size + 1, 5, none⟩) (by show _ ≤ w.heap.size + 1; omega) (.slice a5 r.cs.length c5)) (p := ⟨w.heap.size + 1, 6, none⟩) (by show _ ≤ w.heap.size + 1; omega) (.slice a6 r.lg.length c6)) (p := ⟨w.heap.size + 1, 7, none⟩) (by show _ ≤ w.heap.size + 1; omega) (.slice a7 r.ch.length c7))
  clear K0 K1 K2 KB KZ R4 R5 R6 R7
  go_wp2_with fail
  generalize ((((((((w8.setCell ⟨w.heap.size + 1, 0, none⟩ (.int .i64 r.id)).setCell ⟨w.heap.size + 1, 1, none⟩ (.int .i64 r.n)).setCell ⟨w.heap.size + 1, 2, none⟩ (.int .i64 r.vw)).setCell ⟨w.heap.size + 1, 3, none⟩ (.bool r.ac)).setCell ⟨w.heap.size + 1, 4, none⟩ (.slice a4 r.ss.length c4)).setCell ⟨w.heap.size + 1, 5, none⟩ (.slice a5 r.cs.length c5)).setCell ⟨w.heap.size + 1, 6, none⟩ (.slice a6 r.lg.length c6)).setCell ⟨w.heap.size + 1, 7, none⟩ (.slice a7 r.ch.length c7)) = wf at AF GF T4 T5 T6 T7 ⊢
  have d0 := (blk_cell AF 0 (x := .int .i64 r.id) rfl).1
  have d1 := (blk_cell AF 1 (x := .int .i64 r.n) rfl).1
  have d2 := (blk_cell AF 2 (x := .int .i64 r.vw) rfl).1
  have d3 := (blk_cell AF 3 (x := .bool r.ac) rfl).1
  have d4 := (blk_cell AF 4 (x := .slice a4 r.ss.length c4) rfl).1
  have d5 := (blk_cell AF 5 (x := .slice a5 r.cs.length c5) rfl).1
  have d6 := (blk_cell AF 6 (x := .slice a6 r.lg.length c6) rfl).1
  have d7 := (blk_cell AF 7 (x := .slice a7 r.ch.length c7) rfl).1
  exact bodyPost_ret (v := repV r (.slice a4 r.ss.length c4) (.slice a5 r.cs.length c5) (.slice a6 r.lg.length c6) (.slice a7 r.ch.length c7)) (by simp [repV, results, Tryz.results13, go_sem, d0, d1, d2, d3, d4, d5, d6, d7]) rfl ⟨_, _, _, _, rfl, ⟨RowSA.to T4.out (Abv.refl _ _) (by omega), RowCA.to T5.out (Abv.refl _ _) (by omega), ownT_to T6.out (Abv.refl _ _) (by omega), RowA.to T7.out (Abv.refl _ _) (by omega)⟩, GF.out⟩
end Go.Proofs.YtkfiahemgdppfaaGreatDoor.Yr
