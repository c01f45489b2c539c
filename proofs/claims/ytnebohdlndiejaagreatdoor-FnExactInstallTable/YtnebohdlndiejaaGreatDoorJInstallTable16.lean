/- InstallTable, of the program and of the specification. -/
import Derived.Test.YtnebohdlndiejaaGreatDoorJInstallTable12
import Derived.Test.YtnebohdlndiejaaGreatDoorJInstallTable15
import Derived.Test.YtnebohdlndiejaaGreatDoorJInstallTable0
import Derived.Test.YtnebohdlndiejaaGreatDoorJInstallTable11
import Derived.Test.YtnebohdlndiejaaGreatDoorQc
import Derived.Deep.RegionHeld
import Derived.Deep.RegionHeld3
import Derived.Deep.RegionLaw
import Derived.Deep.Cut
namespace Go.Proofs.YtnebohdlndiejaaGreatDoor.Xl
open Go.RowKit Go.Proofs.YtnebohdlndiejaaGreatDoor.Sl Go.Proofs.YtnebohdlndiejaaGreatDoor.Er
open Go.Proofs.YtnebohdlndiejaaGreatDoor.Rg (blk_cell blk_set blk_far bel_new)
open Go.Proofs.YtnebohdlndiejaaGreatDoor.Sh (KTab KTab.below)
open Go.Proofs.YtnebohdlndiejaaGreatDoor.Tx (RowT RowT.below tnth)
open Go.Proofs.YtnebohdlndiejaaGreatDoor.Ho (cat catS bys_catS bytes_run)
open Go.Proofs.YtnebohdlndiejaaGreatDoor.Ap (bys)
open Go.Proofs.YtnebohdlndiejaaGreatDoor.Xp (itoa_small)
open Go.Proofs.YtnebohdlndiejaaGreatDoor.Pf (PcP pcB pcC pcB_yes pcB_no pcB_get pcC_ok pcC_get pcC_bad)
open Go.Proofs.YtnebohdlndiejaaGreatDoor.Ur (rtC rtT rtOK zTab Mem Mem.nil Mem.kept Mem.mono size_new implReadTable_any)
open Go.Proofs.YtnebohdlndiejaaGreatDoor.Tb (Tab tabV Sn)
open Go.Proofs.YtnebohdlndiejaaGreatDoor.Lo (LkA)
open Go.Proofs.YtnebohdlndiejaaGreatDoor.Xs (stB implStableOK_any)
open Go.Proofs.YtnebohdlndiejaaGreatDoor.Xv (vok vok_size)
open Go.Proofs.YtnebohdlndiejaaGreatDoor.Tm (fCode)
open Go.Proofs.YtnebohdlndiejaaGreatDoor.Gt (Vo)

open Go.Proofs.YtnebohdlndiejaaGreatDoor.Pw (ckC specCheckPiece_any)
open Go.Proofs.YtnebohdlndiejaaGreatDoor.Xp (okT chk l10Split_bad l10Split_ok l09Join_any)
open Go.Proofs.YtnebohdlndiejaaGreatDoor.Xs (l10Stable_any st_not q_len)
open Go.Proofs.YtnebohdlndiejaaGreatDoor.Xq (qvB vfs)
open Go.Proofs.YtnebohdlndiejaaGreatDoor.Qm (qOut)
open Go.Proofs.YtnebohdlndiejaaGreatDoor.By (OwnB)
open Go.Proofs.YtnebohdlndiejaaGreatDoor.Us (LrP l05Read_any)
open Go.Proofs.YtnebohdlndiejaaGreatDoor.Ur (tbO rt_bad rt_ok)

/-- What InstallTable answers, with its memory. -/
def ItP (n sq sz : Int) (rt : ByteArray) (vs : List Vo) (ps qs : List ByteArray) (w : World) (e : Ending) (w' : World) : Prop := ∃ u2 u3 ms, e = .returned (.tuple #[tabV (itT n sq sz rt vs ps qs).tm (itT n sq sz rt vs ps qs).nx u2 u3, .int .i64 (itC n sq sz rt vs ps qs)]) ∧ (ms.map (·.1) = (itT n sq sz rt vs ps qs).ls ∧ Mem w' w.heap.size u2 u3 ms (itT n sq sz rt vs ps qs).ss) ∧ Below w.heap.size w w'
set_option maxRecDepth 100000 in
set_option maxHeartbeats 3200000 in
theorem implInstallTable_any (n sq sz : Int) (rt : ByteArray) (vr : Value) (vs : List Vo) (up uq : Value) (ps qs : List ByteArray) (w : World) (A : Nat → Addr) (hV : Gt.Row w vr vs) (hvl : vs.length ≤ 1048576) (hP : RowT w up ps) (hpl : ps.length ≤ 1048576) (hQ : RowT w uq qs) (hql : qs.length ≤ 1048576) (hqz : ∀ t ∈ qs, t.size ≤ 1048576) (hSe : Sen w A) (hK : KTab w) (hp : 10 < w.heap.size) :
    Calls Tryz.prog 22 #[.int .i64 n, .agg #[.int .i64 sq, .int .i64 sz, .string rt, vr], up, uq] w fun e w' => ItP n sq sz rt vs ps qs w e w' := by
  have HVT : Hid (∀ W, Below w.heap.size w W → Calls Tryz.prog 52 #[.int .i64 n, .agg #[.int .i64 sq, .int .i64 sz, .string rt, vr], up, uq] W fun e w' => ∃ u2 u3 ms er, e = .returned (.tuple #[tabV (itT n sq sz rt vs ps qs).tm (itT n sq sz rt vs ps qs).nx u2 u3, er]) ∧ ((itC n sq sz rt vs ps qs = 0 ∧ er = .nilIface) ∨ (∃ s j, j < 8 ∧ er = fnd s (sen (A j)) ∧ fcode j = itC n sq sz rt vs ps qs) ∨ ∃ s r j, j < 8 ∧ er = fnd s (fnd r (sen (A j))) ∧ fcode j = itC n sq sz rt vs ps qs) ∧ (ms.map (·.1) = (itT n sq sz rt vs ps qs).ls ∧ Mem w' W.heap.size u2 u3 ms (itT n sq sz rt vs ps qs).ss) ∧ Below W.heap.size W w') := fun W hW => takenTable_any n sq sz rt vr vs up uq ps qs W A (hV.below hW) hvl (hP.below hW) hpl (hQ.below hW) hql hqz (hSe.below hW) (hK.below hW hp) (Nat.lt_of_lt_of_le hp hW.size)
  have HCO : Hid (∀ W er, Below w.heap.size w W → ((itC n sq sz rt vs ps qs = 0 ∧ er = .nilIface) ∨ (∃ s j, j < 8 ∧ er = fnd s (sen (A j)) ∧ fcode j = itC n sq sz rt vs ps qs) ∨ ∃ s r j, j < 8 ∧ er = fnd s (fnd r (sen (A j))) ∧ fcode j = itC n sq sz rt vs ps qs) → Calls Tryz.prog 36 #[er] W fun e w' => e = .returned (.int .i64 (itC n sq sz rt vs ps qs)) ∧ Below W.heap.size W w') := fun W er hW hh => by
    rcases hh with ⟨h1, rfl⟩ | ⟨s, j, hj, rfl, hc⟩ | ⟨s, r, j, hj, rfl, hc⟩
    · rw [h1]; exact codeOfFault_nil W
    · rw [← hc]; exact code1_any s j hj (hSe.below hW)
    · rw [← hc]; exact code2_any s r j hj (hSe.below hW)
  obtain ⟨va, vc, rfl⟩ := Rg.RowG.slice hV
  obtain ⟨pa, pc, rfl⟩ := row_slice hP
  obtain ⟨qa, qc, rfl⟩ := row_slice hQ
  have e2 : ((w.alloc (.cells #[.int .i64 sq, .int .i64 sz, .string rt, .slice va vs.length vc] 30)).alloc (.cells #[.int .i64 0, .int .i64 0, .slice none 0 0, .slice none 0 0] 36)).heap.size = w.heap.size + 1 + 1 := by rw [size_new, size_new]
  have HX0 : Hid (∀ W, Below ((w.alloc (.cells #[.int .i64 sq, .int .i64 sz, .string rt, .slice va vs.length vc] 30)).alloc (.cells #[.int .i64 0, .int .i64 0, .slice none 0 0, .slice none 0 0] 36)).heap.size ((w.alloc (.cells #[.int .i64 sq, .int .i64 sz, .string rt, .slice va vs.length vc] 30)).alloc (.cells #[.int .i64 0, .int .i64 0, .slice none 0 0, .slice none 0 0] 36)) W → (W.cell? ⟨w.heap.size, 0, none⟩ = some (.int .i64 sq) ∧ W.cell? ⟨w.heap.size, 1, none⟩ = some (.int .i64 sz) ∧ W.cell? ⟨w.heap.size, 2, none⟩ = some (.string rt) ∧ W.cell? ⟨w.heap.size, 3, none⟩ = some (.slice va vs.length vc))) := fun W hW => by
    have h0 : W.heap[w.heap.size]? = some (.cells #[.int .i64 sq, .int .i64 sz, .string rt, .slice va vs.length vc] 30) := by rw [hW.block _ (by omega), Below.heap_alloc _ _ _ (by rw [size_new]; omega)]; exact heap_alloc_new w _
    exact ⟨(blk_cell h0 0 rfl).1, (blk_cell h0 1 rfl).1, (blk_cell h0 2 rfl).1, (blk_cell h0 3 rfl).1⟩
  have HY0 : Hid (∀ W, Below ((w.alloc (.cells #[.int .i64 sq, .int .i64 sz, .string rt, .slice va vs.length vc] 30)).alloc (.cells #[.int .i64 0, .int .i64 0, .slice none 0 0, .slice none 0 0] 36)).heap.size ((w.alloc (.cells #[.int .i64 sq, .int .i64 sz, .string rt, .slice va vs.length vc] 30)).alloc (.cells #[.int .i64 0, .int .i64 0, .slice none 0 0, .slice none 0 0] 36)) W → W.heap[w.heap.size + 1]? = some (.cells #[.int .i64 0, .int .i64 0, .slice none 0 0, .slice none 0 0] 36) ∧ Below w.heap.size w W) := fun W hW => by
    have h1 : W.heap[w.heap.size + 1]? = some (.cells #[.int .i64 0, .int .i64 0, .slice none 0 0, .slice none 0 0] 36) := by rw [hW.block _ (by omega)]; have := heap_alloc_new (w.alloc (.cells #[.int .i64 sq, .int .i64 sz, .string rt, .slice va vs.length vc] 30)) (.cells #[.int .i64 0, .int .i64 0, .slice none 0 0, .slice none 0 0] 36); rwa [size_new] at this
    exact ⟨h1, (((Below.refl w.heap.size w).alloc (Nat.le_refl _) _).alloc (by rw [size_new]; omega) _).trans (hW.mono (by omega))⟩
  have HYL0 : Hid (w.heap.size ≤ w.heap.size + 1) := Nat.le_succ _
  clear hV hP hQ hqz hSe hK hp e2
  obtain ⟨c, HC⟩ : ∃ c, Hid (itC n sq sz rt vs ps qs = c) := ⟨_, rfl⟩
  obtain ⟨⟨tm, nx, ls, ss⟩, HT⟩ : ∃ t, Hid (itT n sq sz rt vs ps qs = t) := ⟨_, rfl⟩
  have HM : Hid (It n sq sz rt vs ps qs c ⟨tm, nx, ls, ss⟩) := ⟨HC.out, HT.out⟩
  rw [HT.out, HC.out] at HVT
  rw [HC.out] at HCO
  dsimp only at HVT
  clear HT HC
  go_enter Tryz.func22, Tryz.ntmps22
  go_upto_region 1 with fail
  generalize (w.alloc (.cells #[.int .i64 sq, .int .i64 sz, .string rt, .slice va vs.length vc] 30)).alloc (.cells #[.int .i64 0, .int .i64 0, .slice none 0 0, .slice none 0 0] 36) = wb at HX0 HY0 ⊢
  obtain ⟨y, HY⟩ : ∃ y, Hid (w.heap.size + 1 = y) := ⟨_, rfl⟩
  rw [HY.out] at HY0 HYL0 ⊢
  have HYL : Hid (w.heap.size ≤ y) := HYL0
  clear HYL0
  have G0 : Hid (Below w.heap.size w wb) := (HY0.out _ (Below.refl _ _)).2
  have HYB : Hid (y < wb.heap.size) := (Array.getElem?_eq_some_iff.1 (HY0.out wb (Below.refl _ _)).1).1
  have HWB : Hid (w.heap.size ≤ wb.heap.size) := G0.out.size
  obtain ⟨c0, c1, c2, c3⟩ := HX0.out _ (Below.refl _ _)
  go_wp2_with fail
  refine (HVT.out _ G0.out).mono ?_
  rintro e w1 ⟨u2, u3, ms, er, rfl, h1, ⟨hm, me⟩, b1⟩
  have HE : Hid ((c = 0 ∧ er = .nilIface) ∨ (∃ s j, j < 8 ∧ er = fnd s (sen (A j)) ∧ fcode j = c) ∨ ∃ s r j, j < 8 ∧ er = fnd s (fnd r (sen (A j))) ∧ fcode j = c) := h1
  obtain ⟨la, lc, rfl⟩ := me.ol.slice
  obtain ⟨sa, sc, rfl⟩ := me.os.slice
  have HMM : Hid (ms.map (·.1) = ls) := hm
  obtain ⟨ln, HLN2⟩ : ∃ ln, Hid (ms.length = ln) := ⟨_, rfl⟩
  obtain ⟨sn, HSN2⟩ : ∃ sn, Hid (ss.length = sn) := ⟨_, rfl⟩
  rw [HLN2.out, HSN2.out] at me ⊢
  have B1 : Hid (Below wb.heap.size wb w1 ∧ Mem w1 wb.heap.size (.slice la ln lc) (.slice sa sn sc) ms ss) := ⟨b1, me⟩
  unfold tabV
  clear h1 hm me b1 c0 c1 c2 c3 HVT HX0
  have HZZ : Hid (∀ W, Below (w1.alloc (.cells #[.int .i64 tm, .int .i64 nx, .slice la ln lc, .slice sa sn sc] 36)).heap.size (w1.alloc (.cells #[.int .i64 tm, .int .i64 nx, .slice la ln lc, .slice sa sn sc] 36)) W → (fun W => W.cell? ⟨w1.heap.size, 0, none⟩ = some (.int .i64 tm) ∧ W.cell? ⟨w1.heap.size, 1, none⟩ = some (.int .i64 nx) ∧ W.cell? ⟨w1.heap.size, 2, none⟩ = some (.slice la ln lc) ∧ W.cell? ⟨w1.heap.size, 3, none⟩ = some (.slice sa sn sc)) W ∧ Below wb.heap.size wb W ∧ Mem W wb.heap.size (.slice la ln lc) (.slice sa sn sc) ms ss) := fun W hW => by
    have h0 := (hW.block w1.heap.size (by simp)).trans (heap_alloc_new w1 _)
    have b := (bel_new w1 (.cells #[.int .i64 tm, .int .i64 nx, .slice la ln lc, .slice sa sn sc] 36)).trans (hW.mono (by simp))
    exact ⟨⟨(blk_cell h0 0 rfl).1, (blk_cell h0 1 rfl).1, (blk_cell h0 2 rfl).1, (blk_cell h0 3 rfl).1⟩, B1.out.1.trans (b.mono B1.out.1.size), B1.out.2.below b⟩
  go_upto_region 2 with fail
  generalize hzz : w1.alloc (.cells #[.int .i64 tm, .int .i64 nx, .slice la ln lc, .slice sa sn sc] 36) = wz at HZZ ⊢
  clear hzz
  have HZY : Hid (w1.heap.size ≠ y) := by show _ ≠ _; have := HYB.out; have := B1.out.1.size; omega
  generalize w1.heap.size = zb at HZZ HZY ⊢
  obtain ⟨S0, Bz, _⟩ := HZZ.out _ (Below.refl _ _)
  have HC2 : Hid (Calls Tryz.prog 36 #[er] wz.drew fun e w' => e = .returned (.int .i64 c) ∧ Below wz.heap.size wz w') := (HCO.out wz.drew er ((HY0.out _ Bz).2.drew) HE.out).mono fun e w' ⟨h1, h2⟩ => ⟨h1, ((Below.refl wz.heap.size wz).drew).trans h2⟩
  clear HCO HE B1
  refine wp_region_noPanic ?_
  refine wp_region_held_drew (S := (fun W => W.cell? ⟨zb, 0, none⟩ = some (.int .i64 tm) ∧ W.cell? ⟨zb, 1, none⟩ = some (.int .i64 nx) ∧ W.cell? ⟨zb, 2, none⟩ = some (.slice la ln lc) ∧ W.cell? ⟨zb, 3, none⟩ = some (.slice sa sn sc))) (by kernel_rfl) S0 (fun hHeld => ?_)
  refine wpAnyH_take (i := 0) (oi := { dst := some 20, op := Go.Op.load 36 (Go.Operand.tmp 10), type := 36, pos := "l10_checkpoint.go:209", after := #[], guard := none }) (v := ?v1) rfl (by kernel_rfl) (by kernel_rfl) (by kernel_rfl) (fun _ _ _ h => h) (Or.inl ⟨by rfl, ?h1⟩) hHeld ?r1
  case h1 => intro wz hz; (try dsimp only at hz); go_simp; try (with_reducible rfl)
  simp only [Act.put, List.setIfInBounds_toArray, List.set_cons_zero, List.set_cons_succ]
  refine wpAnyH_take (i := 1) (oi := { dst := some 21, op := Go.Op.move (Go.Operand.tmp 11), type := 68, pos := "l10_checkpoint.go:209", after := #[], guard := none }) (v := ?v2) rfl (by kernel_rfl) (by kernel_rfl) (by kernel_rfl) (fun _ _ _ h => h) (Or.inl ⟨by rfl, ?h2⟩) hHeld ?r2
  case h2 => intro wz hz; (try dsimp only at hz); go_simp; try (with_reducible rfl)
  simp only [Act.put, List.setIfInBounds_toArray, List.set_cons_zero, List.set_cons_succ]
  refine wpAnyH_ready (rs := [2]) (by kernel_rfl) (by simp) ?_
  refine AllReadyH.cons (o := { dst := some 22, op := Go.Op.call { callee := Go.Callee.value (Go.Operand.func 36), args := #[Go.Operand.tmp 21], argTypes := #[68] }, type := 3, pos := "l10_checkpoint.go:209", after := #[{ on := 1, ground := Go.Ground.data }], guard := none }) rfl (fun K hK => ?_) AllReadyH.nil
  go_simp
  go_at_call 36
  refine HC2.out.mono ?_
  rintro e w7 ⟨rfl, b7⟩
  obtain ⟨S3, B3, o3⟩ := HZZ.out _ b7
  try go_simp
  refine hK.out _ _ ?_ (fun hHeld => ?_)
  · exact S3
  clear hK K
  (try simp only [Act.put, List.setIfInBounds_toArray, List.set_cons_zero, List.set_cons_succ])
  obtain ⟨k9, g9⟩ := HY0.out _ (B3)
  obtain ⟨m0, n0⟩ := blk_cell k9 0 (x := .int .i64 0) rfl
  obtain ⟨m1, n1⟩ := blk_cell k9 1 (x := .int .i64 0) rfl
  obtain ⟨m2, n2⟩ := blk_cell k9 2 (x := .slice none 0 0) rfl
  obtain ⟨m3, n3⟩ := blk_cell k9 3 (x := .slice none 0 0) rfl
  have AF : ((((w7.setCell ⟨y, 0, none⟩ (.int .i64 tm)).setCell ⟨y, 1, none⟩ (.int .i64 nx)).setCell ⟨y, 2, none⟩ (.slice la ln lc)).setCell ⟨y, 3, none⟩ (.slice sa sn sc)).heap[y]? = some (.cells #[.int .i64 tm, .int .i64 nx, .slice la ln lc, .slice sa sn sc] 36 (0, 0)) := (blk_set (blk_set (blk_set (blk_set k9 0 (.int .i64 tm)) 1 (.int .i64 nx)) 2 (.slice la ln lc)) 3 (.slice sa sn sc))
  have RF : Hid (Below w.heap.size w ((((w7.setCell ⟨y, 0, none⟩ (.int .i64 tm)).setCell ⟨y, 1, none⟩ (.int .i64 nx)).setCell ⟨y, 2, none⟩ (.slice la ln lc)).setCell ⟨y, 3, none⟩ (.slice sa sn sc)) ∧ Mem ((((w7.setCell ⟨y, 0, none⟩ (.int .i64 tm)).setCell ⟨y, 1, none⟩ (.int .i64 nx)).setCell ⟨y, 2, none⟩ (.slice la ln lc)).setCell ⟨y, 3, none⟩ (.slice sa sn sc)) w.heap.size (.slice la ln lc) (.slice sa sn sc) ms ss) := ⟨(Below.setCell (Below.setCell (Below.setCell (Below.setCell g9 (p := ⟨y, 0, none⟩) (HYL.out) (.int .i64 tm)) (p := ⟨y, 1, none⟩) (HYL.out) (.int .i64 nx)) (p := ⟨y, 2, none⟩) (HYL.out) (.slice la ln lc)) (p := ⟨y, 3, none⟩) (HYL.out) (.slice sa sn sc)), (Mem.kept o3 (fun g hg _ => ((blk_far (by have := HYB.out; omega) 3 (.slice sa sn sc)).trans ((blk_far (by have := HYB.out; omega) 2 (.slice la ln lc)).trans ((blk_far (by have := HYB.out; omega) 1 (.int .i64 nx)).trans ((blk_far (by have := HYB.out; omega) 0 (.int .i64 tm)).trans (Eq.refl w7.heap[g]?))))))).mono (HWB.out)⟩
  clear g9 k9
  have S9 : Hid ((fun W => W.cell? ⟨zb, 0, none⟩ = some (.int .i64 tm) ∧ W.cell? ⟨zb, 1, none⟩ = some (.int .i64 nx) ∧ W.cell? ⟨zb, 2, none⟩ = some (.slice la ln lc) ∧ W.cell? ⟨zb, 3, none⟩ = some (.slice sa sn sc)) ((((w7.setCell ⟨y, 0, none⟩ (.int .i64 tm)).setCell ⟨y, 1, none⟩ (.int .i64 nx)).setCell ⟨y, 2, none⟩ (.slice la ln lc)).setCell ⟨y, 3, none⟩ (.slice sa sn sc))) := ⟨((World.cell?_of_block (a := ⟨zb, 0, none⟩) (blk_far HZY.out 3 (.slice sa sn sc))).trans ((World.cell?_of_block (a := ⟨zb, 0, none⟩) (blk_far HZY.out 2 (.slice la ln lc))).trans ((World.cell?_of_block (a := ⟨zb, 0, none⟩) (blk_far HZY.out 1 (.int .i64 nx))).trans ((World.cell?_of_block (a := ⟨zb, 0, none⟩) (blk_far HZY.out 0 (.int .i64 tm))).trans S3.1)))), ((World.cell?_of_block (a := ⟨zb, 1, none⟩) (blk_far HZY.out 3 (.slice sa sn sc))).trans ((World.cell?_of_block (a := ⟨zb, 1, none⟩) (blk_far HZY.out 2 (.slice la ln lc))).trans ((World.cell?_of_block (a := ⟨zb, 1, none⟩) (blk_far HZY.out 1 (.int .i64 nx))).trans ((World.cell?_of_block (a := ⟨zb, 1, none⟩) (blk_far HZY.out 0 (.int .i64 tm))).trans S3.2.1)))), ((World.cell?_of_block (a := ⟨zb, 2, none⟩) (blk_far HZY.out 3 (.slice sa sn sc))).trans ((World.cell?_of_block (a := ⟨zb, 2, none⟩) (blk_far HZY.out 2 (.slice la ln lc))).trans ((World.cell?_of_block (a := ⟨zb, 2, none⟩) (blk_far HZY.out 1 (.int .i64 nx))).trans ((World.cell?_of_block (a := ⟨zb, 2, none⟩) (blk_far HZY.out 0 (.int .i64 tm))).trans S3.2.2.1)))), ((World.cell?_of_block (a := ⟨zb, 3, none⟩) (blk_far HZY.out 3 (.slice sa sn sc))).trans ((World.cell?_of_block (a := ⟨zb, 3, none⟩) (blk_far HZY.out 2 (.slice la ln lc))).trans ((World.cell?_of_block (a := ⟨zb, 3, none⟩) (blk_far HZY.out 1 (.int .i64 nx))).trans ((World.cell?_of_block (a := ⟨zb, 3, none⟩) (blk_far HZY.out 0 (.int .i64 tm))).trans S3.2.2.2))))⟩
  refine wpAnyH_ready (rs := [3]) (by kernel_rfl) (by simp) ?_
  refine AllReadyH.cons (o := { dst := none, op := Go.Op.store 36 (Go.Operand.tmp 8) (Go.Operand.tmp 20), type := 0, pos := "l10_checkpoint.go:209", after := #[{ on := 0, ground := Go.Ground.data }, { on := 2, ground := Go.Ground.chain }, { on := 0, ground := Go.Ground.phase }, { on := 1, ground := Go.Ground.textOnly Go.Departure.lateStores }, { on := 2, ground := Go.Ground.textOnly Go.Departure.lateStoresUnsure }], guard := none }) rfl (fun K hK => ?_) AllReadyH.nil
  go_simp
  refine hK.out _ _ ?_ (fun hHeld => ?_)
  · exact S9.out
  clear hK K
  (try simp only [Act.put, List.setIfInBounds_toArray, List.set_cons_zero, List.set_cons_succ])
  refine wpAnyH_take (i := 4) (oi := { dst := some 9, op := Go.Op.assign (Go.Operand.tmp 22), type := 3, pos := "l10_checkpoint.go:209", after := #[{ on := 2, ground := Go.Ground.data }, { on := 3, ground := Go.Ground.chain }, { on := 0, ground := Go.Ground.phase }, { on := 1, ground := Go.Ground.phase }, { on := 2, ground := Go.Ground.phase }, { on := 3, ground := Go.Ground.phase }], guard := none }) (v := ?v3) rfl (by kernel_rfl) (by kernel_rfl) (by kernel_rfl) (fun _ _ _ h => h) (Or.inl ⟨by rfl, ?h3⟩) hHeld ?r3
  case h3 => intro wz hz; (try dsimp only at hz); go_simp; try (with_reducible rfl)
  simp only [Act.put, List.setIfInBounds_toArray, List.set_cons_zero, List.set_cons_succ]
  refine wpAnyH_done (by kernel_rfl) ?_ _
  refine NoPanic.normal ?_
  clear S9 S3 S0 hHeld
  go_wp2_with fail
  generalize ((((w7.setCell ⟨y, 0, none⟩ (.int .i64 tm)).setCell ⟨y, 1, none⟩ (.int .i64 nx)).setCell ⟨y, 2, none⟩ (.slice la ln lc)).setCell ⟨y, 3, none⟩ (.slice sa sn sc)) = wf at AF RF ⊢
  have d0 := (blk_cell AF 0 (x := .int .i64 tm) rfl).1
  have d1 := (blk_cell AF 1 (x := .int .i64 nx) rfl).1
  have d2 := (blk_cell AF 2 (x := .slice la ln lc) rfl).1
  have d3 := (blk_cell AF 3 (x := .slice sa sn sc) rfl).1
  refine bodyPost_ret (v := .tuple #[.agg #[.int .i64 tm, .int .i64 nx, .slice la ln lc, .slice sa sn sc], .int .i64 c]) (by simp [results, Tryz.results22, go_sem, d0, d1, d2, d3]) rfl ?_
  unfold ItP
  rw [HM.out.c, HM.out.t]
  exact ⟨_, _, ms, rfl, ⟨HMM.out, RF.out.2⟩, RF.out.1⟩
theorem bys_str (xs : List Int) (h : ∀ x ∈ xs, 0 ≤ x ∧ x ≤ 255) : bys (strOfNums xs) = xs := by
  unfold bys
  rw [strOfNums_data, List.map_map]
  apply List.ext_getElem?
  intro i
  rw [List.getElem?_map]
  cases hx : xs[i]? with
  | none => rfl
  | some x =>
    have := h x (List.mem_of_getElem? hx)
    simp only [Option.map_some, Function.comp_apply]
    congr 1
    rw [UInt8.toNat_ofNat_of_lt' (by unfold UInt8.size; omega)]
    omega
theorem st_long {n sq sz : Int} {rt : ByteArray} {vs : List Vo} (h : 4096 < vs.length) : stB n sq sz rt vs = false := st_not fun hq => by
  have h1 := q_len hq
  have h2 : qOut n ≤ 5 := by unfold qOut; repeat' split
                             all_goals decide
  omega
theorem ok_no1 {q : ByteArray} (h : ¬ q.size % 32 = 0) {rt piece : ByteArray} {i n : Int} : pfC rt piece i n q = 10 := by
  unfold pfC
  rw [if_neg]
  unfold okT
  rw [decide_eq_true_eq]
  exact fun hh => h hh.1
theorem ok_no2 {q : ByteArray} (h : 20 < (chk q).length) {rt piece : ByteArray} {i n : Int} : pfC rt piece i n q = 10 := by
  rw [chk_len] at h
  unfold pfC
  rw [if_neg]
  unfold okT
  rw [decide_eq_true_eq]
  omega
theorem ok_yes {q : ByteArray} (h : q.size % 32 = 0) (h2 : ¬ 20 < (chk q).length) {rt piece : ByteArray} {i n : Int} : pfC rt piece i n q = ckC rt piece i n (chk q) := by
  rw [chk_len] at h2
  unfold pfC
  rw [if_pos]
  unfold okT
  rw [decide_eq_true_eq]
  omega
set_option maxRecDepth 100000 in
set_option maxHeartbeats 3200000 in
theorem specInstallTable_any (n sq sz : Int) (rt : ByteArray) (vr : Value) (vs : List Vo) (up uq : Value) (ps qs : List ByteArray) (w : World) (hV : Gt.Row w vr vs) (hvl : vs.length ≤ 1048576) (hP : RowT w up ps) (hpl : ps.length ≤ 1048576) (hQ : RowT w uq qs) (hql : qs.length ≤ 1048576) (hqz : ∀ t ∈ qs, t.size ≤ 1048576) :
    Calls Tryz.prog 19 #[.int .i64 n, .agg #[.int .i64 sq, .int .i64 sz, .string rt, vr], up, uq] w fun e w' => ItP n sq sz rt vs ps qs w e w' := by
  have HSB : Hid (∀ W, Below w.heap.size w W → fCode n = 0 → Calls Tryz.prog 45 #[.int .i64 n, .agg #[.int .i64 sq, .int .i64 sz, .string rt, vr]] W fun e w' => e = .returned (.bool (stB n sq sz rt vs)) ∧ Below W.heap.size W w') := fun W hW hn => l10Stable_any n sq sz rt _ vs W (hV.below hW) hvl hn
  have HPF : Hid (∀ W, Below w.heap.size w W → Calls Tryz.prog 46 #[up] W fun e w' => e = .returned (.bool (pcB ps)) ∧ W = w') := fun W hW => Pf.l09OK_any _ ps W (hP.below hW) (by unfold maxLen; omega)
  obtain ⟨va, vc, rfl⟩ := Rg.RowG.slice hV
  obtain ⟨pa, pc, rfl⟩ := row_slice hP
  obtain ⟨qa, qc, rfl⟩ := row_slice hQ
  have e2 : ((w.alloc (.cells #[.int .i64 sq, .int .i64 sz, .string rt, .slice va vs.length vc] 30)).alloc (.cells #[.int .i64 0, .int .i64 0, .slice none 0 0, .slice none 0 0] 36)).heap.size = w.heap.size + 1 + 1 := by rw [size_new, size_new]
  have HX0 : Hid (∀ W, Below ((w.alloc (.cells #[.int .i64 sq, .int .i64 sz, .string rt, .slice va vs.length vc] 30)).alloc (.cells #[.int .i64 0, .int .i64 0, .slice none 0 0, .slice none 0 0] 36)).heap.size ((w.alloc (.cells #[.int .i64 sq, .int .i64 sz, .string rt, .slice va vs.length vc] 30)).alloc (.cells #[.int .i64 0, .int .i64 0, .slice none 0 0, .slice none 0 0] 36)) W → (W.cell? ⟨w.heap.size, 0, none⟩ = some (.int .i64 sq) ∧ W.cell? ⟨w.heap.size, 1, none⟩ = some (.int .i64 sz) ∧ W.cell? ⟨w.heap.size, 2, none⟩ = some (.string rt) ∧ W.cell? ⟨w.heap.size, 3, none⟩ = some (.slice va vs.length vc))) := fun W hW => by
    have h0 : W.heap[w.heap.size]? = some (.cells #[.int .i64 sq, .int .i64 sz, .string rt, .slice va vs.length vc] 30) := by rw [hW.block _ (by omega), Below.heap_alloc _ _ _ (by rw [size_new]; omega)]; exact heap_alloc_new w _
    exact ⟨(blk_cell h0 0 rfl).1, (blk_cell h0 1 rfl).1, (blk_cell h0 2 rfl).1, (blk_cell h0 3 rfl).1⟩
  have HY0 : Hid (∀ W, Below ((w.alloc (.cells #[.int .i64 sq, .int .i64 sz, .string rt, .slice va vs.length vc] 30)).alloc (.cells #[.int .i64 0, .int .i64 0, .slice none 0 0, .slice none 0 0] 36)).heap.size ((w.alloc (.cells #[.int .i64 sq, .int .i64 sz, .string rt, .slice va vs.length vc] 30)).alloc (.cells #[.int .i64 0, .int .i64 0, .slice none 0 0, .slice none 0 0] 36)) W → W.heap[w.heap.size + 1]? = some (.cells #[.int .i64 0, .int .i64 0, .slice none 0 0, .slice none 0 0] 36) ∧ Below w.heap.size w W) := fun W hW => by
    have h1 : W.heap[w.heap.size + 1]? = some (.cells #[.int .i64 0, .int .i64 0, .slice none 0 0, .slice none 0 0] 36) := by rw [hW.block _ (by omega)]; have := heap_alloc_new (w.alloc (.cells #[.int .i64 sq, .int .i64 sz, .string rt, .slice va vs.length vc] 30)) (.cells #[.int .i64 0, .int .i64 0, .slice none 0 0, .slice none 0 0] 36); rwa [size_new] at this
    exact ⟨h1, (((Below.refl w.heap.size w).alloc (Nat.le_refl _) _).alloc (by rw [size_new]; omega) _).trans (hW.mono (by omega))⟩
  have HYL0 : Hid (w.heap.size ≤ w.heap.size + 1) := Nat.le_succ _
  have HRW : Hid (∀ W, Below w.heap.size w W → RowT W (.slice pa ps.length pc) ps ∧ RowT W (.slice qa qs.length qc) qs) := fun W hW => ⟨hP.below hW, hQ.below hW⟩
  have HQZ : Hid (∀ k, k < qs.length → (tnth qs k).size ≤ 1048576) := fun k hk => hqz _ (Tx.tnth_mem hk)
  have hMS : itC n sq sz rt vs ps qs = if 4096 < ps.length ∨ 4096 < qs.length then 2 else if fCode n = 0 then (if stB n sq sz rt vs = true then (if pcB ps = true ∧ (ps.length : Int) = sz ∧ (qs.length : Int) = sz then (if fbC rt sz ps qs ps.length = 0 then rtC (cat ps) else fbC rt sz ps qs ps.length) else 1) else 12) else 4 := rfl
  clear hV hP hQ hqz e2
  go_enter Tryz.func19, Tryz.ntmps19
  go_upto_region 1 with fail
  generalize (w.alloc (.cells #[.int .i64 sq, .int .i64 sz, .string rt, .slice va vs.length vc] 30)).alloc (.cells #[.int .i64 0, .int .i64 0, .slice none 0 0, .slice none 0 0] 36) = wb at HX0 HY0 ⊢
  obtain ⟨y, HY⟩ : ∃ y, Hid (w.heap.size + 1 = y) := ⟨_, rfl⟩
  rw [HY.out] at HY0 HYL0 ⊢
  have HYL : Hid (w.heap.size ≤ y) := HYL0
  clear HYL0
  have G0 : Hid (Below w.heap.size w wb) := (HY0.out _ (Below.refl _ _)).2
  have HYB : Hid (y < wb.heap.size) := (Array.getElem?_eq_some_iff.1 (HY0.out wb (Below.refl _ _)).1).1
  have HWB : Hid (w.heap.size ≤ wb.heap.size) := G0.out.size
  by_cases h1 : 4096 < ps.length
  · have h1' : (4096 : Int) < (ps.length : Int) := by omega
    rw [if_pos (.inl h1)] at hMS
    have HM : Hid (It n sq sz rt vs ps qs 2 zTab) := it_no hMS (by decide)
    clear hMS h1 HSB HPF HRW HQZ
    obtain ⟨k9, g9⟩ := HY0.out _ (Below.refl _ _)
    obtain ⟨m0, n0⟩ := blk_cell k9 0 (x := .int .i64 0) rfl
    obtain ⟨m1, n1⟩ := blk_cell k9 1 (x := .int .i64 0) rfl
    obtain ⟨m2, n2⟩ := blk_cell k9 2 (x := .slice none 0 0) rfl
    obtain ⟨m3, n3⟩ := blk_cell k9 3 (x := .slice none 0 0) rfl
    have AF : ((((wb.setCell ⟨y, 0, none⟩ (.int .i64 0)).setCell ⟨y, 1, none⟩ (.int .i64 0)).setCell ⟨y, 2, none⟩ (.slice none 0 0)).setCell ⟨y, 3, none⟩ (.slice none 0 0)).heap[y]? = some (.cells #[.int .i64 0, .int .i64 0, .slice none 0 0, .slice none 0 0] 36 (0, 0)) := (blk_set (blk_set (blk_set (blk_set k9 0 (.int .i64 0)) 1 (.int .i64 0)) 2 (.slice none 0 0)) 3 (.slice none 0 0))
    have RF : Hid (Below w.heap.size w ((((wb.setCell ⟨y, 0, none⟩ (.int .i64 0)).setCell ⟨y, 1, none⟩ (.int .i64 0)).setCell ⟨y, 2, none⟩ (.slice none 0 0)).setCell ⟨y, 3, none⟩ (.slice none 0 0))) := (Below.setCell (Below.setCell (Below.setCell (Below.setCell g9 (p := ⟨y, 0, none⟩) (HYL.out) (.int .i64 0)) (p := ⟨y, 1, none⟩) (HYL.out) (.int .i64 0)) (p := ⟨y, 2, none⟩) (HYL.out) (.slice none 0 0)) (p := ⟨y, 3, none⟩) (HYL.out) (.slice none 0 0))
    clear g9 k9
    go_wp2_with fail
    generalize ((((wb.setCell ⟨y, 0, none⟩ (.int .i64 0)).setCell ⟨y, 1, none⟩ (.int .i64 0)).setCell ⟨y, 2, none⟩ (.slice none 0 0)).setCell ⟨y, 3, none⟩ (.slice none 0 0)) = wf at AF RF ⊢
    have d0 := (blk_cell AF 0 (x := .int .i64 0) rfl).1
    have d1 := (blk_cell AF 1 (x := .int .i64 0) rfl).1
    have d2 := (blk_cell AF 2 (x := .slice none 0 0) rfl).1
    have d3 := (blk_cell AF 3 (x := .slice none 0 0) rfl).1
    refine bodyPost_ret (v := .tuple #[.agg #[.int .i64 0, .int .i64 0, .slice none 0 0, .slice none 0 0], .int .i64 (2)]) (by simp [results, Tryz.results19, go_sem, d0, d1, d2, d3]) rfl ?_
    unfold ItP
    rw [HM.out.c, HM.out.t]
    exact ⟨_, _, [], rfl, ⟨rfl, Mem.nil _ _⟩, RF.out⟩
  have h1' : ¬ (4096 : Int) < (ps.length : Int) := by omega
  by_cases h2 : 4096 < qs.length
  · have h2' : (4096 : Int) < (qs.length : Int) := by omega
    rw [if_pos (.inr h2)] at hMS
    have HM : Hid (It n sq sz rt vs ps qs 2 zTab) := it_no hMS (by decide)
    clear hMS h1 h2 HSB HPF HRW HQZ
    obtain ⟨k9, g9⟩ := HY0.out _ (Below.refl _ _)
    obtain ⟨m0, n0⟩ := blk_cell k9 0 (x := .int .i64 0) rfl
    obtain ⟨m1, n1⟩ := blk_cell k9 1 (x := .int .i64 0) rfl
    obtain ⟨m2, n2⟩ := blk_cell k9 2 (x := .slice none 0 0) rfl
    obtain ⟨m3, n3⟩ := blk_cell k9 3 (x := .slice none 0 0) rfl
    have AF : ((((wb.setCell ⟨y, 0, none⟩ (.int .i64 0)).setCell ⟨y, 1, none⟩ (.int .i64 0)).setCell ⟨y, 2, none⟩ (.slice none 0 0)).setCell ⟨y, 3, none⟩ (.slice none 0 0)).heap[y]? = some (.cells #[.int .i64 0, .int .i64 0, .slice none 0 0, .slice none 0 0] 36 (0, 0)) := (blk_set (blk_set (blk_set (blk_set k9 0 (.int .i64 0)) 1 (.int .i64 0)) 2 (.slice none 0 0)) 3 (.slice none 0 0))
    have RF : Hid (Below w.heap.size w ((((wb.setCell ⟨y, 0, none⟩ (.int .i64 0)).setCell ⟨y, 1, none⟩ (.int .i64 0)).setCell ⟨y, 2, none⟩ (.slice none 0 0)).setCell ⟨y, 3, none⟩ (.slice none 0 0))) := (Below.setCell (Below.setCell (Below.setCell (Below.setCell g9 (p := ⟨y, 0, none⟩) (HYL.out) (.int .i64 0)) (p := ⟨y, 1, none⟩) (HYL.out) (.int .i64 0)) (p := ⟨y, 2, none⟩) (HYL.out) (.slice none 0 0)) (p := ⟨y, 3, none⟩) (HYL.out) (.slice none 0 0))
    clear g9 k9
    go_wp2_with fail
    generalize ((((wb.setCell ⟨y, 0, none⟩ (.int .i64 0)).setCell ⟨y, 1, none⟩ (.int .i64 0)).setCell ⟨y, 2, none⟩ (.slice none 0 0)).setCell ⟨y, 3, none⟩ (.slice none 0 0)) = wf at AF RF ⊢
    have d0 := (blk_cell AF 0 (x := .int .i64 0) rfl).1
    have d1 := (blk_cell AF 1 (x := .int .i64 0) rfl).1
    have d2 := (blk_cell AF 2 (x := .slice none 0 0) rfl).1
    have d3 := (blk_cell AF 3 (x := .slice none 0 0) rfl).1
    refine bodyPost_ret (v := .tuple #[.agg #[.int .i64 0, .int .i64 0, .slice none 0 0, .slice none 0 0], .int .i64 (2)]) (by simp [results, Tryz.results19, go_sem, d0, d1, d2, d3]) rfl ?_
    unfold ItP
    rw [HM.out.c, HM.out.t]
    exact ⟨_, _, [], rfl, ⟨rfl, Mem.nil _ _⟩, RF.out⟩
  have h2' : ¬ (4096 : Int) < (qs.length : Int) := by omega
  rw [if_neg (by omega)] at hMS
  have HNO := Qm.l04Nodes_any n wb
  by_cases hn : fCode n = 0
  case neg =>
    rw [if_neg hn] at hMS
    have HM : Hid (It n sq sz rt vs ps qs 4 zTab) := it_no hMS (by decide)
    rw [decide_eq_false hn] at HNO
    clear hMS hn HSB HPF HRW HQZ
    go_wp2_with fail
    refine HNO.mono ?_
    rintro e w2 ⟨rfl, rfl⟩
    obtain ⟨k9, g9⟩ := HY0.out _ (Below.refl _ _)
    obtain ⟨m0, n0⟩ := blk_cell k9 0 (x := .int .i64 0) rfl
    obtain ⟨m1, n1⟩ := blk_cell k9 1 (x := .int .i64 0) rfl
    obtain ⟨m2, n2⟩ := blk_cell k9 2 (x := .slice none 0 0) rfl
    obtain ⟨m3, n3⟩ := blk_cell k9 3 (x := .slice none 0 0) rfl
    have AF : ((((wb.setCell ⟨y, 0, none⟩ (.int .i64 0)).setCell ⟨y, 1, none⟩ (.int .i64 0)).setCell ⟨y, 2, none⟩ (.slice none 0 0)).setCell ⟨y, 3, none⟩ (.slice none 0 0)).heap[y]? = some (.cells #[.int .i64 0, .int .i64 0, .slice none 0 0, .slice none 0 0] 36 (0, 0)) := (blk_set (blk_set (blk_set (blk_set k9 0 (.int .i64 0)) 1 (.int .i64 0)) 2 (.slice none 0 0)) 3 (.slice none 0 0))
    have RF : Hid (Below w.heap.size w ((((wb.setCell ⟨y, 0, none⟩ (.int .i64 0)).setCell ⟨y, 1, none⟩ (.int .i64 0)).setCell ⟨y, 2, none⟩ (.slice none 0 0)).setCell ⟨y, 3, none⟩ (.slice none 0 0))) := (Below.setCell (Below.setCell (Below.setCell (Below.setCell g9 (p := ⟨y, 0, none⟩) (HYL.out) (.int .i64 0)) (p := ⟨y, 1, none⟩) (HYL.out) (.int .i64 0)) (p := ⟨y, 2, none⟩) (HYL.out) (.slice none 0 0)) (p := ⟨y, 3, none⟩) (HYL.out) (.slice none 0 0))
    clear g9 k9
    go_wp2_with fail
    generalize ((((wb.setCell ⟨y, 0, none⟩ (.int .i64 0)).setCell ⟨y, 1, none⟩ (.int .i64 0)).setCell ⟨y, 2, none⟩ (.slice none 0 0)).setCell ⟨y, 3, none⟩ (.slice none 0 0)) = wf at AF RF ⊢
    have d0 := (blk_cell AF 0 (x := .int .i64 0) rfl).1
    have d1 := (blk_cell AF 1 (x := .int .i64 0) rfl).1
    have d2 := (blk_cell AF 2 (x := .slice none 0 0) rfl).1
    have d3 := (blk_cell AF 3 (x := .slice none 0 0) rfl).1
    refine bodyPost_ret (v := .tuple #[.agg #[.int .i64 0, .int .i64 0, .slice none 0 0, .slice none 0 0], .int .i64 (4)]) (by simp [results, Tryz.results19, go_sem, d0, d1, d2, d3]) rfl ?_
    unfold ItP
    rw [HM.out.c, HM.out.t]
    exact ⟨_, _, [], rfl, ⟨rfl, Mem.nil _ _⟩, RF.out⟩
  case pos =>
  rw [if_pos hn] at hMS
  rw [decide_eq_true hn] at HNO
  have HSB1 := HSB.out wb G0.out hn
  clear hn HSB
  go_wp2_with fail
  refine HNO.mono ?_
  rintro e w2 ⟨rfl, rfl⟩
  clear HNO
  obtain ⟨c0, c1, c2, c3⟩ := HX0.out _ (Below.refl _ _)
  by_cases hv : 4096 < vs.length
  · have hv' : (4096 : Int) < (vs.length : Int) := by omega
    rw [if_neg (fun hh => by rw [st_long hv] at hh; cases hh)] at hMS
    have HM : Hid (It n sq sz rt vs ps qs 12 zTab) := it_no hMS (by decide)
    clear hMS hv HSB1 HPF HRW HQZ
    obtain ⟨k9, g9⟩ := HY0.out _ (Below.refl _ _)
    obtain ⟨m0, n0⟩ := blk_cell k9 0 (x := .int .i64 0) rfl
    obtain ⟨m1, n1⟩ := blk_cell k9 1 (x := .int .i64 0) rfl
    obtain ⟨m2, n2⟩ := blk_cell k9 2 (x := .slice none 0 0) rfl
    obtain ⟨m3, n3⟩ := blk_cell k9 3 (x := .slice none 0 0) rfl
    have AF : ((((wb.setCell ⟨y, 0, none⟩ (.int .i64 0)).setCell ⟨y, 1, none⟩ (.int .i64 0)).setCell ⟨y, 2, none⟩ (.slice none 0 0)).setCell ⟨y, 3, none⟩ (.slice none 0 0)).heap[y]? = some (.cells #[.int .i64 0, .int .i64 0, .slice none 0 0, .slice none 0 0] 36 (0, 0)) := (blk_set (blk_set (blk_set (blk_set k9 0 (.int .i64 0)) 1 (.int .i64 0)) 2 (.slice none 0 0)) 3 (.slice none 0 0))
    have RF : Hid (Below w.heap.size w ((((wb.setCell ⟨y, 0, none⟩ (.int .i64 0)).setCell ⟨y, 1, none⟩ (.int .i64 0)).setCell ⟨y, 2, none⟩ (.slice none 0 0)).setCell ⟨y, 3, none⟩ (.slice none 0 0))) := (Below.setCell (Below.setCell (Below.setCell (Below.setCell g9 (p := ⟨y, 0, none⟩) (HYL.out) (.int .i64 0)) (p := ⟨y, 1, none⟩) (HYL.out) (.int .i64 0)) (p := ⟨y, 2, none⟩) (HYL.out) (.slice none 0 0)) (p := ⟨y, 3, none⟩) (HYL.out) (.slice none 0 0))
    clear g9 k9
    go_wp2_with fail
    generalize ((((wb.setCell ⟨y, 0, none⟩ (.int .i64 0)).setCell ⟨y, 1, none⟩ (.int .i64 0)).setCell ⟨y, 2, none⟩ (.slice none 0 0)).setCell ⟨y, 3, none⟩ (.slice none 0 0)) = wf at AF RF ⊢
    have d0 := (blk_cell AF 0 (x := .int .i64 0) rfl).1
    have d1 := (blk_cell AF 1 (x := .int .i64 0) rfl).1
    have d2 := (blk_cell AF 2 (x := .slice none 0 0) rfl).1
    have d3 := (blk_cell AF 3 (x := .slice none 0 0) rfl).1
    refine bodyPost_ret (v := .tuple #[.agg #[.int .i64 0, .int .i64 0, .slice none 0 0, .slice none 0 0], .int .i64 (12)]) (by simp [results, Tryz.results19, go_sem, d0, d1, d2, d3]) rfl ?_
    unfold ItP
    rw [HM.out.c, HM.out.t]
    exact ⟨_, _, [], rfl, ⟨rfl, Mem.nil _ _⟩, RF.out⟩
  have hv' : ¬ (4096 : Int) < (vs.length : Int) := by omega
  go_wp2_with fail
  refine HSB1.mono ?_
  rintro e w2 ⟨rfl, b2⟩
  have B2 : Hid (Below wb.heap.size wb w2) := b2
  clear b2 c0 c1 c2 c3 HSB1 hv
  cases hst : stB n sq sz rt vs
  case false =>
    rw [if_neg (fun hh => by rw [hst] at hh; cases hh)] at hMS
    have HM : Hid (It n sq sz rt vs ps qs 12 zTab) := it_no hMS (by decide)
    clear hMS hst HPF HRW HQZ
    obtain ⟨k9, g9⟩ := HY0.out _ (B2.out)
    obtain ⟨m0, n0⟩ := blk_cell k9 0 (x := .int .i64 0) rfl
    obtain ⟨m1, n1⟩ := blk_cell k9 1 (x := .int .i64 0) rfl
    obtain ⟨m2, n2⟩ := blk_cell k9 2 (x := .slice none 0 0) rfl
    obtain ⟨m3, n3⟩ := blk_cell k9 3 (x := .slice none 0 0) rfl
    have AF : ((((w2.setCell ⟨y, 0, none⟩ (.int .i64 0)).setCell ⟨y, 1, none⟩ (.int .i64 0)).setCell ⟨y, 2, none⟩ (.slice none 0 0)).setCell ⟨y, 3, none⟩ (.slice none 0 0)).heap[y]? = some (.cells #[.int .i64 0, .int .i64 0, .slice none 0 0, .slice none 0 0] 36 (0, 0)) := (blk_set (blk_set (blk_set (blk_set k9 0 (.int .i64 0)) 1 (.int .i64 0)) 2 (.slice none 0 0)) 3 (.slice none 0 0))
    have RF : Hid (Below w.heap.size w ((((w2.setCell ⟨y, 0, none⟩ (.int .i64 0)).setCell ⟨y, 1, none⟩ (.int .i64 0)).setCell ⟨y, 2, none⟩ (.slice none 0 0)).setCell ⟨y, 3, none⟩ (.slice none 0 0))) := (Below.setCell (Below.setCell (Below.setCell (Below.setCell g9 (p := ⟨y, 0, none⟩) (HYL.out) (.int .i64 0)) (p := ⟨y, 1, none⟩) (HYL.out) (.int .i64 0)) (p := ⟨y, 2, none⟩) (HYL.out) (.slice none 0 0)) (p := ⟨y, 3, none⟩) (HYL.out) (.slice none 0 0))
    clear g9 k9
    go_wp2_with fail
    generalize ((((w2.setCell ⟨y, 0, none⟩ (.int .i64 0)).setCell ⟨y, 1, none⟩ (.int .i64 0)).setCell ⟨y, 2, none⟩ (.slice none 0 0)).setCell ⟨y, 3, none⟩ (.slice none 0 0)) = wf at AF RF ⊢
    have d0 := (blk_cell AF 0 (x := .int .i64 0) rfl).1
    have d1 := (blk_cell AF 1 (x := .int .i64 0) rfl).1
    have d2 := (blk_cell AF 2 (x := .slice none 0 0) rfl).1
    have d3 := (blk_cell AF 3 (x := .slice none 0 0) rfl).1
    refine bodyPost_ret (v := .tuple #[.agg #[.int .i64 0, .int .i64 0, .slice none 0 0, .slice none 0 0], .int .i64 (12)]) (by simp [results, Tryz.results19, go_sem, d0, d1, d2, d3]) rfl ?_
    unfold ItP
    rw [HM.out.c, HM.out.t]
    exact ⟨_, _, [], rfl, ⟨rfl, Mem.nil _ _⟩, RF.out⟩
  case true =>
  rw [if_pos hst] at hMS
  clear hst
  obtain ⟨c0, c1, c2, c3⟩ := HX0.out _ B2.out
  go_wp2_with fail
  refine (HPF.out _ (HY0.out _ B2.out).2).mono ?_
  rintro e w3 ⟨rfl, rfl⟩
  clear HPF
  by_cases hpc : PcP ps
  case neg =>
    rw [pcB_no hpc]
    have hMS1 : itC n sq sz rt vs ps qs = 1 := by rw [hMS, if_neg (fun hh => by rw [pcB_no hpc] at hh; cases hh.1)]
    have HM : Hid (It n sq sz rt vs ps qs 1 zTab) := it_no hMS1 (by decide)
    clear hMS hMS1 hpc HRW HQZ c0 c2 c3
    obtain ⟨k9, g9⟩ := HY0.out _ (B2.out)
    obtain ⟨m0, n0⟩ := blk_cell k9 0 (x := .int .i64 0) rfl
    obtain ⟨m1, n1⟩ := blk_cell k9 1 (x := .int .i64 0) rfl
    obtain ⟨m2, n2⟩ := blk_cell k9 2 (x := .slice none 0 0) rfl
    obtain ⟨m3, n3⟩ := blk_cell k9 3 (x := .slice none 0 0) rfl
    have AF : ((((w2.setCell ⟨y, 0, none⟩ (.int .i64 0)).setCell ⟨y, 1, none⟩ (.int .i64 0)).setCell ⟨y, 2, none⟩ (.slice none 0 0)).setCell ⟨y, 3, none⟩ (.slice none 0 0)).heap[y]? = some (.cells #[.int .i64 0, .int .i64 0, .slice none 0 0, .slice none 0 0] 36 (0, 0)) := (blk_set (blk_set (blk_set (blk_set k9 0 (.int .i64 0)) 1 (.int .i64 0)) 2 (.slice none 0 0)) 3 (.slice none 0 0))
    have RF : Hid (Below w.heap.size w ((((w2.setCell ⟨y, 0, none⟩ (.int .i64 0)).setCell ⟨y, 1, none⟩ (.int .i64 0)).setCell ⟨y, 2, none⟩ (.slice none 0 0)).setCell ⟨y, 3, none⟩ (.slice none 0 0))) := (Below.setCell (Below.setCell (Below.setCell (Below.setCell g9 (p := ⟨y, 0, none⟩) (HYL.out) (.int .i64 0)) (p := ⟨y, 1, none⟩) (HYL.out) (.int .i64 0)) (p := ⟨y, 2, none⟩) (HYL.out) (.slice none 0 0)) (p := ⟨y, 3, none⟩) (HYL.out) (.slice none 0 0))
    clear g9 k9
    go_wp2_with fail
    generalize ((((w2.setCell ⟨y, 0, none⟩ (.int .i64 0)).setCell ⟨y, 1, none⟩ (.int .i64 0)).setCell ⟨y, 2, none⟩ (.slice none 0 0)).setCell ⟨y, 3, none⟩ (.slice none 0 0)) = wf at AF RF ⊢
    have d0 := (blk_cell AF 0 (x := .int .i64 0) rfl).1
    have d1 := (blk_cell AF 1 (x := .int .i64 0) rfl).1
    have d2 := (blk_cell AF 2 (x := .slice none 0 0) rfl).1
    have d3 := (blk_cell AF 3 (x := .slice none 0 0) rfl).1
    refine bodyPost_ret (v := .tuple #[.agg #[.int .i64 0, .int .i64 0, .slice none 0 0, .slice none 0 0], .int .i64 (1)]) (by simp [results, Tryz.results19, go_sem, d0, d1, d2, d3]) rfl ?_
    unfold ItP
    rw [HM.out.c, HM.out.t]
    exact ⟨_, _, [], rfl, ⟨rfl, Mem.nil _ _⟩, RF.out⟩
  case pos =>
  rw [pcB_yes hpc]
  by_cases hz1 : (ps.length : Int) = sz
  case neg =>
    have hz1' : ((ps.length : Int) != sz) = true := by simpa using hz1
    have hMS1 : itC n sq sz rt vs ps qs = 1 := by rw [hMS, if_neg (fun hh => hz1 hh.2.1)]
    have HM : Hid (It n sq sz rt vs ps qs 1 zTab) := it_no hMS1 (by decide)
    clear hMS hMS1 hpc hz1 HRW HQZ c0 c2 c3
    obtain ⟨k9, g9⟩ := HY0.out _ (B2.out)
    obtain ⟨m0, n0⟩ := blk_cell k9 0 (x := .int .i64 0) rfl
    obtain ⟨m1, n1⟩ := blk_cell k9 1 (x := .int .i64 0) rfl
    obtain ⟨m2, n2⟩ := blk_cell k9 2 (x := .slice none 0 0) rfl
    obtain ⟨m3, n3⟩ := blk_cell k9 3 (x := .slice none 0 0) rfl
    have AF : ((((w2.setCell ⟨y, 0, none⟩ (.int .i64 0)).setCell ⟨y, 1, none⟩ (.int .i64 0)).setCell ⟨y, 2, none⟩ (.slice none 0 0)).setCell ⟨y, 3, none⟩ (.slice none 0 0)).heap[y]? = some (.cells #[.int .i64 0, .int .i64 0, .slice none 0 0, .slice none 0 0] 36 (0, 0)) := (blk_set (blk_set (blk_set (blk_set k9 0 (.int .i64 0)) 1 (.int .i64 0)) 2 (.slice none 0 0)) 3 (.slice none 0 0))
    have RF : Hid (Below w.heap.size w ((((w2.setCell ⟨y, 0, none⟩ (.int .i64 0)).setCell ⟨y, 1, none⟩ (.int .i64 0)).setCell ⟨y, 2, none⟩ (.slice none 0 0)).setCell ⟨y, 3, none⟩ (.slice none 0 0))) := (Below.setCell (Below.setCell (Below.setCell (Below.setCell g9 (p := ⟨y, 0, none⟩) (HYL.out) (.int .i64 0)) (p := ⟨y, 1, none⟩) (HYL.out) (.int .i64 0)) (p := ⟨y, 2, none⟩) (HYL.out) (.slice none 0 0)) (p := ⟨y, 3, none⟩) (HYL.out) (.slice none 0 0))
    clear g9 k9
    go_wp2_with fail
    generalize ((((w2.setCell ⟨y, 0, none⟩ (.int .i64 0)).setCell ⟨y, 1, none⟩ (.int .i64 0)).setCell ⟨y, 2, none⟩ (.slice none 0 0)).setCell ⟨y, 3, none⟩ (.slice none 0 0)) = wf at AF RF ⊢
    have d0 := (blk_cell AF 0 (x := .int .i64 0) rfl).1
    have d1 := (blk_cell AF 1 (x := .int .i64 0) rfl).1
    have d2 := (blk_cell AF 2 (x := .slice none 0 0) rfl).1
    have d3 := (blk_cell AF 3 (x := .slice none 0 0) rfl).1
    refine bodyPost_ret (v := .tuple #[.agg #[.int .i64 0, .int .i64 0, .slice none 0 0, .slice none 0 0], .int .i64 (1)]) (by simp [results, Tryz.results19, go_sem, d0, d1, d2, d3]) rfl ?_
    unfold ItP
    rw [HM.out.c, HM.out.t]
    exact ⟨_, _, [], rfl, ⟨rfl, Mem.nil _ _⟩, RF.out⟩
  case pos =>
  have hz1' : ((ps.length : Int) != sz) = false := by simpa using hz1
  by_cases hz2 : (qs.length : Int) = sz
  case neg =>
    have hz2' : ((qs.length : Int) != sz) = true := by simpa using hz2
    have hMS1 : itC n sq sz rt vs ps qs = 1 := by rw [hMS, if_neg (fun hh => hz2 hh.2.2)]
    have HM : Hid (It n sq sz rt vs ps qs 1 zTab) := it_no hMS1 (by decide)
    clear hMS hMS1 hpc hz1 hz2 HRW HQZ c0 c2 c3
    obtain ⟨k9, g9⟩ := HY0.out _ (B2.out)
    obtain ⟨m0, n0⟩ := blk_cell k9 0 (x := .int .i64 0) rfl
    obtain ⟨m1, n1⟩ := blk_cell k9 1 (x := .int .i64 0) rfl
    obtain ⟨m2, n2⟩ := blk_cell k9 2 (x := .slice none 0 0) rfl
    obtain ⟨m3, n3⟩ := blk_cell k9 3 (x := .slice none 0 0) rfl
    have AF : ((((w2.setCell ⟨y, 0, none⟩ (.int .i64 0)).setCell ⟨y, 1, none⟩ (.int .i64 0)).setCell ⟨y, 2, none⟩ (.slice none 0 0)).setCell ⟨y, 3, none⟩ (.slice none 0 0)).heap[y]? = some (.cells #[.int .i64 0, .int .i64 0, .slice none 0 0, .slice none 0 0] 36 (0, 0)) := (blk_set (blk_set (blk_set (blk_set k9 0 (.int .i64 0)) 1 (.int .i64 0)) 2 (.slice none 0 0)) 3 (.slice none 0 0))
    have RF : Hid (Below w.heap.size w ((((w2.setCell ⟨y, 0, none⟩ (.int .i64 0)).setCell ⟨y, 1, none⟩ (.int .i64 0)).setCell ⟨y, 2, none⟩ (.slice none 0 0)).setCell ⟨y, 3, none⟩ (.slice none 0 0))) := (Below.setCell (Below.setCell (Below.setCell (Below.setCell g9 (p := ⟨y, 0, none⟩) (HYL.out) (.int .i64 0)) (p := ⟨y, 1, none⟩) (HYL.out) (.int .i64 0)) (p := ⟨y, 2, none⟩) (HYL.out) (.slice none 0 0)) (p := ⟨y, 3, none⟩) (HYL.out) (.slice none 0 0))
    clear g9 k9
    go_wp2_with fail
    generalize ((((w2.setCell ⟨y, 0, none⟩ (.int .i64 0)).setCell ⟨y, 1, none⟩ (.int .i64 0)).setCell ⟨y, 2, none⟩ (.slice none 0 0)).setCell ⟨y, 3, none⟩ (.slice none 0 0)) = wf at AF RF ⊢
    have d0 := (blk_cell AF 0 (x := .int .i64 0) rfl).1
    have d1 := (blk_cell AF 1 (x := .int .i64 0) rfl).1
    have d2 := (blk_cell AF 2 (x := .slice none 0 0) rfl).1
    have d3 := (blk_cell AF 3 (x := .slice none 0 0) rfl).1
    refine bodyPost_ret (v := .tuple #[.agg #[.int .i64 0, .int .i64 0, .slice none 0 0, .slice none 0 0], .int .i64 (1)]) (by simp [results, Tryz.results19, go_sem, d0, d1, d2, d3]) rfl ?_
    unfold ItP
    rw [HM.out.c, HM.out.t]
    exact ⟨_, _, [], rfl, ⟨rfl, Mem.nil _ _⟩, RF.out⟩
  case pos =>
  have hz2' : ((qs.length : Int) != sz) = false := by simpa using hz2
  rw [if_pos ⟨pcB_yes hpc, hz1, hz2⟩] at hMS
  have HLN : Hid (ps.length ≤ 64 ∧ ps.length = qs.length ∧ (ps.length : Int) = sz) := ⟨hpc.1, by omega, hz1⟩
  have HCL : Hid ((cat ps).length ≤ 2048) := pc_cat hpc
  have HNB : Hid (∀ k c, k < ps.length → fbC rt sz ps qs k = 0 → pfC rt (tnth ps k) k sz (tnth qs k) = c → c ≠ 0 → It n sq sz rt vs ps qs c zTab) := fun k c hk h0 hc hne => it_no (by rw [hMS, fb_first h0 hc hne hk, if_neg hne]) hne
  have HEN : Hid (fbC rt sz ps qs ps.length = 0 → It n sq sz rt vs ps qs (rtC (cat ps)) (rtT (cat ps))) := fun h0 => it_end (by rw [hMS, if_pos h0])
  have hk64 := HLN.out.1
  clear hMS hpc hz1 hz2 h1 h2
  go_wp2_with fail
  clear c0 c1 c2 c3 hz1' hz2' h1' h2'
  go_loopw [10] (fun i wr => ∃ k : Nat, k ≤ ps.length ∧ i = .int .i64 k ∧ Hid (fbC rt sz ps qs k = 0 ∧ Below wb.heap.size wb wr)) (fun i _ => ps.length - (intOf i).toNat)
  case atStart => exact ⟨0, by omega, rfl, ⟨rfl, B2.out⟩⟩
  case round =>
    obtain ⟨k, hk, rfl, HZ⟩ := hrel
    by_cases hlt : k < ps.length
    · have HGR : Hid (Below w.heap.size w wr) := (HY0.out _ HZ.out.2).2
      obtain ⟨b, off, rfl, hbl, d0⟩ := row_at (HRW.out _ HGR.out).1 hlt
      obtain ⟨b', off', rfl, hbl', e0⟩ := row_at (HRW.out _ HGR.out).2 (show k < qs.length by have := HLN.out.2.1; omega)
      obtain ⟨c0, c1, c2, c3⟩ := HX0.out _ HZ.out.2
      have hp0 : (0 : Int) ≤ (k : Int) := by omega
      have hp1 : (k : Int) < (ps.length : Int) := by omega
      have hp2 : (k : Int) < (qs.length : Int) := by have := HLN.out.2.1; omega
      have hp3 : (k : Int) < sz := by have := HLN.out.2.2; omega
      have hqs := HQZ.out k (by have := HLN.out.2.1; omega)
      have HP10 : Hid (pfC rt (tnth ps k) k sz (tnth qs k) = 10 → It n sq sz rt vs ps qs 10 zTab) := fun h => HNB.out k 10 hlt HZ.out.1 h (by decide)
      by_cases hm32 : (tnth qs k).size % 32 = 0
      case neg =>
        have HM : Hid (It n sq sz rt vs ps qs 10 zTab) := HP10.out (ok_no1 hm32)
        have HSP := l10Split_bad (tnth qs k) wr hqs hm32
        generalize tnth qs k = qk at HSP e0
        clear hm32 HP10 HNB HEN hqs c0 c2 c3 d0
        go_wp2_with fail
        refine HSP.mono ?_
        rintro e w4 ⟨v4, rfl, o4, b4⟩
        have G4 : Hid (Below wb.heap.size wb w4) := HZ.out.2.trans (b4.mono HZ.out.2.size)
        obtain ⟨a4, cp4, rfl⟩ := row_slice o4.row
        clear o4 b4 c1 e0
        obtain ⟨k9, g9⟩ := HY0.out _ (G4.out)
        obtain ⟨m0, n0⟩ := blk_cell k9 0 (x := .int .i64 0) rfl
        obtain ⟨m1, n1⟩ := blk_cell k9 1 (x := .int .i64 0) rfl
        obtain ⟨m2, n2⟩ := blk_cell k9 2 (x := .slice none 0 0) rfl
        obtain ⟨m3, n3⟩ := blk_cell k9 3 (x := .slice none 0 0) rfl
        have AF : ((((w4.setCell ⟨y, 0, none⟩ (.int .i64 0)).setCell ⟨y, 1, none⟩ (.int .i64 0)).setCell ⟨y, 2, none⟩ (.slice none 0 0)).setCell ⟨y, 3, none⟩ (.slice none 0 0)).heap[y]? = some (.cells #[.int .i64 0, .int .i64 0, .slice none 0 0, .slice none 0 0] 36 (0, 0)) := (blk_set (blk_set (blk_set (blk_set k9 0 (.int .i64 0)) 1 (.int .i64 0)) 2 (.slice none 0 0)) 3 (.slice none 0 0))
        have RF : Hid (Below w.heap.size w ((((w4.setCell ⟨y, 0, none⟩ (.int .i64 0)).setCell ⟨y, 1, none⟩ (.int .i64 0)).setCell ⟨y, 2, none⟩ (.slice none 0 0)).setCell ⟨y, 3, none⟩ (.slice none 0 0))) := (Below.setCell (Below.setCell (Below.setCell (Below.setCell g9 (p := ⟨y, 0, none⟩) (HYL.out) (.int .i64 0)) (p := ⟨y, 1, none⟩) (HYL.out) (.int .i64 0)) (p := ⟨y, 2, none⟩) (HYL.out) (.slice none 0 0)) (p := ⟨y, 3, none⟩) (HYL.out) (.slice none 0 0))
        clear g9 k9
        go_wp2_with fail
        generalize ((((w4.setCell ⟨y, 0, none⟩ (.int .i64 0)).setCell ⟨y, 1, none⟩ (.int .i64 0)).setCell ⟨y, 2, none⟩ (.slice none 0 0)).setCell ⟨y, 3, none⟩ (.slice none 0 0)) = wf at AF RF ⊢
        have d0 := (blk_cell AF 0 (x := .int .i64 0) rfl).1
        have d1 := (blk_cell AF 1 (x := .int .i64 0) rfl).1
        have d2 := (blk_cell AF 2 (x := .slice none 0 0) rfl).1
        have d3 := (blk_cell AF 3 (x := .slice none 0 0) rfl).1
        refine bodyPost_ret (v := .tuple #[.agg #[.int .i64 0, .int .i64 0, .slice none 0 0, .slice none 0 0], .int .i64 (10)]) (by simp [results, Tryz.results19, go_sem, d0, d1, d2, d3]) rfl ?_
        unfold ItP
        rw [HM.out.c, HM.out.t]
        exact ⟨_, _, [], rfl, ⟨rfl, Mem.nil _ _⟩, RF.out⟩
      case pos =>
      have HSP := l10Split_ok (tnth qs k) wr hqs hm32
      by_cases h20 : 20 < (chk (tnth qs k)).length
      · have HM : Hid (It n sq sz rt vs ps qs 10 zTab) := HP10.out (ok_no2 h20)
        have h20' : (20 : Int) < ((chk (tnth qs k)).length : Int) := by omega
        generalize chk (tnth qs k) = ch at HSP h20'
        generalize tnth qs k = qk at HSP e0
        clear hm32 HP10 HNB HEN hqs c0 c2 c3 d0 h20
        go_wp2_with fail
        refine HSP.mono ?_
        rintro e w4 ⟨v4, rfl, o4, b4⟩
        have G4 : Hid (Below wb.heap.size wb w4) := HZ.out.2.trans (b4.mono HZ.out.2.size)
        obtain ⟨a4, cp4, rfl⟩ := row_slice o4.row
        clear o4 b4 c1 e0
        obtain ⟨k9, g9⟩ := HY0.out _ (G4.out)
        obtain ⟨m0, n0⟩ := blk_cell k9 0 (x := .int .i64 0) rfl
        obtain ⟨m1, n1⟩ := blk_cell k9 1 (x := .int .i64 0) rfl
        obtain ⟨m2, n2⟩ := blk_cell k9 2 (x := .slice none 0 0) rfl
        obtain ⟨m3, n3⟩ := blk_cell k9 3 (x := .slice none 0 0) rfl
        have AF : ((((w4.setCell ⟨y, 0, none⟩ (.int .i64 0)).setCell ⟨y, 1, none⟩ (.int .i64 0)).setCell ⟨y, 2, none⟩ (.slice none 0 0)).setCell ⟨y, 3, none⟩ (.slice none 0 0)).heap[y]? = some (.cells #[.int .i64 0, .int .i64 0, .slice none 0 0, .slice none 0 0] 36 (0, 0)) := (blk_set (blk_set (blk_set (blk_set k9 0 (.int .i64 0)) 1 (.int .i64 0)) 2 (.slice none 0 0)) 3 (.slice none 0 0))
        have RF : Hid (Below w.heap.size w ((((w4.setCell ⟨y, 0, none⟩ (.int .i64 0)).setCell ⟨y, 1, none⟩ (.int .i64 0)).setCell ⟨y, 2, none⟩ (.slice none 0 0)).setCell ⟨y, 3, none⟩ (.slice none 0 0))) := (Below.setCell (Below.setCell (Below.setCell (Below.setCell g9 (p := ⟨y, 0, none⟩) (HYL.out) (.int .i64 0)) (p := ⟨y, 1, none⟩) (HYL.out) (.int .i64 0)) (p := ⟨y, 2, none⟩) (HYL.out) (.slice none 0 0)) (p := ⟨y, 3, none⟩) (HYL.out) (.slice none 0 0))
        clear g9 k9
        go_wp2_with fail
        generalize ((((w4.setCell ⟨y, 0, none⟩ (.int .i64 0)).setCell ⟨y, 1, none⟩ (.int .i64 0)).setCell ⟨y, 2, none⟩ (.slice none 0 0)).setCell ⟨y, 3, none⟩ (.slice none 0 0)) = wf at AF RF ⊢
        have d0 := (blk_cell AF 0 (x := .int .i64 0) rfl).1
        have d1 := (blk_cell AF 1 (x := .int .i64 0) rfl).1
        have d2 := (blk_cell AF 2 (x := .slice none 0 0) rfl).1
        have d3 := (blk_cell AF 3 (x := .slice none 0 0) rfl).1
        refine bodyPost_ret (v := .tuple #[.agg #[.int .i64 0, .int .i64 0, .slice none 0 0, .slice none 0 0], .int .i64 (10)]) (by simp [results, Tryz.results19, go_sem, d0, d1, d2, d3]) rfl ?_
        unfold ItP
        rw [HM.out.c, HM.out.t]
        exact ⟨_, _, [], rfl, ⟨rfl, Mem.nil _ _⟩, RF.out⟩
      have h20' : ¬ (20 : Int) < ((chk (tnth qs k)).length : Int) := by omega
      have HPK : Hid (pfC rt (tnth ps k) k sz (tnth qs k) = ckC rt (tnth ps k) k sz (chk (tnth qs k))) := ok_yes hm32 h20
      have HCL2 : Hid ((chk (tnth qs k)).length ≤ 1048576) := by show _ ≤ _; omega
      have HNB2 : Hid (∀ c, ckC rt (tnth ps k) k sz (chk (tnth qs k)) = c → c ≠ 0 → It n sq sz rt vs ps qs c zTab) := fun c h hne => HNB.out k c hlt HZ.out.1 (by rw [HPK.out, h]) hne
      have HSS : Hid (ckC rt (tnth ps k) k sz (chk (tnth qs k)) = 0 → fbC rt sz ps qs (k + 1) = 0) := fun h => fb_go HZ.out.1 (by rw [HPK.out, h])
      clear HP10 HNB HEN HPK h20 hm32 hqs
      generalize chk (tnth qs k) = ch at HSP h20' HCL2 HNB2 HSS
      generalize tnth qs k = qk at HSP e0
      go_wp2_with fail
      refine HSP.mono ?_
      rintro e w4 ⟨v4, rfl, o4, b4⟩
      have G4 : Hid (RowT w4 v4 ch ∧ Below wb.heap.size wb w4) := ⟨o4.row, HZ.out.2.trans (b4.mono HZ.out.2.size)⟩
      obtain ⟨a4, cp4, rfl⟩ := row_slice o4.row
      have f0 := (b4.cell (p := ⟨b, off + k, none⟩) hbl).trans d0
      clear o4 b4 c0 c1 c2 c3 d0 e0 HSP
      go_upto_region 15 with fail
      obtain ⟨c0, c1, c2, c3⟩ := HX0.out _ G4.out.2
      obtain ⟨X, hX, W, QI0, QO0⟩ := Qc.klass w4
      have QI : Hid (∀ w', Below w4.heap.size w4 w' → ∃ x, w' = W x) := QI0
      have QO : Hid (∀ x, Below w4.heap.size w4 (W x)) := QO0
      clear QI0 QO0
      have QB : Hid (∀ x, Below wb.heap.size wb (W x)) := fun x => G4.out.2.trans ((QO.out x).mono G4.out.2.size)
      have y0 := Qc.cell_all QO.out f0
      have t1 := Qc.cell_all QO.out c1
      have t2 := Qc.cell_all QO.out c2
      have HVM : Hid (∀ x, Calls Tryz.prog 48 #[.string rt, .string (tnth ps k), .int .i64 k, .int .i64 sz, .slice a4 ch.length cp4] (W x) fun e w' => e = .returned (.int .i64 (ckC rt (tnth ps k) k sz ch)) ∧ Below (W x).heap.size (W x) w') := fun xq => specCheckPiece_any rt _ k sz _ ch (W xq) (G4.out.1.below (QO.out xq)) HCL2.out
      clear c0 c1 c2 c3 f0 hbl hbl' h20'
      generalize tnth ps k = pk at HVM HNB2 HSS y0
      generalize ckC rt pk k sz ch = cc at HVM HNB2 HSS
      refine Qc.region_class (W := W) (by kernel_rfl) (by kernel_rfl) (QI.out _ Qc.from_drew) ?_
      repeat (go_big_quiet_step (first | (go_at_call 48; refine (HVM.out _).mono ?_; rintro e w2 ⟨rfl, b2⟩; exact ⟨rfl, Qc.back QI.out QO.out b2⟩)))
      refine wpQuiet_nil ?_
      rintro _ ⟨xq, rfl⟩
      have G5 : Hid (Below wb.heap.size wb (W xq)) := QB.out xq
      clear y0 t1 t2
      generalize W xq = wq at G5 ⊢
      by_cases hcc : cc = 0
      · have HS2 := HSS.out hcc
        have HS3 : Hid (fbC rt sz ps qs (k + 1) = 0) := HS2
        clear HS2 HNB2
        subst hcc
        go_wp2_with fail
        exact ⟨⟨k + 1, by omega, by go_num, ⟨HS3.out, G5.out⟩⟩, by simp [intOf]; omega⟩
      · have HM : Hid (It n sq sz rt vs ps qs cc zTab) := HNB2.out cc rfl hcc
        have hcc' : (cc != 0) = true := by simpa using hcc
        clear hcc HNB2 HSS
        obtain ⟨k9, g9⟩ := HY0.out _ (G5.out)
        obtain ⟨m0, n0⟩ := blk_cell k9 0 (x := .int .i64 0) rfl
        obtain ⟨m1, n1⟩ := blk_cell k9 1 (x := .int .i64 0) rfl
        obtain ⟨m2, n2⟩ := blk_cell k9 2 (x := .slice none 0 0) rfl
        obtain ⟨m3, n3⟩ := blk_cell k9 3 (x := .slice none 0 0) rfl
        have AF : ((((wq.setCell ⟨y, 0, none⟩ (.int .i64 0)).setCell ⟨y, 1, none⟩ (.int .i64 0)).setCell ⟨y, 2, none⟩ (.slice none 0 0)).setCell ⟨y, 3, none⟩ (.slice none 0 0)).heap[y]? = some (.cells #[.int .i64 0, .int .i64 0, .slice none 0 0, .slice none 0 0] 36 (0, 0)) := (blk_set (blk_set (blk_set (blk_set k9 0 (.int .i64 0)) 1 (.int .i64 0)) 2 (.slice none 0 0)) 3 (.slice none 0 0))
        have RF : Hid (Below w.heap.size w ((((wq.setCell ⟨y, 0, none⟩ (.int .i64 0)).setCell ⟨y, 1, none⟩ (.int .i64 0)).setCell ⟨y, 2, none⟩ (.slice none 0 0)).setCell ⟨y, 3, none⟩ (.slice none 0 0))) := (Below.setCell (Below.setCell (Below.setCell (Below.setCell g9 (p := ⟨y, 0, none⟩) (HYL.out) (.int .i64 0)) (p := ⟨y, 1, none⟩) (HYL.out) (.int .i64 0)) (p := ⟨y, 2, none⟩) (HYL.out) (.slice none 0 0)) (p := ⟨y, 3, none⟩) (HYL.out) (.slice none 0 0))
        clear g9 k9
        go_wp2_with fail
        generalize ((((wq.setCell ⟨y, 0, none⟩ (.int .i64 0)).setCell ⟨y, 1, none⟩ (.int .i64 0)).setCell ⟨y, 2, none⟩ (.slice none 0 0)).setCell ⟨y, 3, none⟩ (.slice none 0 0)) = wf at AF RF ⊢
        have d0 := (blk_cell AF 0 (x := .int .i64 0) rfl).1
        have d1 := (blk_cell AF 1 (x := .int .i64 0) rfl).1
        have d2 := (blk_cell AF 2 (x := .slice none 0 0) rfl).1
        have d3 := (blk_cell AF 3 (x := .slice none 0 0) rfl).1
        refine bodyPost_ret (v := .tuple #[.agg #[.int .i64 0, .int .i64 0, .slice none 0 0, .slice none 0 0], .int .i64 (cc)]) (by simp [results, Tryz.results19, go_sem, d0, d1, d2, d3]) rfl ?_
        unfold ItP
        rw [HM.out.c, HM.out.t]
        exact ⟨_, _, [], rfl, ⟨rfl, Mem.nil _ _⟩, RF.out⟩
    · obtain rfl : k = ps.length := by omega
      have HM0 := HEN.out HZ.out.1
      have HGR : Hid (Below w.heap.size w wr) := (HY0.out _ HZ.out.2).2
      have HJO : Hid (Calls Tryz.prog 50 #[.slice pa ps.length pc] wr fun e w' => ∃ v', e = .returned v' ∧ OwnB 5 w' wr.heap.size v' (cat ps) ∧ Below wr.heap.size wr w') := l09Join_any _ ps wr (HRW.out _ HGR.out).1 hk64 HCL.out
      have HL7 : Hid (∀ W, Calls Tryz.prog 49 #[.string (strOfNums (cat ps))] W fun e w' => ∃ tm nx u2 u3 ms ss, e = .returned (.tuple #[tabV tm nx u2 u3, .bool (rtOK (cat ps))]) ∧ (Mem w' W.heap.size u2 u3 ms ss ∧ (rtOK (cat ps) = true → tbO (cat ps) = ⟨tm, nx, ms.map (·.1), ss⟩)) ∧ Below W.heap.size W w') := fun W => by
        have := l05Read_any (strOfNums (cat ps)) W (by rw [strOfNums_size]; have := HCL.out; omega)
        rw [bys_str _ (cat_range ps)] at this
        exact this
      have HBD : Hid (rtOK (cat ps) = false → rtC (cat ps) = 3 ∧ rtT (cat ps) = zTab) := rt_bad (by have := HCL.out; omega)
      have HGD : Hid (rtOK (cat ps) = true → rtC (cat ps) = 0 ∧ rtT (cat ps) = tbO (cat ps)) := rt_ok (by have := HCL.out; omega)
      have HMX : Hid (It n sq sz rt vs ps qs (rtC (cat ps)) (rtT (cat ps))) := HM0
      obtain ⟨c0, c1, c2, c3⟩ := HX0.out _ HZ.out.2
      have hz9 : ¬ ((ps.length : Int) < sz) := by have := HLN.out.2.2; omega
      clear HEN HNB HQZ hk64 HM0 c0 c2 c3
      go_wp2_with fail
      refine HJO.out.mono ?_
      rintro e w4 ⟨v4, rfl, o4, b4⟩
      have hcv := By.run_convert_own (P := Tryz.prog) w4 wr.heap.size 86 5 9 Tryz.underlying86 Tryz.underlying5 Tryz.underlying9 v4 _ o4
      have G4 : Hid (Below wb.heap.size wb w4) := HZ.out.2.trans (b4.mono HZ.out.2.size)
      clear o4 b4 HJO HCL c1 hz9
      generalize strOfNums (cat ps) = str at hcv HL7
      generalize cat ps = cps at HL7 HBD HGD HMX
      go_wp2_with fail
      refine (HL7.out _).mono ?_
      rintro e w5 ⟨tm, nx, u2, u3, ms, ss, rfl, ⟨me, ht⟩, b5⟩
      have HTT : Hid (rtOK cps = true → tbO cps = ⟨tm, nx, ms.map (·.1), ss⟩) := ht
      obtain ⟨la, lc, rfl⟩ := me.ol.slice
      obtain ⟨sa, sc, rfl⟩ := me.os.slice
      obtain ⟨ln, HLN2⟩ : ∃ ln, Hid (ms.length = ln) := ⟨_, rfl⟩
      obtain ⟨sn, HSN2⟩ : ∃ sn, Hid (ss.length = sn) := ⟨_, rfl⟩
      rw [HLN2.out, HSN2.out] at me ⊢
      have B1 : Hid (Below wb.heap.size wb w5 ∧ Mem w5 wb.heap.size (.slice la ln lc) (.slice sa sn sc) ms ss) := ⟨G4.out.trans (b5.mono G4.out.size), me.mono G4.out.size⟩
      unfold tabV
      clear me ht b5 HL7 G4 hcv HX0
      have HZZ : Hid (((w5.alloc (.cells #[.int .i64 tm, .int .i64 nx, .slice la ln lc, .slice sa sn sc] 36)).cell? ⟨w5.heap.size, 0, none⟩ = some (.int .i64 tm) ∧ (w5.alloc (.cells #[.int .i64 tm, .int .i64 nx, .slice la ln lc, .slice sa sn sc] 36)).cell? ⟨w5.heap.size, 1, none⟩ = some (.int .i64 nx) ∧ (w5.alloc (.cells #[.int .i64 tm, .int .i64 nx, .slice la ln lc, .slice sa sn sc] 36)).cell? ⟨w5.heap.size, 2, none⟩ = some (.slice la ln lc) ∧ (w5.alloc (.cells #[.int .i64 tm, .int .i64 nx, .slice la ln lc, .slice sa sn sc] 36)).cell? ⟨w5.heap.size, 3, none⟩ = some (.slice sa sn sc)) ∧ Below wb.heap.size wb (w5.alloc (.cells #[.int .i64 tm, .int .i64 nx, .slice la ln lc, .slice sa sn sc] 36)) ∧ Mem (w5.alloc (.cells #[.int .i64 tm, .int .i64 nx, .slice la ln lc, .slice sa sn sc] 36)) wb.heap.size (.slice la ln lc) (.slice sa sn sc) ms ss) := by
        have h0 := heap_alloc_new w5 (.cells #[.int .i64 tm, .int .i64 nx, .slice la ln lc, .slice sa sn sc] 36)
        have b := bel_new w5 (.cells #[.int .i64 tm, .int .i64 nx, .slice la ln lc, .slice sa sn sc] 36)
        exact ⟨⟨(blk_cell h0 0 rfl).1, (blk_cell h0 1 rfl).1, (blk_cell h0 2 rfl).1, (blk_cell h0 3 rfl).1⟩, B1.out.1.trans (b.mono B1.out.1.size), B1.out.2.below b⟩
      clear B1
      go_upto_region 19 with fail
      generalize w5.alloc (.cells #[.int .i64 tm, .int .i64 nx, .slice la ln lc, .slice sa sn sc] 36) = wz at HZZ ⊢
      generalize w5.heap.size = x5 at HZZ ⊢
      obtain ⟨ok, HOK⟩ : ∃ ok, Hid (rtOK cps = ok) := ⟨_, rfl⟩
      rw [HOK.out] at HBD HGD HTT ⊢
      cases ok
      case false =>
        have HM : Hid (It n sq sz rt vs ps qs 3 zTab) := by have h := HMX.out; rw [(HBD.out rfl).1, (HBD.out rfl).2] at h; exact h
        clear HBD HGD HTT HMX
        obtain ⟨k9, g9⟩ := HY0.out _ (HZZ.out.2.1)
        obtain ⟨m0, n0⟩ := blk_cell k9 0 (x := .int .i64 0) rfl
        obtain ⟨m1, n1⟩ := blk_cell k9 1 (x := .int .i64 0) rfl
        obtain ⟨m2, n2⟩ := blk_cell k9 2 (x := .slice none 0 0) rfl
        obtain ⟨m3, n3⟩ := blk_cell k9 3 (x := .slice none 0 0) rfl
        have AF : ((((wz.setCell ⟨y, 0, none⟩ (.int .i64 0)).setCell ⟨y, 1, none⟩ (.int .i64 0)).setCell ⟨y, 2, none⟩ (.slice none 0 0)).setCell ⟨y, 3, none⟩ (.slice none 0 0)).heap[y]? = some (.cells #[.int .i64 0, .int .i64 0, .slice none 0 0, .slice none 0 0] 36 (0, 0)) := (blk_set (blk_set (blk_set (blk_set k9 0 (.int .i64 0)) 1 (.int .i64 0)) 2 (.slice none 0 0)) 3 (.slice none 0 0))
        have RF : Hid (Below w.heap.size w ((((wz.setCell ⟨y, 0, none⟩ (.int .i64 0)).setCell ⟨y, 1, none⟩ (.int .i64 0)).setCell ⟨y, 2, none⟩ (.slice none 0 0)).setCell ⟨y, 3, none⟩ (.slice none 0 0))) := (Below.setCell (Below.setCell (Below.setCell (Below.setCell g9 (p := ⟨y, 0, none⟩) (HYL.out) (.int .i64 0)) (p := ⟨y, 1, none⟩) (HYL.out) (.int .i64 0)) (p := ⟨y, 2, none⟩) (HYL.out) (.slice none 0 0)) (p := ⟨y, 3, none⟩) (HYL.out) (.slice none 0 0))
        clear g9 k9
        go_wp2_with fail
        generalize ((((wz.setCell ⟨y, 0, none⟩ (.int .i64 0)).setCell ⟨y, 1, none⟩ (.int .i64 0)).setCell ⟨y, 2, none⟩ (.slice none 0 0)).setCell ⟨y, 3, none⟩ (.slice none 0 0)) = wf at AF RF ⊢
        have d0 := (blk_cell AF 0 (x := .int .i64 0) rfl).1
        have d1 := (blk_cell AF 1 (x := .int .i64 0) rfl).1
        have d2 := (blk_cell AF 2 (x := .slice none 0 0) rfl).1
        have d3 := (blk_cell AF 3 (x := .slice none 0 0) rfl).1
        refine bodyPost_ret (v := .tuple #[.agg #[.int .i64 0, .int .i64 0, .slice none 0 0, .slice none 0 0], .int .i64 (3)]) (by simp [results, Tryz.results19, go_sem, d0, d1, d2, d3]) rfl ?_
        unfold ItP
        rw [HM.out.c, HM.out.t]
        exact ⟨_, _, [], rfl, ⟨rfl, Mem.nil _ _⟩, RF.out⟩
      case true =>
        have HM : Hid (It n sq sz rt vs ps qs 0 ⟨tm, nx, ms.map (·.1), ss⟩) := by have h := HMX.out; rw [(HGD.out rfl).1, (HGD.out rfl).2, HTT.out rfl] at h; exact h
        clear HBD HGD HTT HMX
        obtain ⟨⟨y0, y1, y2, y3⟩, B3, o3⟩ := HZZ.out
        obtain ⟨k9, g9⟩ := HY0.out _ (B3)
        obtain ⟨m0, n0⟩ := blk_cell k9 0 (x := .int .i64 0) rfl
        obtain ⟨m1, n1⟩ := blk_cell k9 1 (x := .int .i64 0) rfl
        obtain ⟨m2, n2⟩ := blk_cell k9 2 (x := .slice none 0 0) rfl
        obtain ⟨m3, n3⟩ := blk_cell k9 3 (x := .slice none 0 0) rfl
        have AF : ((((wz.setCell ⟨y, 0, none⟩ (.int .i64 tm)).setCell ⟨y, 1, none⟩ (.int .i64 nx)).setCell ⟨y, 2, none⟩ (.slice la ln lc)).setCell ⟨y, 3, none⟩ (.slice sa sn sc)).heap[y]? = some (.cells #[.int .i64 tm, .int .i64 nx, .slice la ln lc, .slice sa sn sc] 36 (0, 0)) := (blk_set (blk_set (blk_set (blk_set k9 0 (.int .i64 tm)) 1 (.int .i64 nx)) 2 (.slice la ln lc)) 3 (.slice sa sn sc))
        have RF : Hid (Below w.heap.size w ((((wz.setCell ⟨y, 0, none⟩ (.int .i64 tm)).setCell ⟨y, 1, none⟩ (.int .i64 nx)).setCell ⟨y, 2, none⟩ (.slice la ln lc)).setCell ⟨y, 3, none⟩ (.slice sa sn sc)) ∧ Mem ((((wz.setCell ⟨y, 0, none⟩ (.int .i64 tm)).setCell ⟨y, 1, none⟩ (.int .i64 nx)).setCell ⟨y, 2, none⟩ (.slice la ln lc)).setCell ⟨y, 3, none⟩ (.slice sa sn sc)) w.heap.size (.slice la ln lc) (.slice sa sn sc) ms ss) := ⟨(Below.setCell (Below.setCell (Below.setCell (Below.setCell g9 (p := ⟨y, 0, none⟩) (HYL.out) (.int .i64 tm)) (p := ⟨y, 1, none⟩) (HYL.out) (.int .i64 nx)) (p := ⟨y, 2, none⟩) (HYL.out) (.slice la ln lc)) (p := ⟨y, 3, none⟩) (HYL.out) (.slice sa sn sc)), (Mem.kept o3 (fun g hg _ => ((blk_far (by have := HYB.out; omega) 3 (.slice sa sn sc)).trans ((blk_far (by have := HYB.out; omega) 2 (.slice la ln lc)).trans ((blk_far (by have := HYB.out; omega) 1 (.int .i64 nx)).trans ((blk_far (by have := HYB.out; omega) 0 (.int .i64 tm)).trans (Eq.refl wz.heap[g]?))))))).mono (HWB.out)⟩
        clear g9 k9
        clear o3 B3 HZZ
        go_wp2_with fail
        generalize ((((wz.setCell ⟨y, 0, none⟩ (.int .i64 tm)).setCell ⟨y, 1, none⟩ (.int .i64 nx)).setCell ⟨y, 2, none⟩ (.slice la ln lc)).setCell ⟨y, 3, none⟩ (.slice sa sn sc)) = wf at AF RF ⊢
        have d0 := (blk_cell AF 0 (x := .int .i64 tm) rfl).1
        have d1 := (blk_cell AF 1 (x := .int .i64 nx) rfl).1
        have d2 := (blk_cell AF 2 (x := .slice la ln lc) rfl).1
        have d3 := (blk_cell AF 3 (x := .slice sa sn sc) rfl).1
        refine bodyPost_ret (v := .tuple #[.agg #[.int .i64 tm, .int .i64 nx, .slice la ln lc, .slice sa sn sc], .int .i64 (0)]) (by simp [results, Tryz.results19, go_sem, d0, d1, d2, d3]) rfl ?_
        unfold ItP
        rw [HM.out.c, HM.out.t]
        exact ⟨_, _, ms, rfl, ⟨rfl, RF.out.2⟩, RF.out.1⟩
end Go.Proofs.YtnebohdlndiejaaGreatDoor.Xl
