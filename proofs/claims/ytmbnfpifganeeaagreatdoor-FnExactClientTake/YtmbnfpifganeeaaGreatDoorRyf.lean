/- Replies: marks, ReplyMac, MakeReply, ReplyOK: of the specification. -/
import Derived.Test.YtmbnfpifganeeaaGreatDoorRyc
import Derived.Test.YtmbnfpifganeeaaGreatDoorRye
import Derived.Deep.RegionHeldLaw
import Derived.BigQuiet
namespace Go.Proofs.YtmbnfpifganeeaaGreatDoor.Rys
open Go.RowKit Go.Proofs.YtmbnfpifganeeaaGreatDoor.Sl Go.Proofs.YtmbnfpifganeeaaGreatDoor.By Go.Proofs.YtmbnfpifganeeaaGreatDoor.Ap Go.Proofs.YtmbnfpifganeeaaGreatDoor.Tx Go.Proofs.YtmbnfpifganeeaaGreatDoor.Sh Go.Proofs.YtmbnfpifganeeaaGreatDoor.Ho Go.Proofs.YtmbnfpifganeeaaGreatDoor.Fz Go.Proofs.YtmbnfpifganeeaaGreatDoor.Pu Go.Proofs.YtmbnfpifganeeaaGreatDoor.Fu Go.Proofs.YtmbnfpifganeeaaGreatDoor.Mr Go.Proofs.YtmbnfpifganeeaaGreatDoor.Rm Go.Proofs.YtmbnfpifganeeaaGreatDoor.Fq
open Go.Proofs.YtmbnfpifganeeaaGreatDoor.Gy (Re oneV)
open Go.Proofs.YtmbnfpifganeeaaGreatDoor.Ry
open Go.Proofs.YtmbnfpifganeeaaGreatDoor.Tm (fCode fOut f_cases implFaultsOf_any)

set_option maxRecDepth 100000 in
set_option maxHeartbeats 1600000 in
theorem l11Mac_any (x : Re) (w : World) (hf : foB x = true) :
    Calls Tryz.prog 50 #[oneV x] w fun e w' => e = .returned (.string (rymk x)) ∧ Below w.heap.size w w' := by
  obtain ⟨⟨hn0, hn1⟩, _⟩ := fo_nat hf
  have HX : Hid (∀ W, Below (w.alloc (.cells #[.int .i64 x.nd, .int .i64 x.cl, .int .i64 x.st, .int .i64 x.kd, .int .i64 x.tk, .int .i64 x.hd, .int .i64 x.ex, .string x.mc] 44)).heap.size (w.alloc (.cells #[.int .i64 x.nd, .int .i64 x.cl, .int .i64 x.st, .int .i64 x.kd, .int .i64 x.tk, .int .i64 x.hd, .int .i64 x.ex, .string x.mc] 44)) W → (W.cell? ⟨w.heap.size, 0, none⟩ = some (.int .i64 x.nd) ∧ W.cell? ⟨w.heap.size, 1, none⟩ = some (.int .i64 x.cl) ∧ W.cell? ⟨w.heap.size, 2, none⟩ = some (.int .i64 x.st) ∧ W.cell? ⟨w.heap.size, 3, none⟩ = some (.int .i64 x.kd) ∧ W.cell? ⟨w.heap.size, 4, none⟩ = some (.int .i64 x.tk) ∧ W.cell? ⟨w.heap.size, 5, none⟩ = some (.int .i64 x.hd) ∧ W.cell? ⟨w.heap.size, 6, none⟩ = some (.int .i64 x.ex) ∧ W.cell? ⟨w.heap.size, 7, none⟩ = some (.string x.mc)) ∧ Below w.heap.size w W) := fun W hW => by
    have h1 := (hW.block w.heap.size (by simp)).trans (heap_alloc_new w _)
    exact ⟨⟨(Rg.blk_cell h1 0 rfl).1, (Rg.blk_cell h1 1 rfl).1, (Rg.blk_cell h1 2 rfl).1, (Rg.blk_cell h1 3 rfl).1, (Rg.blk_cell h1 4 rfl).1, (Rg.blk_cell h1 5 rfl).1, (Rg.blk_cell h1 6 rfl).1, (Rg.blk_cell h1 7 rfl).1⟩, (bel_new w _).trans (hW.mono (by simp))⟩
  have hnn : ((x.nd.toNat : Nat) : Int) = x.nd := by omega
  have HN : Hid (reBs x ≠ [] ∧ (reBs x).length ≤ 60000) := ⟨fun e => by have := re_len x; rw [e] at this; simp at this, by rw [re_len]; omega⟩
  have HMM : Hid (∀ W v, RowB W v (reBs x) → Calls Tryz.prog 58 #[.int .i64 x.nd, v] W fun e w' => e = .returned (.string (rymk x)) ∧ Below W.heap.size W w') := fun W v hr => by
    have h := l04Mac_any x.nd.toNat v (reBs x) W (by omega) hr HN.out.1 HN.out.2
    rw [hnn] at h
    exact h
  have HP0 : Hid (∀ W, Calls Tryz.prog 59 #[.agg #[.int .i64 x.nd, .int .i64 x.cl, .int .i64 x.st, .int .i64 x.kd, .int .i64 x.tk, .int .i64 x.hd, .int .i64 x.ex, .string x.mc]] W fun e w' => ∃ v, e = .returned v ∧ RowB w' v (reBs x) ∧ Below W.heap.size W w') := fun W => l11Plain_any x W hf
  clear hf hnn HN hn0 hn1
  unfold oneV
  go_enter Tryz.func50, Tryz.ntmps50
  go_upto_region 1 with fail
  generalize w.alloc (.cells #[.int .i64 x.nd, .int .i64 x.cl, .int .i64 x.st, .int .i64 x.kd, .int .i64 x.tk, .int .i64 x.hd, .int .i64 x.ex, .string x.mc] 44) = wb at HX ⊢
  have G0 : Hid (Below wb.heap.size wb wb.drew) := (Below.refl _ _).drew
  have HP : Hid (Calls Tryz.prog 59 #[.agg #[.int .i64 x.nd, .int .i64 x.cl, .int .i64 x.st, .int .i64 x.kd, .int .i64 x.tk, .int .i64 x.hd, .int .i64 x.ex, .string x.mc]] wb.drew fun e w' => ∃ v, e = .returned v ∧ RowB w' v (reBs x) ∧ Below wb.heap.size wb w') := (HP0.out _).mono fun e w' ⟨v, h1, h2, h3⟩ => ⟨v, h1, h2, G0.out.trans h3⟩
  have HM : Hid (∀ W v, RowB W v (reBs x) → Below wb.heap.size wb W → Calls Tryz.prog 58 #[.int .i64 x.nd, v] W fun e w' => e = .returned (.string (rymk x)) ∧ Below wb.heap.size wb w') := fun W v hr hW => (HMM.out W v hr).mono fun e w' ⟨h1, h2⟩ => ⟨h1, hW.trans (h2.mono hW.size)⟩
  clear HP0 HMM
  generalize reBs x = zs at HP HM
  obtain ⟨o, HOO⟩ : ∃ o, Hid (rymk x = o) := ⟨_, rfl⟩
  rw [HOO.out] at HM
  go_region_held_law (fun W => W.cell? ⟨w.heap.size, 0, none⟩ = some (.int .i64 x.nd) ∧ W.cell? ⟨w.heap.size, 1, none⟩ = some (.int .i64 x.cl) ∧ W.cell? ⟨w.heap.size, 2, none⟩ = some (.int .i64 x.st) ∧ W.cell? ⟨w.heap.size, 3, none⟩ = some (.int .i64 x.kd) ∧ W.cell? ⟨w.heap.size, 4, none⟩ = some (.int .i64 x.tk) ∧ W.cell? ⟨w.heap.size, 5, none⟩ = some (.int .i64 x.hd) ∧ W.cell? ⟨w.heap.size, 6, none⟩ = some (.int .i64 x.ex) ∧ W.cell? ⟨w.heap.size, 7, none⟩ = some (.string x.mc)) (first | exact (HX.out _ G0.out).1 | exact (HX.out _ g1).1 | exact (HX.out _ g2).1)
    (first
      | (go_simp; go_at_call 59; (with_reducible refine HP.out.mono ?_); rintro e w1 ⟨v1, rfl, r1, g1⟩; try go_simp)
      | (go_simp; go_at_call 58; (with_reducible refine (HM.out _ _ r1 g1).mono ?_); rintro e w2 ⟨rfl, g2⟩; try go_simp))
  all_goals
    have G2 : Hid (Below w.heap.size w w2) := (HX.out _ g2).2
    go_wp2_with fail
    go_ret
    exact ⟨Tx.ret_str HOO.out.symm, G2.out⟩
set_option maxRecDepth 100000 in
set_option maxHeartbeats 1600000 in
theorem l11OK_any (n : Int) (x : Re) (w : World) :
    Calls Tryz.prog 38 #[.int .i64 n, oneV x] w fun e w' => e = .returned (.bool (lokB n x)) ∧ Below w.heap.size w w' := by
  have HX : Hid (∀ W, Below (w.alloc (.cells #[.int .i64 x.nd, .int .i64 x.cl, .int .i64 x.st, .int .i64 x.kd, .int .i64 x.tk, .int .i64 x.hd, .int .i64 x.ex, .string x.mc] 44)).heap.size (w.alloc (.cells #[.int .i64 x.nd, .int .i64 x.cl, .int .i64 x.st, .int .i64 x.kd, .int .i64 x.tk, .int .i64 x.hd, .int .i64 x.ex, .string x.mc] 44)) W → (W.cell? ⟨w.heap.size, 0, none⟩ = some (.int .i64 x.nd) ∧ W.cell? ⟨w.heap.size, 1, none⟩ = some (.int .i64 x.cl) ∧ W.cell? ⟨w.heap.size, 2, none⟩ = some (.int .i64 x.st) ∧ W.cell? ⟨w.heap.size, 3, none⟩ = some (.int .i64 x.kd) ∧ W.cell? ⟨w.heap.size, 4, none⟩ = some (.int .i64 x.tk) ∧ W.cell? ⟨w.heap.size, 5, none⟩ = some (.int .i64 x.hd) ∧ W.cell? ⟨w.heap.size, 6, none⟩ = some (.int .i64 x.ex) ∧ W.cell? ⟨w.heap.size, 7, none⟩ = some (.string x.mc)) ∧ Below w.heap.size w W) := fun W hW => by
    have h1 := (hW.block w.heap.size (by simp)).trans (heap_alloc_new w _)
    exact ⟨⟨(Rg.blk_cell h1 0 rfl).1, (Rg.blk_cell h1 1 rfl).1, (Rg.blk_cell h1 2 rfl).1, (Rg.blk_cell h1 3 rfl).1, (Rg.blk_cell h1 4 rfl).1, (Rg.blk_cell h1 5 rfl).1, (Rg.blk_cell h1 6 rfl).1, (Rg.blk_cell h1 7 rfl).1⟩, (bel_new w _).trans (hW.mono (by simp))⟩
  have HO : Hid (∀ W, Calls Tryz.prog 49 #[.agg #[.int .i64 x.nd, .int .i64 x.cl, .int .i64 x.st, .int .i64 x.kd, .int .i64 x.tk, .int .i64 x.hd, .int .i64 x.ex, .string x.mc]] W fun e w' => e = .returned (.bool (foB x)) ∧ Below W.heap.size W w') := fun W => l11Form_any x W
  cases h1 : foB x with
  | false =>
    rw [h1] at HO
    have HE : Hid (lokB n x = false) := by show _ = _; unfold lokB; rw [h1]; rfl
    clear h1
    unfold oneV
    go_enter Tryz.func38, Tryz.ntmps38
    go_upto_region 1 with fail
    generalize w.alloc (.cells #[.int .i64 x.nd, .int .i64 x.cl, .int .i64 x.st, .int .i64 x.kd, .int .i64 x.tk, .int .i64 x.hd, .int .i64 x.ex, .string x.mc] 44) = wb at HX ⊢
    obtain ⟨X, hX, W, QI0, QO0⟩ := Qc.klass wb
    have QI : Hid (∀ w', Below wb.heap.size wb w' → ∃ x, w' = W x) := QI0
    have QO : Hid (∀ x, Below wb.heap.size wb (W x)) := QO0
    clear QI0 QO0
    have y0 := fun q => (HX.out _ (QO.out q)).1.1
    have y1 := fun q => (HX.out _ (QO.out q)).1.2.1
    have y2 := fun q => (HX.out _ (QO.out q)).1.2.2.1
    have y3 := fun q => (HX.out _ (QO.out q)).1.2.2.2.1
    have y4 := fun q => (HX.out _ (QO.out q)).1.2.2.2.2.1
    have y5 := fun q => (HX.out _ (QO.out q)).1.2.2.2.2.2.1
    have y6 := fun q => (HX.out _ (QO.out q)).1.2.2.2.2.2.2.1
    have y7 := fun q => (HX.out _ (QO.out q)).1.2.2.2.2.2.2.2
    refine Qc.region_class (W := W) (by kernel_rfl) (by kernel_rfl) (QI.out _ Qc.from_drew) ?_
    repeat (go_big_quiet_step (first | (go_at_call 49; refine (HO.out _).mono ?_; rintro e w2 ⟨rfl, b2⟩; exact ⟨rfl, Qc.back QI.out QO.out b2⟩)))
    refine wpQuiet_nil ?_
    rintro _ ⟨xq, rfl⟩
    have G2 : Hid (Below w.heap.size w (W xq)) := (HX.out _ (QO.out xq)).2
    clear y0 y1 y2 y3 y4 y5 y6 y7
    generalize W xq = wq at G2 ⊢
    go_wp2_with fail
    go_ret
    exact ⟨ret_bool HE.out.symm, G2.out⟩
  | true =>
    rw [h1] at HO
    by_cases h2 : x.nd < n
    · have HE : Hid (lokB n x = ((rymk x).toList == x.mc.toList)) := by show _ = _; unfold lokB; rw [h1, decide_eq_true h2]; rfl
      have HM : Hid (∀ W, Calls Tryz.prog 50 #[.agg #[.int .i64 x.nd, .int .i64 x.cl, .int .i64 x.st, .int .i64 x.kd, .int .i64 x.tk, .int .i64 x.hd, .int .i64 x.ex, .string x.mc]] W fun e w' => e = .returned (.string (rymk x)) ∧ Below W.heap.size W w') := fun W => l11Mac_any x W h1
      have h2' : decide (x.nd < n) = true := decide_eq_true h2
      clear h1
      generalize rymk x = o at HE HM
      unfold oneV
      go_enter Tryz.func38, Tryz.ntmps38
      go_upto_region 1 with fail
      generalize w.alloc (.cells #[.int .i64 x.nd, .int .i64 x.cl, .int .i64 x.st, .int .i64 x.kd, .int .i64 x.tk, .int .i64 x.hd, .int .i64 x.ex, .string x.mc] 44) = wb at HX ⊢
      obtain ⟨X, hX, W, QI0, QO0⟩ := Qc.klass wb
      have QI : Hid (∀ w', Below wb.heap.size wb w' → ∃ x, w' = W x) := QI0
      have QO : Hid (∀ x, Below wb.heap.size wb (W x)) := QO0
      clear QI0 QO0
      have y0 := fun q => (HX.out _ (QO.out q)).1.1
      have y1 := fun q => (HX.out _ (QO.out q)).1.2.1
      have y2 := fun q => (HX.out _ (QO.out q)).1.2.2.1
      have y3 := fun q => (HX.out _ (QO.out q)).1.2.2.2.1
      have y4 := fun q => (HX.out _ (QO.out q)).1.2.2.2.2.1
      have y5 := fun q => (HX.out _ (QO.out q)).1.2.2.2.2.2.1
      have y6 := fun q => (HX.out _ (QO.out q)).1.2.2.2.2.2.2.1
      have y7 := fun q => (HX.out _ (QO.out q)).1.2.2.2.2.2.2.2
      refine Qc.region_class (W := W) (by kernel_rfl) (by kernel_rfl) (QI.out _ Qc.from_drew) ?_
      repeat (go_big_quiet_step (first | (go_at_call 49; refine (HO.out _).mono ?_; rintro e w2 ⟨rfl, b2⟩; exact ⟨rfl, Qc.back QI.out QO.out b2⟩) | (go_at_call 50; refine (HM.out _).mono ?_; rintro e w2 ⟨rfl, b2⟩; exact ⟨rfl, Qc.back QI.out QO.out b2⟩)))
      refine wpQuiet_nil ?_
      rintro _ ⟨xq, rfl⟩
      have G2 : Hid (Below w.heap.size w (W xq)) := (HX.out _ (QO.out xq)).2
      clear y0 y1 y2 y3 y4 y5 y6 y7
      generalize W xq = wq at G2 ⊢
      go_wp2_with fail
      go_ret
      exact ⟨ret_bool HE.out.symm, G2.out⟩
    · have HE : Hid (lokB n x = false) := by show _ = _; unfold lokB; rw [h1, decide_eq_false h2]; rfl
      have h2' : decide (x.nd < n) = false := decide_eq_false h2
      clear h1
      unfold oneV
      go_enter Tryz.func38, Tryz.ntmps38
      go_upto_region 1 with fail
      generalize w.alloc (.cells #[.int .i64 x.nd, .int .i64 x.cl, .int .i64 x.st, .int .i64 x.kd, .int .i64 x.tk, .int .i64 x.hd, .int .i64 x.ex, .string x.mc] 44) = wb at HX ⊢
      obtain ⟨X, hX, W, QI0, QO0⟩ := Qc.klass wb
      have QI : Hid (∀ w', Below wb.heap.size wb w' → ∃ x, w' = W x) := QI0
      have QO : Hid (∀ x, Below wb.heap.size wb (W x)) := QO0
      clear QI0 QO0
      have y0 := fun q => (HX.out _ (QO.out q)).1.1
      have y1 := fun q => (HX.out _ (QO.out q)).1.2.1
      have y2 := fun q => (HX.out _ (QO.out q)).1.2.2.1
      have y3 := fun q => (HX.out _ (QO.out q)).1.2.2.2.1
      have y4 := fun q => (HX.out _ (QO.out q)).1.2.2.2.2.1
      have y5 := fun q => (HX.out _ (QO.out q)).1.2.2.2.2.2.1
      have y6 := fun q => (HX.out _ (QO.out q)).1.2.2.2.2.2.2.1
      have y7 := fun q => (HX.out _ (QO.out q)).1.2.2.2.2.2.2.2
      refine Qc.region_class (W := W) (by kernel_rfl) (by kernel_rfl) (QI.out _ Qc.from_drew) ?_
      repeat (go_big_quiet_step (first | (go_at_call 49; refine (HO.out _).mono ?_; rintro e w2 ⟨rfl, b2⟩; exact ⟨rfl, Qc.back QI.out QO.out b2⟩)))
      refine wpQuiet_nil ?_
      rintro _ ⟨xq, rfl⟩
      have G2 : Hid (Below w.heap.size w (W xq)) := (HX.out _ (QO.out xq)).2
      clear y0 y1 y2 y3 y4 y5 y6 y7
      generalize W xq = wq at G2 ⊢
      go_wp2_with fail
      go_ret
      exact ⟨ret_bool HE.out.symm, G2.out⟩
end Go.Proofs.YtmbnfpifganeeaaGreatDoor.Rys
