/- Replies: marks, ReplyMac, MakeReply, ReplyOK: of the specification. -/
import Derived.Test.YtipoajjijalibaaDoorRyc
import Derived.Test.YtipoajjijalibaaDoorRye
import Derived.Deep.RegionHeldLaw
import Derived.BigQuiet
namespace Go.Proofs.YtipoajjijalibaaDoor.Rys
open Go.RowKit Go.Proofs.YtipoajjijalibaaDoor.Sl Go.Proofs.YtipoajjijalibaaDoor.By Go.Proofs.YtipoajjijalibaaDoor.Ap Go.Proofs.YtipoajjijalibaaDoor.Tx Go.Proofs.YtipoajjijalibaaDoor.Sh Go.Proofs.YtipoajjijalibaaDoor.Ho Go.Proofs.YtipoajjijalibaaDoor.Fz Go.Proofs.YtipoajjijalibaaDoor.Pu Go.Proofs.YtipoajjijalibaaDoor.Fu Go.Proofs.YtipoajjijalibaaDoor.Mr Go.Proofs.YtipoajjijalibaaDoor.Rm Go.Proofs.YtipoajjijalibaaDoor.Fq
open Go.Proofs.YtipoajjijalibaaDoor.Gy (Re oneV)
open Go.Proofs.YtipoajjijalibaaDoor.Ry
open Go.Proofs.YtipoajjijalibaaDoor.Tm (fCode fOut f_cases implFaultsOf_any)

set_option maxRecDepth 100000 in
set_option maxHeartbeats 1600000 in
theorem l11Mac_any (x : Re) (w : World) (hf : foB x = true) :
    Calls Tryd.prog 38 #[oneV x] w fun e w' => e = .returned (.string (rymk x)) ∧ Below w.heap.size w w' := by
  obtain ⟨⟨hn0, hn1⟩, _⟩ := fo_nat hf
  have HX : Hid (∀ W, Below (w.alloc (.cells #[.int .i64 x.nd, .int .i64 x.cl, .int .i64 x.st, .int .i64 x.kd, .int .i64 x.tk, .int .i64 x.hd, .int .i64 x.ex, .string x.mc] 30)).heap.size (w.alloc (.cells #[.int .i64 x.nd, .int .i64 x.cl, .int .i64 x.st, .int .i64 x.kd, .int .i64 x.tk, .int .i64 x.hd, .int .i64 x.ex, .string x.mc] 30)) W → (W.cell? ⟨w.heap.size, 0, none⟩ = some (.int .i64 x.nd) ∧ W.cell? ⟨w.heap.size, 1, none⟩ = some (.int .i64 x.cl) ∧ W.cell? ⟨w.heap.size, 2, none⟩ = some (.int .i64 x.st) ∧ W.cell? ⟨w.heap.size, 3, none⟩ = some (.int .i64 x.kd) ∧ W.cell? ⟨w.heap.size, 4, none⟩ = some (.int .i64 x.tk) ∧ W.cell? ⟨w.heap.size, 5, none⟩ = some (.int .i64 x.hd) ∧ W.cell? ⟨w.heap.size, 6, none⟩ = some (.int .i64 x.ex) ∧ W.cell? ⟨w.heap.size, 7, none⟩ = some (.string x.mc)) ∧ Below w.heap.size w W) := fun W hW => by
    have h1 := (hW.block w.heap.size (by simp)).trans (heap_alloc_new w _)
    exact ⟨⟨(Rg.blk_cell h1 0 rfl).1, (Rg.blk_cell h1 1 rfl).1, (Rg.blk_cell h1 2 rfl).1, (Rg.blk_cell h1 3 rfl).1, (Rg.blk_cell h1 4 rfl).1, (Rg.blk_cell h1 5 rfl).1, (Rg.blk_cell h1 6 rfl).1, (Rg.blk_cell h1 7 rfl).1⟩, (bel_new w _).trans (hW.mono (by simp))⟩
  have hnn : ((x.nd.toNat : Nat) : Int) = x.nd := by omega
  have HN : Hid (reBs x ≠ [] ∧ (reBs x).length ≤ 60000) := ⟨fun e => by have := re_len x; rw [e] at this; simp at this, by rw [re_len]; omega⟩
  have HMM : Hid (∀ W v, RowB W v (reBs x) → Calls Tryd.prog 51 #[.int .i64 x.nd, v] W fun e w' => e = .returned (.string (rymk x)) ∧ Below W.heap.size W w') := fun W v hr => by
    have h := l04Mac_any x.nd.toNat v (reBs x) W (by omega) hr HN.out.1 HN.out.2
    rw [hnn] at h
    exact h
  have HP0 : Hid (∀ W, Calls Tryd.prog 52 #[.agg #[.int .i64 x.nd, .int .i64 x.cl, .int .i64 x.st, .int .i64 x.kd, .int .i64 x.tk, .int .i64 x.hd, .int .i64 x.ex, .string x.mc]] W fun e w' => ∃ v, e = .returned v ∧ RowB w' v (reBs x) ∧ Below W.heap.size W w') := fun W => l11Plain_any x W hf
  clear hf hnn HN hn0 hn1
  unfold oneV
  go_enter Tryd.func38, Tryd.ntmps38
  go_upto_region 1 with fail
  generalize w.alloc (.cells #[.int .i64 x.nd, .int .i64 x.cl, .int .i64 x.st, .int .i64 x.kd, .int .i64 x.tk, .int .i64 x.hd, .int .i64 x.ex, .string x.mc] 30) = wb at HX ⊢
  have G0 : Hid (Below wb.heap.size wb wb.drew) := (Below.refl _ _).drew
  have HP : Hid (Calls Tryd.prog 52 #[.agg #[.int .i64 x.nd, .int .i64 x.cl, .int .i64 x.st, .int .i64 x.kd, .int .i64 x.tk, .int .i64 x.hd, .int .i64 x.ex, .string x.mc]] wb.drew fun e w' => ∃ v, e = .returned v ∧ RowB w' v (reBs x) ∧ Below wb.heap.size wb w') := (HP0.out _).mono fun e w' ⟨v, h1, h2, h3⟩ => ⟨v, h1, h2, G0.out.trans h3⟩
  have HM : Hid (∀ W v, RowB W v (reBs x) → Below wb.heap.size wb W → Calls Tryd.prog 51 #[.int .i64 x.nd, v] W fun e w' => e = .returned (.string (rymk x)) ∧ Below wb.heap.size wb w') := fun W v hr hW => (HMM.out W v hr).mono fun e w' ⟨h1, h2⟩ => ⟨h1, hW.trans (h2.mono hW.size)⟩
  clear HP0 HMM
  generalize reBs x = zs at HP HM
  obtain ⟨o, HOO⟩ : ∃ o, Hid (rymk x = o) := ⟨_, rfl⟩
  rw [HOO.out] at HM
  go_region_held_law (fun W => W.cell? ⟨w.heap.size, 0, none⟩ = some (.int .i64 x.nd) ∧ W.cell? ⟨w.heap.size, 1, none⟩ = some (.int .i64 x.cl) ∧ W.cell? ⟨w.heap.size, 2, none⟩ = some (.int .i64 x.st) ∧ W.cell? ⟨w.heap.size, 3, none⟩ = some (.int .i64 x.kd) ∧ W.cell? ⟨w.heap.size, 4, none⟩ = some (.int .i64 x.tk) ∧ W.cell? ⟨w.heap.size, 5, none⟩ = some (.int .i64 x.hd) ∧ W.cell? ⟨w.heap.size, 6, none⟩ = some (.int .i64 x.ex) ∧ W.cell? ⟨w.heap.size, 7, none⟩ = some (.string x.mc)) (first | exact (HX.out _ G0.out).1 | exact (HX.out _ g1).1 | exact (HX.out _ g2).1)
    (first
      | (go_simp; go_at_call 52; (with_reducible refine HP.out.mono ?_); rintro e w1 ⟨v1, rfl, r1, g1⟩; try go_simp)
      | (go_simp; go_at_call 51; (with_reducible refine (HM.out _ _ r1 g1).mono ?_); rintro e w2 ⟨rfl, g2⟩; try go_simp))
  all_goals
    have G2 : Hid (Below w.heap.size w w2) := (HX.out _ g2).2
    go_wp2_with fail
    go_ret
    exact ⟨Tx.ret_str HOO.out.symm, G2.out⟩
set_option maxRecDepth 100000 in
set_option maxHeartbeats 1600000 in
theorem specReplyMac_any (x : Re) (w : World) :
    Calls Tryd.prog 17 #[oneV x] w fun e w' => e = .returned (.tuple #[.string (rmO x), .int .i64 (rmC x)]) ∧ Below w.heap.size w w' := by
  have HX : Hid (∀ W, Below (w.alloc (.cells #[.int .i64 x.nd, .int .i64 x.cl, .int .i64 x.st, .int .i64 x.kd, .int .i64 x.tk, .int .i64 x.hd, .int .i64 x.ex, .string x.mc] 30)).heap.size (w.alloc (.cells #[.int .i64 x.nd, .int .i64 x.cl, .int .i64 x.st, .int .i64 x.kd, .int .i64 x.tk, .int .i64 x.hd, .int .i64 x.ex, .string x.mc] 30)) W → (W.cell? ⟨w.heap.size, 0, none⟩ = some (.int .i64 x.nd) ∧ W.cell? ⟨w.heap.size, 1, none⟩ = some (.int .i64 x.cl) ∧ W.cell? ⟨w.heap.size, 2, none⟩ = some (.int .i64 x.st) ∧ W.cell? ⟨w.heap.size, 3, none⟩ = some (.int .i64 x.kd) ∧ W.cell? ⟨w.heap.size, 4, none⟩ = some (.int .i64 x.tk) ∧ W.cell? ⟨w.heap.size, 5, none⟩ = some (.int .i64 x.hd) ∧ W.cell? ⟨w.heap.size, 6, none⟩ = some (.int .i64 x.ex) ∧ W.cell? ⟨w.heap.size, 7, none⟩ = some (.string x.mc)) ∧ Below w.heap.size w W) := fun W hW => by
    have h1 := (hW.block w.heap.size (by simp)).trans (heap_alloc_new w _)
    exact ⟨⟨(Rg.blk_cell h1 0 rfl).1, (Rg.blk_cell h1 1 rfl).1, (Rg.blk_cell h1 2 rfl).1, (Rg.blk_cell h1 3 rfl).1, (Rg.blk_cell h1 4 rfl).1, (Rg.blk_cell h1 5 rfl).1, (Rg.blk_cell h1 6 rfl).1, (Rg.blk_cell h1 7 rfl).1⟩, (bel_new w _).trans (hW.mono (by simp))⟩
  have HO : Hid (∀ W, Calls Tryd.prog 30 #[.agg #[.int .i64 x.nd, .int .i64 x.cl, .int .i64 x.st, .int .i64 x.kd, .int .i64 x.tk, .int .i64 x.hd, .int .i64 x.ex, .string x.mc]] W fun e w' => e = .returned (.bool (foB x)) ∧ Below W.heap.size W w') := fun W => l11Form_any x W
  cases hf : foB x with
  | false =>
    rw [hf] at HO
    have HE : Hid (rmO x = ⟨#[]⟩ ∧ rmC x = 1) := rm_no hf
    clear hf
    unfold oneV
    go_enter Tryd.func17, Tryd.ntmps17
    go_upto_region 1 with fail
    generalize w.alloc (.cells #[.int .i64 x.nd, .int .i64 x.cl, .int .i64 x.st, .int .i64 x.kd, .int .i64 x.tk, .int .i64 x.hd, .int .i64 x.ex, .string x.mc] 30) = wb at HX ⊢
    obtain ⟨⟨c0, c1, c2, c3, c4, c5, c6, c7⟩, _⟩ := HX.out _ (Below.refl _ _)
    go_wp2_with fail
    refine (HO.out _).mono ?_
    rintro e w1 ⟨rfl, b1⟩
    have G1 : Hid (Below w.heap.size w w1) := (HX.out _ b1).2
    clear b1 c0 c1 c2 c3 c4 c5 c6 c7
    go_wp2_with fail
    go_ret2
    exact ⟨ret_sc ⟨HE.out.1.symm, HE.out.2.symm⟩, G1.out⟩
  | true =>
    rw [hf] at HO
    have HE : Hid (rmO x = rymk x ∧ rmC x = 0) := rm_yes hf
    have HM : Hid (∀ W, Below w.heap.size w W → Calls Tryd.prog 38 #[.agg #[.int .i64 x.nd, .int .i64 x.cl, .int .i64 x.st, .int .i64 x.kd, .int .i64 x.tk, .int .i64 x.hd, .int .i64 x.ex, .string x.mc]] W fun e w' => e = .returned (.string (rymk x)) ∧ Below W.heap.size W w') := fun W hW => l11Mac_any x W hf
    clear hf
    unfold oneV
    go_enter Tryd.func17, Tryd.ntmps17
    go_upto_region 1 with fail
    generalize w.alloc (.cells #[.int .i64 x.nd, .int .i64 x.cl, .int .i64 x.st, .int .i64 x.kd, .int .i64 x.tk, .int .i64 x.hd, .int .i64 x.ex, .string x.mc] 30) = wb at HX ⊢
    obtain ⟨⟨c0, c1, c2, c3, c4, c5, c6, c7⟩, _⟩ := HX.out _ (Below.refl _ _)
    go_wp2_with fail
    refine (HO.out _).mono ?_
    rintro e w1 ⟨rfl, b1⟩
    clear c0 c1 c2 c3 c4 c5 c6 c7
    obtain ⟨⟨c0, c1, c2, c3, c4, c5, c6, c7⟩, g1⟩ := HX.out _ b1
    have G1 : Hid (Below w.heap.size w w1) := g1
    clear b1 g1
    go_wp2_with fail
    refine (HM.out _ G1.out).mono ?_
    rintro e w2 ⟨rfl, b2⟩
    have G2 : Hid (Below w.heap.size w w2) := G1.out.trans (b2.mono G1.out.size)
    clear b2 c0 c1 c2 c3 c4 c5 c6 c7
    go_wp2_with fail
    go_ret2
    exact ⟨ret_sc ⟨HE.out.1.symm, HE.out.2.symm⟩, G2.out⟩
set_option maxRecDepth 100000 in
set_option maxHeartbeats 1600000 in
theorem l11Make_any (n c s k t h e0 : Int) (w : World) (hf : foB (r0 n c s k t h e0) = true) :
    Calls Tryd.prog 31 #[.int .i64 n, .int .i64 c, .int .i64 s, .agg #[.int .i64 k, .int .i64 t, .int .i64 h, .int .i64 e0]] w fun e w' => e = .returned (.agg #[.int .i64 n, .int .i64 c, .int .i64 s, .int .i64 k, .int .i64 t, .int .i64 h, .int .i64 e0, .string (rymk (r0 n c s k t h e0))]) ∧ Below w.heap.size w w' := by
  have HM : Hid (∀ W, Calls Tryd.prog 38 #[.agg #[.int .i64 n, .int .i64 c, .int .i64 s, .int .i64 k, .int .i64 t, .int .i64 h, .int .i64 e0, .string ⟨#[]⟩]] W fun e w' => e = .returned (.string (rymk (r0 n c s k t h e0))) ∧ Below W.heap.size W w') := fun W => l11Mac_any (r0 n c s k t h e0) W hf
  clear hf
  generalize rymk (r0 n c s k t h e0) = o at HM
  go_enter Tryd.func31, Tryd.ntmps31
  go_wp2_with fail
  refine (HM.out _).mono ?_
  rintro e w2 ⟨rfl, b1⟩
  obtain ⟨k0, k1, k2, kS, kB⟩ := Rg.three b1
  have K1b : Hid (w2.heap[w.heap.size + 1]? = some (.cells #[.int .i64 0, .int .i64 0, .int .i64 0, .int .i64 0, .int .i64 0, .int .i64 0, .int .i64 0, .string ⟨#[]⟩] 30 (0, 0))) := k1
  have K2b : Hid (w2.heap[w.heap.size + 1 + 1]? = some (.cells #[.int .i64 n, .int .i64 c, .int .i64 s, .int .i64 k, .int .i64 t, .int .i64 h, .int .i64 e0, .string ⟨#[]⟩] 30 (0, 0))) := k2
  have KB2 : Hid (Below w.heap.size w w2) := kB
  clear b1 k0 k1 k2 kB kS
  obtain ⟨s7, t7⟩ := Rg.blk_cell K2b.out 7 (x := .string ⟨#[]⟩) rfl
  have B3 : Hid ((w2.setCell ⟨w.heap.size + 1 + 1, 7, none⟩ (.string o)).heap[w.heap.size + 1 + 1]? = some (.cells #[.int .i64 n, .int .i64 c, .int .i64 s, .int .i64 k, .int .i64 t, .int .i64 h, .int .i64 e0, .string o] 30 (0, 0))) := Rg.blk_set K2b.out _ _
  have A3 : Hid ((w2.setCell ⟨w.heap.size + 1 + 1, 7, none⟩ (.string o)).heap[w.heap.size + 1]? = some (.cells #[.int .i64 0, .int .i64 0, .int .i64 0, .int .i64 0, .int .i64 0, .int .i64 0, .int .i64 0, .string ⟨#[]⟩] 30 (0, 0))) := (Rg.blk_far (by omega) _ _).trans K1b.out
  have G3 : Hid (Below w.heap.size w (w2.setCell ⟨w.heap.size + 1 + 1, 7, none⟩ (.string o))) := Below.setCell KB2.out (p := ⟨w.heap.size + 1 + 1, 7, none⟩) (by first | omega | (simp; done) | (simp; omega)) (.string o)
  clear K1b K2b KB2
  go_upto_region 3 with fail
  generalize w2.setCell ⟨w.heap.size + 1 + 1, 7, none⟩ (.string o) = w9 at B3 A3 G3 ⊢
  clear s7 t7
  have p0 := (Rg.blk_cell B3.out 0 (x := .int .i64 n) rfl).1
  have p1 := (Rg.blk_cell B3.out 1 (x := .int .i64 c) rfl).1
  have p2 := (Rg.blk_cell B3.out 2 (x := .int .i64 s) rfl).1
  have p3 := (Rg.blk_cell B3.out 3 (x := .int .i64 k) rfl).1
  have p4 := (Rg.blk_cell B3.out 4 (x := .int .i64 t) rfl).1
  have p5 := (Rg.blk_cell B3.out 5 (x := .int .i64 h) rfl).1
  have p6 := (Rg.blk_cell B3.out 6 (x := .int .i64 e0) rfl).1
  have p7 := (Rg.blk_cell B3.out 7 (x := .string o) rfl).1
  obtain ⟨m0, n0⟩ := Rg.blk_cell A3.out 0 (x := .int .i64 0) rfl
  obtain ⟨m1, n1⟩ := Rg.blk_cell A3.out 1 (x := .int .i64 0) rfl
  obtain ⟨m2, n2⟩ := Rg.blk_cell A3.out 2 (x := .int .i64 0) rfl
  obtain ⟨m3, n3⟩ := Rg.blk_cell A3.out 3 (x := .int .i64 0) rfl
  obtain ⟨m4, n4⟩ := Rg.blk_cell A3.out 4 (x := .int .i64 0) rfl
  obtain ⟨m5, n5⟩ := Rg.blk_cell A3.out 5 (x := .int .i64 0) rfl
  obtain ⟨m6, n6⟩ := Rg.blk_cell A3.out 6 (x := .int .i64 0) rfl
  obtain ⟨m7, n7⟩ := Rg.blk_cell A3.out 7 (x := .string ⟨#[]⟩) rfl
  have AF : ((((((((w9.setCell ⟨w.heap.size + 1, 0, none⟩ (.int .i64 n)).setCell ⟨w.heap.size + 1, 1, none⟩ (.int .i64 c)).setCell ⟨w.heap.size + 1, 2, none⟩ (.int .i64 s)).setCell ⟨w.heap.size + 1, 3, none⟩ (.int .i64 k)).setCell ⟨w.heap.size + 1, 4, none⟩ (.int .i64 t)).setCell ⟨w.heap.size + 1, 5, none⟩ (.int .i64 h)).setCell ⟨w.heap.size + 1, 6, none⟩ (.int .i64 e0)).setCell ⟨w.heap.size + 1, 7, none⟩ (.string o)).heap[w.heap.size + 1]? = some (.cells #[.int .i64 n, .int .i64 c, .int .i64 s, .int .i64 k, .int .i64 t, .int .i64 h, .int .i64 e0, .string o] 30 (0, 0)) := (Rg.blk_set (Rg.blk_set (Rg.blk_set (Rg.blk_set (Rg.blk_set (Rg.blk_set (Rg.blk_set (Rg.blk_set A3.out _ _) _ _) _ _) _ _) _ _) _ _) _ _) _ _)
  have GF : Below w.heap.size w ((((((((w9.setCell ⟨w.heap.size + 1, 0, none⟩ (.int .i64 n)).setCell ⟨w.heap.size + 1, 1, none⟩ (.int .i64 c)).setCell ⟨w.heap.size + 1, 2, none⟩ (.int .i64 s)).setCell ⟨w.heap.size + 1, 3, none⟩ (.int .i64 k)).setCell ⟨w.heap.size + 1, 4, none⟩ (.int .i64 t)).setCell ⟨w.heap.size + 1, 5, none⟩ (.int .i64 h)).setCell ⟨w.heap.size + 1, 6, none⟩ (.int .i64 e0)).setCell ⟨w.heap.size + 1, 7, none⟩ (.string o)) := (Below.setCell (Below.setCell (Below.setCell (Below.setCell (Below.setCell (Below.setCell (Below.setCell (Below.setCell G3.out (p := ⟨w.heap.size + 1, 0, none⟩) (by first | omega | (simp; done) | (simp; omega)) (.int .i64 n)) (p := ⟨w.heap.size + 1, 1, none⟩) (by first | omega | (simp; done) | (simp; omega)) (.int .i64 c)) (p := ⟨w.heap.size + 1, 2, none⟩) (by first | omega | (simp; done) | (simp; omega)) (.int .i64 s)) (p := ⟨w.heap.size + 1, 3, none⟩) (by first | omega | (simp; done) | (simp; omega)) (.int .i64 k)) (p := ⟨w.heap.size + 1, 4, none⟩) (by first | omega | (simp; done) | (simp; omega)) (.int .i64 t)) (p := ⟨w.heap.size + 1, 5, none⟩) (by first | omega | (simp; done) | (simp; omega)) (.int .i64 h)) (p := ⟨w.heap.size + 1, 6, none⟩) (by first | omega | (simp; done) | (simp; omega)) (.int .i64 e0)) (p := ⟨w.heap.size + 1, 7, none⟩) (by first | omega | (simp; done) | (simp; omega)) (.string o))
  go_wp2_with fail
  generalize ((((((((w9.setCell ⟨w.heap.size + 1, 0, none⟩ (.int .i64 n)).setCell ⟨w.heap.size + 1, 1, none⟩ (.int .i64 c)).setCell ⟨w.heap.size + 1, 2, none⟩ (.int .i64 s)).setCell ⟨w.heap.size + 1, 3, none⟩ (.int .i64 k)).setCell ⟨w.heap.size + 1, 4, none⟩ (.int .i64 t)).setCell ⟨w.heap.size + 1, 5, none⟩ (.int .i64 h)).setCell ⟨w.heap.size + 1, 6, none⟩ (.int .i64 e0)).setCell ⟨w.heap.size + 1, 7, none⟩ (.string o)) = wf at AF GF ⊢
  have d0 := (Rg.blk_cell AF 0 (x := .int .i64 n) rfl).1
  have d1 := (Rg.blk_cell AF 1 (x := .int .i64 c) rfl).1
  have d2 := (Rg.blk_cell AF 2 (x := .int .i64 s) rfl).1
  have d3 := (Rg.blk_cell AF 3 (x := .int .i64 k) rfl).1
  have d4 := (Rg.blk_cell AF 4 (x := .int .i64 t) rfl).1
  have d5 := (Rg.blk_cell AF 5 (x := .int .i64 h) rfl).1
  have d6 := (Rg.blk_cell AF 6 (x := .int .i64 e0) rfl).1
  have d7 := (Rg.blk_cell AF 7 (x := .string o) rfl).1
  exact bodyPost_ret (v := .agg #[.int .i64 n, .int .i64 c, .int .i64 s, .int .i64 k, .int .i64 t, .int .i64 h, .int .i64 e0, .string o]) (by simp [results, Tryd.results31, go_sem, d0, d1, d2, d3, d4, d5, d6, d7]) rfl ⟨rfl, GF⟩
set_option maxRecDepth 100000 in
set_option maxHeartbeats 1600000 in
theorem specMakeReply_any (n c s k t h e0 : Int) (w : World) :
    Calls Tryd.prog 11 #[.int .i64 n, .int .i64 c, .int .i64 s, .agg #[.int .i64 k, .int .i64 t, .int .i64 h, .int .i64 e0]] w fun e w' => e = .returned (.tuple #[oneV (mkR n c s k t h e0), .int .i64 (mkC n c s k t h e0)]) ∧ Below w.heap.size w w' := by
  have HO : Hid (∀ W, Calls Tryd.prog 30 #[.agg #[.int .i64 n, .int .i64 c, .int .i64 s, .int .i64 k, .int .i64 t, .int .i64 h, .int .i64 e0, .string ⟨#[]⟩]] W fun e w' => e = .returned (.bool (foB (r0 n c s k t h e0))) ∧ Below W.heap.size W w') := fun W => l11Form_any (r0 n c s k t h e0) W
  cases hf : foB (r0 n c s k t h e0) with
  | false =>
    rw [hf] at HO
    have HE : Hid (mkR n c s k t h e0 = ⟨0, 0, 0, 0, 0, 0, 0, ⟨#[]⟩⟩ ∧ mkC n c s k t h e0 = 1) := mk_no hf
    clear hf
    go_enter Tryd.func11, Tryd.ntmps11
    go_wp2_with fail
    refine (HO.out _).mono ?_
    rintro e w1 ⟨rfl, b1⟩
    obtain ⟨k0, k1, kB⟩ := Gy.two b1
    have K1 : Hid (w1.heap[w.heap.size + 1]? = some (.cells #[.int .i64 0, .int .i64 0, .int .i64 0, .int .i64 0, .int .i64 0, .int .i64 0, .int .i64 0, .string ⟨#[]⟩] 30 (0, 0))) := k1
    have KB : Hid (Below w.heap.size w w1) := kB
    clear b1 k0 k1 kB
    obtain ⟨m0, n0⟩ := Rg.blk_cell K1.out 0 (x := .int .i64 0) rfl
    obtain ⟨m1, n1⟩ := Rg.blk_cell K1.out 1 (x := .int .i64 0) rfl
    obtain ⟨m2, n2⟩ := Rg.blk_cell K1.out 2 (x := .int .i64 0) rfl
    obtain ⟨m3, n3⟩ := Rg.blk_cell K1.out 3 (x := .int .i64 0) rfl
    obtain ⟨m4, n4⟩ := Rg.blk_cell K1.out 4 (x := .int .i64 0) rfl
    obtain ⟨m5, n5⟩ := Rg.blk_cell K1.out 5 (x := .int .i64 0) rfl
    obtain ⟨m6, n6⟩ := Rg.blk_cell K1.out 6 (x := .int .i64 0) rfl
    obtain ⟨m7, n7⟩ := Rg.blk_cell K1.out 7 (x := .string ⟨#[]⟩) rfl
    have AF : ((((((((w1.setCell ⟨w.heap.size + 1, 0, none⟩ (.int .i64 0)).setCell ⟨w.heap.size + 1, 1, none⟩ (.int .i64 0)).setCell ⟨w.heap.size + 1, 2, none⟩ (.int .i64 0)).setCell ⟨w.heap.size + 1, 3, none⟩ (.int .i64 0)).setCell ⟨w.heap.size + 1, 4, none⟩ (.int .i64 0)).setCell ⟨w.heap.size + 1, 5, none⟩ (.int .i64 0)).setCell ⟨w.heap.size + 1, 6, none⟩ (.int .i64 0)).setCell ⟨w.heap.size + 1, 7, none⟩ (.string ⟨#[]⟩)).heap[w.heap.size + 1]? = some (.cells #[.int .i64 0, .int .i64 0, .int .i64 0, .int .i64 0, .int .i64 0, .int .i64 0, .int .i64 0, .string ⟨#[]⟩] 30 (0, 0)) := (Rg.blk_set (Rg.blk_set (Rg.blk_set (Rg.blk_set (Rg.blk_set (Rg.blk_set (Rg.blk_set (Rg.blk_set K1.out _ _) _ _) _ _) _ _) _ _) _ _) _ _) _ _)
    have GF : Below w.heap.size w ((((((((w1.setCell ⟨w.heap.size + 1, 0, none⟩ (.int .i64 0)).setCell ⟨w.heap.size + 1, 1, none⟩ (.int .i64 0)).setCell ⟨w.heap.size + 1, 2, none⟩ (.int .i64 0)).setCell ⟨w.heap.size + 1, 3, none⟩ (.int .i64 0)).setCell ⟨w.heap.size + 1, 4, none⟩ (.int .i64 0)).setCell ⟨w.heap.size + 1, 5, none⟩ (.int .i64 0)).setCell ⟨w.heap.size + 1, 6, none⟩ (.int .i64 0)).setCell ⟨w.heap.size + 1, 7, none⟩ (.string ⟨#[]⟩)) := (Below.setCell (Below.setCell (Below.setCell (Below.setCell (Below.setCell (Below.setCell (Below.setCell (Below.setCell KB.out (p := ⟨w.heap.size + 1, 0, none⟩) (by first | omega | (simp; done) | (simp; omega)) (.int .i64 0)) (p := ⟨w.heap.size + 1, 1, none⟩) (by first | omega | (simp; done) | (simp; omega)) (.int .i64 0)) (p := ⟨w.heap.size + 1, 2, none⟩) (by first | omega | (simp; done) | (simp; omega)) (.int .i64 0)) (p := ⟨w.heap.size + 1, 3, none⟩) (by first | omega | (simp; done) | (simp; omega)) (.int .i64 0)) (p := ⟨w.heap.size + 1, 4, none⟩) (by first | omega | (simp; done) | (simp; omega)) (.int .i64 0)) (p := ⟨w.heap.size + 1, 5, none⟩) (by first | omega | (simp; done) | (simp; omega)) (.int .i64 0)) (p := ⟨w.heap.size + 1, 6, none⟩) (by first | omega | (simp; done) | (simp; omega)) (.int .i64 0)) (p := ⟨w.heap.size + 1, 7, none⟩) (by first | omega | (simp; done) | (simp; omega)) (.string ⟨#[]⟩))
    go_wp2_with fail
    generalize ((((((((w1.setCell ⟨w.heap.size + 1, 0, none⟩ (.int .i64 0)).setCell ⟨w.heap.size + 1, 1, none⟩ (.int .i64 0)).setCell ⟨w.heap.size + 1, 2, none⟩ (.int .i64 0)).setCell ⟨w.heap.size + 1, 3, none⟩ (.int .i64 0)).setCell ⟨w.heap.size + 1, 4, none⟩ (.int .i64 0)).setCell ⟨w.heap.size + 1, 5, none⟩ (.int .i64 0)).setCell ⟨w.heap.size + 1, 6, none⟩ (.int .i64 0)).setCell ⟨w.heap.size + 1, 7, none⟩ (.string ⟨#[]⟩)) = wf at AF GF ⊢
    have d0 := (Rg.blk_cell AF 0 (x := .int .i64 0) rfl).1
    have d1 := (Rg.blk_cell AF 1 (x := .int .i64 0) rfl).1
    have d2 := (Rg.blk_cell AF 2 (x := .int .i64 0) rfl).1
    have d3 := (Rg.blk_cell AF 3 (x := .int .i64 0) rfl).1
    have d4 := (Rg.blk_cell AF 4 (x := .int .i64 0) rfl).1
    have d5 := (Rg.blk_cell AF 5 (x := .int .i64 0) rfl).1
    have d6 := (Rg.blk_cell AF 6 (x := .int .i64 0) rfl).1
    have d7 := (Rg.blk_cell AF 7 (x := .string ⟨#[]⟩) rfl).1
    exact bodyPost_ret (v := .tuple #[.agg #[.int .i64 0, .int .i64 0, .int .i64 0, .int .i64 0, .int .i64 0, .int .i64 0, .int .i64 0, .string ⟨#[]⟩], .int .i64 1]) (by simp [results, Tryd.results11, go_sem, d0, d1, d2, d3, d4, d5, d6, d7]) rfl ⟨mk_ret (x := ⟨0, 0, 0, 0, 0, 0, 0, ⟨#[]⟩⟩) ⟨HE.out.1.symm, HE.out.2.symm⟩, GF⟩
  | true =>
    rw [hf] at HO
    have HE : Hid (mkR n c s k t h e0 = ⟨n, c, s, k, t, h, e0, rymk (r0 n c s k t h e0)⟩ ∧ mkC n c s k t h e0 = 0) := mk_yes hf
    have HM : Hid (∀ W, Calls Tryd.prog 31 #[.int .i64 n, .int .i64 c, .int .i64 s, .agg #[.int .i64 k, .int .i64 t, .int .i64 h, .int .i64 e0]] W fun e w' => e = .returned (.agg #[.int .i64 n, .int .i64 c, .int .i64 s, .int .i64 k, .int .i64 t, .int .i64 h, .int .i64 e0, .string (rymk (r0 n c s k t h e0))]) ∧ Below W.heap.size W w') := fun W => l11Make_any n c s k t h e0 W hf
    clear hf
    generalize rymk (r0 n c s k t h e0) = o at HE HM
    go_enter Tryd.func11, Tryd.ntmps11
    go_wp2_with fail
    refine (HO.out _).mono ?_
    rintro e w1 ⟨rfl, b1⟩
    obtain ⟨k0, k1, kB⟩ := Gy.two b1
    have K0 : Hid (w1.heap[w.heap.size]? = some (.cells #[.int .i64 k, .int .i64 t, .int .i64 h, .int .i64 e0] 26 (0, 0))) := k0
    have K1 : Hid (w1.heap[w.heap.size + 1]? = some (.cells #[.int .i64 0, .int .i64 0, .int .i64 0, .int .i64 0, .int .i64 0, .int .i64 0, .int .i64 0, .string ⟨#[]⟩] 30 (0, 0))) := k1
    have KB : Hid (Below w.heap.size w w1) := kB
    clear b1 k0 k1 kB
    have c0 := (Rg.blk_cell K0.out 0 (x := .int .i64 k) rfl).1
    have c1 := (Rg.blk_cell K0.out 1 (x := .int .i64 t) rfl).1
    have c2 := (Rg.blk_cell K0.out 2 (x := .int .i64 h) rfl).1
    have c3 := (Rg.blk_cell K0.out 3 (x := .int .i64 e0) rfl).1
    go_wp2_with fail
    refine (HM.out _).mono ?_
    rintro e w9 ⟨rfl, b2⟩
    have A3 : Hid (w9.heap[w.heap.size + 1]? = some (.cells #[.int .i64 0, .int .i64 0, .int .i64 0, .int .i64 0, .int .i64 0, .int .i64 0, .int .i64 0, .string ⟨#[]⟩] 30 (0, 0))) := (b2.block _ (Array.getElem?_eq_some_iff.1 K1.out).1).trans K1.out
    have G3 : Hid (Below w.heap.size w w9) := KB.out.trans (b2.mono KB.out.size)
    clear b2 K0 K1 KB c0 c1 c2 c3
    obtain ⟨m0, n0⟩ := Rg.blk_cell A3.out 0 (x := .int .i64 0) rfl
    obtain ⟨m1, n1⟩ := Rg.blk_cell A3.out 1 (x := .int .i64 0) rfl
    obtain ⟨m2, n2⟩ := Rg.blk_cell A3.out 2 (x := .int .i64 0) rfl
    obtain ⟨m3, n3⟩ := Rg.blk_cell A3.out 3 (x := .int .i64 0) rfl
    obtain ⟨m4, n4⟩ := Rg.blk_cell A3.out 4 (x := .int .i64 0) rfl
    obtain ⟨m5, n5⟩ := Rg.blk_cell A3.out 5 (x := .int .i64 0) rfl
    obtain ⟨m6, n6⟩ := Rg.blk_cell A3.out 6 (x := .int .i64 0) rfl
    obtain ⟨m7, n7⟩ := Rg.blk_cell A3.out 7 (x := .string ⟨#[]⟩) rfl
    have AF : ((((((((w9.setCell ⟨w.heap.size + 1, 0, none⟩ (.int .i64 n)).setCell ⟨w.heap.size + 1, 1, none⟩ (.int .i64 c)).setCell ⟨w.heap.size + 1, 2, none⟩ (.int .i64 s)).setCell ⟨w.heap.size + 1, 3, none⟩ (.int .i64 k)).setCell ⟨w.heap.size + 1, 4, none⟩ (.int .i64 t)).setCell ⟨w.heap.size + 1, 5, none⟩ (.int .i64 h)).setCell ⟨w.heap.size + 1, 6, none⟩ (.int .i64 e0)).setCell ⟨w.heap.size + 1, 7, none⟩ (.string o)).heap[w.heap.size + 1]? = some (.cells #[.int .i64 n, .int .i64 c, .int .i64 s, .int .i64 k, .int .i64 t, .int .i64 h, .int .i64 e0, .string o] 30 (0, 0)) := (Rg.blk_set (Rg.blk_set (Rg.blk_set (Rg.blk_set (Rg.blk_set (Rg.blk_set (Rg.blk_set (Rg.blk_set A3.out _ _) _ _) _ _) _ _) _ _) _ _) _ _) _ _)
    have GF : Below w.heap.size w ((((((((w9.setCell ⟨w.heap.size + 1, 0, none⟩ (.int .i64 n)).setCell ⟨w.heap.size + 1, 1, none⟩ (.int .i64 c)).setCell ⟨w.heap.size + 1, 2, none⟩ (.int .i64 s)).setCell ⟨w.heap.size + 1, 3, none⟩ (.int .i64 k)).setCell ⟨w.heap.size + 1, 4, none⟩ (.int .i64 t)).setCell ⟨w.heap.size + 1, 5, none⟩ (.int .i64 h)).setCell ⟨w.heap.size + 1, 6, none⟩ (.int .i64 e0)).setCell ⟨w.heap.size + 1, 7, none⟩ (.string o)) := (Below.setCell (Below.setCell (Below.setCell (Below.setCell (Below.setCell (Below.setCell (Below.setCell (Below.setCell G3.out (p := ⟨w.heap.size + 1, 0, none⟩) (by first | omega | (simp; done) | (simp; omega)) (.int .i64 n)) (p := ⟨w.heap.size + 1, 1, none⟩) (by first | omega | (simp; done) | (simp; omega)) (.int .i64 c)) (p := ⟨w.heap.size + 1, 2, none⟩) (by first | omega | (simp; done) | (simp; omega)) (.int .i64 s)) (p := ⟨w.heap.size + 1, 3, none⟩) (by first | omega | (simp; done) | (simp; omega)) (.int .i64 k)) (p := ⟨w.heap.size + 1, 4, none⟩) (by first | omega | (simp; done) | (simp; omega)) (.int .i64 t)) (p := ⟨w.heap.size + 1, 5, none⟩) (by first | omega | (simp; done) | (simp; omega)) (.int .i64 h)) (p := ⟨w.heap.size + 1, 6, none⟩) (by first | omega | (simp; done) | (simp; omega)) (.int .i64 e0)) (p := ⟨w.heap.size + 1, 7, none⟩) (by first | omega | (simp; done) | (simp; omega)) (.string o))
    go_wp2_with fail
    generalize ((((((((w9.setCell ⟨w.heap.size + 1, 0, none⟩ (.int .i64 n)).setCell ⟨w.heap.size + 1, 1, none⟩ (.int .i64 c)).setCell ⟨w.heap.size + 1, 2, none⟩ (.int .i64 s)).setCell ⟨w.heap.size + 1, 3, none⟩ (.int .i64 k)).setCell ⟨w.heap.size + 1, 4, none⟩ (.int .i64 t)).setCell ⟨w.heap.size + 1, 5, none⟩ (.int .i64 h)).setCell ⟨w.heap.size + 1, 6, none⟩ (.int .i64 e0)).setCell ⟨w.heap.size + 1, 7, none⟩ (.string o)) = wf at AF GF ⊢
    have d0 := (Rg.blk_cell AF 0 (x := .int .i64 n) rfl).1
    have d1 := (Rg.blk_cell AF 1 (x := .int .i64 c) rfl).1
    have d2 := (Rg.blk_cell AF 2 (x := .int .i64 s) rfl).1
    have d3 := (Rg.blk_cell AF 3 (x := .int .i64 k) rfl).1
    have d4 := (Rg.blk_cell AF 4 (x := .int .i64 t) rfl).1
    have d5 := (Rg.blk_cell AF 5 (x := .int .i64 h) rfl).1
    have d6 := (Rg.blk_cell AF 6 (x := .int .i64 e0) rfl).1
    have d7 := (Rg.blk_cell AF 7 (x := .string o) rfl).1
    exact bodyPost_ret (v := .tuple #[.agg #[.int .i64 n, .int .i64 c, .int .i64 s, .int .i64 k, .int .i64 t, .int .i64 h, .int .i64 e0, .string o], .int .i64 0]) (by simp [results, Tryd.results11, go_sem, d0, d1, d2, d3, d4, d5, d6, d7]) rfl ⟨mk_ret (x := ⟨n, c, s, k, t, h, e0, o⟩) ⟨HE.out.1.symm, HE.out.2.symm⟩, GF⟩
set_option maxRecDepth 100000 in
set_option maxHeartbeats 1600000 in
theorem l11OK_any (n : Int) (x : Re) (w : World) :
    Calls Tryd.prog 39 #[.int .i64 n, oneV x] w fun e w' => e = .returned (.bool (lokB n x)) ∧ Below w.heap.size w w' := by
  have HX : Hid (∀ W, Below (w.alloc (.cells #[.int .i64 x.nd, .int .i64 x.cl, .int .i64 x.st, .int .i64 x.kd, .int .i64 x.tk, .int .i64 x.hd, .int .i64 x.ex, .string x.mc] 30)).heap.size (w.alloc (.cells #[.int .i64 x.nd, .int .i64 x.cl, .int .i64 x.st, .int .i64 x.kd, .int .i64 x.tk, .int .i64 x.hd, .int .i64 x.ex, .string x.mc] 30)) W → (W.cell? ⟨w.heap.size, 0, none⟩ = some (.int .i64 x.nd) ∧ W.cell? ⟨w.heap.size, 1, none⟩ = some (.int .i64 x.cl) ∧ W.cell? ⟨w.heap.size, 2, none⟩ = some (.int .i64 x.st) ∧ W.cell? ⟨w.heap.size, 3, none⟩ = some (.int .i64 x.kd) ∧ W.cell? ⟨w.heap.size, 4, none⟩ = some (.int .i64 x.tk) ∧ W.cell? ⟨w.heap.size, 5, none⟩ = some (.int .i64 x.hd) ∧ W.cell? ⟨w.heap.size, 6, none⟩ = some (.int .i64 x.ex) ∧ W.cell? ⟨w.heap.size, 7, none⟩ = some (.string x.mc)) ∧ Below w.heap.size w W) := fun W hW => by
    have h1 := (hW.block w.heap.size (by simp)).trans (heap_alloc_new w _)
    exact ⟨⟨(Rg.blk_cell h1 0 rfl).1, (Rg.blk_cell h1 1 rfl).1, (Rg.blk_cell h1 2 rfl).1, (Rg.blk_cell h1 3 rfl).1, (Rg.blk_cell h1 4 rfl).1, (Rg.blk_cell h1 5 rfl).1, (Rg.blk_cell h1 6 rfl).1, (Rg.blk_cell h1 7 rfl).1⟩, (bel_new w _).trans (hW.mono (by simp))⟩
  have HO : Hid (∀ W, Calls Tryd.prog 30 #[.agg #[.int .i64 x.nd, .int .i64 x.cl, .int .i64 x.st, .int .i64 x.kd, .int .i64 x.tk, .int .i64 x.hd, .int .i64 x.ex, .string x.mc]] W fun e w' => e = .returned (.bool (foB x)) ∧ Below W.heap.size W w') := fun W => l11Form_any x W
  cases h1 : foB x with
  | false =>
    rw [h1] at HO
    have HE : Hid (lokB n x = false) := by show _ = _; unfold lokB; rw [h1]; rfl
    clear h1
    unfold oneV
    go_enter Tryd.func39, Tryd.ntmps39
    go_upto_region 1 with fail
    generalize w.alloc (.cells #[.int .i64 x.nd, .int .i64 x.cl, .int .i64 x.st, .int .i64 x.kd, .int .i64 x.tk, .int .i64 x.hd, .int .i64 x.ex, .string x.mc] 30) = wb at HX ⊢
    obtain ⟨X, hX, W, QI0, QO0⟩ := Qc.klass wb
    have QI : Hid (∀ w', Below wb.heap.size wb w' → ∃ x, w' = W x) := QI0
    have QO : Hid (∀ x, Below wb.heap.size wb (W x)) := QO0
    clear QI0 QO0
    have y0 := fun q => (HX.out _ (QO.out q)).1.1
    have y1 := fun q => (HX.out _ (QO.out q)).1.2.1
    have y2 := fun q => (HX.out _ (QO.out q)).1.2.2.1
    have y3 := fun q => (HX.out _ (QO.out q)).1.2.2.2.1
    have y4 := fun q => (HX.out _ (QO.out q)).1.2.2.2.2.1
    have y5 := fun q => (HX.out _ (QO.out q)).1.2.2.2.2.2.1
    have y6 := fun q => (HX.out _ (QO.out q)).1.2.2.2.2.2.2.1
    have y7 := fun q => (HX.out _ (QO.out q)).1.2.2.2.2.2.2.2
    refine Qc.region_class (W := W) (by kernel_rfl) (by kernel_rfl) (QI.out _ Qc.from_drew) ?_
    repeat (go_big_quiet_step (first | (go_at_call 30; refine (HO.out _).mono ?_; rintro e w2 ⟨rfl, b2⟩; exact ⟨rfl, Qc.back QI.out QO.out b2⟩)))
    refine wpQuiet_nil ?_
    rintro _ ⟨xq, rfl⟩
    have G2 : Hid (Below w.heap.size w (W xq)) := (HX.out _ (QO.out xq)).2
    clear y0 y1 y2 y3 y4 y5 y6 y7
    generalize W xq = wq at G2 ⊢
    go_wp2_with fail
    go_ret
    exact ⟨ret_bool HE.out.symm, G2.out⟩
  | true =>
    rw [h1] at HO
    by_cases h2 : x.nd < n
    · have HE : Hid (lokB n x = ((rymk x).toList == x.mc.toList)) := by show _ = _; unfold lokB; rw [h1, decide_eq_true h2]; rfl
      have HM : Hid (∀ W, Calls Tryd.prog 38 #[.agg #[.int .i64 x.nd, .int .i64 x.cl, .int .i64 x.st, .int .i64 x.kd, .int .i64 x.tk, .int .i64 x.hd, .int .i64 x.ex, .string x.mc]] W fun e w' => e = .returned (.string (rymk x)) ∧ Below W.heap.size W w') := fun W => l11Mac_any x W h1
      have h2' : decide (x.nd < n) = true := decide_eq_true h2
      clear h1
      generalize rymk x = o at HE HM
      unfold oneV
      go_enter Tryd.func39, Tryd.ntmps39
      go_upto_region 1 with fail
      generalize w.alloc (.cells #[.int .i64 x.nd, .int .i64 x.cl, .int .i64 x.st, .int .i64 x.kd, .int .i64 x.tk, .int .i64 x.hd, .int .i64 x.ex, .string x.mc] 30) = wb at HX ⊢
      obtain ⟨X, hX, W, QI0, QO0⟩ := Qc.klass wb
      have QI : Hid (∀ w', Below wb.heap.size wb w' → ∃ x, w' = W x) := QI0
      have QO : Hid (∀ x, Below wb.heap.size wb (W x)) := QO0
      clear QI0 QO0
      have y0 := fun q => (HX.out _ (QO.out q)).1.1
      have y1 := fun q => (HX.out _ (QO.out q)).1.2.1
      have y2 := fun q => (HX.out _ (QO.out q)).1.2.2.1
      have y3 := fun q => (HX.out _ (QO.out q)).1.2.2.2.1
      have y4 := fun q => (HX.out _ (QO.out q)).1.2.2.2.2.1
      have y5 := fun q => (HX.out _ (QO.out q)).1.2.2.2.2.2.1
      have y6 := fun q => (HX.out _ (QO.out q)).1.2.2.2.2.2.2.1
      have y7 := fun q => (HX.out _ (QO.out q)).1.2.2.2.2.2.2.2
      refine Qc.region_class (W := W) (by kernel_rfl) (by kernel_rfl) (QI.out _ Qc.from_drew) ?_
      repeat (go_big_quiet_step (first | (go_at_call 30; refine (HO.out _).mono ?_; rintro e w2 ⟨rfl, b2⟩; exact ⟨rfl, Qc.back QI.out QO.out b2⟩) | (go_at_call 38; refine (HM.out _).mono ?_; rintro e w2 ⟨rfl, b2⟩; exact ⟨rfl, Qc.back QI.out QO.out b2⟩)))
      refine wpQuiet_nil ?_
      rintro _ ⟨xq, rfl⟩
      have G2 : Hid (Below w.heap.size w (W xq)) := (HX.out _ (QO.out xq)).2
      clear y0 y1 y2 y3 y4 y5 y6 y7
      generalize W xq = wq at G2 ⊢
      go_wp2_with fail
      go_ret
      exact ⟨ret_bool HE.out.symm, G2.out⟩
    · have HE : Hid (lokB n x = false) := by show _ = _; unfold lokB; rw [h1, decide_eq_false h2]; rfl
      have h2' : decide (x.nd < n) = false := decide_eq_false h2
      clear h1
      unfold oneV
      go_enter Tryd.func39, Tryd.ntmps39
      go_upto_region 1 with fail
      generalize w.alloc (.cells #[.int .i64 x.nd, .int .i64 x.cl, .int .i64 x.st, .int .i64 x.kd, .int .i64 x.tk, .int .i64 x.hd, .int .i64 x.ex, .string x.mc] 30) = wb at HX ⊢
      obtain ⟨X, hX, W, QI0, QO0⟩ := Qc.klass wb
      have QI : Hid (∀ w', Below wb.heap.size wb w' → ∃ x, w' = W x) := QI0
      have QO : Hid (∀ x, Below wb.heap.size wb (W x)) := QO0
      clear QI0 QO0
      have y0 := fun q => (HX.out _ (QO.out q)).1.1
      have y1 := fun q => (HX.out _ (QO.out q)).1.2.1
      have y2 := fun q => (HX.out _ (QO.out q)).1.2.2.1
      have y3 := fun q => (HX.out _ (QO.out q)).1.2.2.2.1
      have y4 := fun q => (HX.out _ (QO.out q)).1.2.2.2.2.1
      have y5 := fun q => (HX.out _ (QO.out q)).1.2.2.2.2.2.1
      have y6 := fun q => (HX.out _ (QO.out q)).1.2.2.2.2.2.2.1
      have y7 := fun q => (HX.out _ (QO.out q)).1.2.2.2.2.2.2.2
      refine Qc.region_class (W := W) (by kernel_rfl) (by kernel_rfl) (QI.out _ Qc.from_drew) ?_
      repeat (go_big_quiet_step (first | (go_at_call 30; refine (HO.out _).mono ?_; rintro e w2 ⟨rfl, b2⟩; exact ⟨rfl, Qc.back QI.out QO.out b2⟩)))
      refine wpQuiet_nil ?_
      rintro _ ⟨xq, rfl⟩
      have G2 : Hid (Below w.heap.size w (W xq)) := (HX.out _ (QO.out xq)).2
      clear y0 y1 y2 y3 y4 y5 y6 y7
      generalize W xq = wq at G2 ⊢
      go_wp2_with fail
      go_ret
      exact ⟨ret_bool HE.out.symm, G2.out⟩
set_option maxRecDepth 100000 in
set_option maxHeartbeats 1600000 in
theorem specReplyOK_any (n : Int) (x : Re) (w : World) :
    Calls Tryd.prog 21 #[.int .i64 n, oneV x] w fun e w' => e = .returned (.bool (rokB n x)) ∧ Below w.heap.size w w' := by
  have HL : Hid (∀ W, Calls Tryd.prog 39 #[.int .i64 n, .agg #[.int .i64 x.nd, .int .i64 x.cl, .int .i64 x.st, .int .i64 x.kd, .int .i64 x.tk, .int .i64 x.hd, .int .i64 x.ex, .string x.mc]] W fun e w' => e = .returned (.bool (lokB n x)) ∧ Below W.heap.size W w') := fun W => l11OK_any n x W
  have HN := fun W => Qm.l04Nodes_any n W
  cases h1 : decide (fCode n = 0) with
  | false =>
    have HE : Hid (rokB n x = false) := by show _ = _; unfold rokB; rw [h1]; rfl
    rw [h1] at HN
    clear h1
    unfold oneV
    go_enter Tryd.func21, Tryd.ntmps21
    go_wp2_with (go_at_call 36; refine (HN _).mono ?_; rintro e w1 ⟨rfl, rfl⟩)
    go_ret
    exact ⟨ret_bool HE.out.symm, bel_new _ _⟩
  | true =>
    have HE : Hid (rokB n x = lokB n x) := by show _ = _; unfold rokB; rw [h1]; rfl
    rw [h1] at HN
    clear h1
    unfold oneV
    go_enter Tryd.func21, Tryd.ntmps21
    go_wp2_with (first | (go_at_call 36; refine (HN _).mono ?_; rintro e w1 ⟨rfl, rfl⟩) | (go_at_call 39; refine (HL.out _).mono ?_; rintro e w2 ⟨rfl, b2⟩))
    go_ret
    exact ⟨ret_bool HE.out.symm, (bel_new _ _).trans (b2.mono (bel_new _ _).size)⟩
end Go.Proofs.YtipoajjijalibaaDoor.Rys
