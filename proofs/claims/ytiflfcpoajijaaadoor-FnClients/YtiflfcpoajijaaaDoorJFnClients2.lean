/- Replies: marks: of the program. -/
import Derived.Test.YtiflfcpoajijaaaDoorJFnClients1
import Derived.BigQuiet
namespace Go.Proofs.YtiflfcpoajijaaaDoor.Ry
open Go.RowKit Go.Proofs.YtiflfcpoajijaaaDoor.Sl Go.Proofs.YtiflfcpoajijaaaDoor.By Go.Proofs.YtiflfcpoajijaaaDoor.Ap Go.Proofs.YtiflfcpoajijaaaDoor.Tx Go.Proofs.YtiflfcpoajijaaaDoor.Sh Go.Proofs.YtiflfcpoajijaaaDoor.Ho Go.Proofs.YtiflfcpoajijaaaDoor.Fz Go.Proofs.YtiflfcpoajijaaaDoor.Pu Go.Proofs.YtiflfcpoajijaaaDoor.Fu Go.Proofs.YtiflfcpoajijaaaDoor.Mr Go.Proofs.YtiflfcpoajijaaaDoor.Rm Go.Proofs.YtiflfcpoajijaaaDoor.Fq
open Go.Proofs.YtiflfcpoajijaaaDoor.Gy (Re oneV)
open Go.Proofs.YtiflfcpoajijaaaDoor.Tm (fCode fOut f_cases implFaultsOf_any)

set_option maxRecDepth 100000 in
set_option maxHeartbeats 6400000 in
theorem replyMark_any (x : Re) (w : World) (hf : foB x = true) (hK : KTab w) (hp : 0 < w.heap.size) :
    Calls Tryd.prog 19 #[oneV x] w fun e w' => e = .returned (.string (rymk x)) ∧ Below w.heap.size w w' := by
  obtain ⟨⟨hn0, hn1⟩, hh⟩ := fo_nat hf
  have HX : Hid (∀ W, Below (w.alloc (.cells #[.int .i64 x.nd, .int .i64 x.cl, .int .i64 x.st, .int .i64 x.kd, .int .i64 x.tk, .int .i64 x.hd, .int .i64 x.ex, .string x.mc] 39)).heap.size (w.alloc (.cells #[.int .i64 x.nd, .int .i64 x.cl, .int .i64 x.st, .int .i64 x.kd, .int .i64 x.tk, .int .i64 x.hd, .int .i64 x.ex, .string x.mc] 39)) W → (W.cell? ⟨w.heap.size, 0, none⟩ = some (.int .i64 x.nd) ∧ W.cell? ⟨w.heap.size, 1, none⟩ = some (.int .i64 x.cl) ∧ W.cell? ⟨w.heap.size, 2, none⟩ = some (.int .i64 x.st) ∧ W.cell? ⟨w.heap.size, 3, none⟩ = some (.int .i64 x.kd) ∧ W.cell? ⟨w.heap.size, 4, none⟩ = some (.int .i64 x.tk) ∧ W.cell? ⟨w.heap.size, 5, none⟩ = some (.int .i64 x.hd) ∧ W.cell? ⟨w.heap.size, 6, none⟩ = some (.int .i64 x.ex) ∧ W.cell? ⟨w.heap.size, 7, none⟩ = some (.string x.mc)) ∧ Below w.heap.size w W) := fun W hW => by
    have h1 := (hW.block w.heap.size (by simp)).trans (heap_alloc_new w _)
    exact ⟨⟨(Rg.blk_cell h1 0 rfl).1, (Rg.blk_cell h1 1 rfl).1, (Rg.blk_cell h1 2 rfl).1, (Rg.blk_cell h1 3 rfl).1, (Rg.blk_cell h1 4 rfl).1, (Rg.blk_cell h1 5 rfl).1, (Rg.blk_cell h1 6 rfl).1, (Rg.blk_cell h1 7 rfl).1⟩, (bel_new w _).trans (hW.mono (by simp))⟩
  have GK : Hid (KTab w ∧ 0 < w.heap.size) := ⟨hK, hp⟩
  clear hK hp hf
  have HE : Hid (mac x.nd.toNat (bys (strOfNums (reBs x))) = rymk x) := by show _ = _; rw [bys_str _ (re_range x)]; rfl
  have HZ : Hid ((strOfNums (reBs x)).size = 18) := by show _ = _; rw [strOfNums_size, re_len]
  have hnn : ((x.nd.toNat : Nat) : Int) = x.nd := by omega
  unfold oneV
  go_enter Tryd.func19, Tryd.ntmps19
  go_upto_region 1 with fail
  generalize w.alloc (.cells #[.int .i64 x.nd, .int .i64 x.cl, .int .i64 x.st, .int .i64 x.kd, .int .i64 x.tk, .int .i64 x.hd, .int .i64 x.ex, .string x.mc] 39) = wb at HX ⊢
  have HS : Hid (∀ W, Below wb.heap.size wb W → Calls Tryd.prog 26 #[.agg #[.int .i64 x.nd, .int .i64 x.cl, .int .i64 x.st, .int .i64 x.kd, .int .i64 x.tk, .int .i64 x.hd, .int .i64 x.ex, .string x.mc]] W fun e w' => e = .returned (.agg #[.int .i64 x.cl, .int .i64 x.st, .int .i64 x.kd, .int .i64 x.tk, .int .i64 x.hd, .int .i64 x.ex]) ∧ Below wb.heap.size wb w' ∧ Below W.heap.size W w') := fun W hW => (seenOf_any x W).mono fun e w' ⟨h1, h2⟩ => ⟨h1, hW.trans (h2.mono hW.size), h2⟩
  have HP : Hid (∀ W v, OwnA W W.heap.size v bRe → Below wb.heap.size wb W → Calls Tryd.prog 28 #[v, .agg #[.int .i64 x.cl, .int .i64 x.st, .int .i64 x.kd, .int .i64 x.tk, .int .i64 x.hd, .int .i64 x.ex]] W fun e w' => ∃ v', e = .returned v' ∧ (convert 22 9 v').run Tryd.prog w' = .ok (.string (strOfNums (reBs x))) w' ∧ Below wb.heap.size wb w') := fun W v ho hW => (putSeenA_any v x W ho hh).mono fun e w' ⟨v', h1, h2, h3⟩ => ⟨v', h1, run_convert_ownA _ _ _ _ h2, hW.trans (h3.mono hW.size)⟩
  have HM : Hid (∀ W, Below wb.heap.size wb W → Calls Tryd.prog 27 #[.int .i64 x.nd, .string (strOfNums (reBs x))] W fun e w' => e = .returned (.string (rymk x)) ∧ Below w.heap.size w w' ∧ Below wb.heap.size wb w') := fun W hW => by
    have g := (HX.out _ hW).2
    have h := markOf_any x.nd.toNat (strOfNums (reBs x)) W (by omega) (by have := HZ.out; omega) (GK.out.1.below g GK.out.2) (Nat.lt_of_lt_of_le GK.out.2 g.size)
    rw [HE.out, hnn] at h
    exact h.mono fun e w' ⟨h1, h2⟩ => ⟨h1, g.trans (h2.mono g.size), hW.trans (h2.mono hW.size)⟩
  have HL : Hid (∀ W : World, OwnA (W.alloc (.cells #[.int .u8 114, .int .u8 101, .int .u8 112, .int .u8 108, .int .u8 121] 5 (5, 6))) (W.alloc (.cells #[.int .u8 114, .int .u8 101, .int .u8 112, .int .u8 108, .int .u8 121] 5 (5, 6))).heap.size (.slice (some ⟨W.heap.size, 0, none⟩) 5 5) bRe) := fun W => lit W bRe 5 rfl _ rfl _ _
  have HL0 : Hid (OwnA (wb.alloc (.cells #[.int .u8 114, .int .u8 101, .int .u8 112, .int .u8 108, .int .u8 121] 5 (5, 6))).drew (wb.alloc (.cells #[.int .u8 114, .int .u8 101, .int .u8 112, .int .u8 108, .int .u8 121] 5 (5, 6))).drew.heap.size (.slice (some ⟨wb.heap.size, 0, none⟩) 5 5) bRe) := HL.out wb.drew
  have G1 : Hid (Below wb.heap.size wb (wb.alloc (.cells #[.int .u8 114, .int .u8 101, .int .u8 112, .int .u8 108, .int .u8 121] 5 (5, 6))).drew) := (bel_new wb _).drew
  have HA : Hid (∀ W : World, Below wb.heap.size wb W → Below wb.heap.size wb (W.alloc (.cells #[.int .u8 114, .int .u8 101, .int .u8 112, .int .u8 108, .int .u8 121] 5 (5, 6)))) := fun W hW => hW.trans ((bel_new W _).mono hW.size)
  have HKB : Hid (∀ W, Below (wb.alloc (.cells #[.int .u8 114, .int .u8 101, .int .u8 112, .int .u8 108, .int .u8 121] 5)).drew.heap.size (wb.alloc (.cells #[.int .u8 114, .int .u8 101, .int .u8 112, .int .u8 108, .int .u8 121] 5)).drew W → W.heap[wb.heap.size]? = some (.cells #[.int .u8 114, .int .u8 101, .int .u8 112, .int .u8 108, .int .u8 121] 5 (0, 0))) := fun W hW => (hW.block wb.heap.size (by show _ < (wb.alloc (.cells #[.int .u8 114, .int .u8 101, .int .u8 112, .int .u8 108, .int .u8 121] 5)).heap.size; simp)).trans (heap_alloc_new wb _)
  have HKC : Hid (∀ W, Below (wb.alloc (.cells #[.int .u8 114, .int .u8 101, .int .u8 112, .int .u8 108, .int .u8 121] 5)).drew.heap.size (wb.alloc (.cells #[.int .u8 114, .int .u8 101, .int .u8 112, .int .u8 108, .int .u8 121] 5)).drew W → (convert 22 22 (.slice (some ⟨wb.heap.size, 0, none⟩) 5 5)).run Tryd.prog W = .ok (.slice (some ⟨wb.heap.size, 0, none⟩) 5 5) (W.freeze ⟨wb.heap.size, 5, none⟩ 1)) := fun W hW => run_const W wb.heap.size _ 5 5 (HKB.out W hW)
  have HOF : Hid (∀ W, Below (wb.alloc (.cells #[.int .u8 114, .int .u8 101, .int .u8 112, .int .u8 108, .int .u8 121] 5)).drew.heap.size (wb.alloc (.cells #[.int .u8 114, .int .u8 101, .int .u8 112, .int .u8 108, .int .u8 121] 5)).drew W → OwnA (W.freeze ⟨wb.heap.size, 5, none⟩ 1) (W.freeze ⟨wb.heap.size, 5, none⟩ 1).heap.size (.slice (some ⟨wb.heap.size, 0, none⟩) 5 5) bRe) := fun W hW => freeze_own bRe 5 rfl rfl (HKB.out W hW)
  have HGF : Hid (∀ W, Below wb.heap.size wb W → Below wb.heap.size wb (W.freeze ⟨wb.heap.size, 5, none⟩ 1)) := fun W hW => freeze_below (Nat.le_refl _) hW
  have G2 : Hid (Below wb.heap.size wb (wb.alloc (.cells #[.int .u8 114, .int .u8 101, .int .u8 112, .int .u8 108, .int .u8 121] 5)).drew) := (bel_new wb _).drew
  have G0 : Hid (Below wb.heap.size wb wb.drew) := (Below.refl _ _).drew
  have HOB : Hid (∀ W W' v, OwnA W W.heap.size v bRe → Below W.heap.size W W' → OwnA W' W'.heap.size v bRe) := fun W W' v ho hb => by
    rcases ho with h | h
    · exact (own_not h).elim
    · exact OwnA.below (.inr h) hb
  have hkc := fun W => Lib.run_convert_bytes_const (P := Tryd.prog) W 22 5 #[.int .u8 114, .int .u8 101, .int .u8 112, .int .u8 108, .int .u8 121] 5 5 Tryd.underlying22 Tryd.underlying5
  have hk1 : (convert 22 22 (.slice (some ⟨wb.heap.size, 0, none⟩) 5 5)).run Tryd.prog (wb.alloc (.cells #[.int .u8 114, .int .u8 101, .int .u8 112, .int .u8 108, .int .u8 121] 5)).drew = .ok (.slice (some ⟨wb.heap.size, 0, none⟩) 5 5) (wb.alloc (.cells #[.int .u8 114, .int .u8 101, .int .u8 112, .int .u8 108, .int .u8 121] 5 (5, 6))).drew := Lib.run_convert_bytes_const (P := Tryd.prog) wb.drew 22 5 #[.int .u8 114, .int .u8 101, .int .u8 112, .int .u8 108, .int .u8 121] 5 5 Tryd.underlying22 Tryd.underlying5
  have HA0 : Hid (∀ W : World, Below wb.heap.size wb W → Below wb.heap.size wb (W.alloc (.cells #[.int .u8 114, .int .u8 101, .int .u8 112, .int .u8 108, .int .u8 121] 5))) := fun W hW => hW.trans ((bel_new W _).mono hW.size)
  obtain ⟨⟨c0, c1, c2, c3, c4, c5, c6, c7⟩, _⟩ := HX.out _ (Below.refl _ _)
  obtain ⟨⟨a0, a1, a2, a3, a4, a5, a6, a7⟩, _⟩ := HX.out _ (HA0.out _ (Below.refl _ _))
  obtain ⟨⟨b0, b1, b2, b3, b4, b5, b6, b7⟩, _⟩ := HX.out _ (HA.out _ (Below.refl _ _))
  clear hnn HE HZ GK hh hn0 hn1
  generalize strOfNums (reBs x) = z at HP HM
  obtain ⟨o, HOO⟩ : ∃ o, Hid (rymk x = o) := ⟨_, rfl⟩
  rw [HOO.out] at HM
  clear c0 c1 c2 c3 c4 c5 c6 c7 a0 a1 a2 a3 a4 a5 a6 a7 b0 b1 b2 b3 b4 b5 b6 b7
  go_region_held_law (fun W => W.cell? ⟨w.heap.size, 0, none⟩ = some (.int .i64 x.nd) ∧ W.cell? ⟨w.heap.size, 1, none⟩ = some (.int .i64 x.cl) ∧ W.cell? ⟨w.heap.size, 2, none⟩ = some (.int .i64 x.st) ∧ W.cell? ⟨w.heap.size, 3, none⟩ = some (.int .i64 x.kd) ∧ W.cell? ⟨w.heap.size, 4, none⟩ = some (.int .i64 x.tk) ∧ W.cell? ⟨w.heap.size, 5, none⟩ = some (.int .i64 x.hd) ∧ W.cell? ⟨w.heap.size, 6, none⟩ = some (.int .i64 x.ex) ∧ W.cell? ⟨w.heap.size, 7, none⟩ = some (.string x.mc)) (first | with_reducible exact (HX.out _ G0.out).1 | with_reducible exact (HX.out _ G1.out).1 | with_reducible exact (HX.out _ G2.out).1 | with_reducible exact (HX.out _ g3).1 | with_reducible exact (HX.out _ gf).1 | with_reducible exact (HX.out _ g2).1 | with_reducible exact (HX.out _ (HA0.out _ g2)).1 | with_reducible exact (HX.out _ (HA.out _ g2)).1 | with_reducible exact (HX.out _ g4w).1)
    (first
      | (go_simp; go_at_call 26; (with_reducible refine (HS.out _ (by first | with_reducible exact G0.out | with_reducible exact G1.out | with_reducible exact G2.out)).mono ?_); rintro e w2 ⟨rfl, g2, b2⟩; (try (have hk2 := HKC.out _ b2; have hof := HOF.out _ b2; have gf := HGF.out _ g2)); try go_simp)
      | (go_simp; go_at_call 28; (with_reducible refine (HP.out _ _ (by first | with_reducible exact HL.out _ | with_reducible exact HOB.out _ _ _ HL0.out b2 | with_reducible exact hof) (by first | with_reducible exact g2 | with_reducible exact HA.out _ g2 | with_reducible exact gf)).mono ?_); rintro e w3 ⟨v3, rfl, k3, g3⟩; try go_simp)
      | (go_simp; go_at_call 27; (with_reducible refine (HM.out _ g3).mono ?_); rintro e w4 ⟨rfl, g4, g4w⟩; try go_simp))
  all_goals
    clear HX HS HP HM HL HL0 HA HA0 HOB hkc hk1 HKB HKC HOF HGF G0 G1 G2
    go_wp2_with fail
    go_ret
    exact ⟨Tx.ret_str HOO.out.symm, g4⟩
end Go.Proofs.YtiflfcpoajijaaaDoor.Ry
