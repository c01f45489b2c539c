/- eqGroupAct, eqWorldAct on equal acts. -/
import Derived.Test.YtlhokhccjejcoaaRlu
namespace Go.Proofs.Ytlhokhccjejcoaa.Rl16
open Go.RowKit Go.Lib Go.Proofs.Ytlhokhccjejcoaa.Ap Go.Proofs.Ytlhokhccjejcoaa.Tx
open Go.Proofs.Ytlhokhccjejcoaa.Gr12 (nV nB l00Number_any numberIn_any)
open Go.Proofs.Ytlhokhccjejcoaa.Stw
set_option maxRecDepth 100000 in
set_option maxHeartbeats 3200000 in
theorem eqGroupAct_any (gk gn : Int) (w : World) : Calls Try.prog 13 #[.agg #[.int .i64 gk, .int .i64 gn, .int .i64 0, .int .i64 0, .int .i64 0, .int .i64 0, .int .i64 0, .string ⟨#[]⟩, .int .i64 0, .int .i64 0, .int .i64 0, .int .i64 0, .string ⟨#[]⟩, .string ⟨#[]⟩, .string ⟨#[]⟩], .agg #[.int .i64 gk, .int .i64 gn, .int .i64 0, .int .i64 0, .int .i64 0, .int .i64 0, .int .i64 0, .string ⟨#[]⟩, .int .i64 0, .int .i64 0, .int .i64 0, .int .i64 0, .string ⟨#[]⟩, .string ⟨#[]⟩, .string ⟨#[]⟩]] w fun e w' => e = .returned (.bool true) ∧ Below w.heap.size w w' := by
    have H0 : Hid (∀ W, Below (w.heap.size + 2) ((w.alloc (.cells #[.int .i64 gk, .int .i64 gn, .int .i64 0, .int .i64 0, .int .i64 0, .int .i64 0, .int .i64 0, .string ⟨#[]⟩, .int .i64 0, .int .i64 0, .int .i64 0, .int .i64 0, .string ⟨#[]⟩, .string ⟨#[]⟩, .string ⟨#[]⟩] 27)).alloc (.cells #[.int .i64 gk, .int .i64 gn, .int .i64 0, .int .i64 0, .int .i64 0, .int .i64 0, .int .i64 0, .string ⟨#[]⟩, .int .i64 0, .int .i64 0, .int .i64 0, .int .i64 0, .string ⟨#[]⟩, .string ⟨#[]⟩, .string ⟨#[]⟩] 27)) W → W.heap[w.heap.size]? = some (.cells #[.int .i64 gk, .int .i64 gn, .int .i64 0, .int .i64 0, .int .i64 0, .int .i64 0, .int .i64 0, .string ⟨#[]⟩, .int .i64 0, .int .i64 0, .int .i64 0, .int .i64 0, .string ⟨#[]⟩, .string ⟨#[]⟩, .string ⟨#[]⟩] 27 (0, 0)) ∧ W.heap[w.heap.size + 1]? = some (.cells #[.int .i64 gk, .int .i64 gn, .int .i64 0, .int .i64 0, .int .i64 0, .int .i64 0, .int .i64 0, .string ⟨#[]⟩, .int .i64 0, .int .i64 0, .int .i64 0, .int .i64 0, .string ⟨#[]⟩, .string ⟨#[]⟩, .string ⟨#[]⟩] 27 (0, 0)) ∧ Below w.heap.size w W) := by
      intro W hW
      have e1 : (w.alloc (.cells #[.int .i64 gk, .int .i64 gn, .int .i64 0, .int .i64 0, .int .i64 0, .int .i64 0, .int .i64 0, .string ⟨#[]⟩, .int .i64 0, .int .i64 0, .int .i64 0, .int .i64 0, .string ⟨#[]⟩, .string ⟨#[]⟩, .string ⟨#[]⟩] 27)).heap.size = w.heap.size + 1 := by simp
      have b1 := bel_new w (.cells #[.int .i64 gk, .int .i64 gn, .int .i64 0, .int .i64 0, .int .i64 0, .int .i64 0, .int .i64 0, .string ⟨#[]⟩, .int .i64 0, .int .i64 0, .int .i64 0, .int .i64 0, .string ⟨#[]⟩, .string ⟨#[]⟩, .string ⟨#[]⟩] 27)
      have b2 := bel_new (w.alloc (.cells #[.int .i64 gk, .int .i64 gn, .int .i64 0, .int .i64 0, .int .i64 0, .int .i64 0, .int .i64 0, .string ⟨#[]⟩, .int .i64 0, .int .i64 0, .int .i64 0, .int .i64 0, .string ⟨#[]⟩, .string ⟨#[]⟩, .string ⟨#[]⟩] 27)) (.cells #[.int .i64 gk, .int .i64 gn, .int .i64 0, .int .i64 0, .int .i64 0, .int .i64 0, .int .i64 0, .string ⟨#[]⟩, .int .i64 0, .int .i64 0, .int .i64 0, .int .i64 0, .string ⟨#[]⟩, .string ⟨#[]⟩, .string ⟨#[]⟩] 27)
      have e2 : ((w.alloc (.cells #[.int .i64 gk, .int .i64 gn, .int .i64 0, .int .i64 0, .int .i64 0, .int .i64 0, .int .i64 0, .string ⟨#[]⟩, .int .i64 0, .int .i64 0, .int .i64 0, .int .i64 0, .string ⟨#[]⟩, .string ⟨#[]⟩, .string ⟨#[]⟩] 27)).alloc (.cells #[.int .i64 gk, .int .i64 gn, .int .i64 0, .int .i64 0, .int .i64 0, .int .i64 0, .int .i64 0, .string ⟨#[]⟩, .int .i64 0, .int .i64 0, .int .i64 0, .int .i64 0, .string ⟨#[]⟩, .string ⟨#[]⟩, .string ⟨#[]⟩] 27)).heap[w.heap.size + 1]? = some (.cells #[.int .i64 gk, .int .i64 gn, .int .i64 0, .int .i64 0, .int .i64 0, .int .i64 0, .int .i64 0, .string ⟨#[]⟩, .int .i64 0, .int .i64 0, .int .i64 0, .int .i64 0, .string ⟨#[]⟩, .string ⟨#[]⟩, .string ⟨#[]⟩] 27 (0, 0)) := by
        rw [← e1]
        exact blk_new _ _ _
      exact ⟨(hW.block _ (by omega)).trans ((b2.block _ (by simp)).trans (blk_new _ _ _)), (hW.block _ (by omega)).trans e2, (b1.trans (b2.mono b1.size)).trans (hW.mono (by omega))⟩
    have H1 : Hid (((w.alloc (.cells #[.int .i64 gk, .int .i64 gn, .int .i64 0, .int .i64 0, .int .i64 0, .int .i64 0, .int .i64 0, .string ⟨#[]⟩, .int .i64 0, .int .i64 0, .int .i64 0, .int .i64 0, .string ⟨#[]⟩, .string ⟨#[]⟩, .string ⟨#[]⟩] 27)).alloc (.cells #[.int .i64 gk, .int .i64 gn, .int .i64 0, .int .i64 0, .int .i64 0, .int .i64 0, .int .i64 0, .string ⟨#[]⟩, .int .i64 0, .int .i64 0, .int .i64 0, .int .i64 0, .string ⟨#[]⟩, .string ⟨#[]⟩, .string ⟨#[]⟩] 27)).heap.size = w.heap.size + 2) := by show _ = _; simp
    go_enter Try.func13, Try.ntmps13
    go_upto_region 1 with fail
    generalize ((w.alloc (.cells #[.int .i64 gk, .int .i64 gn, .int .i64 0, .int .i64 0, .int .i64 0, .int .i64 0, .int .i64 0, .string ⟨#[]⟩, .int .i64 0, .int .i64 0, .int .i64 0, .int .i64 0, .string ⟨#[]⟩, .string ⟨#[]⟩, .string ⟨#[]⟩] 27)).alloc (.cells #[.int .i64 gk, .int .i64 gn, .int .i64 0, .int .i64 0, .int .i64 0, .int .i64 0, .int .i64 0, .string ⟨#[]⟩, .int .i64 0, .int .i64 0, .int .i64 0, .int .i64 0, .string ⟨#[]⟩, .string ⟨#[]⟩, .string ⟨#[]⟩] 27)) = w0 at H0 H1 ⊢
    have K0 := H0.out w0 (Below.refl _ _)
    have x0 := (blk_cell K0.1 0 (x := .int .i64 gk) rfl).1
    have x1 := (blk_cell K0.1 1 (x := .int .i64 gn) rfl).1
    have x2 := (blk_cell K0.1 2 (x := .int .i64 0) rfl).1
    have x3 := (blk_cell K0.1 3 (x := .int .i64 0) rfl).1
    have x4 := (blk_cell K0.1 4 (x := .int .i64 0) rfl).1
    have x5 := (blk_cell K0.1 5 (x := .int .i64 0) rfl).1
    have x6 := (blk_cell K0.1 6 (x := .int .i64 0) rfl).1
    have x7 := (blk_cell K0.1 7 (x := .string ⟨#[]⟩) rfl).1
    have y0 := (blk_cell K0.2.1 0 (x := .int .i64 gk) rfl).1
    have y1 := (blk_cell K0.2.1 1 (x := .int .i64 gn) rfl).1
    have y2 := (blk_cell K0.2.1 2 (x := .int .i64 0) rfl).1
    have y3 := (blk_cell K0.2.1 3 (x := .int .i64 0) rfl).1
    have y4 := (blk_cell K0.2.1 4 (x := .int .i64 0) rfl).1
    have y5 := (blk_cell K0.2.1 5 (x := .int .i64 0) rfl).1
    have y6 := (blk_cell K0.2.1 6 (x := .int .i64 0) rfl).1
    have y7 := (blk_cell K0.2.1 7 (x := .string ⟨#[]⟩) rfl).1
    have hh : w.heap.size + 2 ≤ w0.heap.size := by rw [H1.out]; exact Nat.le_refl _
    clear K0
    go_wp2_with fail
    refine (eqRequest_any _ _ _ _ _ _).mono ?_
    rintro e w1 ⟨rfl, b1⟩
    have B1 : Below (w.heap.size + 2) w0 w1 := b1.mono hh
    have K1 := H0.out w1 B1
    clear x0 x1 x2 x3 x4 x5 x6 x7 y0 y1 y2 y3 y4 y5 y6 y7
    have x8 := (blk_cell K1.1 8 (x := .int .i64 0) rfl).1
    have x9 := (blk_cell K1.1 9 (x := .int .i64 0) rfl).1
    have x10 := (blk_cell K1.1 10 (x := .int .i64 0) rfl).1
    have x11 := (blk_cell K1.1 11 (x := .int .i64 0) rfl).1
    have x12 := (blk_cell K1.1 12 (x := .string ⟨#[]⟩) rfl).1
    have x13 := (blk_cell K1.1 13 (x := .string ⟨#[]⟩) rfl).1
    have x14 := (blk_cell K1.1 14 (x := .string ⟨#[]⟩) rfl).1
    have y8 := (blk_cell K1.2.1 8 (x := .int .i64 0) rfl).1
    have y9 := (blk_cell K1.2.1 9 (x := .int .i64 0) rfl).1
    have y10 := (blk_cell K1.2.1 10 (x := .int .i64 0) rfl).1
    have y11 := (blk_cell K1.2.1 11 (x := .int .i64 0) rfl).1
    have y12 := (blk_cell K1.2.1 12 (x := .string ⟨#[]⟩) rfl).1
    have y13 := (blk_cell K1.2.1 13 (x := .string ⟨#[]⟩) rfl).1
    have y14 := (blk_cell K1.2.1 14 (x := .string ⟨#[]⟩) rfl).1
    clear K1
    go_wp2_with fail
    refine (eqMessage_any _ _ _ _ _ _ _ _).mono ?_
    rintro e w2 ⟨rfl, b2⟩
    have B2 : Below (w.heap.size + 2) w0 w2 := B1.trans (b2.mono (Nat.le_trans hh b1.size))
    clear x8 x9 x10 x11 x12 x13 x14 y8 y9 y10 y11 y12 y13 y14
    go_wp2_with fail
    go_ret
    exact ⟨rfl, (H0.out w2 B2).2.2⟩
set_option maxRecDepth 100000 in
set_option maxHeartbeats 3200000 in
theorem eqWorldAct_any (kd cl op le : Int) (nm : ByteArray) (gk gn : Int) (w : World) : Calls Try.prog 6 #[.agg (waC kd cl op le nm gk gn), .agg (waC kd cl op le nm gk gn)] w fun e w' => e = .returned (.bool true) ∧ Below w.heap.size w w' := by
    unfold waC
    have H0 : Hid (∀ W, Below (w.heap.size + 2) ((w.alloc (.cells #[.int .i64 kd, .int .i64 cl, .int .i64 0, .int .i64 0, .int .i64 op, .int .i64 le, .string nm, .int .i64 gk, .int .i64 gn, .int .i64 0, .int .i64 0, .int .i64 0, .int .i64 0, .int .i64 0, .string ⟨#[]⟩, .int .i64 0, .int .i64 0, .int .i64 0, .int .i64 0, .string ⟨#[]⟩, .string ⟨#[]⟩, .string ⟨#[]⟩, .int .i64 0, .int .i64 0, .int .i64 0, .int .i64 0] 31)).alloc (.cells #[.int .i64 kd, .int .i64 cl, .int .i64 0, .int .i64 0, .int .i64 op, .int .i64 le, .string nm, .int .i64 gk, .int .i64 gn, .int .i64 0, .int .i64 0, .int .i64 0, .int .i64 0, .int .i64 0, .string ⟨#[]⟩, .int .i64 0, .int .i64 0, .int .i64 0, .int .i64 0, .string ⟨#[]⟩, .string ⟨#[]⟩, .string ⟨#[]⟩, .int .i64 0, .int .i64 0, .int .i64 0, .int .i64 0] 31)) W → W.heap[w.heap.size]? = some (.cells #[.int .i64 kd, .int .i64 cl, .int .i64 0, .int .i64 0, .int .i64 op, .int .i64 le, .string nm, .int .i64 gk, .int .i64 gn, .int .i64 0, .int .i64 0, .int .i64 0, .int .i64 0, .int .i64 0, .string ⟨#[]⟩, .int .i64 0, .int .i64 0, .int .i64 0, .int .i64 0, .string ⟨#[]⟩, .string ⟨#[]⟩, .string ⟨#[]⟩, .int .i64 0, .int .i64 0, .int .i64 0, .int .i64 0] 31 (0, 0)) ∧ W.heap[w.heap.size + 1]? = some (.cells #[.int .i64 kd, .int .i64 cl, .int .i64 0, .int .i64 0, .int .i64 op, .int .i64 le, .string nm, .int .i64 gk, .int .i64 gn, .int .i64 0, .int .i64 0, .int .i64 0, .int .i64 0, .int .i64 0, .string ⟨#[]⟩, .int .i64 0, .int .i64 0, .int .i64 0, .int .i64 0, .string ⟨#[]⟩, .string ⟨#[]⟩, .string ⟨#[]⟩, .int .i64 0, .int .i64 0, .int .i64 0, .int .i64 0] 31 (0, 0)) ∧ Below w.heap.size w W) := by
      intro W hW
      have e1 : (w.alloc (.cells #[.int .i64 kd, .int .i64 cl, .int .i64 0, .int .i64 0, .int .i64 op, .int .i64 le, .string nm, .int .i64 gk, .int .i64 gn, .int .i64 0, .int .i64 0, .int .i64 0, .int .i64 0, .int .i64 0, .string ⟨#[]⟩, .int .i64 0, .int .i64 0, .int .i64 0, .int .i64 0, .string ⟨#[]⟩, .string ⟨#[]⟩, .string ⟨#[]⟩, .int .i64 0, .int .i64 0, .int .i64 0, .int .i64 0] 31)).heap.size = w.heap.size + 1 := by simp
      have b1 := bel_new w (.cells #[.int .i64 kd, .int .i64 cl, .int .i64 0, .int .i64 0, .int .i64 op, .int .i64 le, .string nm, .int .i64 gk, .int .i64 gn, .int .i64 0, .int .i64 0, .int .i64 0, .int .i64 0, .int .i64 0, .string ⟨#[]⟩, .int .i64 0, .int .i64 0, .int .i64 0, .int .i64 0, .string ⟨#[]⟩, .string ⟨#[]⟩, .string ⟨#[]⟩, .int .i64 0, .int .i64 0, .int .i64 0, .int .i64 0] 31)
      have b2 := bel_new (w.alloc (.cells #[.int .i64 kd, .int .i64 cl, .int .i64 0, .int .i64 0, .int .i64 op, .int .i64 le, .string nm, .int .i64 gk, .int .i64 gn, .int .i64 0, .int .i64 0, .int .i64 0, .int .i64 0, .int .i64 0, .string ⟨#[]⟩, .int .i64 0, .int .i64 0, .int .i64 0, .int .i64 0, .string ⟨#[]⟩, .string ⟨#[]⟩, .string ⟨#[]⟩, .int .i64 0, .int .i64 0, .int .i64 0, .int .i64 0] 31)) (.cells #[.int .i64 kd, .int .i64 cl, .int .i64 0, .int .i64 0, .int .i64 op, .int .i64 le, .string nm, .int .i64 gk, .int .i64 gn, .int .i64 0, .int .i64 0, .int .i64 0, .int .i64 0, .int .i64 0, .string ⟨#[]⟩, .int .i64 0, .int .i64 0, .int .i64 0, .int .i64 0, .string ⟨#[]⟩, .string ⟨#[]⟩, .string ⟨#[]⟩, .int .i64 0, .int .i64 0, .int .i64 0, .int .i64 0] 31)
      have e2 : ((w.alloc (.cells #[.int .i64 kd, .int .i64 cl, .int .i64 0, .int .i64 0, .int .i64 op, .int .i64 le, .string nm, .int .i64 gk, .int .i64 gn, .int .i64 0, .int .i64 0, .int .i64 0, .int .i64 0, .int .i64 0, .string ⟨#[]⟩, .int .i64 0, .int .i64 0, .int .i64 0, .int .i64 0, .string ⟨#[]⟩, .string ⟨#[]⟩, .string ⟨#[]⟩, .int .i64 0, .int .i64 0, .int .i64 0, .int .i64 0] 31)).alloc (.cells #[.int .i64 kd, .int .i64 cl, .int .i64 0, .int .i64 0, .int .i64 op, .int .i64 le, .string nm, .int .i64 gk, .int .i64 gn, .int .i64 0, .int .i64 0, .int .i64 0, .int .i64 0, .int .i64 0, .string ⟨#[]⟩, .int .i64 0, .int .i64 0, .int .i64 0, .int .i64 0, .string ⟨#[]⟩, .string ⟨#[]⟩, .string ⟨#[]⟩, .int .i64 0, .int .i64 0, .int .i64 0, .int .i64 0] 31)).heap[w.heap.size + 1]? = some (.cells #[.int .i64 kd, .int .i64 cl, .int .i64 0, .int .i64 0, .int .i64 op, .int .i64 le, .string nm, .int .i64 gk, .int .i64 gn, .int .i64 0, .int .i64 0, .int .i64 0, .int .i64 0, .int .i64 0, .string ⟨#[]⟩, .int .i64 0, .int .i64 0, .int .i64 0, .int .i64 0, .string ⟨#[]⟩, .string ⟨#[]⟩, .string ⟨#[]⟩, .int .i64 0, .int .i64 0, .int .i64 0, .int .i64 0] 31 (0, 0)) := by
        rw [← e1]
        exact blk_new _ _ _
      exact ⟨(hW.block _ (by omega)).trans ((b2.block _ (by simp)).trans (blk_new _ _ _)), (hW.block _ (by omega)).trans e2, (b1.trans (b2.mono b1.size)).trans (hW.mono (by omega))⟩
    have H1 : Hid (((w.alloc (.cells #[.int .i64 kd, .int .i64 cl, .int .i64 0, .int .i64 0, .int .i64 op, .int .i64 le, .string nm, .int .i64 gk, .int .i64 gn, .int .i64 0, .int .i64 0, .int .i64 0, .int .i64 0, .int .i64 0, .string ⟨#[]⟩, .int .i64 0, .int .i64 0, .int .i64 0, .int .i64 0, .string ⟨#[]⟩, .string ⟨#[]⟩, .string ⟨#[]⟩, .int .i64 0, .int .i64 0, .int .i64 0, .int .i64 0] 31)).alloc (.cells #[.int .i64 kd, .int .i64 cl, .int .i64 0, .int .i64 0, .int .i64 op, .int .i64 le, .string nm, .int .i64 gk, .int .i64 gn, .int .i64 0, .int .i64 0, .int .i64 0, .int .i64 0, .int .i64 0, .string ⟨#[]⟩, .int .i64 0, .int .i64 0, .int .i64 0, .int .i64 0, .string ⟨#[]⟩, .string ⟨#[]⟩, .string ⟨#[]⟩, .int .i64 0, .int .i64 0, .int .i64 0, .int .i64 0] 31)).heap.size = w.heap.size + 2) := by show _ = _; simp
    go_enter Try.func6, Try.ntmps6
    go_upto_region 1 with fail
    generalize ((w.alloc (.cells #[.int .i64 kd, .int .i64 cl, .int .i64 0, .int .i64 0, .int .i64 op, .int .i64 le, .string nm, .int .i64 gk, .int .i64 gn, .int .i64 0, .int .i64 0, .int .i64 0, .int .i64 0, .int .i64 0, .string ⟨#[]⟩, .int .i64 0, .int .i64 0, .int .i64 0, .int .i64 0, .string ⟨#[]⟩, .string ⟨#[]⟩, .string ⟨#[]⟩, .int .i64 0, .int .i64 0, .int .i64 0, .int .i64 0] 31)).alloc (.cells #[.int .i64 kd, .int .i64 cl, .int .i64 0, .int .i64 0, .int .i64 op, .int .i64 le, .string nm, .int .i64 gk, .int .i64 gn, .int .i64 0, .int .i64 0, .int .i64 0, .int .i64 0, .int .i64 0, .string ⟨#[]⟩, .int .i64 0, .int .i64 0, .int .i64 0, .int .i64 0, .string ⟨#[]⟩, .string ⟨#[]⟩, .string ⟨#[]⟩, .int .i64 0, .int .i64 0, .int .i64 0, .int .i64 0] 31)) = w0 at H0 H1 ⊢
    have K0 := H0.out w0 (Below.refl _ _)
    have x0 := (blk_cell K0.1 0 (x := .int .i64 kd) rfl).1
    have x1 := (blk_cell K0.1 1 (x := .int .i64 cl) rfl).1
    have x2 := (blk_cell K0.1 2 (x := .int .i64 0) rfl).1
    have x3 := (blk_cell K0.1 3 (x := .int .i64 0) rfl).1
    have x4 := (blk_cell K0.1 4 (x := .int .i64 op) rfl).1
    have x5 := (blk_cell K0.1 5 (x := .int .i64 le) rfl).1
    have x6 := (blk_cell K0.1 6 (x := .string nm) rfl).1
    have x7 := (blk_cell K0.1 7 (x := .int .i64 gk) rfl).1
    have x8 := (blk_cell K0.1 8 (x := .int .i64 gn) rfl).1
    have x9 := (blk_cell K0.1 9 (x := .int .i64 0) rfl).1
    have x10 := (blk_cell K0.1 10 (x := .int .i64 0) rfl).1
    have x11 := (blk_cell K0.1 11 (x := .int .i64 0) rfl).1
    have x12 := (blk_cell K0.1 12 (x := .int .i64 0) rfl).1
    have x13 := (blk_cell K0.1 13 (x := .int .i64 0) rfl).1
    have x14 := (blk_cell K0.1 14 (x := .string ⟨#[]⟩) rfl).1
    have x15 := (blk_cell K0.1 15 (x := .int .i64 0) rfl).1
    have x16 := (blk_cell K0.1 16 (x := .int .i64 0) rfl).1
    have x17 := (blk_cell K0.1 17 (x := .int .i64 0) rfl).1
    have x18 := (blk_cell K0.1 18 (x := .int .i64 0) rfl).1
    have x19 := (blk_cell K0.1 19 (x := .string ⟨#[]⟩) rfl).1
    have x20 := (blk_cell K0.1 20 (x := .string ⟨#[]⟩) rfl).1
    have x21 := (blk_cell K0.1 21 (x := .string ⟨#[]⟩) rfl).1
    have y0 := (blk_cell K0.2.1 0 (x := .int .i64 kd) rfl).1
    have y1 := (blk_cell K0.2.1 1 (x := .int .i64 cl) rfl).1
    have y2 := (blk_cell K0.2.1 2 (x := .int .i64 0) rfl).1
    have y3 := (blk_cell K0.2.1 3 (x := .int .i64 0) rfl).1
    have y4 := (blk_cell K0.2.1 4 (x := .int .i64 op) rfl).1
    have y5 := (blk_cell K0.2.1 5 (x := .int .i64 le) rfl).1
    have y6 := (blk_cell K0.2.1 6 (x := .string nm) rfl).1
    have y7 := (blk_cell K0.2.1 7 (x := .int .i64 gk) rfl).1
    have y8 := (blk_cell K0.2.1 8 (x := .int .i64 gn) rfl).1
    have y9 := (blk_cell K0.2.1 9 (x := .int .i64 0) rfl).1
    have y10 := (blk_cell K0.2.1 10 (x := .int .i64 0) rfl).1
    have y11 := (blk_cell K0.2.1 11 (x := .int .i64 0) rfl).1
    have y12 := (blk_cell K0.2.1 12 (x := .int .i64 0) rfl).1
    have y13 := (blk_cell K0.2.1 13 (x := .int .i64 0) rfl).1
    have y14 := (blk_cell K0.2.1 14 (x := .string ⟨#[]⟩) rfl).1
    have y15 := (blk_cell K0.2.1 15 (x := .int .i64 0) rfl).1
    have y16 := (blk_cell K0.2.1 16 (x := .int .i64 0) rfl).1
    have y17 := (blk_cell K0.2.1 17 (x := .int .i64 0) rfl).1
    have y18 := (blk_cell K0.2.1 18 (x := .int .i64 0) rfl).1
    have y19 := (blk_cell K0.2.1 19 (x := .string ⟨#[]⟩) rfl).1
    have y20 := (blk_cell K0.2.1 20 (x := .string ⟨#[]⟩) rfl).1
    have y21 := (blk_cell K0.2.1 21 (x := .string ⟨#[]⟩) rfl).1
    have hh : w.heap.size + 2 ≤ w0.heap.size := by rw [H1.out]; exact Nat.le_refl _
    clear K0
    go_wp2_with fail
    refine (eqGroupAct_any _ _ _).mono ?_
    rintro e w1 ⟨rfl, b1⟩
    have B1 : Below (w.heap.size + 2) w0 w1 := b1.mono hh
    have K1 := H0.out w1 B1
    clear x0 x1 x2 x3 x4 x5 x6 x7 x8 x9 x10 x11 x12 x13 x14 x15 x16 x17 x18 x19 x20 x21 y0 y1 y2 y3 y4 y5 y6 y7 y8 y9 y10 y11 y12 y13 y14 y15 y16 y17 y18 y19 y20 y21
    have x22 := (blk_cell K1.1 22 (x := .int .i64 0) rfl).1
    have x23 := (blk_cell K1.1 23 (x := .int .i64 0) rfl).1
    have x24 := (blk_cell K1.1 24 (x := .int .i64 0) rfl).1
    have x25 := (blk_cell K1.1 25 (x := .int .i64 0) rfl).1
    have y22 := (blk_cell K1.2.1 22 (x := .int .i64 0) rfl).1
    have y23 := (blk_cell K1.2.1 23 (x := .int .i64 0) rfl).1
    have y24 := (blk_cell K1.2.1 24 (x := .int .i64 0) rfl).1
    have y25 := (blk_cell K1.2.1 25 (x := .int .i64 0) rfl).1
    clear K1
    go_wp2_with fail
    refine (eqAnswer_any _ _ _ _ _).mono ?_
    rintro e w2 ⟨rfl, b2⟩
    have B2 : Below (w.heap.size + 2) w0 w2 := B1.trans (b2.mono (Nat.le_trans hh b1.size))
    clear x22 x23 x24 x25 y22 y23 y24 y25
    go_wp2_with fail
    go_ret
    exact ⟨rfl, (H0.out w2 B2).2.2⟩
end Go.Proofs.Ytlhokhccjejcoaa.Rl16
