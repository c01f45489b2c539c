/-
  impl.NewWorld answers at every number and every list just what the specification's NewWorld answers, and its answer owns its memory.
  Conditions: none beyond the given row's own.
-/
import Derived.Test.YtdhmmbbdckahmaaWne
import Derived.WalkKit
import Derived.ProofKit
import Derived.OpenShut
import Derived.ShutString
import Derived.ChangeOld
import Derived.Below
namespace Go.Proofs.Ytdhmmbbdckahmaa.fnExactNewWorld
open Go.ChangeShapes Go.WideShapes Go.ChangeAt Go.RowKit
open Go.ChangeMaps (open_string shut_string)

theorem own : ownKnob Try.prog.godebug = none := by kernel_rfl
theorem laidOut : laidOutB Try.prog = true := by kernel_rfl

open Go.Proofs.Ytdhmmbbdckahmaa.Sl Go.Proofs.Ytdhmmbbdckahmaa.Rg Go.Proofs.Ytdhmmbbdckahmaa.Nr Go.Proofs.Ytdhmmbbdckahmaa.Is Go.Proofs.Ytdhmmbbdckahmaa.Ng Go.Proofs.Ytdhmmbbdckahmaa.Wn
set_option maxRecDepth 100000 in
set_option maxHeartbeats 3200000 in
/-- THE WALK: both functions answer alike, and the answer owns its memory. -/
theorem walk (i0 : Int) (_z0 : (Lit.int .i64 i0).wf = true) (v0 : Value) (xs : List Int) (w : World) (h0 : RowI w v0 xs) :
    Calls Try.prog 3 #[.int .i64 i0, v0] w fun e w' => e = .returned (.bool true) ∧ Below w.heap.size w w' := by
  clear _z0
  have G0 : Hid (RowI w v0 xs) := h0
  obtain ⟨a, cap, rfl, _, hr⟩ := h0
  by_cases hb0 : (1048576 : Int) < (xs.length : Int)
  · go_enter Try.func3, Try.ntmps3
    go_wp2_with fail
    go_ret
    exact ⟨rfl, Below.refl _ _⟩
  have HL : Hid (xs.length ≤ 1048576) := by show _ ≤ _; omega
  have HTO : Hid (∀ W, Below w.heap.size w W → Calls Try.prog 5 #[.slice a xs.length cap] W fun e w' => ∃ g, e = .returned (.slice (some ⟨g, 0, none⟩) xs.length xs.length) ∧ (W.heap.size ≤ g ∧ MI w' g xs.length (fun i => nth xs i) ∧ RowI w' (.slice (some ⟨g, 0, none⟩) xs.length xs.length) xs) ∧ Below W.heap.size W w') := fun W hW => toIntO_any _ xs W (G0.out.below hW) HL.out
  have HSP : Hid (∀ W g, MI W g xs.length (fun i => nth xs i) → RowI W (.slice (some ⟨g, 0, none⟩) xs.length xs.length) xs → Calls Try.prog 4 #[.int .i64 i0, .slice (some ⟨g, 0, none⟩) xs.length xs.length] W fun e w' => ∃ af kf ar kr g3 g4 ac kc g6, e = .returned (.tuple #[.agg #[.int .i64 (gN i0 xs), .slice af (gX i0 xs).length kf, .slice ar (gN i0 xs).toNat kr, .slice g3 0 0, .slice g4 0 0, .slice ac (gL i0 xs) kc, .slice g6 0 0, .int .i64 0], .int .i64 (gC i0 xs)]) ∧ (∃ ps cs, OwnI w' W.heap.size (.slice af (gX i0 xs).length kf) (gX i0 xs) ∧ OwnQ w' W.heap.size (.slice ar (gN i0 xs).toNat kr) ps ∧ ps.length = (gN i0 xs).toNat ∧ SpP W.heap.size w' (gN i0 xs) ps ∧ OwnD w' W.heap.size (.slice ac (gL i0 xs) kc) cs ∧ cs.length = gL i0 xs ∧ NewD cs) ∧ Below W.heap.size W w') := fun W g h1 h2 => specNewWorld_any i0 g 0 xs.length xs W h1.lt (fun i hi => by rw [Nat.zero_add]; exact (h1.cell hi).1) h2
  have HIM : Hid (∀ W g, RowI W (.slice (some ⟨g, 0, none⟩) xs.length xs.length) xs → Calls Try.prog 6 #[.int .i64 i0, .slice (some ⟨g, 0, none⟩) xs.length xs.length] W fun e w' => ∃ af kf ar kr ac kc, e = .returned (.tuple #[.agg #[.int .i64 (gN i0 xs), .slice af (gX i0 xs).length kf, .slice ar (gN i0 xs).toNat kr, .slice none 0 0, .slice none 0 0, .slice ac (gL i0 xs) kc, .slice none 0 0, .int .i64 0], .int .i64 (gC i0 xs)]) ∧ (∃ ps cs, OwnI w' W.heap.size (.slice af (gX i0 xs).length kf) (gX i0 xs) ∧ OwnQ w' W.heap.size (.slice ar (gN i0 xs).toNat kr) ps ∧ ps.length = (gN i0 xs).toNat ∧ ImpP W.heap.size w' (gN i0 xs) ps ∧ Apart ps ∧ OwnD w' W.heap.size (.slice ac (gL i0 xs) kc) cs ∧ cs.length = gL i0 xs ∧ NewD cs ∧ (∀ p ∈ cs, p.ra = none ∧ p.ca = none)) ∧ Below W.heap.size W w') := fun W g h => implNewWorld_any i0 _ xs W h
  obtain ⟨hm, hy, hsub⟩ := g_small i0 xs
  have hl3 : gL i0 xs ≤ 3 := by unfold gL; split <;> omega
  have HR : Hid (∀ x ∈ gX i0 xs, -9223372036854775808 ≤ x ∧ x ≤ 9223372036854775807) := fun x hx => hr x (hsub x hx)
  clear hsub hr
  generalize gN i0 xs = m at HSP HIM hm
  generalize gX i0 xs = ys at HSP HIM hy HR
  generalize gC i0 xs = c at HSP HIM
  generalize gL i0 xs = L at HSP HIM hl3
  obtain ⟨M, rfl⟩ : ∃ M : Nat, m = (M : Int) := ⟨m.toNat, by omega⟩
  rw [Int.toNat_natCast] at HSP HIM
  have HM7 : Hid (M ≤ 7 ∧ ys.length ≤ 2 ∧ L ≤ 3) := ⟨by omega, hy, hl3⟩
  clear hm hy hl3
  have hcc : (c != c) = false := by simp
  go_enter Try.func3, Try.ntmps3
  go_upto_region 3 with fail
  go_upto_region 4 with (first | (go_at_call 5; refine (HTO.out _ (Below.refl _ _)).mono ?_; rintro e w1 ⟨g, rfl, ⟨_, k1, k2⟩, b1⟩) | (go_at_call 4; refine (HSP.out _ _ k1 k2).mono ?_; rintro e w2 ⟨af, kf, ar, kr, g3, g4, ac, kc, g6, rfl, ⟨qs, ds, o1, o2, o3, o4, o5, o6, o7⟩, b2⟩))
  have B2 : Below w.heap.size w w2 := b1.trans (b2.mono b1.size)
  have HS : Hid (∀ W, Below (w2.alloc (.cells #[.int .i64 (M : Int), .slice af ys.length kf, .slice ar M kr, .slice g3 0 0, .slice g4 0 0, .slice ac L kc, .slice g6 0 0, .int .i64 0] 31)).heap.size (w2.alloc (.cells #[.int .i64 (M : Int), .slice af ys.length kf, .slice ar M kr, .slice g3 0 0, .slice g4 0 0, .slice ac L kc, .slice g6 0 0, .int .i64 0] 31)) W → W.heap[w2.heap.size]? = some (.cells #[.int .i64 (M : Int), .slice af ys.length kf, .slice ar M kr, .slice g3 0 0, .slice g4 0 0, .slice ac L kc, .slice g6 0 0, .int .i64 0] 31 (0, 0)) ∧ RowI W (.slice af ys.length kf) ys ∧ (OwnQ W w1.heap.size (.slice ar M kr) qs ∧ qs.length = M ∧ SpP w1.heap.size W (M : Int) qs ∧ OwnD W w1.heap.size (.slice ac L kc) ds ∧ ds.length = L ∧ NewD ds) ∧ Below w.heap.size w W) := fun W hW => by
    have e1 := Rg.bel_new w2 (.cells #[.int .i64 (M : Int), .slice af ys.length kf, .slice ar M kr, .slice g3 0 0, .slice g4 0 0, .slice ac L kc, .slice g6 0 0, .int .i64 0] 31)
    have h1 : W.heap[w2.heap.size]? = some (.cells #[.int .i64 (M : Int), .slice af ys.length kf, .slice ar M kr, .slice g3 0 0, .slice g4 0 0, .slice ac L kc, .slice g6 0 0, .int .i64 0] 31 (0, 0)) := (hW.block w2.heap.size (by simp)).trans (heap_alloc_new w2 _)
    have e2 : Below w2.heap.size w2 W := e1.trans (hW.mono (by simp))
    exact ⟨h1, (OwnI.row o1 HR.out).below e2, ⟨o2.below e2, o3, fun k p hp => (o4 k p hp).below e2, o5.below e2, o6, o7⟩, B2.trans (e2.mono B2.size)⟩
  clear b1 b2 B2 o1 o2 o3 o4 o5 o6 o7 k1 k2 HSP
  generalize w2.alloc (.cells #[.int .i64 (M : Int), .slice af ys.length kf, .slice ar M kr, .slice g3 0 0, .slice g4 0 0, .slice ac L kc, .slice g6 0 0, .int .i64 0] 31) = w3 at HS ⊢
  generalize w2.heap.size = x at HS ⊢
  generalize w1.heap.size = BS at HS
  have HEQ : Hid (∀ W vf vr vc ps cs B, RowI W vf ys → OwnQ W B vr ps → ImpP B W (M : Int) ps → ps.length = M → OwnD W B vc cs → cs.length = L → NewD cs → Below w3.heap.size w3 W → Calls Try.prog 7 #[.agg #[.int .i64 (M : Int), vf, vr, .slice none 0 0, .slice none 0 0, vc, .slice none 0 0, .int .i64 0], .agg #[.int .i64 (M : Int), .slice af ys.length kf, .slice ar M kr, .slice g3 0 0, .slice g4 0 0, .slice ac L kc, .slice g6 0 0, .int .i64 0]] W fun e w' => e = .returned (.bool true) ∧ Below W.heap.size W w') := fun W vf vr vc ps cs B h1 h2 h3 h4 h5 h6 h7 hW => by
    obtain ⟨_, s1, ⟨s2, s3, s4, s5, s6, s7⟩, _⟩ := HS.out W hW
    have hM := HM7.out
    exact eqWorld_new (M : Int) ys vf vr _ _ vc _ g3 g4 g6 ps qs cs ds B BS W h1 s1 h2 s2 h3 s4 (by omega) (by omega) (by omega) h5 s5 (by omega) (by omega) h7 s7
  have HT1 := HTO.out w3 (HS.out w3 (Below.refl _ _)).2.2.2
  go_upto_region 5 with (go_at_call 5; refine HT1.mono ?_; rintro e w4 ⟨g, rfl, ⟨lg, k1, k2⟩, b4⟩)
  have HI1 := HIM.out w4 g k2
  have LG : Hid (w3.heap.size ≤ g ∧ g < w4.heap.size) := ⟨lg, k1.lt⟩
  have MG : Hid (MI w4 g xs.length (fun i => nth xs i) ∧ RowI w4 (.slice (some ⟨g, 0, none⟩) xs.length xs.length) xs) := ⟨k1, k2⟩
  have B4 : Hid (Below w3.heap.size w3 w4) := b4
  clear lg k1 k2 b4 HT1
  go_upto_region 6 with (go_at_call 6; refine HI1.mono ?_; rintro e w5 ⟨bf, lf, br, lr, bc, lc, rfl, ⟨ps, cs, o1, o2, o3, o4, o5, o6, o7, o8, _⟩, b5⟩)
  have HG : Hid (∀ W, (∀ k, w4.heap.size ≤ k → k < (w5.alloc (.cells #[.int .i64 (M : Int), .slice bf ys.length lf, .slice br M lr, .slice none 0 0, .slice none 0 0, .slice bc L lc, .slice none 0 0, .int .i64 0] 31)).heap.size → W.heap[k]? = (w5.alloc (.cells #[.int .i64 (M : Int), .slice bf ys.length lf, .slice br M lr, .slice none 0 0, .slice none 0 0, .slice bc L lc, .slice none 0 0, .int .i64 0] 31)).heap[k]?) → W.heap[w5.heap.size]? = some (.cells #[.int .i64 (M : Int), .slice bf ys.length lf, .slice br M lr, .slice none 0 0, .slice none 0 0, .slice bc L lc, .slice none 0 0, .int .i64 0] 31 (0, 0)) ∧ OwnI W w4.heap.size (.slice bf ys.length lf) ys ∧ OwnQ W w4.heap.size (.slice br M lr) ps ∧ ImpP w4.heap.size W (M : Int) ps ∧ OwnD W w4.heap.size (.slice bc L lc) cs) := fun W hW => by
    have e1 := Rg.bel_new w5 (.cells #[.int .i64 (M : Int), .slice bf ys.length lf, .slice br M lr, .slice none 0 0, .slice none 0 0, .slice bc L lc, .slice none 0 0, .int .i64 0] 31)
    refine ⟨(hW _ b5.size (by simp)).trans (heap_alloc_new w5 _), ownI_kept (ownI_below o1 e1) fun k e => ?_, (o2.below e1).kept fun k e => ?_, fun k p hp => ?_, (o6.below e1).kept fun k e => ?_⟩
    · have := ownI_lt (ownI_below o1 e1) k e
      exact hW k this.1 this.2
    · have := (o2.below e1).lt k e
      exact hW k this.1 this.2
    · obtain ⟨h1, h2, h3, gs, gc, h4, h5, h6, h7, h8⟩ := (o4.below e1) k p hp
      exact ⟨h1, h2, h3, gs, gc, h4, h5, h6, h7.kept (hW gs h5 h7.lt), h8.kept (hW gc h6 h8.lt)⟩
    · have := (o6.below e1).lt k e
      exact hW k this.1 this.2
  have HP : Hid (ps.length = M ∧ Apart ps ∧ cs.length = L ∧ NewD cs) := ⟨o3, o5, o7, o8⟩
  have B6 : Hid (Below w4.heap.size w4 (w5.alloc (.cells #[.int .i64 (M : Int), .slice bf ys.length lf, .slice br M lr, .slice none 0 0, .slice none 0 0, .slice bc L lc, .slice none 0 0, .int .i64 0] 31))) := b5.alloc b5.size _
  clear o1 o2 o3 o4 o5 o6 o7 o8 b5 HI1
  generalize w5.alloc (.cells #[.int .i64 (M : Int), .slice bf ys.length lf, .slice br M lr, .slice none 0 0, .slice none 0 0, .slice bc L lc, .slice none 0 0, .int .i64 0] 31) = w6 at HG B6 ⊢
  generalize w5.heap.size = y at HG ⊢
  have S6 : Hid (Below w3.heap.size w3 w6) := B4.out.trans (B6.out.mono B4.out.size)
  obtain ⟨q1, q2, q3, q4, q5⟩ := HG.out w6 (fun _ _ _ => rfl)
  have HE6 := HEQ.out w6 _ _ _ ps cs _ (OwnI.row q2 HR.out) q3 q4 HP.out.1 q5 HP.out.2.2.1 HP.out.2.2.2 S6.out
  have s0 := (blk_cell (HS.out w6 S6.out).1 0 (x := .int .i64 (M : Int)) rfl).1
  have s1 := (blk_cell (HS.out w6 S6.out).1 1 (x := .slice af ys.length kf) rfl).1
  have s2 := (blk_cell (HS.out w6 S6.out).1 2 (x := .slice ar M kr) rfl).1
  have s3 := (blk_cell (HS.out w6 S6.out).1 3 (x := .slice g3 0 0) rfl).1
  have s4 := (blk_cell (HS.out w6 S6.out).1 4 (x := .slice g4 0 0) rfl).1
  have s5 := (blk_cell (HS.out w6 S6.out).1 5 (x := .slice ac L kc) rfl).1
  have s6 := (blk_cell (HS.out w6 S6.out).1 6 (x := .slice g6 0 0) rfl).1
  have s7 := (blk_cell (HS.out w6 S6.out).1 7 (x := .int .i64 0) rfl).1
  have p0 := (blk_cell q1 0 (x := .int .i64 (M : Int)) rfl).1
  have p1 := (blk_cell q1 1 (x := .slice bf ys.length lf) rfl).1
  have p2 := (blk_cell q1 2 (x := .slice br M lr) rfl).1
  have p3 := (blk_cell q1 3 (x := .slice none 0 0) rfl).1
  have p4 := (blk_cell q1 4 (x := .slice none 0 0) rfl).1
  have p5 := (blk_cell q1 5 (x := .slice bc L lc) rfl).1
  have p6 := (blk_cell q1 6 (x := .slice none 0 0) rfl).1
  have p7 := (blk_cell q1 7 (x := .int .i64 0) rfl).1
  clear q1 q2 q3 q4 q5
  go_upto_region 8 with (go_at_call 7; refine HE6.mono ?_; rintro e w7 ⟨rfl, b7⟩)
  have B7 : Hid (Below w4.heap.size w4 w7 ∧ Below w6.heap.size w6 w7) := ⟨B6.out.trans (b7.mono B6.out.size), b7⟩
  clear b7 HE6 s0 s1 s2 s3 s4 s5 s6 s7 p0 p1 p2 p3 p4 p5 p6 p7
  have HT2 := HTO.out w7 (HS.out w7 (B4.out.trans (B7.out.1.mono B4.out.size))).2.2.2
  have HEI : Hid (∀ W g', Below w4.heap.size w4 W → RowI W (.slice (some ⟨g', 0, none⟩) xs.length xs.length) xs → Calls Try.prog 8 #[.slice (some ⟨g, 0, none⟩) xs.length xs.length, .slice (some ⟨g', 0, none⟩) xs.length xs.length] W fun e w' => e = .returned (.bool true) ∧ Below W.heap.size W w') := fun W g' hW h => eqIntS_same _ _ xs W (MG.out.2.below hW) h HL.out
  go_upto_region 10 with (first | (go_at_call 5; refine HT2.mono ?_; rintro e w8 ⟨g', rfl, ⟨_, _, k2⟩, b8⟩; have B8 : Below w4.heap.size w4 w8 := B7.out.1.trans (b8.mono B7.out.1.size)) | (go_at_call 8; refine (HEI.out _ _ B8 k2).mono ?_; rintro e w9 ⟨rfl, b9⟩))
  have B9 : Hid (Below w4.heap.size w4 w9 ∧ Below w6.heap.size w6 w9) := ⟨B8.trans (b9.mono B8.size), (B7.out.2.trans (b8.mono B7.out.2.size)).trans (b9.mono (Nat.le_trans B7.out.2.size b8.size))⟩
  clear B8 b8 b9 k2 HT2 HEI B7
  have HMK : Hid (Calls Try.prog 9 #[.slice (some ⟨g, 0, none⟩) xs.length xs.length, .int .i64 1] w9 fun e w' => ∃ t : Int, e = .returned (.int .i64 t) ∧ 0 ≤ t ∧ w9.grownBy w' (some g)) := (markInts g xs.length xs.length 1 _ w9 (MG.out.1.below B9.out.1) HL.out (by decide)).mono (by
    rintro e w' ⟨rfl, _, gr⟩
    exact ⟨_, rfl, Int.natCast_nonneg _, gr⟩)
  clear MG
  go_upto_region 12 with (go_at_call 9; refine HMK.out.mono ?_; rintro e w10 ⟨t, rfl, ht, gr⟩)
  have hL9 : w4.heap.size ≤ w9.heap.size := B9.out.1.size
  have hL6 : w6.heap.size ≤ w9.heap.size := B9.out.2.size
  have K10 : Hid (∀ k, w4.heap.size ≤ k → k < w6.heap.size → w10.heap[k]? = w6.heap[k]?) := fun k h1 h2 => (gr.block k (by omega) (fun e => by injection e with e; have := LG.out.2; omega)).trans (B9.out.2.block k h2)
  have S10 : Hid (Below w3.heap.size w3 w10) := (B4.out.trans (B9.out.1.mono B4.out.size)).trans (grown_bel gr (Nat.le_trans B4.out.size hL9) LG.out.1)
  have L10 : Hid (w6.heap.size ≤ w10.heap.size) := Nat.le_trans hL6 gr.size
  have ht' : ¬ t < 0 := by omega
  clear gr HMK B9 ht LG hL9 hL6
  obtain ⟨q1, q2, q3, q4, q5⟩ := HG.out w10 K10.out
  have HE10 := HEQ.out w10 _ _ _ ps cs _ (OwnI.row q2 HR.out) q3 q4 HP.out.1 q5 HP.out.2.2.1 HP.out.2.2.2 S10.out
  have s0 := (blk_cell (HS.out w10 S10.out).1 0 (x := .int .i64 (M : Int)) rfl).1
  have s1 := (blk_cell (HS.out w10 S10.out).1 1 (x := .slice af ys.length kf) rfl).1
  have s2 := (blk_cell (HS.out w10 S10.out).1 2 (x := .slice ar M kr) rfl).1
  have s3 := (blk_cell (HS.out w10 S10.out).1 3 (x := .slice g3 0 0) rfl).1
  have s4 := (blk_cell (HS.out w10 S10.out).1 4 (x := .slice g4 0 0) rfl).1
  have s5 := (blk_cell (HS.out w10 S10.out).1 5 (x := .slice ac L kc) rfl).1
  have s6 := (blk_cell (HS.out w10 S10.out).1 6 (x := .slice g6 0 0) rfl).1
  have s7 := (blk_cell (HS.out w10 S10.out).1 7 (x := .int .i64 0) rfl).1
  have p0 := (blk_cell q1 0 (x := .int .i64 (M : Int)) rfl).1
  have p1 := (blk_cell q1 1 (x := .slice bf ys.length lf) rfl).1
  have p2 := (blk_cell q1 2 (x := .slice br M lr) rfl).1
  have p3 := (blk_cell q1 3 (x := .slice none 0 0) rfl).1
  have p4 := (blk_cell q1 4 (x := .slice none 0 0) rfl).1
  have p5 := (blk_cell q1 5 (x := .slice bc L lc) rfl).1
  have p6 := (blk_cell q1 6 (x := .slice none 0 0) rfl).1
  have p7 := (blk_cell q1 7 (x := .int .i64 0) rfl).1
  clear q1 q2 q3 q4 q5
  go_upto_region 14 with (go_at_call 7; refine HE10.mono ?_; rintro e w11 ⟨rfl, b11⟩)
  have K11 : Hid (∀ k, w4.heap.size ≤ k → k < w6.heap.size → w11.heap[k]? = w6.heap[k]?) := fun k h1 h2 => (b11.block k (Nat.lt_of_lt_of_le h2 L10.out)).trans (K10.out k h1 h2)
  have S11 : Hid (Below w3.heap.size w3 w11) := S10.out.trans (b11.mono S10.out.size)
  have L11 : Hid (w4.heap.size ≤ w11.heap.size) := Nat.le_trans (Nat.le_trans B6.out.size L10.out) b11.size
  clear b11 HE10 K10 S10 L10 ht' s0 s1 s2 s3 s4 s5 s6 s7 p0 p1 p2 p3 p4 p5 p6 p7
  obtain ⟨q1, q2, q3, q4, q5⟩ := HG.out w11 K11.out
  have HMG : Hid (Calls Try.prog 10 #[.agg #[.int .i64 (M : Int), .slice bf ys.length lf, .slice br M lr, .slice none 0 0, .slice none 0 0, .slice bc L lc, .slice none 0 0, .int .i64 0], .int .i64 1] w11 fun e w' => ∃ t : Int, e = .returned (.int .i64 t) ∧ (0 ≤ t ∧ Hid (t = ((1 + ys.length + 36 * M + 8 * L : Nat) : Int))) ∧ (HeldI w' bf 1 ys.length ∧ HeldQ w' br (1 + ys.length) ps ∧ HeldD w' bc (1 + ys.length + 36 * M) cs) ∧ Below w4.heap.size w11 w' ∧ w'.heap[y]? = some (.cells #[.int .i64 (M : Int), .slice bf ys.length lf, .slice br M lr, .slice none 0 0, .slice none 0 0, .slice bc L lc, .slice none 0 0, .int .i64 0] 31 (0, 0))) := by
    have hps := HP.out.1
    have hcs := HP.out.2.2.1
    subst hps
    subst hcs
    exact (markWorld_new _ ys bf br bc lf lr lc ps cs w4.heap.size w11 q2 q3 q4 HP.out.2.1 q5 HM7.out.2.1 HM7.out.1 HM7.out.2.2 L11.out).mono (by
      rintro e w' ⟨rfl, h1, h2, h3⟩
      exact ⟨_, rfl, ⟨Int.natCast_nonneg _, rfl⟩, h1, h2, h3 _ _ q1⟩)
  have p0 := (blk_cell q1 0 (x := .int .i64 (M : Int)) rfl).1
  have p1 := (blk_cell q1 1 (x := .slice bf ys.length lf) rfl).1
  have p2 := (blk_cell q1 2 (x := .slice br M lr) rfl).1
  have p3 := (blk_cell q1 3 (x := .slice none 0 0) rfl).1
  have p4 := (blk_cell q1 4 (x := .slice none 0 0) rfl).1
  have p5 := (blk_cell q1 5 (x := .slice bc L lc) rfl).1
  have p6 := (blk_cell q1 6 (x := .slice none 0 0) rfl).1
  have p7 := (blk_cell q1 7 (x := .int .i64 0) rfl).1
  clear q1 q2 q3 q4 q5
  go_upto_region 16 with (go_at_call 10; refine HMG.out.mono ?_; rintro e w12 ⟨t, rfl, ⟨ht, te⟩, h12, b12, x12⟩)
  have S12 : Hid (Below w3.heap.size w3 w12) := S11.out.trans (b12.mono B4.out.size)
  have HH : Hid (∀ W, Below w12.heap.size w12 W → W.heap[y]? = some (.cells #[.int .i64 (M : Int), .slice bf ys.length lf, .slice br M lr, .slice none 0 0, .slice none 0 0, .slice bc L lc, .slice none 0 0, .int .i64 0] 31 (0, 0)) ∧ Calls Try.prog 11 #[.agg #[.int .i64 (M : Int), .slice bf ys.length lf, .slice br M lr, .slice none 0 0, .slice none 0 0, .slice bc L lc, .slice none 0 0, .int .i64 0], .int .i64 1] W fun e w' => e = .returned (.int .i64 t) ∧ Below W.heap.size W w') := fun W hW => by
    refine ⟨(hW.block _ (Array.getElem?_eq_some_iff.1 x12).1).trans x12, ?_⟩
    have hps := HP.out.1
    have hcs := HP.out.2.2.1
    subst hps
    subst hcs
    rw [te.out]
    exact heldWorld_new _ ys.length bf br bc lf lr lc ps cs W (h12.1.below hW) (h12.2.1.below hW) (h12.2.2.below hW) HM7.out.2.1 HM7.out.1 HM7.out.2.2
  have ht' : ¬ t < 0 := by omega
  have htt : (t != t) = false := by simp
  clear te h12 b12 x12 HMG ht K11 S11 L11 HG HP p0 p1 p2 p3 p4 p5 p6 p7
  obtain ⟨q1, H13⟩ := HH.out w12 (Below.refl _ _)
  have p0 := (blk_cell q1 0 (x := .int .i64 (M : Int)) rfl).1
  have p1 := (blk_cell q1 1 (x := .slice bf ys.length lf) rfl).1
  have p2 := (blk_cell q1 2 (x := .slice br M lr) rfl).1
  have p3 := (blk_cell q1 3 (x := .slice none 0 0) rfl).1
  have p4 := (blk_cell q1 4 (x := .slice none 0 0) rfl).1
  have p5 := (blk_cell q1 5 (x := .slice bc L lc) rfl).1
  have p6 := (blk_cell q1 6 (x := .slice none 0 0) rfl).1
  have p7 := (blk_cell q1 7 (x := .int .i64 0) rfl).1
  clear q1
  go_upto_region 22 with (go_at_call 11; refine H13.mono ?_; rintro e w13 ⟨rfl, b13⟩)
  have B13 : Hid (Below w12.heap.size w12 w13) := b13
  have S13 : Hid (Below w3.heap.size w3 w13) := S12.out.trans (b13.mono S12.out.size)
  clear b13 H13 p0 p1 p2 p3 p4 p5 p6 p7
  have HT3 := HTO.out w13 (HS.out w13 S13.out).2.2.2
  go_upto_region 23 with (first | (go_at_call 5; refine HT3.mono ?_; rintro e w14 ⟨gz, rfl, ⟨_, _, k2⟩, b14⟩) | (go_at_call 6; refine (HIM.out _ _ k2).mono ?_; rintro e w15 ⟨df, tf, dr, tr, dc, tc, rfl, ⟨us, es, o1, o2, o3, o4, _, o6, o7, o8, _⟩, b15⟩))
  have B15 : Below w13.heap.size w13 w15 := b14.trans (b15.mono b14.size)
  have B16 : Hid (Below w13.heap.size w13 (w15.alloc (.cells #[.int .i64 (M : Int), .slice df ys.length tf, .slice dr M tr, .slice none 0 0, .slice none 0 0, .slice dc L tc, .slice none 0 0, .int .i64 0] 31))) := B15.alloc B15.size _
  have X16 : Hid ((w15.alloc (.cells #[.int .i64 (M : Int), .slice df ys.length tf, .slice dr M tr, .slice none 0 0, .slice none 0 0, .slice dc L tc, .slice none 0 0, .int .i64 0] 31)).heap[w15.heap.size]? = some (.cells #[.int .i64 (M : Int), .slice df ys.length tf, .slice dr M tr, .slice none 0 0, .slice none 0 0, .slice dc L tc, .slice none 0 0, .int .i64 0] 31 (0, 0))) := Rg.blk_new _ _ _
  have O16 : Hid (RowI (w15.alloc (.cells #[.int .i64 (M : Int), .slice df ys.length tf, .slice dr M tr, .slice none 0 0, .slice none 0 0, .slice dc L tc, .slice none 0 0, .int .i64 0] 31)) (.slice df ys.length tf) ys ∧ OwnQ (w15.alloc (.cells #[.int .i64 (M : Int), .slice df ys.length tf, .slice dr M tr, .slice none 0 0, .slice none 0 0, .slice dc L tc, .slice none 0 0, .int .i64 0] 31)) w14.heap.size (.slice dr M tr) us ∧ ImpP w14.heap.size (w15.alloc (.cells #[.int .i64 (M : Int), .slice df ys.length tf, .slice dr M tr, .slice none 0 0, .slice none 0 0, .slice dc L tc, .slice none 0 0, .int .i64 0] 31)) (M : Int) us ∧ us.length = M ∧ OwnD (w15.alloc (.cells #[.int .i64 (M : Int), .slice df ys.length tf, .slice dr M tr, .slice none 0 0, .slice none 0 0, .slice dc L tc, .slice none 0 0, .int .i64 0] 31)) w14.heap.size (.slice dc L tc) es ∧ es.length = L ∧ NewD es) := ⟨(OwnI.row o1 HR.out).below (Rg.bel_new _ _), o2.below (Rg.bel_new _ _), o4.below (Rg.bel_new _ _), o3, o6.below (Rg.bel_new _ _), o7, o8⟩
  clear o1 o2 o3 o4 o6 o7 o8 b14 b15 B15 HT3 k2
  generalize w15.alloc (.cells #[.int .i64 (M : Int), .slice df ys.length tf, .slice dr M tr, .slice none 0 0, .slice none 0 0, .slice dc L tc, .slice none 0 0, .int .i64 0] 31) = w16 at B16 X16 O16 ⊢
  generalize w15.heap.size = z at X16 ⊢
  generalize w14.heap.size = BZ at O16
  have S16 : Hid (Below w3.heap.size w3 w16) := S13.out.trans (B16.out.mono S13.out.size)
  have HE16 := HEQ.out w16 _ _ _ us es _ O16.out.1 O16.out.2.1 O16.out.2.2.1 O16.out.2.2.2.1 O16.out.2.2.2.2.1 O16.out.2.2.2.2.2.1 O16.out.2.2.2.2.2.2 S16.out
  have s0 := (blk_cell (HS.out w16 S16.out).1 0 (x := .int .i64 (M : Int)) rfl).1
  have s1 := (blk_cell (HS.out w16 S16.out).1 1 (x := .slice af ys.length kf) rfl).1
  have s2 := (blk_cell (HS.out w16 S16.out).1 2 (x := .slice ar M kr) rfl).1
  have s3 := (blk_cell (HS.out w16 S16.out).1 3 (x := .slice g3 0 0) rfl).1
  have s4 := (blk_cell (HS.out w16 S16.out).1 4 (x := .slice g4 0 0) rfl).1
  have s5 := (blk_cell (HS.out w16 S16.out).1 5 (x := .slice ac L kc) rfl).1
  have s6 := (blk_cell (HS.out w16 S16.out).1 6 (x := .slice g6 0 0) rfl).1
  have s7 := (blk_cell (HS.out w16 S16.out).1 7 (x := .int .i64 0) rfl).1
  have p0 := (blk_cell X16.out 0 (x := .int .i64 (M : Int)) rfl).1
  have p1 := (blk_cell X16.out 1 (x := .slice df ys.length tf) rfl).1
  have p2 := (blk_cell X16.out 2 (x := .slice dr M tr) rfl).1
  have p3 := (blk_cell X16.out 3 (x := .slice none 0 0) rfl).1
  have p4 := (blk_cell X16.out 4 (x := .slice none 0 0) rfl).1
  have p5 := (blk_cell X16.out 5 (x := .slice dc L tc) rfl).1
  have p6 := (blk_cell X16.out 6 (x := .slice none 0 0) rfl).1
  have p7 := (blk_cell X16.out 7 (x := .int .i64 0) rfl).1
  go_upto_region 25 with (go_at_call 7; refine HE16.mono ?_; rintro e w17 ⟨rfl, b17⟩)
  have B17 : Hid (Below w12.heap.size w12 w17) := (B13.out.trans (B16.out.mono B13.out.size)).trans (b17.mono (Nat.le_trans B13.out.size B16.out.size))
  have S17 : Hid (Below w3.heap.size w3 w17) := S16.out.trans (b17.mono S16.out.size)
  clear b17 HE16 X16 O16 s0 s1 s2 s3 s4 s5 s6 s7 p0 p1 p2 p3 p4 p5 p6 p7
  obtain ⟨q1, H18⟩ := HH.out w17 B17.out
  have p0 := (blk_cell q1 0 (x := .int .i64 (M : Int)) rfl).1
  have p1 := (blk_cell q1 1 (x := .slice bf ys.length lf) rfl).1
  have p2 := (blk_cell q1 2 (x := .slice br M lr) rfl).1
  have p3 := (blk_cell q1 3 (x := .slice none 0 0) rfl).1
  have p4 := (blk_cell q1 4 (x := .slice none 0 0) rfl).1
  have p5 := (blk_cell q1 5 (x := .slice bc L lc) rfl).1
  have p6 := (blk_cell q1 6 (x := .slice none 0 0) rfl).1
  have p7 := (blk_cell q1 7 (x := .int .i64 0) rfl).1
  clear q1
  go_upto_region 27 with (go_at_call 11; refine H18.mono ?_; rintro e w18 ⟨rfl, b18⟩)
  have B18 : Hid (Below w.heap.size w w18) := (HS.out w18 (S17.out.trans (b18.mono S17.out.size))).2.2.2
  clear b18 H18 p0 p1 p2 p3 p4 p5 p6 p7
  go_wp2_with fail
  go_ret
  exact ⟨rfl, B18.out⟩

/-! ### THE ROW's STEP -/
set_option maxRecDepth 100000 in
theorem lifted (os : Os) (started : os.Started) (H : Type) (enc : TypeId × Value → H) :
    ReturnsInHanded {} Try.checked os 3 .any (Rows.fnExactNewWorldSpec.pre6 enc Try.prog Try.f3 Rows.fnExactNewWorldRow.domain false) (Rows.fnExactNewWorldSpec.post enc Try.prog Try.f3 false true false false) := by
  refine returnsInHanded_of_change (C := Try.checked) own started (by kernel_rfl) Try.func3
    (ChangeSpec.witness6 (enc := enc) (C := Try.checked) false ⟨#[], #[.int .i64 0, .slice none 0 0], []⟩ 8 (by kernel_rfl) (by kernel_rfl) (by kernel_rfl) (by kernel_rfl)) ?_
  intro W base args ds gs before hval0 hW hcnd _
  have hval : ∀ (j : Nat) t v, Try.f3.params[j]? = some t → args[j]? = some v → Value.okWide Try.prog W .any base t v := hval0
  have hW' := hW
  obtain ⟨p, q, hA0, hV, rfl, hfz, hnd⟩ := hW
  have hA : DataW.TrodAll enc Try.prog W 0 (fun _ => true) true Try.f3.params.toList args.toList ds p := hA0
  rw [Try.params3] at hA hval
  obtain ⟨v0, vs0, d0, ds0, p0, q0, hargs, rfl, rfl, h0, r0⟩ := trodAll_cons hA
  obtain ⟨v1, vs1, d1, ds1, p1, q1, rfl, rfl, rfl, h1, r1⟩ := trodAll_cons r0
  obtain ⟨rfl, rfl, rfl⟩ := trodAll_nil r1
  obtain rfl : args = #[v0, v1] := by cases args; simp_all
  obtain ⟨rfl, rfl⟩ := trodVars_none hV
  have k00 := h0
  have lt0 : ∀ x ∈ p0, x.block < W.heap.size := by obtain ⟨m, hm⟩ := k00; exact DataW.trod_lt m _ _ _ hm
  obtain ⟨i0, rfl, rfl, rfl, z0⟩ := open_int Try.underlying3 (hval 0 3 v0 rfl rfl) h0
  have k10 := h1
  have lt1 : ∀ x ∈ p1, x.block < W.heap.size := by obtain ⟨m, hm⟩ := k10; exact DataW.trod_lt m _ _ _ hm
  obtain ⟨xs1, w1⟩ := Op.open_ints (hval 1 22 v1 rfl rfl) h1 (fun _ => rfl)
  clear hA0 hval0
  refine (walk i0 z0 v1 xs1 W w1).mono fun e W' ⟨he, bel⟩ => ?_
  subst he
  exact ⟨_, rfl, _, _, _, [], _, [], hW', trodAll_mk1 (shut_bool Try.underlying4 _), (trodAll_cons_mk (Below.trod laidOut (by kernel_rfl) (of_decide_eq_true (by kernel_rfl)) k00 bel lt0) (trodAll_cons_mk (Below.trod laidOut (by kernel_rfl) (of_decide_eq_true (by kernel_rfl)) k10 bel lt1) trodAll_mk0)), rfl, bel.frame _, fun h => by cases h⟩

theorem over : Rows.fnExactNewWorldRow.holds Try.pinned (OpenSpec.ofChange Rows.fnExactNewWorldSpec) :=
  OpenClaim.holds_of_wide 3 Try.f3 rfl rfl rfl rfl rfl rfl rfl ⟨rfl, rfl, rfl, rfl, rfl⟩ rfl rfl rfl rfl rfl (by kernel_rfl) Try.func3 (by kernel_rfl)
    (of_decide_eq_true (by kernel_rfl)) (by unfold Func.isWrapper; first | (rw [if_pos (by decide +kernel)]; kernel_rfl) | (rw [if_neg (by decide +kernel)]; exact ⟨rfl, rfl⟩))
    (fun os started H enc _ => lifted os started H enc)

end Go.Proofs.Ytdhmmbbdckahmaa.fnExactNewWorld
namespace Go.Proofs.Ytdhmmbbdckahmaa
/-- THE STATEMENT. -/
theorem fnExactNewWorld_holds : Rows.FnExactNewWorldSaid := fnExactNewWorld.over
end Go.Proofs.Ytdhmmbbdckahmaa
