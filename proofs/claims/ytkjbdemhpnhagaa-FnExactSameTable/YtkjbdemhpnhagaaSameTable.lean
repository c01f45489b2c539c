/-
  impl.SameTable answers at every two tables just what the specification's SameTable answers, and leaves the tables as they were.
  Conditions: none beyond the given row's own.
-/
import Derived.Test.YtkjbdemhpnhagaaSw
import Derived.Test.YtkjbdemhpnhagaaTg
import Derived.WalkKit
import Derived.Deep.RegionHeld
import Derived.ProofKit
import Derived.OpenShut
import Derived.ShutString
import Derived.ChangeOld
import Derived.Below
namespace Go.Proofs.Ytkjbdemhpnhagaa.fnExactSameTable
open Go.ChangeShapes Go.WideShapes Go.ChangeAt Go.RowKit
open Go.ChangeMaps (open_string shut_string)

theorem own : ownKnob Try.prog.godebug = none := by kernel_rfl
theorem laidOut : laidOutB Try.prog = true := by kernel_rfl

open Go.Proofs.Ytkjbdemhpnhagaa.Sl Go.Proofs.Ytkjbdemhpnhagaa.Ap Go.Proofs.Ytkjbdemhpnhagaa.Tx Go.Proofs.Ytkjbdemhpnhagaa.Tb Go.Proofs.Ytkjbdemhpnhagaa.Tw Go.Proofs.Ytkjbdemhpnhagaa.Rq Go.Proofs.Ytkjbdemhpnhagaa.Tp Go.Proofs.Ytkjbdemhpnhagaa.Tq Go.Proofs.Ytkjbdemhpnhagaa.Sw
set_option maxRecDepth 100000 in
set_option maxHeartbeats 3200000 in
/-- THE WALK: both functions answer alike. -/
theorem walk (t : Tab) (vl vs : Value) (w : World) (hl : RowL w vl t.ls) (hs : RowS w vs t.ss) (y : t.ls.length ≤ maxLen) (z : t.ss.length ≤ maxLen) (m : ∀ x ∈ t.ls, LkZ x) (t' : Tab) (vl' vs' : Value) (hl' : RowL w vl' t'.ls) (hs' : RowS w vs' t'.ss) (y' : t'.ls.length ≤ maxLen) (z' : t'.ss.length ≤ maxLen) (m' : ∀ x ∈ t'.ls, LkZ x) :
    Calls Try.prog 7 #[tabV t.tm t.nx vl vs, tabV t'.tm t'.nx vl' vs'] w fun e w' => e = .returned (.bool true) ∧ Below w.heap.size w w' := by
  obtain ⟨tm, nx, ls, ss⟩ := t
  obtain ⟨tm', nx', ls', ss'⟩ := t'
  dsimp only at hl hs y z m hl' hs' y' z' m' ⊢
  have HM : Hid ((∀ x ∈ ls, LkZ x) ∧ ∀ x ∈ ls', LkZ x) := ⟨m, m'⟩
  have HCX : Hid (∀ W, Below ((w.alloc (.cells #[.int .i64 tm, .int .i64 nx, vl, vs] 25)).alloc (.cells #[.int .i64 tm', .int .i64 nx', vl', vs'] 25)).heap.size ((w.alloc (.cells #[.int .i64 tm, .int .i64 nx, vl, vs] 25)).alloc (.cells #[.int .i64 tm', .int .i64 nx', vl', vs'] 25)) W → ((W.cell? ⟨w.heap.size, 0, none⟩ = some (.int .i64 tm) ∧ W.cell? ⟨w.heap.size, 1, none⟩ = some (.int .i64 nx) ∧ W.cell? ⟨w.heap.size, 2, none⟩ = some (vl) ∧ W.cell? ⟨w.heap.size, 3, none⟩ = some (vs)) ∧ (W.cell? ⟨w.heap.size + 1, 0, none⟩ = some (.int .i64 tm') ∧ W.cell? ⟨w.heap.size + 1, 1, none⟩ = some (.int .i64 nx') ∧ W.cell? ⟨w.heap.size + 1, 2, none⟩ = some (vl') ∧ W.cell? ⟨w.heap.size + 1, 3, none⟩ = some (vs'))) ∧ ((RowL W vl ls ∧ RowS W vs ss) ∧ (RowL W vl' ls' ∧ RowS W vs' ss')) ∧ Below w.heap.size w W) := fun W hW => by
    obtain ⟨h1, h2, h3⟩ := two hW
    have b0 := two_new w (.cells #[.int .i64 tm, .int .i64 nx, vl, vs] 25) (.cells #[.int .i64 tm', .int .i64 nx', vl', vs'] 25)
    exact ⟨⟨⟨(blk_cell h1 0 rfl).1, (blk_cell h1 1 rfl).1, (blk_cell h1 2 rfl).1, (blk_cell h1 3 rfl).1⟩, ⟨(blk_cell h2 0 rfl).1, (blk_cell h2 1 rfl).1, (blk_cell h2 2 rfl).1, (blk_cell h2 3 rfl).1⟩⟩, ⟨⟨(hl.below b0).below hW, (hs.below b0).below hW⟩, ⟨(hl'.below b0).below hW, (hs'.below b0).below hW⟩⟩, h3⟩
  have HT1 : Hid (∀ W, RowL W vl ls → RowS W vs ss → ls.length ≤ 1048576 → ss.length ≤ 1048576 → (∀ x ∈ ls, x.ws.length ≤ 1048576) → Calls Try.prog 10 #[.agg #[.int .i64 tm, .int .i64 nx, vl, vs]] W fun e w' => ∃ ul us, e = .returned (.agg #[.int .i64 tm, .int .i64 nx, ul, us]) ∧ RowL w' ul ls ∧ RowS w' us ss ∧ Below W.heap.size W w') := fun W h1 h2 h3 h4 h5 => toTable_any tm nx vl vs ls ss W h1 h2 h3 h4 h5
  have HT2 : Hid (∀ W, RowL W vl' ls' → RowS W vs' ss' → ls'.length ≤ 1048576 → ss'.length ≤ 1048576 → (∀ x ∈ ls', x.ws.length ≤ 1048576) → Calls Try.prog 10 #[.agg #[.int .i64 tm', .int .i64 nx', vl', vs']] W fun e w' => ∃ ul us, e = .returned (.agg #[.int .i64 tm', .int .i64 nx', ul, us]) ∧ RowL w' ul ls' ∧ RowS w' us ss' ∧ Below W.heap.size W w') := fun W h1 h2 h3 h4 h5 => toTable_any tm' nx' vl' vs' ls' ss' W h1 h2 h3 h4 h5
  have HQ1 : Hid (∀ W a b c d, RowL W a ls → RowS W b ss → RowL W c ls → RowS W d ss → ls.length ≤ 1048576 → ss.length ≤ 1048576 → (∀ x ∈ ls, x.ws.length ≤ 1048576) → Calls Try.prog 12 #[.agg #[.int .i64 tm, .int .i64 nx, a, b], .agg #[.int .i64 tm, .int .i64 nx, c, d]] W fun e w' => e = .returned (.bool true) ∧ Below W.heap.size W w') := fun W a b c d h1 h2 h3 h4 h5 h6 h7 => eqTable_same tm nx a b c d ls ss W h1 h2 h3 h4 h5 h6 h7
  have HQ2 : Hid (∀ W a b c d, RowL W a ls' → RowS W b ss' → RowL W c ls' → RowS W d ss' → ls'.length ≤ 1048576 → ss'.length ≤ 1048576 → (∀ x ∈ ls', x.ws.length ≤ 1048576) → Calls Try.prog 12 #[.agg #[.int .i64 tm', .int .i64 nx', a, b], .agg #[.int .i64 tm', .int .i64 nx', c, d]] W fun e w' => e = .returned (.bool true) ∧ Below W.heap.size W w') := fun W a b c d h1 h2 h3 h4 h5 h6 h7 => eqTable_same tm' nx' a b c d ls' ss' W h1 h2 h3 h4 h5 h6 h7
  clear hl hs m hl' hs' m'
  unfold tabV
  go_enter Try.func7, Try.ntmps7
  go_upto_region 1 with fail
  generalize (w.alloc (.cells #[.int .i64 tm, .int .i64 nx, vl, vs] 25)).alloc (.cells #[.int .i64 tm', .int .i64 nx', vl', vs'] 25) = wb at HCX ⊢
  obtain ⟨⟨⟨x0, x1, x2, x3⟩, ⟨z0, z1, z2, z3⟩⟩, r1, _⟩ := HCX.out wb (Below.refl _ _)
  have R0 : Hid ((RowL wb vl ls ∧ RowS wb vs ss) ∧ (RowL wb vl' ls' ∧ RowS wb vs' ss')) := r1
  clear r1
  go_wp2_with fail
  refine (szTableG_any tm nx vl vs ls ss 1048576 (by decide) _ R0.out.1.1 R0.out.1.2 HM.out.1 y z).mono ?_
  rintro e w1 ⟨⟨r, rfl, hr⟩, b1⟩
  have B1 : Hid (Below wb.heap.size wb w1) := b1
  clear b1 x0 x1 x2 x3 z0 z1 z2 z3 y z R0
  rcases hr with rfl | ⟨hq, hq2, hl1, hl2, hl3⟩
  · have HE : Hid (Below w.heap.size w w1) := (HCX.out w1 B1.out).2.2
    go_wp2_with fail
    go_ret
    exact ⟨rfl, HE.out⟩
  obtain ⟨L, rfl⟩ := Int.eq_ofNat_of_zero_le hq
  have hL : L ≤ 1048576 := by omega
  have hL0 : ¬ (L : Int) < 0 := by omega
  clear hq hq2
  obtain ⟨⟨⟨x0, x1, x2, x3⟩, ⟨z0, z1, z2, z3⟩⟩, r1, _⟩ := HCX.out w1 B1.out
  have R1 : Hid ((RowL w1 vl ls ∧ RowS w1 vs ss) ∧ (RowL w1 vl' ls' ∧ RowS w1 vs' ss')) := r1
  clear r1
  go_wp2_with fail
  refine (szTableG_any tm' nx' vl' vs' ls' ss' L hL _ R1.out.2.1 R1.out.2.2 HM.out.2 y' z').mono ?_
  rintro e w2 ⟨⟨r, rfl, hr⟩, b2⟩
  have B2 : Hid (Below wb.heap.size wb w2) := B1.out.trans (b2.mono B1.out.size)
  clear b2 x0 x1 x2 x3 z0 z1 z2 z3 y' z' R1 B1 HM
  rcases hr with rfl | ⟨hq, _, hl1', hl2', hl3'⟩
  · have HE : Hid (Below w.heap.size w w2) := (HCX.out w2 B2.out).2.2
    go_wp2_with fail
    go_ret
    exact ⟨rfl, HE.out⟩
  have hr0 : ¬ r < 0 := by omega
  have H3 : Hid ((∀ x ∈ ls, x.n.size ≤ 1048576 ∧ x.ws.length ≤ 1048576) ∧ ∀ x ∈ ls', x.n.size ≤ 1048576 ∧ x.ws.length ≤ 1048576) := ⟨hl3, hl3'⟩
  have H4 : Hid ((∀ x ∈ ls, x.ws.length ≤ 1048576) ∧ ∀ x ∈ ls', x.ws.length ≤ 1048576) := ⟨fun x hx => (hl3 x hx).2, fun x hx => (hl3' x hx).2⟩
  clear hl3 hl3' hq
  have HS2 : Hid (∀ W, Below w2.heap.size w2 W → ((W.cell? ⟨w.heap.size, 0, none⟩ = some (.int .i64 tm) ∧ W.cell? ⟨w.heap.size, 1, none⟩ = some (.int .i64 nx) ∧ W.cell? ⟨w.heap.size, 2, none⟩ = some (vl) ∧ W.cell? ⟨w.heap.size, 3, none⟩ = some (vs)) ∧ (W.cell? ⟨w.heap.size + 1, 0, none⟩ = some (.int .i64 tm') ∧ W.cell? ⟨w.heap.size + 1, 1, none⟩ = some (.int .i64 nx') ∧ W.cell? ⟨w.heap.size + 1, 2, none⟩ = some (vl') ∧ W.cell? ⟨w.heap.size + 1, 3, none⟩ = some (vs'))) ∧ ((RowL W vl ls ∧ RowS W vs ss) ∧ (RowL W vl' ls' ∧ RowS W vs' ss')) ∧ Below wb.heap.size wb W) := fun W hW => by
    have h := B2.out.trans (hW.mono B2.out.size)
    exact ⟨(HCX.out W h).1, (HCX.out W h).2.1, h⟩
  obtain ⟨⟨⟨x0, x1, x2, x3⟩, ⟨z0, z1, z2, z3⟩⟩, _, _⟩ := HS2.out w2 (Below.refl _ _)
  go_upto_region 8 with fail
  obtain ⟨so, HSO⟩ : ∃ so, Hid (sOut tm nx ls ss tm' nx' ls' ss' = so) := ⟨_, rfl⟩
  obtain ⟨sd, HSD⟩ : ∃ sd, Hid (sCode tm nx ls ss tm' nx' ls' ss' = sd) := ⟨_, rfl⟩
  go_region_held (fun W => (W.cell? ⟨w.heap.size, 0, none⟩ = some (.int .i64 tm) ∧ W.cell? ⟨w.heap.size, 1, none⟩ = some (.int .i64 nx) ∧ W.cell? ⟨w.heap.size, 2, none⟩ = some (vl) ∧ W.cell? ⟨w.heap.size, 3, none⟩ = some (vs)) ∧ (W.cell? ⟨w.heap.size + 1, 0, none⟩ = some (.int .i64 tm') ∧ W.cell? ⟨w.heap.size + 1, 1, none⟩ = some (.int .i64 nx') ∧ W.cell? ⟨w.heap.size + 1, 2, none⟩ = some (vl') ∧ W.cell? ⟨w.heap.size + 1, 3, none⟩ = some (vs'))) (first | exact (HS2.out _ Qc.from_drew).1 | exact (HS2.out _ q3.out).1 | exact (HS2.out _ q2.out).1 | exact (HS2.out _ q1.out).1)
    (first
      | (go_at_call 10; (with_reducible refine (HT1.out _ (HS2.out _ Qc.from_drew).2.1.1.1 (HS2.out _ Qc.from_drew).2.1.1.2 hl1 hl2 H4.out.1).mono ?_); rintro e u1 ⟨ul1, us1, rfl, c1, c2, b1⟩; have q1x := (Ap.ordB rfl b1).1; have q1 : Hid (Below w2.heap.size w2 u1) := q1x; have R1 : Hid (RowL u1 ul1 ls ∧ RowS u1 us1 ss) := ⟨c1, c2⟩; clear b1 q1x c1 c2)
      | (go_at_call 10; (with_reducible refine (HT2.out _ (HS2.out _ q1.out).2.1.2.1 (HS2.out _ q1.out).2.1.2.2 hl1' hl2' H4.out.2).mono ?_); rintro e u2 ⟨ul2, us2, rfl, c1, c2, b2⟩; have q2x := q1.out.trans (b2.mono q1.out.size); have q2 : Hid (Below w2.heap.size w2 u2) := q2x; have R2 : Hid ((RowL u2 ul1 ls ∧ RowS u2 us1 ss) ∧ (RowL u2 ul2 ls' ∧ RowS u2 us2 ss')) := ⟨⟨R1.out.1.below b2, R1.out.2.below b2⟩, ⟨c1, c2⟩⟩; clear b2 q2x c1 c2)
      | (go_at_call 28; refine (specSameTable_any tm nx tm' nx' _ _ _ _ ls ls' ss ss' u2 R2.out.1.1 R2.out.1.2 H3.out.1 hl1 hl2 R2.out.2.1 R2.out.2.2 H3.out.2 hl1' hl2').mono ?_; rintro e u3 ⟨rfl, b3⟩; have q3x := q2.out.trans (b3.mono q2.out.size); have q3 : Hid (Below w2.heap.size w2 u3) := q3x; rw [HSO.out, HSD.out]; clear b3 q3x))
  clear R1 R2 q1 q2 x0 x1 x2 x3 z0 z1 z2 z3 HS2
  have B3 : Hid (Below wb.heap.size wb u3) := B2.out.trans (q3.out.mono B2.out.size)
  clear q3 B2
  obtain ⟨⟨⟨x0, x1, x2, x3⟩, ⟨z0, z1, z2, z3⟩⟩, r1, _⟩ := HCX.out u3 B3.out
  have R3 : Hid ((RowL u3 vl ls ∧ RowS u3 vs ss) ∧ (RowL u3 vl' ls' ∧ RowS u3 vs' ss')) := r1
  clear r1
  go_wp2_with fail
  refine (HT1.out _ R3.out.1.1 R3.out.1.2 hl1 hl2 H4.out.1).mono ?_
  rintro e w4 ⟨ul4, us4, rfl, c1, c2, b4⟩
  have B4 : Hid (Below wb.heap.size wb w4) := B3.out.trans (b4.mono B3.out.size)
  obtain ⟨la, lc, rfl⟩ := RowG.slice c1
  obtain ⟨sa, sc, rfl⟩ := RowG.slice c2
  have R4 : Hid (RowL w4 (.slice la ls.length lc) ls ∧ RowS w4 (.slice sa ss.length sc) ss) := ⟨c1, c2⟩
  clear b4 c1 c2 R3 B3 x0 x1 x2 x3 z0 z1 z2 z3
  have HD : Hid (∀ W, Below (w4.alloc (.cells #[.int .i64 tm, .int .i64 nx, .slice la ls.length lc, .slice sa ss.length sc] 31)).heap.size (w4.alloc (.cells #[.int .i64 tm, .int .i64 nx, .slice la ls.length lc, .slice sa ss.length sc] 31)) W → ((W.cell? ⟨w4.heap.size, 0, none⟩ = some (.int .i64 tm) ∧ W.cell? ⟨w4.heap.size, 1, none⟩ = some (.int .i64 nx) ∧ W.cell? ⟨w4.heap.size, 2, none⟩ = some (.slice la ls.length lc) ∧ W.cell? ⟨w4.heap.size, 3, none⟩ = some (.slice sa ss.length sc))) ∧ (RowL W (.slice la ls.length lc) ls ∧ RowS W (.slice sa ss.length sc) ss) ∧ Below wb.heap.size wb W) := fun W hW => by
    have h1 := (hW.block w4.heap.size (by simp)).trans (heap_alloc_new w4 _)
    exact ⟨⟨(blk_cell h1 0 rfl).1, (blk_cell h1 1 rfl).1, (blk_cell h1 2 rfl).1, (blk_cell h1 3 rfl).1⟩, ⟨(R4.out.1.below (bel_new _ _)).below hW, (R4.out.2.below (bel_new _ _)).below hW⟩, B4.out.trans (((bel_new w4 _).mono B4.out.size).trans (hW.mono (Nat.le_trans B4.out.size (by simp))))⟩
  go_upto_region 10 with fail
  generalize w4.alloc (.cells #[.int .i64 tm, .int .i64 nx, .slice la ls.length lc, .slice sa ss.length sc] 31) = wd at HD ⊢
  clear R4 B4
  obtain ⟨⟨⟨x0, x1, x2, x3⟩, ⟨z0, z1, z2, z3⟩⟩, r1, _⟩ := HCX.out wd (HD.out wd (Below.refl _ _)).2.2
  have R5 : Hid (RowL wd vl' ls' ∧ RowS wd vs' ss') := r1.2
  clear r1
  go_wp2_with fail
  refine (HT2.out _ R5.out.1 R5.out.2 hl1' hl2' H4.out.2).mono ?_
  rintro e w5 ⟨ul5, us5, rfl, c1, c2, b5⟩
  obtain ⟨la', lc', rfl⟩ := RowG.slice c1
  obtain ⟨sa', sc', rfl⟩ := RowG.slice c2
  have HE : Hid (∀ W, Below (w5.alloc (.cells #[.int .i64 tm', .int .i64 nx', .slice la' ls'.length lc', .slice sa' ss'.length sc'] 31)).heap.size (w5.alloc (.cells #[.int .i64 tm', .int .i64 nx', .slice la' ls'.length lc', .slice sa' ss'.length sc'] 31)) W → ((W.cell? ⟨w5.heap.size, 0, none⟩ = some (.int .i64 tm') ∧ W.cell? ⟨w5.heap.size, 1, none⟩ = some (.int .i64 nx') ∧ W.cell? ⟨w5.heap.size, 2, none⟩ = some (.slice la' ls'.length lc') ∧ W.cell? ⟨w5.heap.size, 3, none⟩ = some (.slice sa' ss'.length sc'))) ∧ (RowL W (.slice la' ls'.length lc') ls' ∧ RowS W (.slice sa' ss'.length sc') ss') ∧ Below wd.heap.size wd W) := fun W hW => by
    have h1 := (hW.block w5.heap.size (by simp)).trans (heap_alloc_new w5 _)
    exact ⟨⟨(blk_cell h1 0 rfl).1, (blk_cell h1 1 rfl).1, (blk_cell h1 2 rfl).1, (blk_cell h1 3 rfl).1⟩, ⟨(c1.below (bel_new _ _)).below hW, (c2.below (bel_new _ _)).below hW⟩, b5.trans (((bel_new w5 _).mono b5.size).trans (hW.mono (Nat.le_trans b5.size (by simp))))⟩
  clear b5 c1 c2 R5 x0 x1 x2 x3 z0 z1 z2 z3
  go_upto_region 11 with fail
  generalize w5.alloc (.cells #[.int .i64 tm', .int .i64 nx', .slice la' ls'.length lc', .slice sa' ss'.length sc'] 31) = we at HE ⊢
  have HSA : Hid (∀ W, Below we.heap.size we W → (((W.cell? ⟨w.heap.size, 0, none⟩ = some (.int .i64 tm) ∧ W.cell? ⟨w.heap.size, 1, none⟩ = some (.int .i64 nx) ∧ W.cell? ⟨w.heap.size, 2, none⟩ = some (vl) ∧ W.cell? ⟨w.heap.size, 3, none⟩ = some (vs)) ∧ (W.cell? ⟨w.heap.size + 1, 0, none⟩ = some (.int .i64 tm') ∧ W.cell? ⟨w.heap.size + 1, 1, none⟩ = some (.int .i64 nx') ∧ W.cell? ⟨w.heap.size + 1, 2, none⟩ = some (vl') ∧ W.cell? ⟨w.heap.size + 1, 3, none⟩ = some (vs'))) ∧ ((W.cell? ⟨w4.heap.size, 0, none⟩ = some (.int .i64 tm) ∧ W.cell? ⟨w4.heap.size, 1, none⟩ = some (.int .i64 nx) ∧ W.cell? ⟨w4.heap.size, 2, none⟩ = some (.slice la ls.length lc) ∧ W.cell? ⟨w4.heap.size, 3, none⟩ = some (.slice sa ss.length sc))) ∧ ((W.cell? ⟨w5.heap.size, 0, none⟩ = some (.int .i64 tm') ∧ W.cell? ⟨w5.heap.size, 1, none⟩ = some (.int .i64 nx') ∧ W.cell? ⟨w5.heap.size, 2, none⟩ = some (.slice la' ls'.length lc') ∧ W.cell? ⟨w5.heap.size, 3, none⟩ = some (.slice sa' ss'.length sc')))) ∧ (((RowL W vl ls ∧ RowS W vs ss) ∧ (RowL W vl' ls' ∧ RowS W vs' ss')) ∧ (RowL W (.slice la ls.length lc) ls ∧ RowS W (.slice sa ss.length sc) ss) ∧ (RowL W (.slice la' ls'.length lc') ls' ∧ RowS W (.slice sa' ss'.length sc') ss')) ∧ Below w.heap.size w W) := fun W hW => by
    obtain ⟨k1, k2, k3⟩ := HE.out W hW
    obtain ⟨j1, j2, j3⟩ := HD.out W k3
    obtain ⟨i1, i2, i3⟩ := HCX.out W j3
    exact ⟨⟨i1, j1, k1⟩, ⟨i2, j2, k2⟩, i3⟩
  clear HE HD HCX
  obtain ⟨⟨⟨⟨x0, x1, x2, x3⟩, ⟨z0, z1, z2, z3⟩⟩, ⟨p0, p1, p2, p3⟩, ⟨s0, s1, s2, s3⟩⟩, r1, _⟩ := HSA.out we (Below.refl _ _)
  have RE : Hid ((RowL we (.slice la ls.length lc) ls ∧ RowS we (.slice sa ss.length sc) ss) ∧ (RowL we (.slice la' ls'.length lc') ls' ∧ RowS we (.slice sa' ss'.length sc') ss')) := r1.2
  clear r1
  go_wp2_with fail
  refine (implSameTable_any tm nx tm' nx' _ _ _ _ ls ls' ss ss' we RE.out.1.1 RE.out.1.2 H3.out.1 hl1 hl2 RE.out.2.1 RE.out.2.2 H3.out.2 hl1' hl2').mono ?_
  rintro e w6 ⟨rfl, b6⟩
  have B6 : Hid (Below we.heap.size we w6) := b6
  rw [HSO.out, HSD.out]
  have e0 : (so != so) = false := by simp
  have e1 : (sd != sd) = false := by simp
  clear b6 x0 x1 x2 x3 z0 z1 z2 z3 p0 p1 p2 p3 s0 s1 s2 s3 RE
  go_upto_region 14 with fail
  have HS6 : Hid (∀ W, Below w6.heap.size w6 W → (((W.cell? ⟨w.heap.size, 0, none⟩ = some (.int .i64 tm) ∧ W.cell? ⟨w.heap.size, 1, none⟩ = some (.int .i64 nx) ∧ W.cell? ⟨w.heap.size, 2, none⟩ = some (vl) ∧ W.cell? ⟨w.heap.size, 3, none⟩ = some (vs)) ∧ (W.cell? ⟨w.heap.size + 1, 0, none⟩ = some (.int .i64 tm') ∧ W.cell? ⟨w.heap.size + 1, 1, none⟩ = some (.int .i64 nx') ∧ W.cell? ⟨w.heap.size + 1, 2, none⟩ = some (vl') ∧ W.cell? ⟨w.heap.size + 1, 3, none⟩ = some (vs'))) ∧ ((W.cell? ⟨w4.heap.size, 0, none⟩ = some (.int .i64 tm) ∧ W.cell? ⟨w4.heap.size, 1, none⟩ = some (.int .i64 nx) ∧ W.cell? ⟨w4.heap.size, 2, none⟩ = some (.slice la ls.length lc) ∧ W.cell? ⟨w4.heap.size, 3, none⟩ = some (.slice sa ss.length sc))) ∧ ((W.cell? ⟨w5.heap.size, 0, none⟩ = some (.int .i64 tm') ∧ W.cell? ⟨w5.heap.size, 1, none⟩ = some (.int .i64 nx') ∧ W.cell? ⟨w5.heap.size, 2, none⟩ = some (.slice la' ls'.length lc') ∧ W.cell? ⟨w5.heap.size, 3, none⟩ = some (.slice sa' ss'.length sc')))) ∧ (((RowL W vl ls ∧ RowS W vs ss) ∧ (RowL W vl' ls' ∧ RowS W vs' ss')) ∧ (RowL W (.slice la ls.length lc) ls ∧ RowS W (.slice sa ss.length sc) ss) ∧ (RowL W (.slice la' ls'.length lc') ls' ∧ RowS W (.slice sa' ss'.length sc') ss')) ∧ Below w.heap.size w W) := fun W hW => HSA.out W (B6.out.trans (hW.mono B6.out.size))
  clear HSA B6
  obtain ⟨⟨⟨⟨x0, x1, x2, x3⟩, ⟨z0, z1, z2, z3⟩⟩, ⟨p0, p1, p2, p3⟩, ⟨s0, s1, s2, s3⟩⟩, _, _⟩ := HS6.out w6 (Below.refl _ _)
  go_region_held (fun W => ((W.cell? ⟨w.heap.size, 0, none⟩ = some (.int .i64 tm) ∧ W.cell? ⟨w.heap.size, 1, none⟩ = some (.int .i64 nx) ∧ W.cell? ⟨w.heap.size, 2, none⟩ = some (vl) ∧ W.cell? ⟨w.heap.size, 3, none⟩ = some (vs)) ∧ (W.cell? ⟨w.heap.size + 1, 0, none⟩ = some (.int .i64 tm') ∧ W.cell? ⟨w.heap.size + 1, 1, none⟩ = some (.int .i64 nx') ∧ W.cell? ⟨w.heap.size + 1, 2, none⟩ = some (vl') ∧ W.cell? ⟨w.heap.size + 1, 3, none⟩ = some (vs'))) ∧ ((W.cell? ⟨w4.heap.size, 0, none⟩ = some (.int .i64 tm) ∧ W.cell? ⟨w4.heap.size, 1, none⟩ = some (.int .i64 nx) ∧ W.cell? ⟨w4.heap.size, 2, none⟩ = some (.slice la ls.length lc) ∧ W.cell? ⟨w4.heap.size, 3, none⟩ = some (.slice sa ss.length sc))) ∧ ((W.cell? ⟨w5.heap.size, 0, none⟩ = some (.int .i64 tm') ∧ W.cell? ⟨w5.heap.size, 1, none⟩ = some (.int .i64 nx') ∧ W.cell? ⟨w5.heap.size, 2, none⟩ = some (.slice la' ls'.length lc') ∧ W.cell? ⟨w5.heap.size, 3, none⟩ = some (.slice sa' ss'.length sc')))) (first | exact (HS6.out _ Qc.from_drew).1 | exact (HS6.out _ q8.out).1 | exact (HS6.out _ q7.out).1)
    (first
      | (go_at_call 10; (with_reducible refine (HT1.out _ (HS6.out _ Qc.from_drew).2.1.1.1.1 (HS6.out _ Qc.from_drew).2.1.1.1.2 hl1 hl2 H4.out.1).mono ?_); rintro e u7 ⟨ul7, us7, rfl, c1, c2, b7⟩; have q7x := (Ap.ordB rfl b7).1; have q7 : Hid (Below w6.heap.size w6 u7) := q7x; have R7 : Hid (RowL u7 ul7 ls ∧ RowS u7 us7 ss) := ⟨c1, c2⟩; clear b7 q7x c1 c2)
      | (go_at_call 12; (with_reducible refine (HQ1.out _ _ _ _ _ (HS6.out _ q7.out).2.1.2.1.1 (HS6.out _ q7.out).2.1.2.1.2 R7.out.1 R7.out.2 hl1 hl2 H4.out.1).mono ?_); rintro e u8 ⟨rfl, b8⟩; have q8x := q7.out.trans (b8.mono q7.out.size); have q8 : Hid (Below w6.heap.size w6 u8) := q8x; clear b8 q8x))
  clear q7 R7 x0 x1 x2 x3 z0 z1 z2 z3 p0 p1 p2 p3 s0 s1 s2 s3
  have HS8 : Hid (∀ W, Below u8.heap.size u8 W → (((W.cell? ⟨w.heap.size, 0, none⟩ = some (.int .i64 tm) ∧ W.cell? ⟨w.heap.size, 1, none⟩ = some (.int .i64 nx) ∧ W.cell? ⟨w.heap.size, 2, none⟩ = some (vl) ∧ W.cell? ⟨w.heap.size, 3, none⟩ = some (vs)) ∧ (W.cell? ⟨w.heap.size + 1, 0, none⟩ = some (.int .i64 tm') ∧ W.cell? ⟨w.heap.size + 1, 1, none⟩ = some (.int .i64 nx') ∧ W.cell? ⟨w.heap.size + 1, 2, none⟩ = some (vl') ∧ W.cell? ⟨w.heap.size + 1, 3, none⟩ = some (vs'))) ∧ ((W.cell? ⟨w4.heap.size, 0, none⟩ = some (.int .i64 tm) ∧ W.cell? ⟨w4.heap.size, 1, none⟩ = some (.int .i64 nx) ∧ W.cell? ⟨w4.heap.size, 2, none⟩ = some (.slice la ls.length lc) ∧ W.cell? ⟨w4.heap.size, 3, none⟩ = some (.slice sa ss.length sc))) ∧ ((W.cell? ⟨w5.heap.size, 0, none⟩ = some (.int .i64 tm') ∧ W.cell? ⟨w5.heap.size, 1, none⟩ = some (.int .i64 nx') ∧ W.cell? ⟨w5.heap.size, 2, none⟩ = some (.slice la' ls'.length lc') ∧ W.cell? ⟨w5.heap.size, 3, none⟩ = some (.slice sa' ss'.length sc')))) ∧ (((RowL W vl ls ∧ RowS W vs ss) ∧ (RowL W vl' ls' ∧ RowS W vs' ss')) ∧ (RowL W (.slice la ls.length lc) ls ∧ RowS W (.slice sa ss.length sc) ss) ∧ (RowL W (.slice la' ls'.length lc') ls' ∧ RowS W (.slice sa' ss'.length sc') ss')) ∧ Below w.heap.size w W) := fun W hW => HS6.out W (q8.out.trans (hW.mono q8.out.size))
  clear HS6 q8
  go_upto_region 16 with fail
  obtain ⟨⟨⟨⟨x0, x1, x2, x3⟩, ⟨z0, z1, z2, z3⟩⟩, ⟨p0, p1, p2, p3⟩, ⟨s0, s1, s2, s3⟩⟩, _, _⟩ := HS8.out u8 (Below.refl _ _)
  go_region_held (fun W => ((W.cell? ⟨w.heap.size, 0, none⟩ = some (.int .i64 tm) ∧ W.cell? ⟨w.heap.size, 1, none⟩ = some (.int .i64 nx) ∧ W.cell? ⟨w.heap.size, 2, none⟩ = some (vl) ∧ W.cell? ⟨w.heap.size, 3, none⟩ = some (vs)) ∧ (W.cell? ⟨w.heap.size + 1, 0, none⟩ = some (.int .i64 tm') ∧ W.cell? ⟨w.heap.size + 1, 1, none⟩ = some (.int .i64 nx') ∧ W.cell? ⟨w.heap.size + 1, 2, none⟩ = some (vl') ∧ W.cell? ⟨w.heap.size + 1, 3, none⟩ = some (vs'))) ∧ ((W.cell? ⟨w4.heap.size, 0, none⟩ = some (.int .i64 tm) ∧ W.cell? ⟨w4.heap.size, 1, none⟩ = some (.int .i64 nx) ∧ W.cell? ⟨w4.heap.size, 2, none⟩ = some (.slice la ls.length lc) ∧ W.cell? ⟨w4.heap.size, 3, none⟩ = some (.slice sa ss.length sc))) ∧ ((W.cell? ⟨w5.heap.size, 0, none⟩ = some (.int .i64 tm') ∧ W.cell? ⟨w5.heap.size, 1, none⟩ = some (.int .i64 nx') ∧ W.cell? ⟨w5.heap.size, 2, none⟩ = some (.slice la' ls'.length lc') ∧ W.cell? ⟨w5.heap.size, 3, none⟩ = some (.slice sa' ss'.length sc')))) (first | exact (HS8.out _ Qc.from_drew).1 | exact (HS8.out _ q10.out).1 | exact (HS8.out _ q9.out).1)
    (first
      | (go_at_call 10; (with_reducible refine (HT2.out _ (HS8.out _ Qc.from_drew).2.1.1.2.1 (HS8.out _ Qc.from_drew).2.1.1.2.2 hl1' hl2' H4.out.2).mono ?_); rintro e u9 ⟨ul9, us9, rfl, c1, c2, b9⟩; have q9x := (Ap.ordB rfl b9).1; have q9 : Hid (Below u8.heap.size u8 u9) := q9x; have R9 : Hid (RowL u9 ul9 ls' ∧ RowS u9 us9 ss') := ⟨c1, c2⟩; clear b9 q9x c1 c2)
      | (go_at_call 12; (with_reducible refine (HQ2.out _ _ _ _ _ (HS8.out _ q9.out).2.1.2.2.1 (HS8.out _ q9.out).2.1.2.2.2 R9.out.1 R9.out.2 hl1' hl2' H4.out.2).mono ?_); rintro e u10 ⟨rfl, b10⟩; have q10x := q9.out.trans (b10.mono q9.out.size); have q10 : Hid (Below u8.heap.size u8 u10) := q10x; clear b10 q10x))
  have G10 : Hid (Below w.heap.size w u10) := (HS8.out _ q10.out).2.2
  clear x0 x1 x2 x3 z0 z1 z2 z3 p0 p1 p2 p3 s0 s1 s2 s3
  go_wp2_with fail
  go_ret
  exact ⟨rfl, G10.out⟩

/-! ### THE ROW's STEP -/
set_option maxRecDepth 100000 in
theorem lifted (os : Os) (started : os.Started) (H : Type) (enc : TypeId × Value → H) :
    ReturnsInHanded {} Try.checked os 7 .any (Rows.fnExactSameTableSpec.pre6 enc Try.prog Try.f7 Rows.fnExactSameTableRow.domain false) (Rows.fnExactSameTableSpec.post enc Try.prog Try.f7 false true false false) := by
  refine returnsInHanded_of_change (C := Try.checked) own started (by kernel_rfl) Try.func7
    (ChangeSpec.witness6 (enc := enc) (C := Try.checked) false ⟨#[], #[.agg #[.int .i64 0, .int .i64 0, .slice none 0 0, .slice none 0 0], .agg #[.int .i64 0, .int .i64 0, .slice none 0 0, .slice none 0 0]], []⟩ 8 (by kernel_rfl) (by kernel_rfl) (by kernel_rfl) (by kernel_rfl)) ?_
  intro W base args ds gs before hval0 hW hcnd _
  have hval : ∀ (j : Nat) t v, Try.f7.params[j]? = some t → args[j]? = some v → Value.okWide Try.prog W .any base t v := hval0
  have hW' := hW
  obtain ⟨p, q, hA0, hV, rfl, hfz, hnd⟩ := hW
  have hA : DataW.TrodAll enc Try.prog W 0 (fun _ => true) true Try.f7.params.toList args.toList ds p := hA0
  rw [Try.params7] at hA hval
  obtain ⟨v0, vs0, d0, ds0, p0, q0, hargs, rfl, rfl, h0, r0⟩ := trodAll_cons hA
  obtain ⟨v1, vs1, d1, ds1, p1, q1, rfl, rfl, rfl, h1, r1⟩ := trodAll_cons r0
  obtain ⟨rfl, rfl, rfl⟩ := trodAll_nil r1
  obtain rfl : args = #[v0, v1] := by cases args; simp_all
  obtain ⟨rfl, rfl⟩ := trodVars_none hV
  have k00 := h0
  have lt0 : ∀ x ∈ p0, x.block < W.heap.size := by obtain ⟨m, hm⟩ := k00; exact DataW.trod_lt m _ _ _ hm
  obtain ⟨t0, vl0, vs0, rfl, wl0, ws0, y0, z0, m0⟩ := Op.open_table (hval 0 25 v0 rfl rfl) h0
  have k10 := h1
  have lt1 : ∀ x ∈ p1, x.block < W.heap.size := by obtain ⟨m, hm⟩ := k10; exact DataW.trod_lt m _ _ _ hm
  obtain ⟨t1, vl1, vs1, rfl, wl1, ws1, y1, z1, m1⟩ := Op.open_table (hval 1 25 v1 rfl rfl) h1
  clear hA0 hval0
  refine (walk t0 vl0 vs0 W wl0 ws0 y0 z0 m0 t1 vl1 vs1 wl1 ws1 y1 z1 m1).mono fun e W' ⟨he, bel⟩ => ?_
  subst he
  exact ⟨_, rfl, _, _, _, [], _, [], hW', trodAll_mk1 (shut_bool Try.underlying4 _), (trodAll_cons_mk (Below.trod laidOut (by kernel_rfl) (of_decide_eq_true (by kernel_rfl)) k00 bel lt0) (trodAll_cons_mk (Below.trod laidOut (by kernel_rfl) (of_decide_eq_true (by kernel_rfl)) k10 bel lt1) trodAll_mk0)), rfl, bel.frame _, fun h => by cases h⟩

theorem over : Rows.fnExactSameTableRow.holds Try.pinned (OpenSpec.ofChange Rows.fnExactSameTableSpec) :=
  OpenClaim.holds_of_wide 7 Try.f7 rfl rfl rfl rfl rfl rfl rfl ⟨rfl, rfl, rfl, rfl, rfl⟩ rfl rfl rfl rfl rfl (by kernel_rfl) Try.func7 (by kernel_rfl)
    (of_decide_eq_true (by kernel_rfl)) (by unfold Func.isWrapper; first | (rw [if_pos (by decide +kernel)]; kernel_rfl) | (rw [if_neg (by decide +kernel)]; exact ⟨rfl, rfl⟩))
    (fun os started H enc _ => lifted os started H enc)

end Go.Proofs.Ytkjbdemhpnhagaa.fnExactSameTable
namespace Go.Proofs.Ytkjbdemhpnhagaa
/-- THE STATEMENT. -/
theorem fnExactSameTable_holds : Rows.FnExactSameTableSaid := fnExactSameTable.over
end Go.Proofs.Ytkjbdemhpnhagaa
