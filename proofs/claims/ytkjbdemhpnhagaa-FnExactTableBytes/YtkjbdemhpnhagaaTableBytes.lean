/-
  impl.TableBytes answers at every table just what the specification's TableBytes answers; it leaves the table as it was, keeps nothing of it, and its answer owns its memory.
  Conditions: none beyond the given row's own.
-/
import Derived.Test.YtkjbdemhpnhagaaTq
import Derived.Test.YtkjbdemhpnhagaaTr
import Derived.Test.YtkjbdemhpnhagaaUb
import Derived.Test.YtkjbdemhpnhagaaMv2
import Derived.Test.YtkjbdemhpnhagaaMk5
import Derived.WalkKit
import Derived.Deep.RegionHeld
import Derived.ProofKit
import Derived.OpenShut
import Derived.ShutString
import Derived.ChangeOld
import Derived.Below
namespace Go.Proofs.Ytkjbdemhpnhagaa.fnExactTableBytes
open Go.ChangeShapes Go.WideShapes Go.ChangeAt Go.RowKit
open Go.ChangeMaps (open_string shut_string)

theorem own : ownKnob Try.prog.godebug = none := by kernel_rfl
theorem laidOut : laidOutB Try.prog = true := by kernel_rfl

open Go.Proofs.Ytkjbdemhpnhagaa.Sl Go.Proofs.Ytkjbdemhpnhagaa.Ap Go.Proofs.Ytkjbdemhpnhagaa.Tx Go.Proofs.Ytkjbdemhpnhagaa.Tb Go.Proofs.Ytkjbdemhpnhagaa.Tw Go.Proofs.Ytkjbdemhpnhagaa.Rq Go.Proofs.Ytkjbdemhpnhagaa.Tp Go.Proofs.Ytkjbdemhpnhagaa.Tq Go.Proofs.Ytkjbdemhpnhagaa.Pt Go.Proofs.Ytkjbdemhpnhagaa.Ps Go.Proofs.Ytkjbdemhpnhagaa.Ub Go.Proofs.Ytkjbdemhpnhagaa.Mw Go.Proofs.Ytkjbdemhpnhagaa.Mk Go.Proofs.Ytkjbdemhpnhagaa.By
set_option maxRecDepth 100000 in
theorem tabBs_le {tm nx : Int} {ls : List Lk} {ss : List Sn} (h : Bnd ls ss) : (tabBs tm nx ls ss).length ≤ 1000 := by
  obtain ⟨h1, h2, h3, _⟩ := h
  have := lsBs_le ls fun x hx => ⟨(h3 x hx).1, (h3 x hx).2.1⟩
  unfold tabBs
  simp only [List.length_append, Pu.nums_length, ssBs_len]
  omega
theorem out_range (tm nx : Int) (ls : List Lk) (ss : List Sn) : ∀ z ∈ tbOut tm nx ls ss, 0 ≤ z ∧ z ≤ 255 := by
  unfold tbOut
  split
  · exact tabBs_range _ _ _ _
  · intro z hz; cases hz
theorem out_small (tm nx : Int) (ls : List Lk) (ss : List Sn) : (tbOut tm nx ls ss).length ≤ 1048576 := by
  unfold tbOut
  split
  · rename_i h
    have := tabBs_le (tm := tm) (nx := nx) (tok_bnd (tok_true h))
    omega
  · simp
set_option maxRecDepth 100000 in
set_option maxHeartbeats 3200000 in
/-- THE WALK: both functions answer alike; the answer owns its memory, behind another call too. -/
theorem walk (t : Tab) (vl vs : Value) (w : World) (hl : RowL w vl t.ls) (hs : RowS w vs t.ss) (y : t.ls.length ≤ maxLen) (z : t.ss.length ≤ maxLen) (m : ∀ x ∈ t.ls, LkZ x) :
    Calls Try.prog 5 #[tabV t.tm t.nx vl vs] w fun e w' => e = .returned (.bool true) ∧ Below w.heap.size w w' := by
  obtain ⟨tm, nx, ls, ss⟩ := t
  dsimp only at hl hs y z m ⊢
  have HR : Hid (RowL w vl ls ∧ RowS w vs ss) := ⟨hl, hs⟩
  have HM : Hid (∀ x ∈ ls, LkZ x) := m
  clear hl hs m
  unfold tabV
  have HBX : Hid (Below w.heap.size w (w.alloc (.cells #[.int .i64 tm, .int .i64 nx, vl, vs] 25))) := bel_new _ _
  have HCX : Hid (∀ W, Below (w.alloc (.cells #[.int .i64 tm, .int .i64 nx, vl, vs] 25)).heap.size (w.alloc (.cells #[.int .i64 tm, .int .i64 nx, vl, vs] 25)) W → (W.cell? ⟨w.heap.size, 0, none⟩ = some (.int .i64 tm) ∧ W.cell? ⟨w.heap.size, 1, none⟩ = some (.int .i64 nx) ∧ W.cell? ⟨w.heap.size, 2, none⟩ = some vl ∧ W.cell? ⟨w.heap.size, 3, none⟩ = some vs) ∧ RowL W vl ls ∧ RowS W vs ss ∧ Below w.heap.size w W) := fun W hW => by
    have h1 := (hW.block w.heap.size (by simp)).trans (heap_alloc_new w _)
    exact ⟨⟨(blk_cell h1 0 rfl).1, (blk_cell h1 1 rfl).1, (blk_cell h1 2 rfl).1, (blk_cell h1 3 rfl).1⟩, (HR.out.1.below HBX.out).below hW, (HR.out.2.below HBX.out).below hW, HBX.out.trans (hW.mono HBX.out.size)⟩
  go_enter Try.func5, Try.ntmps5
  go_upto_region 1 with fail
  generalize w.alloc (.cells #[.int .i64 tm, .int .i64 nx, vl, vs] 25) = wb at HCX HBX ⊢
  obtain ⟨⟨x0, x1, x2, x3⟩, r1, r2, _⟩ := HCX.out wb (Below.refl _ _)
  have HRB : Hid (RowL wb vl ls ∧ RowS wb vs ss) := ⟨r1, r2⟩
  clear r1 r2 HR
  go_wp2_with fail
  refine (szTable_any tm nx vl vs ls ss _ HRB.out.1 HRB.out.2 HM.out y z).mono ?_
  rintro e w1 ⟨⟨r, rfl, hr⟩, b1⟩
  have B1 : Hid (Below wb.heap.size wb w1) := b1
  clear b1 x0 x1 x2 x3 y z HM
  rcases hr with rfl | ⟨hq, hl1, hl2, hl3⟩
  · have HE : Hid (Below w.heap.size w w1) := (HCX.out w1 B1.out).2.2.2
    go_wp2_with fail
    go_ret
    exact ⟨rfl, HE.out⟩
  have hq' : ¬ r < 0 := by omega
  have H3 : Hid (∀ x ∈ ls, x.n.size ≤ 1048576 ∧ x.ws.length ≤ 1048576) := hl3
  have H4 : Hid (∀ x ∈ ls, x.ws.length ≤ 1048576) := (show ∀ x ∈ ls, x.ws.length ≤ 1048576 from fun x hx => (hl3 x hx).2)
  clear hl3 hq
  have GR : Hid (∀ z ∈ tbOut tm nx ls ss, 0 ≤ z ∧ z ≤ 255) := out_range tm nx ls ss
  have GZ : Hid ((tbOut tm nx ls ss).length ≤ 1048576) := out_small tm nx ls ss
  obtain ⟨xs, HX⟩ : ∃ xs, Hid (tbOut tm nx ls ss = xs) := ⟨_, rfl⟩
  obtain ⟨code, HC⟩ : ∃ code, Hid (tbCode tm nx ls ss = code) := ⟨_, rfl⟩
  rw [HX.out] at GR GZ
  have hcc : (code != code) = false := by simp
  have gz : xs.length ≤ 1048576 := GZ.out
  have hml : ¬ ((1 : Int) + (xs.length : Int) < 0) := by omega
  have hmm : (((1 : Int) + (xs.length : Int)) != (1 : Int) + (xs.length : Int)) = false := by simp
  obtain ⟨⟨x0, x1, x2, x3⟩, r1, r2, _⟩ := HCX.out w1 B1.out
  have HRC : Hid (RowL w1 vl ls ∧ RowS w1 vs ss) := ⟨r1, r2⟩
  clear r1 r2
  go_wp2_with fail
  refine (toTable_any tm nx vl vs ls ss _ HRC.out.1 HRC.out.2 hl1 hl2 H4.out).mono ?_
  rintro e w2 ⟨ul2, us2, rfl, c1, c2, b2⟩
  have B2 : Hid (Below wb.heap.size wb w2) := B1.out.trans (b2.mono B1.out.size)
  have R2 : Hid (RowL w2 ul2 ls ∧ RowS w2 us2 ss) := ⟨c1, c2⟩
  clear b2 c1 c2 HRC B1 x0 x1 x2 x3
  go_wp2_with fail
  refine (specTableBytes_any tm nx ul2 us2 ls ss w2 R2.out.1 R2.out.2 H3.out hl1 hl2).mono ?_
  rintro e w3 ⟨v3, rfl, o3, b3⟩
  rw [HX.out] at o3
  rw [HC.out]
  have r3 : Hid (RowB w3 v3 xs) := own_rowB o3 GR.out
  have B3 : Hid (Below wb.heap.size wb w3) := B2.out.trans (b3.mono B2.out.size)
  clear b3 o3 R2 B2
  obtain ⟨⟨x0, x1, x2, x3⟩, r1, r2, _⟩ := HCX.out w3 B3.out
  have HRC : Hid (RowL w3 vl ls ∧ RowS w3 vs ss) := ⟨r1, r2⟩
  clear r1 r2
  go_wp2_with fail
  refine (toTableW_any tm nx vl vs ls ss _ HRC.out.1 HRC.out.2 hl1 hl2 H4.out).mono ?_
  rintro e w4 ⟨gl, gs, rfl, c1, c2, tw, b4⟩
  have B4 : Hid (Below wb.heap.size wb w4) := B3.out.trans (b4.mono B3.out.size)
  have R4 : Hid (RowL w4 (.slice (some ⟨gl, 0, none⟩) ls.length ls.length) ls ∧ RowS w4 (.slice (some ⟨gs, 0, none⟩) ss.length ss.length) ss) := ⟨c1, c2⟩
  have T4 : Hid (TabW w3.heap.size w4.heap.size w4 gl gs ls ss) := tw
  have B34 : Hid (Below w3.heap.size w3 w4) := b4
  clear b4 c1 c2 tw HRC x0 x1 x2 x3
  have HD : Hid (∀ W, Below (w4.alloc (.cells #[.int .i64 tm, .int .i64 nx, .slice (some ⟨gl, 0, none⟩) ls.length ls.length, .slice (some ⟨gs, 0, none⟩) ss.length ss.length] 31)).heap.size (w4.alloc (.cells #[.int .i64 tm, .int .i64 nx, .slice (some ⟨gl, 0, none⟩) ls.length ls.length, .slice (some ⟨gs, 0, none⟩) ss.length ss.length] 31)) W → (W.cell? ⟨w4.heap.size, 0, none⟩ = some (.int .i64 tm) ∧ W.cell? ⟨w4.heap.size, 1, none⟩ = some (.int .i64 nx) ∧ W.cell? ⟨w4.heap.size, 2, none⟩ = some (.slice (some ⟨gl, 0, none⟩) ls.length ls.length) ∧ W.cell? ⟨w4.heap.size, 3, none⟩ = some (.slice (some ⟨gs, 0, none⟩) ss.length ss.length)) ∧ (RowL W (.slice (some ⟨gl, 0, none⟩) ls.length ls.length) ls ∧ RowS W (.slice (some ⟨gs, 0, none⟩) ss.length ss.length) ss) ∧ Below w4.heap.size w4 W) := fun W hW => by
    have h1 := (hW.block w4.heap.size (by simp)).trans (heap_alloc_new w4 _)
    exact ⟨⟨(blk_cell h1 0 rfl).1, (blk_cell h1 1 rfl).1, (blk_cell h1 2 rfl).1, (blk_cell h1 3 rfl).1⟩, ⟨(R4.out.1.below (bel_new _ _)).below hW, (R4.out.2.below (bel_new _ _)).below hW⟩, (bel_new w4 _).trans (hW.mono (by simp))⟩
  unfold tabV
  go_upto_region 7 with fail
  generalize w4.alloc (.cells #[.int .i64 tm, .int .i64 nx, .slice (some ⟨gl, 0, none⟩) ls.length ls.length, .slice (some ⟨gs, 0, none⟩) ss.length ss.length] 31) = wd at HD ⊢
  obtain ⟨⟨x0, x1, x2, x3⟩, r1, bd⟩ := HD.out wd (Below.refl _ _)
  have RD : Hid (RowL wd (.slice (some ⟨gl, 0, none⟩) ls.length ls.length) ls ∧ RowS wd (.slice (some ⟨gs, 0, none⟩) ss.length ss.length) ss) := r1
  have B4D : Hid (Below w4.heap.size w4 wd) := bd
  clear r1 bd R4
  go_wp2_with fail
  refine (implTableBytes_any tm nx _ _ ls ss _ RD.out.1 RD.out.2 H3.out hl1 hl2).mono ?_
  rintro e w5 ⟨v5, rfl, o5, b5⟩
  rw [HX.out] at o5
  rw [HC.out]
  have B5 : Hid (Below wd.heap.size wd w5) := b5
  have O5 : Hid (OwnB 5 w5 w4.heap.size v5 xs) := own_le o5 B4D.out.size
  have R5 : Hid (RowB w5 v5 xs ∧ RowB w5 v3 xs) := ⟨own_rowB o5 GR.out, ((r3.out.below B34.out).below B4D.out).below b5⟩
  clear b5 o5 x0 x1 x2 x3 RD
  go_wp2_with fail
  refine (eqByteS_same _ _ xs _ R5.out.1 R5.out.2 gz).mono ?_
  rintro e w6 ⟨rfl, b6⟩
  have B6 : Hid (Below wd.heap.size wd w6) := B5.out.trans (b6.mono B5.out.size)
  have O6 : Hid (OwnB 5 w6 w4.heap.size v5 xs) := own_below O5.out b6
  clear b6 B5 O5 R5
  go_upto_region 10 with fail
  have HSA : Hid (∀ W, Below w6.heap.size w6 W → ((W.cell? ⟨w.heap.size, 0, none⟩ = some (.int .i64 tm) ∧ W.cell? ⟨w.heap.size, 1, none⟩ = some (.int .i64 nx) ∧ W.cell? ⟨w.heap.size, 2, none⟩ = some vl ∧ W.cell? ⟨w.heap.size, 3, none⟩ = some vs) ∧ (W.cell? ⟨w4.heap.size, 0, none⟩ = some (.int .i64 tm) ∧ W.cell? ⟨w4.heap.size, 1, none⟩ = some (.int .i64 nx) ∧ W.cell? ⟨w4.heap.size, 2, none⟩ = some (.slice (some ⟨gl, 0, none⟩) ls.length ls.length) ∧ W.cell? ⟨w4.heap.size, 3, none⟩ = some (.slice (some ⟨gs, 0, none⟩) ss.length ss.length))) ∧ (RowL W vl ls ∧ RowS W vs ss) ∧ (RowL W (.slice (some ⟨gl, 0, none⟩) ls.length ls.length) ls ∧ RowS W (.slice (some ⟨gs, 0, none⟩) ss.length ss.length) ss) ∧ Below w4.heap.size w4 W) := fun W hW => by
    have hW2 := B6.out.trans (hW.mono B6.out.size)
    obtain ⟨k1, k2, k3⟩ := HD.out W hW2
    obtain ⟨j1, j2, j3, j4⟩ := HCX.out W (B4.out.trans (k3.mono B4.out.size))
    exact ⟨⟨j1, k1⟩, ⟨j2, j3⟩, k2, k3⟩
  obtain ⟨⟨⟨x0, x1, x2, x3⟩, ⟨y0, y1, y2, y3⟩⟩, _, _, _⟩ := HSA.out w6 (Below.refl _ _)
  go_region_held (fun W => (W.cell? ⟨w.heap.size, 0, none⟩ = some (.int .i64 tm) ∧ W.cell? ⟨w.heap.size, 1, none⟩ = some (.int .i64 nx) ∧ W.cell? ⟨w.heap.size, 2, none⟩ = some vl ∧ W.cell? ⟨w.heap.size, 3, none⟩ = some vs) ∧ (W.cell? ⟨w4.heap.size, 0, none⟩ = some (.int .i64 tm) ∧ W.cell? ⟨w4.heap.size, 1, none⟩ = some (.int .i64 nx) ∧ W.cell? ⟨w4.heap.size, 2, none⟩ = some (.slice (some ⟨gl, 0, none⟩) ls.length ls.length) ∧ W.cell? ⟨w4.heap.size, 3, none⟩ = some (.slice (some ⟨gs, 0, none⟩) ss.length ss.length))) (first | exact (HSA.out _ Qc.from_drew).1 | exact (HSA.out _ B7.out).1 | exact (HSA.out _ B8.out).1)
    (first | (go_at_call 10; refine (toTable_any tm nx vl vs ls ss _ (HSA.out _ Qc.from_drew).2.1.1 (HSA.out _ Qc.from_drew).2.1.2 hl1 hl2 H4.out).mono ?_; rintro e w7 ⟨ul7, us7, rfl, c1, c2, b7⟩; have B7 : Hid (Below w6.heap.size w6 w7) := Qc.from_drew.trans b7; have R7 : Hid (RowL w7 ul7 ls ∧ RowS w7 us7 ss) := ⟨c1, c2⟩; clear c1 c2 b7; unfold tabV) | (go_at_call 12; refine (eqTable_same tm nx _ _ _ _ ls ss _ (HSA.out _ B7.out).2.2.1.1 (HSA.out _ B7.out).2.2.1.2 R7.out.1 R7.out.2 hl1 hl2 H4.out).mono ?_; rintro e w8 ⟨rfl, b8⟩; have B8 : Hid (Below w6.heap.size w6 w8) := B7.out.trans (b8.mono B7.out.size); clear b8))
  clear x0 x1 x2 x3 y0 y1 y2 y3 B7 R7
  obtain ⟨⟨_, ⟨y0, y1, y2, y3⟩⟩, _, _, _⟩ := HSA.out w8 B8.out
  have B48 : Hid (Below w4.heap.size w4 w8) := (HSA.out w8 B8.out).2.2.2
  have O8 : Hid (OwnB 5 w8 w4.heap.size v5 xs) := own_below O6.out B8.out
  clear O6 B8 HSA HD B6 B4D
  go_wp2_with fail
  refine (markTable_any tm nx gl gs ls ss w3.heap.size w4.heap.size w8 (T4.out.below B48.out) hl1 hl2 H4.out B48.out.size).mono ?_
  rintro e w9 ⟨r9, rfl, m9⟩
  have hr9 : ¬ (r9 : Int) < 0 := by omega
  have B39 : Hid (Below w3.heap.size w3 w9) := (B34.out.trans (B48.out.mono B34.out.size)).trans (m9.below (Nat.le_trans B34.out.size B48.out.size))
  have S49 : Hid (w4.heap.size ≤ w9.heap.size ∧ w3.heap.size ≤ w4.heap.size) := ⟨Nat.le_trans B48.out.size m9.size, B34.out.size⟩
  have O9 : Hid (OwnB 5 w9 w4.heap.size v5 xs) := own_mid O8.out m9
  have R9 : Hid (RowB w9 v5 xs ∧ RowB w9 v3 xs) := ⟨own_rowB O9.out GR.out, r3.out.below B39.out⟩
  clear m9 O8 B48 B34 T4 y0 y1 y2 y3
  go_wp2_with fail
  refine (eqByteS_same _ _ xs _ R9.out.1 R9.out.2 gz).mono ?_
  rintro e w10 ⟨rfl, b10⟩
  have B3x : Hid (Below w3.heap.size w3 w10) := B39.out.trans (b10.mono B39.out.size)
  have S4x : Hid (w4.heap.size ≤ w10.heap.size) := Nat.le_trans S49.out.1 b10.size
  have O10 : Hid (OwnB 5 w10 w4.heap.size v5 xs) := own_below O9.out b10
  clear b10 O9 R9 B39
  go_wp2_with fail
  refine (markByteS_any _ xs 1 w4.heap.size _ O10.out (by decide) (by decide) (by omega)).mono ?_
  rintro e w11 ⟨rfl, o11, k11⟩
  have b11 : Below w4.heap.size w10 w11 := k11.below O10.out S4x.out
  have B3y : Hid (Below w3.heap.size w3 w11) := B3x.out.trans (b11.mono S49.out.2)
  have R11 : Hid (RowB w11 v5 (marks 1 xs.length) ∧ RowB w11 v3 xs) := ⟨own_rowB o11 (marks_range _ _), r3.out.below B3y.out⟩
  have B11 : Hid (Below wb.heap.size wb w11) := B3.out.trans (B3y.out.mono B3.out.size)
  clear o11 k11 b11 O10 S4x B3x S49 r3
  go_wp2_with fail
  refine (heldByteS_any _ xs.length 1 _ R11.out.1 (by decide) (by decide) (by omega)).mono ?_
  rintro e w11' ⟨rfl, rfl⟩
  obtain ⟨⟨x0, x1, x2, x3⟩, q1, q2, _⟩ := HCX.out w11' B11.out
  have HRC : Hid (RowL w11' vl ls ∧ RowS w11' vs ss) := ⟨q1, q2⟩
  clear q1 q2
  go_wp2_with fail
  refine (toTable_any tm nx vl vs ls ss _ HRC.out.1 HRC.out.2 hl1 hl2 H4.out).mono ?_
  rintro e w12 ⟨ul12, us12, rfl, c1, c2, b12⟩
  have B12 : Hid (Below wb.heap.size wb w12) := B11.out.trans (b12.mono B11.out.size)
  have R12 : Hid (RowL w12 ul12 ls ∧ RowS w12 us12 ss) := ⟨c1, c2⟩
  have Q12 : Hid (RowB w12 v5 (marks 1 xs.length) ∧ RowB w12 v3 xs) := ⟨R11.out.1.below b12, R11.out.2.below b12⟩
  clear c1 c2 b12 R11 HRC x0 x1 x2 x3
  go_wp2_with fail
  refine (implTableBytes_any tm nx _ _ ls ss _ R12.out.1 R12.out.2 H3.out hl1 hl2).mono ?_
  rintro e w13 ⟨v13, rfl, o13, b13⟩
  rw [HX.out] at o13
  rw [HC.out]
  have B13 : Hid (Below wb.heap.size wb w13) := B12.out.trans (b13.mono B12.out.size)
  have Q13 : Hid (RowB w13 v5 (marks 1 xs.length) ∧ RowB w13 v3 xs ∧ RowB w13 v13 xs) := ⟨Q12.out.1.below b13, Q12.out.2.below b13, own_rowB o13 GR.out⟩
  clear o13 b13 Q12 R12 B12
  go_wp2_with fail
  refine (eqByteS_same _ _ xs _ Q13.out.2.2 Q13.out.2.1 gz).mono ?_
  rintro e w14 ⟨rfl, b14⟩
  have B14 : Hid (Below w.heap.size w w14) := (HCX.out w14 (B13.out.trans (b14.mono B13.out.size))).2.2.2
  have Q14 : Hid (RowB w14 v5 (marks 1 xs.length)) := Q13.out.1.below b14
  clear b14 Q13 B13
  go_wp2_with fail
  refine (heldByteS_any _ xs.length 1 _ Q14.out (by decide) (by decide) (by omega)).mono ?_
  rintro e w15 ⟨rfl, rfl⟩
  go_wp2_with fail
  go_ret
  exact ⟨rfl, B14.out⟩

/-! ### THE ROW's STEP -/
set_option maxRecDepth 100000 in
theorem lifted (os : Os) (started : os.Started) (H : Type) (enc : TypeId × Value → H) :
    ReturnsInHanded {} Try.checked os 5 .any (Rows.fnExactTableBytesSpec.pre6 enc Try.prog Try.f5 Rows.fnExactTableBytesRow.domain false) (Rows.fnExactTableBytesSpec.post enc Try.prog Try.f5 false true false false) := by
  refine returnsInHanded_of_change (C := Try.checked) own started (by kernel_rfl) Try.func5
    (ChangeSpec.witness6 (enc := enc) (C := Try.checked) false ⟨#[], #[.agg #[.int .i64 0, .int .i64 0, .slice none 0 0, .slice none 0 0]], []⟩ 8 (by kernel_rfl) (by kernel_rfl) (by kernel_rfl) (by kernel_rfl)) ?_
  intro W base args ds gs before hval0 hW hcnd _
  have hval : ∀ (j : Nat) t v, Try.f5.params[j]? = some t → args[j]? = some v → Value.okWide Try.prog W .any base t v := hval0
  have hW' := hW
  obtain ⟨p, q, hA0, hV, rfl, hfz, hnd⟩ := hW
  have hA : DataW.TrodAll enc Try.prog W 0 (fun _ => true) true Try.f5.params.toList args.toList ds p := hA0
  rw [Try.params5] at hA hval
  obtain ⟨v0, vs0, d0, ds0, p0, q0, hargs, rfl, rfl, h0, r0⟩ := trodAll_cons hA
  obtain ⟨rfl, rfl, rfl⟩ := trodAll_nil r0
  obtain rfl : args = #[v0] := by cases args; simp_all
  obtain ⟨rfl, rfl⟩ := trodVars_none hV
  have k00 := h0
  have lt0 : ∀ x ∈ p0, x.block < W.heap.size := by obtain ⟨m, hm⟩ := k00; exact DataW.trod_lt m _ _ _ hm
  obtain ⟨t0, vl0, vs0, rfl, wl0, ws0, y0, z0, m0⟩ := Op.open_table (hval 0 25 v0 rfl rfl) h0
  clear hA0 hval0
  refine (walk t0 vl0 vs0 W wl0 ws0 y0 z0 m0).mono fun e W' ⟨he, bel⟩ => ?_
  subst he
  exact ⟨_, rfl, _, _, _, [], _, [], hW', trodAll_mk1 (shut_bool Try.underlying4 _), (trodAll_cons_mk (Below.trod laidOut (by kernel_rfl) (of_decide_eq_true (by kernel_rfl)) k00 bel lt0) trodAll_mk0), rfl, bel.frame _, fun h => by cases h⟩

theorem over : Rows.fnExactTableBytesRow.holds Try.pinned (OpenSpec.ofChange Rows.fnExactTableBytesSpec) :=
  OpenClaim.holds_of_wide 5 Try.f5 rfl rfl rfl rfl rfl rfl rfl ⟨rfl, rfl, rfl, rfl, rfl⟩ rfl rfl rfl rfl rfl (by kernel_rfl) Try.func5 (by kernel_rfl)
    (of_decide_eq_true (by kernel_rfl)) (by unfold Func.isWrapper; first | (rw [if_pos (by decide +kernel)]; kernel_rfl) | (rw [if_neg (by decide +kernel)]; exact ⟨rfl, rfl⟩))
    (fun os started H enc _ => lifted os started H enc)

end Go.Proofs.Ytkjbdemhpnhagaa.fnExactTableBytes
namespace Go.Proofs.Ytkjbdemhpnhagaa
/-- THE STATEMENT. -/
theorem fnExactTableBytes_holds : Rows.FnExactTableBytesSaid := fnExactTableBytes.over
end Go.Proofs.Ytkjbdemhpnhagaa
