/-
  impl.ExpireLocks answers at every table and time just what the specification's ExpireLocks answers; it leaves the table as it was, keeps nothing of it, and its answer owns its memory.
  Conditions: none beyond the given row's own.
-/
import Derived.Test.YtlgfeohoebmbcaaGreatJq
import Derived.Test.YtlgfeohoebmbcaaGreatJm
import Derived.Test.YtlgfeohoebmbcaaGreatMv2
import Derived.WalkKit
import Derived.Deep.RegionHeld
import Derived.ProofKit
import Derived.OpenShut
import Derived.ShutString
import Derived.ChangeOld
import Derived.Below
namespace Go.Proofs.YtlgfeohoebmbcaaGreat.fnExactExpireLocks
open Go.ChangeShapes Go.WideShapes Go.ChangeAt Go.RowKit
open Go.ChangeMaps (open_string shut_string)

theorem own : ownKnob Tryz.prog.godebug = none := by kernel_rfl
theorem laidOut : laidOutB Tryz.prog = true := by kernel_rfl

open Go.Proofs.YtlgfeohoebmbcaaGreat.Sl Go.Proofs.YtlgfeohoebmbcaaGreat.Ap Go.Proofs.YtlgfeohoebmbcaaGreat.Tb Go.Proofs.YtlgfeohoebmbcaaGreat.Tw Go.Proofs.YtlgfeohoebmbcaaGreat.Rq Go.Proofs.YtlgfeohoebmbcaaGreat.Tp Go.Proofs.YtlgfeohoebmbcaaGreat.Tq Go.Proofs.YtlgfeohoebmbcaaGreat.Da Go.Proofs.YtlgfeohoebmbcaaGreat.Jj Go.Proofs.YtlgfeohoebmbcaaGreat.Jk Go.Proofs.YtlgfeohoebmbcaaGreat.Jl Go.Proofs.YtlgfeohoebmbcaaGreat.Jm
open Go.Proofs.YtlgfeohoebmbcaaGreat.Mw (toTableW_any TabW TabW.below Mid Mid.block Mid.below Mid.size)
open Go.Proofs.YtlgfeohoebmbcaaGreat.Jn (off off_le HeldT HeldT.below TabK MemO MemO.kept heldTable_any)
open Go.Proofs.YtlgfeohoebmbcaaGreat.Lo (LkA uV)
open Go.Proofs.YtlgfeohoebmbcaaGreat.Tx (blk_cell blk_set blk_far blk_new bel_new)
theorem st_small {T : Tab} {now : Int} : (stT T now (exT T now)).ls.length ≤ 100 ∧ (stT T now (exT T now)).ss.length ≤ 100 ∧ ∀ x ∈ (stT T now (exT T now)).ls, x.ws.length ≤ 1000 := by
  rcases sf_in T now with h | h | h | h
  · obtain ⟨hT, hn, hx⟩ := sf_0 h
    have e : stT T now (exT T now) = exT T now := by unfold stT; rw [if_pos h]
    obtain ⟨_, h2, h3, h4⟩ := tok_bk (exT_ok hT hn.1 hn.2 (by omega))
    rw [e]
    exact ⟨by omega, by omega, fun x hx => (h2 x hx).2⟩
  · have e : stT T now (exT T now) = t00 := by unfold stT; rw [if_neg (by omega), if_neg (by omega)]
    rw [e]
    exact ⟨by decide, by decide, fun x hx => by cases hx⟩
  · have e : stT T now (exT T now) = t00 := by unfold stT; rw [if_neg (by omega), if_neg (by omega)]
    rw [e]
    exact ⟨by decide, by decide, fun x hx => by cases hx⟩
  · have e : stT T now (exT T now) = T := by unfold stT; rw [if_neg (by omega), if_pos h]
    obtain ⟨_, h2, h3, h4⟩ := tok_bk (sf_13 h)
    rw [e]
    exact ⟨by omega, by omega, fun x hx => (h2 x hx).2⟩
theorem tb4 {W : World} {b : Nat} {z0 z1 z2 z3 : Value} (h : W.heap[b]? = some (.cells #[z0, z1, z2, z3] 30 (0, 0))) : W.cell? ⟨b, 0, none⟩ = some z0 ∧ W.cell? ⟨b, 1, none⟩ = some z1 ∧ W.cell? ⟨b, 2, none⟩ = some z2 ∧ W.cell? ⟨b, 3, none⟩ = some z3 := ⟨(blk_cell h 0 rfl).1, (blk_cell h 1 rfl).1, (blk_cell h 2 rfl).1, (blk_cell h 3 rfl).1⟩
theorem tabO_row {w : World} {B : Nat} {vl vs : Value} {T : Tab} {ps : List LkA} (h : TabO w B vl vs T ps) : TabR w vl vs T := ⟨by rw [← h.eq]; exact h.ol.row fun q hq => (h.ow q hq).row, h.os.row⟩
theorem tabO_below {w w' : World} {B : Nat} {vl vs : Value} {T : Tab} {ps : List LkA} (h : TabO w B vl vs T ps) (hb : Below w.heap.size w w') : TabO w' B vl vs T ps := tabO_kept h fun g _ hg => hb.block g hg
theorem off_small {ms : List LkA} (hw : ∀ m ∈ ms, m.1.ws.length ≤ 1000) (hn : ms.length ≤ 100) : off ms 1 ms.length ≤ 1000000 := by
  have := (off_le (a := 1) hw ms.length (Nat.le_refl _)).2
  omega
set_option maxRecDepth 100000 in
set_option maxHeartbeats 6400000 in
/-- THE WALK: both functions answer alike. -/
theorem walk (t : Tab) (vl vs : Value) (w : World) (hl : RowL w vl t.ls) (hs : RowS w vs t.ss) (y : t.ls.length ≤ maxLen) (z : t.ss.length ≤ maxLen) (m : ∀ x ∈ t.ls, LkZ x) (now : Int) {q1 : Prop} (_h1 : q1) :
    Calls Tryz.prog 3 #[tabV t.tm t.nx vl vs, .int .i64 now] w fun e w' => e = .returned (.bool true) ∧ Below w.heap.size w w' := by
  obtain ⟨tm, nx, ls, ss⟩ := t
  dsimp only at hl hs y z m ⊢
  have HR : Hid (RowL w vl ls ∧ RowS w vs ss) := ⟨hl, hs⟩
  have HM : Hid (∀ x ∈ ls, LkZ x) := m
  clear hl hs m
  unfold tabV
  have HBX : Hid (Below w.heap.size w (w.alloc (.cells #[.int .i64 tm, .int .i64 nx, vl, vs] 25))) := bel_new _ _
  have HCX : Hid (∀ W, Below (w.alloc (.cells #[.int .i64 tm, .int .i64 nx, vl, vs] 25)).heap.size (w.alloc (.cells #[.int .i64 tm, .int .i64 nx, vl, vs] 25)) W → (W.cell? ⟨w.heap.size, 0, none⟩ = some (.int .i64 tm) ∧ W.cell? ⟨w.heap.size, 1, none⟩ = some (.int .i64 nx) ∧ W.cell? ⟨w.heap.size, 2, none⟩ = some vl ∧ W.cell? ⟨w.heap.size, 3, none⟩ = some vs) ∧ RowL W vl ls ∧ RowS W vs ss ∧ Below w.heap.size w W) := fun W hW => by
    have h1 := (hW.block w.heap.size (by simp)).trans (heap_alloc_new w _)
    exact ⟨⟨(blk_cell h1 0 rfl).1, (blk_cell h1 1 rfl).1, (blk_cell h1 2 rfl).1, (blk_cell h1 3 rfl).1⟩, (HR.out.1.below HBX.out).below hW, (HR.out.2.below HBX.out).below hW, HBX.out.trans (hW.mono HBX.out.size)⟩
  go_enter Tryz.func3, Tryz.ntmps3
  go_upto_region 1 with fail
  generalize w.alloc (.cells #[.int .i64 tm, .int .i64 nx, vl, vs] 25) = wb at HCX HBX ⊢
  obtain ⟨⟨x0, x1, x2, x3⟩, r1, r2, _⟩ := HCX.out wb (Below.refl _ _)
  have HRB : Hid (RowL wb vl ls ∧ RowS wb vs ss) := ⟨r1, r2⟩
  clear r1 r2 HR
  go_wp2_with fail
  refine (szTable_any tm nx vl vs ls ss _ HRB.out.1 HRB.out.2 HM.out y z).mono ?_
  rintro e w1 ⟨⟨r, rfl, hr⟩, b1⟩
  have B1 : Hid (Below wb.heap.size wb w1) := b1
  clear b1 x0 x1 x2 x3 y z HM
  rcases hr with rfl | ⟨hq, hl1, hl2, hl3⟩
  · have HE : Hid (Below w.heap.size w w1) := (HCX.out w1 B1.out).2.2.2
    go_wp2_with fail
    go_ret
    exact ⟨rfl, HE.out⟩
  have hq' : ¬ r < 0 := by omega
  have H3 : Hid (∀ x ∈ ls, x.n.size ≤ 1048576 ∧ x.ws.length ≤ 1048576) := hl3
  have H4 : Hid (∀ x ∈ ls, x.ws.length ≤ 1048576) := (show ∀ x ∈ ls, x.ws.length ≤ 1048576 from fun x hx => (hl3 x hx).2)
  clear hl3 hq
  obtain ⟨A, HA⟩ : ∃ A : Tab, Hid (stT ⟨tm, nx, ls, ss⟩ now (exT ⟨tm, nx, ls, ss⟩ now) = A) := ⟨_, rfl⟩
  obtain ⟨code, HC⟩ : ∃ c : Int, Hid (sfC ⟨tm, nx, ls, ss⟩ now = c) := ⟨_, rfl⟩
  have hcc : (code != code) = false := by simp
  have HSM : Hid (A.ls.length ≤ 100 ∧ A.ss.length ≤ 100 ∧ ∀ x ∈ A.ls, x.ws.length ≤ 1000) := by rw [← HA.out]; exact st_small
  have HAB : Hid (A.ls.length ≤ 1048576 ∧ A.ss.length ≤ 1048576 ∧ ∀ x ∈ A.ls, x.ws.length ≤ 1048576) := ⟨by have := HSM.out; omega, by have := HSM.out; omega, fun x hx => by have := HSM.out.2.2 x hx; omega⟩
  obtain ⟨⟨x0, x1, x2, x3⟩, r1, r2, _⟩ := HCX.out w1 B1.out
  have HRC : Hid (RowL w1 vl ls ∧ RowS w1 vs ss) := ⟨r1, r2⟩
  clear r1 r2
  go_wp2_with fail
  refine (toTable_any tm nx vl vs ls ss _ HRC.out.1 HRC.out.2 hl1 hl2 H4.out).mono ?_
  rintro e w2 ⟨ul2, us2, rfl, c1, c2, b2⟩
  have B2 : Hid (Below wb.heap.size wb w2) := B1.out.trans (b2.mono B1.out.size)
  have R2 : Hid (RowL w2 ul2 ls ∧ RowS w2 us2 ss) := ⟨c1, c2⟩
  clear b2 c1 c2 HRC B1 x0 x1 x2 x3
  go_wp2_with fail
  refine (specExpireLocks_any ⟨tm, nx, ls, ss⟩ ul2 us2 now w2 R2.out.1 R2.out.2 H3.out hl1 hl2).mono ?_
  rintro e w3 ⟨u3, v3, rfl, r3, b3⟩
  rw [HA.out] at r3 ⊢
  rw [HC.out]
  obtain ⟨a3, c3, rfl⟩ := RowG.slice r3.1
  obtain ⟨d3, e3, rfl⟩ := RowG.slice r3.2
  have B3 : Hid (Below wb.heap.size wb w3 ∧ TabR w3 (.slice a3 A.ls.length c3) (.slice d3 A.ss.length e3) A) := ⟨B2.out.trans (b3.mono B2.out.size), r3⟩
  clear b3 r3 R2 B2
  unfold tabV
  go_upto_region 6 with fail
  have F6 : Hid (∀ W, Below (w3.alloc (.cells #[.int .i64 A.tm, .int .i64 A.nx, .slice a3 A.ls.length c3, .slice d3 A.ss.length e3] 30)).heap.size (w3.alloc (.cells #[.int .i64 A.tm, .int .i64 A.nx, .slice a3 A.ls.length c3, .slice d3 A.ss.length e3] 30)) W → W.heap[w3.heap.size]? = some (.cells #[.int .i64 A.tm, .int .i64 A.nx, .slice a3 A.ls.length c3, .slice d3 A.ss.length e3] 30 (0, 0)) ∧ TabR W (.slice a3 A.ls.length c3) (.slice d3 A.ss.length e3) A ∧ Below wb.heap.size wb W) := fun W hW =>
    ⟨(hW.block _ (by rw [Bk.size_new]; omega)).trans (blk_new _ _ _), (B3.out.2.below (bel_new _ _)).below hW, B3.out.1.trans (((bel_new w3 _).mono B3.out.1.size).trans (hW.mono (by rw [Bk.size_new]; have := B3.out.1.size; omega)))⟩
  clear B3
  generalize w3.alloc (.cells #[.int .i64 A.tm, .int .i64 A.nx, .slice a3 A.ls.length c3, .slice d3 A.ss.length e3] 30) = w3b at F6 ⊢
  generalize w3.heap.size = b6 at F6 ⊢
  obtain ⟨⟨x0, x1, x2, x3⟩, r1, r2, _⟩ := HCX.out w3b (F6.out w3b (Below.refl _ _)).2.2
  have HRC : Hid (RowL w3b vl ls ∧ RowS w3b vs ss) := ⟨r1, r2⟩
  clear r1 r2
  go_wp2_with fail
  refine (toTableW_any tm nx vl vs ls ss _ HRC.out.1 HRC.out.2 hl1 hl2 H4.out).mono ?_
  rintro e w4 ⟨gl, gs, rfl, c1, c2, tw, b4⟩
  have R4 : Hid (RowL w4 (.slice (some ⟨gl, 0, none⟩) ls.length ls.length) ls ∧ RowS w4 (.slice (some ⟨gs, 0, none⟩) ss.length ss.length) ss) := ⟨c1, c2⟩
  have T4 : Hid (TabW w3b.heap.size w4.heap.size w4 gl gs ls ss) := tw
  have B34 : Hid (Below w3b.heap.size w3b w4) := b4
  clear b4 c1 c2 tw HRC x0 x1 x2 x3
  have HD : Hid (∀ W, Below (w4.alloc (.cells #[.int .i64 tm, .int .i64 nx, .slice (some ⟨gl, 0, none⟩) ls.length ls.length, .slice (some ⟨gs, 0, none⟩) ss.length ss.length] 30)).heap.size (w4.alloc (.cells #[.int .i64 tm, .int .i64 nx, .slice (some ⟨gl, 0, none⟩) ls.length ls.length, .slice (some ⟨gs, 0, none⟩) ss.length ss.length] 30)) W → (W.cell? ⟨w4.heap.size, 0, none⟩ = some (.int .i64 tm) ∧ W.cell? ⟨w4.heap.size, 1, none⟩ = some (.int .i64 nx) ∧ W.cell? ⟨w4.heap.size, 2, none⟩ = some (.slice (some ⟨gl, 0, none⟩) ls.length ls.length) ∧ W.cell? ⟨w4.heap.size, 3, none⟩ = some (.slice (some ⟨gs, 0, none⟩) ss.length ss.length)) ∧ (RowL W (.slice (some ⟨gl, 0, none⟩) ls.length ls.length) ls ∧ RowS W (.slice (some ⟨gs, 0, none⟩) ss.length ss.length) ss) ∧ Below w4.heap.size w4 W) := fun W hW => by
    have h1 := (hW.block w4.heap.size (by simp)).trans (heap_alloc_new w4 _)
    exact ⟨⟨(blk_cell h1 0 rfl).1, (blk_cell h1 1 rfl).1, (blk_cell h1 2 rfl).1, (blk_cell h1 3 rfl).1⟩, ⟨(R4.out.1.below (bel_new _ _)).below hW, (R4.out.2.below (bel_new _ _)).below hW⟩, (bel_new w4 _).trans (hW.mono (by simp))⟩
  have hsz : w4.heap.size < (w4.alloc (.cells #[.int .i64 tm, .int .i64 nx, .slice (some ⟨gl, 0, none⟩) ls.length ls.length, .slice (some ⟨gs, 0, none⟩) ss.length ss.length] 30)).heap.size := by simp
  unfold tabV
  go_upto_region 7 with fail
  generalize w4.alloc (.cells #[.int .i64 tm, .int .i64 nx, .slice (some ⟨gl, 0, none⟩) ls.length ls.length, .slice (some ⟨gs, 0, none⟩) ss.length ss.length] 30) = wd at HD hsz ⊢
  have HSD : Hid (w4.heap.size < wd.heap.size) := hsz
  obtain ⟨⟨x0, x1, x2, x3⟩, r1, bd⟩ := HD.out wd (Below.refl _ _)
  have RD : Hid (RowL wd (.slice (some ⟨gl, 0, none⟩) ls.length ls.length) ls ∧ RowS wd (.slice (some ⟨gs, 0, none⟩) ss.length ss.length) ss) := r1
  clear r1 bd R4 hsz
  go_wp2_with fail
  refine (implExpireLocks_any ⟨tm, nx, ls, ss⟩ _ _ now _ RD.out.1 RD.out.2 H3.out hl1 hl2).mono ?_
  rintro e w5 ⟨u5, v5, ps, rfl, o5, b5⟩
  rw [HA.out] at o5 ⊢
  rw [HC.out]
  obtain ⟨a5, c5, rfl⟩ := RowG.slice (tabO_row o5).1
  obtain ⟨d5, e5, rfl⟩ := RowG.slice (tabO_row o5).2
  have B5 : Hid (Below wd.heap.size wd w5 ∧ TabO w5 wd.heap.size (.slice a5 A.ls.length c5) (.slice d5 A.ss.length e5) A ps) := ⟨b5, o5⟩
  clear b5 o5 x0 x1 x2 x3 RD
  unfold tabV
  go_upto_region 8 with fail
  have H9 : Hid (Below wd.heap.size wd (w5.alloc (.cells #[.int .i64 A.tm, .int .i64 A.nx, .slice a5 A.ls.length c5, .slice d5 A.ss.length e5] 30)) ∧ TabO (w5.alloc (.cells #[.int .i64 A.tm, .int .i64 A.nx, .slice a5 A.ls.length c5, .slice d5 A.ss.length e5] 30)) wd.heap.size (.slice a5 A.ls.length c5) (.slice d5 A.ss.length e5) A ps ∧ (w5.alloc (.cells #[.int .i64 A.tm, .int .i64 A.nx, .slice a5 A.ls.length c5, .slice d5 A.ss.length e5] 30)).heap[w5.heap.size]? = some (.cells #[.int .i64 A.tm, .int .i64 A.nx, .slice a5 A.ls.length c5, .slice d5 A.ss.length e5] 30 (0, 0)) ∧ wd.heap.size ≤ w5.heap.size) := ⟨B5.out.1.alloc B5.out.1.size _, tabO_below B5.out.2 (bel_new _ _), blk_new _ _ _, B5.out.1.size⟩
  clear B5
  generalize w5.alloc (.cells #[.int .i64 A.tm, .int .i64 A.nx, .slice a5 A.ls.length c5, .slice d5 A.ss.length e5] 30) = we at H9 ⊢
  generalize w5.heap.size = b9 at H9 ⊢
  have B3e : Hid (Below w3b.heap.size w3b we) := B34.out.trans (((HD.out we H9.out.1).2.2).mono B34.out.size)
  obtain ⟨p0, p1, p2, p3⟩ := tb4 (H9.out.2.2.1)
  obtain ⟨q0, q1, q2, q3⟩ := tb4 ((F6.out we B3e.out).1)
  have RR : Hid (TabR we (.slice a5 A.ls.length c5) (.slice d5 A.ss.length e5) A ∧ TabR we (.slice a3 A.ls.length c3) (.slice d3 A.ss.length e3) A) := ⟨tabO_row H9.out.2.1, (F6.out we B3e.out).2.1⟩
  go_wp2_with fail
  refine (eqTable_same A.tm A.nx _ _ _ _ A.ls A.ss _ RR.out.1.1 RR.out.1.2 RR.out.2.1 RR.out.2.2 HAB.out.1 HAB.out.2.1 HAB.out.2.2).mono ?_
  rintro e w6 ⟨rfl, bq⟩
  have B6 : Hid (Below wd.heap.size wd w6) := H9.out.1.trans (bq.mono H9.out.1.size)
  have K6 : Hid (Below we.heap.size we w6) := bq
  clear bq p0 p1 p2 p3 q0 q1 q2 q3 RR B3e
  go_upto_region 10 with fail
  have HSA : Hid (∀ W, Below w6.heap.size w6 W → ((W.cell? ⟨w.heap.size, 0, none⟩ = some (.int .i64 tm) ∧ W.cell? ⟨w.heap.size, 1, none⟩ = some (.int .i64 nx) ∧ W.cell? ⟨w.heap.size, 2, none⟩ = some vl ∧ W.cell? ⟨w.heap.size, 3, none⟩ = some vs) ∧ (W.cell? ⟨w4.heap.size, 0, none⟩ = some (.int .i64 tm) ∧ W.cell? ⟨w4.heap.size, 1, none⟩ = some (.int .i64 nx) ∧ W.cell? ⟨w4.heap.size, 2, none⟩ = some (.slice (some ⟨gl, 0, none⟩) ls.length ls.length) ∧ W.cell? ⟨w4.heap.size, 3, none⟩ = some (.slice (some ⟨gs, 0, none⟩) ss.length ss.length))) ∧ (RowL W vl ls ∧ RowS W vs ss) ∧ (RowL W (.slice (some ⟨gl, 0, none⟩) ls.length ls.length) ls ∧ RowS W (.slice (some ⟨gs, 0, none⟩) ss.length ss.length) ss) ∧ Below w4.heap.size w4 W) := fun W hW => by
    have hW2 := B6.out.trans (hW.mono B6.out.size)
    obtain ⟨k1, k2, k3⟩ := HD.out W hW2
    obtain ⟨j1, j2, j3, j4⟩ := HCX.out W (F6.out W (B34.out.trans (k3.mono B34.out.size))).2.2
    exact ⟨⟨j1, k1⟩, ⟨j2, j3⟩, k2, k3⟩
  obtain ⟨⟨⟨x0, x1, x2, x3⟩, ⟨y0, y1, y2, y3⟩⟩, _, _, _⟩ := HSA.out w6 (Below.refl _ _)
  go_region_held (fun W => (W.cell? ⟨w.heap.size, 0, none⟩ = some (.int .i64 tm) ∧ W.cell? ⟨w.heap.size, 1, none⟩ = some (.int .i64 nx) ∧ W.cell? ⟨w.heap.size, 2, none⟩ = some vl ∧ W.cell? ⟨w.heap.size, 3, none⟩ = some vs) ∧ (W.cell? ⟨w4.heap.size, 0, none⟩ = some (.int .i64 tm) ∧ W.cell? ⟨w4.heap.size, 1, none⟩ = some (.int .i64 nx) ∧ W.cell? ⟨w4.heap.size, 2, none⟩ = some (.slice (some ⟨gl, 0, none⟩) ls.length ls.length) ∧ W.cell? ⟨w4.heap.size, 3, none⟩ = some (.slice (some ⟨gs, 0, none⟩) ss.length ss.length))) (first | exact (HSA.out _ Qc.from_drew).1 | exact (HSA.out _ B7.out).1 | exact (HSA.out _ B8.out).1)
    (first | (go_at_call 9; refine (toTable_any tm nx vl vs ls ss _ (HSA.out _ Qc.from_drew).2.1.1 (HSA.out _ Qc.from_drew).2.1.2 hl1 hl2 H4.out).mono ?_; rintro e w7 ⟨ul7, us7, rfl, c1, c2, b7⟩; have B7 : Hid (Below w6.heap.size w6 w7) := Qc.from_drew.trans b7; have R7 : Hid (RowL w7 ul7 ls ∧ RowS w7 us7 ss) := ⟨c1, c2⟩; clear c1 c2 b7; unfold tabV) | (go_at_call 11; refine (eqTable_same tm nx _ _ _ _ ls ss _ (HSA.out _ B7.out).2.2.1.1 (HSA.out _ B7.out).2.2.1.2 R7.out.1 R7.out.2 hl1 hl2 H4.out).mono ?_; rintro e w8 ⟨rfl, b8⟩; have B8 : Hid (Below w6.heap.size w6 w8) := B7.out.trans (b8.mono B7.out.size); clear b8))
  clear x0 x1 x2 x3 y0 y1 y2 y3 B7 R7
  obtain ⟨⟨_, ⟨y0, y1, y2, y3⟩⟩, _, _, _⟩ := HSA.out w8 B8.out
  have B48 : Hid (Below w4.heap.size w4 w8) := (HSA.out w8 B8.out).2.2.2
  have K8 : Hid (Below we.heap.size we w8) := K6.out.trans (B8.out.mono K6.out.size)
  have G8 : Hid (w8.heap[b9]? = some (.cells #[.int .i64 A.tm, .int .i64 A.nx, .slice a5 A.ls.length c5, .slice d5 A.ss.length e5] 30 (0, 0)) ∧ TabO w8 wd.heap.size (.slice a5 A.ls.length c5) (.slice d5 A.ss.length e5) A ps) := ⟨(K8.out.block b9 (Array.getElem?_eq_some_iff.1 H9.out.2.2.1).1).trans H9.out.2.2.1, tabO_below H9.out.2.1 K8.out⟩
  clear B8 HSA HD B6 K6 K8
  go_wp2_with fail
  refine (Mw.markTable_any tm nx gl gs ls ss w3b.heap.size w4.heap.size w8 (T4.out.below B48.out) hl1 hl2 H4.out B48.out.size).mono ?_
  rintro e w9 ⟨r9, rfl, m9⟩
  have hr9 : ¬ (r9 : Int) < 0 := by omega
  have G9 : Hid (w9.heap[b9]? = some (.cells #[.int .i64 A.tm, .int .i64 A.nx, .slice a5 A.ls.length c5, .slice d5 A.ss.length e5] 30 (0, 0)) ∧ TabO w9 wd.heap.size (.slice a5 A.ls.length c5) (.slice d5 A.ss.length e5) A ps) := by
    have h1 := HSD.out
    have h2 := H9.out.2.2.2
    exact ⟨(m9.block b9 (Array.getElem?_eq_some_iff.1 G8.out.1).1 (.inr (by omega))).trans G8.out.1, tabO_kept G8.out.2 (fun g hB hg => m9.block g hg (.inr (by omega)))⟩
  have B39 : Hid (Below w3b.heap.size w3b w9) := (B34.out.trans (B48.out.mono B34.out.size)).trans (m9.below (Nat.le_trans B34.out.size B48.out.size))
  have HLE : Hid (w3b.heap.size ≤ wd.heap.size) := by have h1 := HSD.out; have h2 := B34.out.size; show _ ≤ _; omega
  clear m9 G8 B48 B34 T4 y0 y1 y2 y3
  obtain ⟨p0, p1, p2, p3⟩ := tb4 (G9.out.1)
  obtain ⟨q0, q1, q2, q3⟩ := tb4 ((F6.out w9 B39.out).1)
  have RR : Hid (TabR w9 (.slice a5 A.ls.length c5) (.slice d5 A.ss.length e5) A ∧ TabR w9 (.slice a3 A.ls.length c3) (.slice d3 A.ss.length e3) A) := ⟨tabO_row G9.out.2, (F6.out w9 B39.out).2.1⟩
  go_wp2_with fail
  refine (eqTable_same A.tm A.nx _ _ _ _ A.ls A.ss _ RR.out.1.1 RR.out.1.2 RR.out.2.1 RR.out.2.2 HAB.out.1 HAB.out.2.1 HAB.out.2.2).mono ?_
  rintro e w10 ⟨rfl, bq⟩
  have B3x : Hid (Below w3b.heap.size w3b w10) := B39.out.trans (bq.mono B39.out.size)
  have HPS : Hid (ps.length = A.ls.length ∧ ∀ m ∈ ps, m.1.ws.length ≤ 1000) := by
    refine ⟨by rw [← G9.out.2.eq, List.length_map], fun m hm => HSM.out.2.2 m.1 (by rw [← G9.out.2.eq]; exact List.mem_map.2 ⟨m, hm, rfl⟩)⟩
  have G10 : Hid (w10.heap[b9]? = some (.cells #[.int .i64 A.tm, .int .i64 A.nx, .slice a5 A.ls.length c5, .slice d5 A.ss.length e5] 30 (0, 0)) ∧ MemO w10 wd.heap.size (.slice a5 A.ls.length c5) (.slice d5 A.ss.length e5) ps A.ss ∧ wd.heap.size ≤ w10.heap.size ∧ b9 < w10.heap.size) := by
    have hk := (Array.getElem?_eq_some_iff.1 G9.out.1).1
    have h2 := H9.out.2.2.2
    have h3 := bq.size
    have o := tabO_below G9.out.2 bq
    exact ⟨(bq.block b9 hk).trans G9.out.1, ⟨o.ol, o.os, o.ow, o.ap⟩, by omega, by omega⟩
  have HOF : Hid (off ps 1 ps.length ≤ 1000000) := off_small HPS.out.2 (by rw [HPS.out.1]; exact HSM.out.1)
  clear bq p0 p1 p2 p3 q0 q1 q2 q3 RR B39 G9
  obtain ⟨p0, p1, p2, p3⟩ := tb4 G10.out.1
  go_wp2_with fail
  refine (Jn.markTable_any A.tm A.nx (.slice a5 A.ls.length c5) (.slice d5 A.ss.length e5) ps A.ss wd.heap.size w10 G10.out.2.1 G10.out.2.2.1 (by rw [HPS.out.1]; exact HSM.out.1) HPS.out.2 HSM.out.2.1).mono ?_
  rintro e w11 ⟨rfl, hh, b11, k11⟩
  have G11 : Hid (w11.heap[b9]? = some (.cells #[.int .i64 A.tm, .int .i64 A.nx, .slice a5 A.ls.length c5, .slice d5 A.ss.length e5] 30 (0, 0)) ∧ HeldT w11 (.slice a5 A.ls.length c5) (.slice d5 A.ss.length e5) ps A.ss 1 ∧ Below w3b.heap.size w3b w11) :=
    ⟨k11 b9 _ G10.out.1, hh, B3x.out.trans (b11.mono HLE.out)⟩
  obtain ⟨Z, HZ⟩ : ∃ Z : Nat, Hid (off ps 1 ps.length + A.ss.length * 6 = Z) := ⟨_, rfl⟩
  have hml : ¬ ((Z : Int) < 0) := by omega
  have hmm : ((Z : Int) != (Z : Int)) = false := by simp
  rw [HZ.out]
  clear hh b11 k11 G10 B3x p0 p1 p2 p3
  obtain ⟨p0, p1, p2, p3⟩ := tb4 G11.out.1
  have HHT : Hid (∀ W, HeldT W (.slice a5 A.ls.length c5) (.slice d5 A.ss.length e5) ps A.ss 1 → Calls Tryz.prog 13 #[.agg #[.int .i64 A.tm, .int .i64 A.nx, .slice a5 A.ls.length c5, .slice d5 A.ss.length e5], .int .i64 1] W fun e w' => e = .returned (.int .i64 (Z : Int)) ∧ Below W.heap.size W w') := fun W hW => by
    rw [← HZ.out]
    exact heldTable_any A.tm A.nx (.slice a5 A.ls.length c5) (.slice d5 A.ss.length e5) ps A.ss W hW (by rw [HPS.out.1]; exact HSM.out.1) HPS.out.2 HSM.out.2.1
  go_wp2_with fail
  refine (HHT.out w11 G11.out.2.1).mono ?_
  rintro e w12 ⟨rfl, b12⟩
  have G12 : Hid (w12.heap[b9]? = some (.cells #[.int .i64 A.tm, .int .i64 A.nx, .slice a5 A.ls.length c5, .slice d5 A.ss.length e5] 30 (0, 0)) ∧ HeldT w12 (.slice a5 A.ls.length c5) (.slice d5 A.ss.length e5) ps A.ss 1 ∧ Below w3b.heap.size w3b w12) := ⟨(b12.block b9 (Array.getElem?_eq_some_iff.1 G11.out.1).1).trans G11.out.1, G11.out.2.1.below b12, G11.out.2.2.trans (b12.mono G11.out.2.2.size)⟩
  clear b12 G11 p0 p1 p2 p3
  obtain ⟨⟨x0, x1, x2, x3⟩, r1, r2, _⟩ := HCX.out w12 (F6.out w12 G12.out.2.2).2.2
  have HRC : Hid (RowL w12 vl ls ∧ RowS w12 vs ss) := ⟨r1, r2⟩
  clear r1 r2
  go_wp2_with fail
  refine (toTable_any tm nx vl vs ls ss _ HRC.out.1 HRC.out.2 hl1 hl2 H4.out).mono ?_
  rintro e w13 ⟨ul13, us13, rfl, c1, c2, b13⟩
  have R13 : Hid (RowL w13 ul13 ls ∧ RowS w13 us13 ss) := ⟨c1, c2⟩
  have K13 : Hid (Below w12.heap.size w12 w13) := b13
  clear c1 c2 b13 HRC x0 x1 x2 x3
  go_wp2_with fail
  refine (implExpireLocks_any ⟨tm, nx, ls, ss⟩ _ _ now _ R13.out.1 R13.out.2 H3.out hl1 hl2).mono ?_
  rintro e w14 ⟨u14, v14, ps14, rfl, o14, b14⟩
  rw [HA.out] at o14 ⊢
  rw [HC.out]
  obtain ⟨a14, c14, rfl⟩ := RowG.slice (tabO_row o14).1
  obtain ⟨d14, e14, rfl⟩ := RowG.slice (tabO_row o14).2
  have K14 : Hid (Below w12.heap.size w12 w14 ∧ TabR w14 (.slice a14 A.ls.length c14) (.slice d14 A.ss.length e14) A) := ⟨K13.out.trans (b14.mono K13.out.size), tabO_row o14⟩
  clear b14 o14 R13 K13
  unfold tabV
  go_upto_region 25 with fail
  have G15 : Hid (Below w12.heap.size w12 (w14.alloc (.cells #[.int .i64 A.tm, .int .i64 A.nx, .slice a14 A.ls.length c14, .slice d14 A.ss.length e14] 30)) ∧ TabR (w14.alloc (.cells #[.int .i64 A.tm, .int .i64 A.nx, .slice a14 A.ls.length c14, .slice d14 A.ss.length e14] 30)) (.slice a14 A.ls.length c14) (.slice d14 A.ss.length e14) A ∧ (w14.alloc (.cells #[.int .i64 A.tm, .int .i64 A.nx, .slice a14 A.ls.length c14, .slice d14 A.ss.length e14] 30)).heap[w14.heap.size]? = some (.cells #[.int .i64 A.tm, .int .i64 A.nx, .slice a14 A.ls.length c14, .slice d14 A.ss.length e14] 30 (0, 0))) := ⟨K14.out.1.alloc K14.out.1.size _, K14.out.2.below (bel_new _ _), blk_new _ _ _⟩
  clear K14
  generalize w14.alloc (.cells #[.int .i64 A.tm, .int .i64 A.nx, .slice a14 A.ls.length c14, .slice d14 A.ss.length e14] 30) = wf at G15 ⊢
  generalize w14.heap.size = b14 at G15 ⊢
  have B3f : Hid (Below w3b.heap.size w3b wf) := G12.out.2.2.trans (G15.out.1.mono G12.out.2.2.size)
  obtain ⟨p0, p1, p2, p3⟩ := tb4 (G15.out.2.2)
  obtain ⟨q0, q1, q2, q3⟩ := tb4 ((F6.out wf B3f.out).1)
  have RR : Hid (TabR wf (.slice a14 A.ls.length c14) (.slice d14 A.ss.length e14) A ∧ TabR wf (.slice a3 A.ls.length c3) (.slice d3 A.ss.length e3) A) := ⟨G15.out.2.1, (F6.out wf B3f.out).2.1⟩
  go_wp2_with fail
  refine (eqTable_same A.tm A.nx _ _ _ _ A.ls A.ss _ RR.out.1.1 RR.out.1.2 RR.out.2.1 RR.out.2.2 HAB.out.1 HAB.out.2.1 HAB.out.2.2).mono ?_
  rintro e w16 ⟨rfl, bq⟩
  have K16 : Hid (Below w12.heap.size w12 w16) := G15.out.1.trans (bq.mono G15.out.1.size)
  have G16 : Hid (w16.heap[b9]? = some (.cells #[.int .i64 A.tm, .int .i64 A.nx, .slice a5 A.ls.length c5, .slice d5 A.ss.length e5] 30 (0, 0)) ∧ HeldT w16 (.slice a5 A.ls.length c5) (.slice d5 A.ss.length e5) ps A.ss 1 ∧ Below w3b.heap.size w3b w16) := ⟨(K16.out.block b9 (Array.getElem?_eq_some_iff.1 G12.out.1).1).trans G12.out.1, G12.out.2.1.below K16.out, G12.out.2.2.trans (K16.out.mono G12.out.2.2.size)⟩
  clear bq K16 G12 G15 B3f RR p0 p1 p2 p3 q0 q1 q2 q3
  obtain ⟨p0, p1, p2, p3⟩ := tb4 G16.out.1
  go_wp2_with fail
  refine (HHT.out w16 G16.out.2.1).mono ?_
  rintro e w17 ⟨rfl, b17⟩
  have HF : Hid (Below w.heap.size w w17) := (HCX.out w17 (F6.out w17 (G16.out.2.2.trans (b17.mono G16.out.2.2.size))).2.2).2.2.2
  clear b17 G16 p0 p1 p2 p3 HHT
  go_wp2_with fail
  go_ret
  exact ⟨rfl, HF.out⟩

/-! ### THE ROW's STEP -/
set_option maxRecDepth 100000 in
theorem lifted (os : Os) (started : os.Started) (H : Type) (enc : TypeId × Value → H) :
    ReturnsInHanded {} Tryz.checked os 3 .any (Rows.fnExactExpireLocksSpec.pre6 enc Tryz.prog Tryz.f3 Rows.fnExactExpireLocksRow.domain false) (Rows.fnExactExpireLocksSpec.post enc Tryz.prog Tryz.f3 false true false false) := by
  refine returnsInHanded_of_change (C := Tryz.checked) own started (by kernel_rfl) Tryz.func3
    (ChangeSpec.witness6 (enc := enc) (C := Tryz.checked) false ⟨#[], #[.agg #[.int .i64 0, .int .i64 0, .slice none 0 0, .slice none 0 0], .int .i64 0], []⟩ 8 (by kernel_rfl) (by kernel_rfl) (by kernel_rfl) (by kernel_rfl)) ?_
  intro W base args ds gs before hval0 hW hcnd _
  have hval : ∀ (j : Nat) t v, Tryz.f3.params[j]? = some t → args[j]? = some v → Value.okWide Tryz.prog W .any base t v := hval0
  have hW' := hW
  obtain ⟨p, q, hA0, hV, rfl, hfz, hnd⟩ := hW
  have hA : DataW.TrodAll enc Tryz.prog W 0 (fun _ => true) true Tryz.f3.params.toList args.toList ds p := hA0
  rw [Tryz.params3] at hA hval
  obtain ⟨v0, vs0, d0, ds0, p0, q0, hargs, rfl, rfl, h0, r0⟩ := trodAll_cons hA
  obtain ⟨v1, vs1, d1, ds1, p1, q1, rfl, rfl, rfl, h1, r1⟩ := trodAll_cons r0
  obtain ⟨rfl, rfl, rfl⟩ := trodAll_nil r1
  obtain rfl : args = #[v0, v1] := by cases args; simp_all
  obtain ⟨rfl, rfl⟩ := trodVars_none hV
  have k00 := h0
  have lt0 : ∀ x ∈ p0, x.block < W.heap.size := by obtain ⟨m, hm⟩ := k00; exact DataW.trod_lt m _ _ _ hm
  obtain ⟨t0, vl0, vs0, rfl, wl0, ws0, y0, z0, m0⟩ := Op.open_table (hval 0 25 v0 rfl rfl) h0
  have k10 := h1
  have lt1 : ∀ x ∈ p1, x.block < W.heap.size := by obtain ⟨m, hm⟩ := k10; exact DataW.trod_lt m _ _ _ hm
  obtain ⟨i1, rfl, rfl, rfl, z1⟩ := open_int Tryz.underlying3 (hval 1 3 v1 rfl rfl) h1
  clear hA0 hval0
  refine (walk t0 vl0 vs0 W wl0 ws0 y0 z0 m0 i1 z1).mono fun e W' ⟨he, bel⟩ => ?_
  subst he
  exact ⟨_, rfl, _, _, _, [], _, [], hW', trodAll_mk1 (shut_bool Tryz.underlying4 _), (trodAll_cons_mk (Below.trod laidOut (by kernel_rfl) (of_decide_eq_true (by kernel_rfl)) k00 bel lt0) (trodAll_cons_mk (Below.trod laidOut (by kernel_rfl) (of_decide_eq_true (by kernel_rfl)) k10 bel lt1) trodAll_mk0)), rfl, bel.frame _, fun h => by cases h⟩

theorem over : Rows.fnExactExpireLocksRow.holds Tryz.pinned (OpenSpec.ofChange Rows.fnExactExpireLocksSpec) :=
  OpenClaim.holds_of_wide 3 Tryz.f3 rfl rfl rfl rfl rfl rfl rfl ⟨rfl, rfl, rfl, rfl, rfl⟩ rfl rfl rfl rfl rfl (by kernel_rfl) Tryz.func3 (by kernel_rfl)
    (of_decide_eq_true (by kernel_rfl)) (by unfold Func.isWrapper; first | (rw [if_pos (by decide +kernel)]; kernel_rfl) | (rw [if_neg (by decide +kernel)]; exact ⟨rfl, rfl⟩))
    (fun os started H enc _ => lifted os started H enc)

end Go.Proofs.YtlgfeohoebmbcaaGreat.fnExactExpireLocks
namespace Go.Proofs.YtlgfeohoebmbcaaGreat
/-- THE STATEMENT. -/
theorem fnExactExpireLocks_holds : Rows.FnExactExpireLocksSaid := fnExactExpireLocks.over
end Go.Proofs.YtlgfeohoebmbcaaGreat
