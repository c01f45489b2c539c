/-
  impl.MakeStable answers at every argument just what the specification's MakeStable answers; it writes into no argument, and its answer owns its memory.
  Conditions: none beyond the given row's own; the package variable that it reads starts as the program's text lays it (the card ties it).
-/
import Derived.Test.YtnebohdlndiejaaGreatDoorJMakeStable4
import Derived.Test.YtnebohdlndiejaaGreatDoorJMakeStable5
import Derived.WalkKit
namespace Go.Proofs.YtnebohdlndiejaaGreatDoor.fnExactMakeStable
open Go.ChangeShapes Go.WideShapes Go.ChangeAt Go.RowKit
open Go.ChangeMaps (open_string shut_string)
open Go.Proofs.YtnebohdlndiejaaGreatDoor.Hl (own laidOut rowed door_met)

open Go.Proofs.YtnebohdlndiejaaGreatDoor.Sl Go.Proofs.YtnebohdlndiejaaGreatDoor.Xo Go.Proofs.YtnebohdlndiejaaGreatDoor.Er Go.Proofs.YtnebohdlndiejaaGreatDoor.Xm
open Go.Proofs.YtnebohdlndiejaaGreatDoor.Sh (KTab)
open Go.Proofs.YtnebohdlndiejaaGreatDoor.Hs (stV)
open Go.Proofs.YtnebohdlndiejaaGreatDoor.Gt (Vo)
open Go.Proofs.YtnebohdlndiejaaGreatDoor.Is (RowI RowI.below)
open Go.Proofs.YtnebohdlndiejaaGreatDoor.Xq (RowJ RowJ.of_row)
open Go.Proofs.YtnebohdlndiejaaGreatDoor.Tb (Lk Sn Tab RowL RowS RowL.below RowS.below tabV LkZ)
open Go.Proofs.YtnebohdlndiejaaGreatDoor.Ap (Kp)
open Go.Proofs.YtnebohdlndiejaaGreatDoor.Mw (TabW Wr Mid)
theorem wr_of {w w' : World} {g n : Nat} (h : w'.heap[g]? = w.heap[g]?) (hw : Wr w g n) : Wr w' g n := by
  obtain ⟨A, t, h1, h2⟩ := hw
  exact ⟨A, t, h.trans h1, h2⟩
theorem andThen {w w1 w2 : World} {N : Nat} (b1 : Below N w w1) (hN : N ≤ w1.heap.size) (b2 : Below w1.heap.size w1 w2) : Below N w w2 := b1.trans (b2.mono hN)
set_option maxRecDepth 100000 in
set_option maxHeartbeats 3200000 in
/-- THE WALK: both functions answer alike; the copies are as they were; the answer owns its memory. -/
theorem walk (n : Int) {q0 : Prop} (_z0 : q0) (sq : Int) {q1 : Prop} (_z1 : q1) (t : Tab) (vl vs : Value) (w : World) (hL : RowL w vl t.ls) (hS : RowS w vs t.ss) (y0 : t.ls.length ≤ maxLen) (y1 : t.ss.length ≤ maxLen) (m0 : ∀ x ∈ t.ls, LkZ x) (u : Value) (fs : List Int) (hI : RowI w u fs) (A : Nat → Addr) (hSe : Sen w A) (hK : KTab w) (hp : 10 < w.heap.size) :
    Calls Tryz.prog 3 #[.int .i64 n, .int .i64 sq, tabV t.tm t.nx vl vs, u] w fun e w' => e = .returned (.bool true) ∧ Below w.heap.size w w' := by
  obtain ⟨tm, nx, ls, ss⟩ := t
  simp only at hL hS y0 y1 m0 ⊢
  have HSK : Hid (∀ W, Below w.heap.size w W → Sen W A ∧ KTab W ∧ 10 < W.heap.size) := fun W hW => ⟨hSe.below hW, hK.below hW hp, Nat.lt_of_lt_of_le hp hW.size⟩
  have HSZ : Hid (∀ W, RowL W vl ls → RowS W vs ss → Calls Tryz.prog 5 #[tabV tm nx vl vs, .int .i64 1048576] W fun e w' => (∃ r : Int, e = .returned (.int .i64 r) ∧ (r = -1 ∨ (0 ≤ r ∧ ls.length ≤ 1048576 ∧ ss.length ≤ 1048576 ∧ ∀ x ∈ ls, x.n.size ≤ 1048576 ∧ x.ws.length ≤ 1048576))) ∧ Below W.heap.size W w') := fun W h1 h2 => Tw.szTable_any tm nx vl vs ls ss W h1 h2 m0 y0 y1
  obtain ⟨la, lc, rfl⟩ := Tb.RowG.slice hL
  obtain ⟨sa, sc, rfl⟩ := Tb.RowG.slice hS
  have hII := hI
  obtain ⟨ia, ic, rfl, _, hir⟩ := hI
  have HIR : Hid (∀ x ∈ fs, -9223372036854775808 ≤ x ∧ x ≤ 9223372036854775807) := hir
  have HA0 : Hid (∀ W, Below (w.alloc (.cells #[.int .i64 tm, .int .i64 nx, .slice la ls.length lc, .slice sa ss.length sc] 25)).heap.size (w.alloc (.cells #[.int .i64 tm, .int .i64 nx, .slice la ls.length lc, .slice sa ss.length sc] 25)) W → (W.cell? ⟨w.heap.size, 0, none⟩ = some (.int .i64 tm) ∧ W.cell? ⟨w.heap.size, 1, none⟩ = some (.int .i64 nx) ∧ W.cell? ⟨w.heap.size, 2, none⟩ = some (.slice la ls.length lc) ∧ W.cell? ⟨w.heap.size, 3, none⟩ = some (.slice sa ss.length sc)) ∧ RowL W (.slice la ls.length lc) ls ∧ RowS W (.slice sa ss.length sc) ss ∧ RowI W (.slice ia fs.length ic) fs ∧ Below w.heap.size w W) := fun W hW => by
    have h0 := (hW.block w.heap.size (by simp)).trans (heap_alloc_new w _)
    have b := (Rg.bel_new w (.cells #[.int .i64 tm, .int .i64 nx, .slice la ls.length lc, .slice sa ss.length sc] 25)).trans (hW.mono (by simp))
    exact ⟨⟨(Rg.blk_cell h0 0 rfl).1, (Rg.blk_cell h0 1 rfl).1, (Rg.blk_cell h0 2 rfl).1, (Rg.blk_cell h0 3 rfl).1⟩, hL.below b, hS.below b, hII.below b, b⟩
  clear hL hS y0 y1 m0 hII hSe hK hp hir
  unfold tabV at HSZ ⊢
  go_enter Tryz.func3, Tryz.ntmps3
  go_upto_region 1 with fail
  generalize w.alloc (.cells #[.int .i64 tm, .int .i64 nx, .slice la ls.length lc, .slice sa ss.length sc] 25) = wb at HA0 ⊢
  by_cases hbig : (1048576 : Int) < (fs.length : Int)
  · have G0 : Hid (Below w.heap.size w wb) := (HA0.out _ (Below.refl _ _)).2.2.2.2
    go_wp2_with fail
    go_ret
    exact ⟨rfl, G0.out⟩
  have hfl : fs.length ≤ 1048576 := by omega
  have HFL : Hid (∀ _ : Unit, fs.length ≤ 1048576) := fun _ => hfl
  obtain ⟨⟨c0, c1, c2, c3⟩, r1, r2, _, _⟩ := HA0.out _ (Below.refl _ _)
  have R0 : Hid (RowL wb (.slice la ls.length lc) ls ∧ RowS wb (.slice sa ss.length sc) ss) := ⟨r1, r2⟩
  clear r1 r2
  go_wp2_with fail
  refine (HSZ.out _ R0.out.1 R0.out.2).mono ?_
  rintro e w1 ⟨⟨rr, rfl, hr⟩, b1⟩
  have B1 : Hid (Below wb.heap.size wb w1) := b1
  clear b1 R0 c0 c1 c2 c3 HSZ
  rcases hr with rfl | ⟨hr0, hl1, hl2, hl3⟩
  · have G1 : Hid (Below w.heap.size w w1) := (HA0.out _ B1.out).2.2.2.2
    clear HA0
    go_wp2_with fail
    go_ret
    exact ⟨rfl, G1.out⟩
  have hr1 : ¬ rr < 0 := by omega
  clear hr0
  have HZ3 : Hid ((ls.length ≤ 1048576 ∧ ss.length ≤ 1048576) ∧ (∀ x ∈ ls, x.n.size ≤ 1048576 ∧ x.ws.length ≤ 1048576) ∧ ∀ x ∈ ls, x.ws.length ≤ 1048576) := ⟨⟨hl1, hl2⟩, hl3, fun x hx => (hl3 x hx).2⟩
  have HSP : Hid (∀ W ul us v, RowL W ul ls → RowS W us ss → RowI W v fs → Calls Tryz.prog 6 #[.int .i64 n, .int .i64 sq, .agg #[.int .i64 tm, .int .i64 nx, ul, us], v] W fun e w' => ∃ v', e = .returned (.tuple #[.agg #[.int .i64 (msQ n sq tm nx ls ss fs), .int .i64 (msZ n sq tm nx ls ss fs), .string (msR n sq tm nx ls ss fs), v'], .int .i64 (msC n sq tm nx ls ss fs)]) ∧ OwnV w' W.heap.size v' (msL n sq tm nx ls ss fs) ∧ Below W.heap.size W w') := fun W ul us v h1 h2 h3 => specMakeStable_any n sq tm nx ul us ls ss v fs W h1 h2 HZ3.out.2.1 HZ3.out.1.1 HZ3.out.1.2 (RowJ.of_row h3) (HFL.out ())
  have HIM : Hid (∀ W ul us v, Below w.heap.size w W → RowL W ul ls → RowS W us ss → RowI W v fs → Calls Tryz.prog 9 #[.int .i64 n, .int .i64 sq, .agg #[.int .i64 tm, .int .i64 nx, ul, us], v] W fun e w' => ∃ v', e = .returned (.tuple #[.agg #[.int .i64 (msQ n sq tm nx ls ss fs), .int .i64 (msZ n sq tm nx ls ss fs), .string (msR n sq tm nx ls ss fs), v'], .int .i64 (msC n sq tm nx ls ss fs)]) ∧ OwnV w' W.heap.size v' (msL n sq tm nx ls ss fs) ∧ Below W.heap.size W w') := fun W ul us v hb h1 h2 h3 => implMakeStable_any n sq tm nx ul us ls ss v fs W A h1 h2 HZ3.out.2.1 HZ3.out.1.1 HZ3.out.1.2 (RowJ.of_row h3) (HFL.out ()) (HSK.out W hb).1 (HSK.out W hb).2.1 (HSK.out W hb).2.2
  have hll : (msL n sq tm nx ls ss fs).length ≤ 1048576 := by
    unfold msL
    split
    · rw [vtTo_len (Nat.le_refl _)]; exact hfl
    · simp
  generalize msC n sq tm nx ls ss fs = c at HSP HIM
  generalize msQ n sq tm nx ls ss fs = q at HSP HIM
  generalize msZ n sq tm nx ls ss fs = z at HSP HIM
  generalize msR n sq tm nx ls ss fs = r at HSP HIM
  generalize msL n sq tm nx ls ss fs = l at HSP HIM hll
  have HLL : Hid (∀ _ : Unit, l.length ≤ 1048576) := fun _ => hll
  have HTT : Hid (∀ W, RowL W (.slice la ls.length lc) ls → RowS W (.slice sa ss.length sc) ss → Calls Tryz.prog 7 #[.agg #[.int .i64 tm, .int .i64 nx, .slice la ls.length lc, .slice sa ss.length sc]] W fun e w' => ∃ gl gs, e = .returned (.agg #[.int .i64 tm, .int .i64 nx, .slice (some ⟨gl, 0, none⟩) ls.length ls.length, .slice (some ⟨gs, 0, none⟩) ss.length ss.length]) ∧ RowL w' (.slice (some ⟨gl, 0, none⟩) ls.length ls.length) ls ∧ RowS w' (.slice (some ⟨gs, 0, none⟩) ss.length ss.length) ss ∧ TabW W.heap.size w'.heap.size w' gl gs ls ss ∧ Below W.heap.size W w') := fun W h1 h2 => Mw.toTableW_any tm nx _ _ ls ss W h1 h2 HZ3.out.1.1 HZ3.out.1.2 HZ3.out.2.2
  have HTI : Hid (∀ W, RowI W (.slice ia fs.length ic) fs → Calls Tryz.prog 8 #[.slice ia fs.length ic] W fun e w' => ∃ g, e = .returned (.slice (some ⟨g, 0, none⟩) fs.length fs.length) ∧ W.heap.size ≤ g ∧ Wr w' g fs.length ∧ RowI w' (.slice (some ⟨g, 0, none⟩) fs.length fs.length) fs ∧ Below W.heap.size W w') := fun W h1 => Mw.toIntW_any _ fs W h1 (HFL.out ())
  have HES : Hid (∀ W v v', Gt.Row W v l → Gt.Row W v' l → Calls Tryz.prog 10 #[.agg #[.int .i64 q, .int .i64 z, .string r, v], .agg #[.int .i64 q, .int .i64 z, .string r, v']] W fun e w' => e = .returned (.bool true) ∧ Below W.heap.size W w') := fun W v v' h1 h2 => Hs.eq_same q z r v v' l W h1 h2 (HLL.out ())
  have HET : Hid (∀ W ul us vl' vs', RowL W ul ls → RowS W us ss → RowL W vl' ls → RowS W vs' ss → Calls Tryz.prog 11 #[.agg #[.int .i64 tm, .int .i64 nx, ul, us], .agg #[.int .i64 tm, .int .i64 nx, vl', vs']] W fun e w' => e = .returned (.bool true) ∧ Below W.heap.size W w') := fun W ul us vl' vs' h1 h2 h3 h4 => Tw.eqTable_same tm nx _ _ _ _ ls ss W h1 h2 h3 h4 HZ3.out.1.1 HZ3.out.1.2 HZ3.out.2.2
  have HEI : Hid (∀ W v v', RowI W v fs → RowI W v' fs → Calls Tryz.prog 12 #[v, v'] W fun e w' => e = .returned (.bool true) ∧ Below W.heap.size W w') := fun W v v' h1 h2 => (Is.eqIntS_same v v' fs W h1 h2 (HFL.out ())).mono fun e w' h => h
  have HMT : Hid (∀ W gl gs B C, TabW B C W gl gs ls ss → C ≤ W.heap.size → Calls Tryz.prog 13 #[.agg #[.int .i64 tm, .int .i64 nx, .slice (some ⟨gl, 0, none⟩) ls.length ls.length, .slice (some ⟨gs, 0, none⟩) ss.length ss.length], .int .i64 1] W fun e w' => ∃ k : Nat, e = .returned (.int .i64 (k : Int)) ∧ k ≤ 4000000000000 ∧ Mid B C W w') := fun W gl gs B C h1 h2 => Mw.markTable_bnd tm nx gl gs ls ss B C W h1 HZ3.out.1.1 HZ3.out.1.2 HZ3.out.2.2 h2
  have HMI : Hid (∀ W g k, k ≤ 4000000000000 → Wr W g fs.length → Calls Tryz.prog 14 #[.slice (some ⟨g, 0, none⟩) fs.length fs.length, .int .i64 (k : Nat)] W fun e w' => e = .returned (.int .i64 ((k + fs.length : Nat) : Int)) ∧ Mid g (g + 1) W w') := fun W g k h1 h2 => Mw.markIntW_any g fs.length k W h2 (HFL.out ()) (by omega)
  have HMS : Hid (∀ W v B, OwnV W B v l → Calls Tryz.prog 15 #[.agg #[.int .i64 q, .int .i64 z, .string r, v], .int .i64 1] W fun e w' => e = .returned (.int .i64 ((1 + l.length * 2 : Nat) : Int)) ∧ HeldM w' v 1 l.length ∧ Kp W w' v v) := fun W v B h1 => markStable_own q z r v l B W h1 (HLL.out ())
  have HHS : Hid (∀ W v, HeldM W v 1 l.length → Calls Tryz.prog 16 #[.agg #[.int .i64 q, .int .i64 z, .string r, v], .int .i64 1] W fun e w' => e = .returned (.int .i64 ((1 + l.length * 2 : Nat) : Int)) ∧ Below W.heap.size W w') := fun W v h1 => heldStable_own q z r v l.length W h1 (HLL.out ())
  have hmm0 : ¬ ((1 + l.length * 2 : Nat) : Int) < 0 := by omega
  have hmm1 : (((1 + l.length * 2 : Nat) : Int) != ((1 + l.length * 2 : Nat) : Int)) = false := by simp
  generalize ((1 + l.length * 2 : Nat) : Int) = mm at HMS HHS hmm0 hmm1
  have hcc : (c != c) = false := by simp
  clear hl1 hl2 hl3 hll hfl hbig
  obtain ⟨⟨c0, c1, c2, c3⟩, r1, r2, r3, _⟩ := HA0.out _ B1.out
  have R1 : Hid (RowL w1 (.slice la ls.length lc) ls ∧ RowS w1 (.slice sa ss.length sc) ss ∧ RowI w1 (.slice ia fs.length ic) fs) := ⟨r1, r2, r3⟩
  clear r1 r2 r3
  go_wp2_with fail
  refine (HTT.out _ R1.out.1 R1.out.2.1).mono ?_
  rintro e w2 ⟨gl0, gs0, rfl, t1, t2, _, b2⟩
  have T2 : Hid (RowL w2 (.slice (some ⟨gl0, 0, none⟩) ls.length ls.length) ls ∧ RowS w2 (.slice (some ⟨gs0, 0, none⟩) ss.length ss.length) ss ∧ RowI w2 (.slice ia fs.length ic) fs ∧ Below wb.heap.size wb w2) := ⟨t1, t2, R1.out.2.2.below b2, andThen B1.out B1.out.size b2⟩
  clear t1 t2 b2 B1 R1 c0 c1 c2 c3
  go_wp2_with fail
  refine (HTI.out _ T2.out.2.2.1).mono ?_
  rintro e w3 ⟨g30, rfl, _, _, t3, b3⟩
  have T3 : Hid (RowL w3 (.slice (some ⟨gl0, 0, none⟩) ls.length ls.length) ls ∧ RowS w3 (.slice (some ⟨gs0, 0, none⟩) ss.length ss.length) ss ∧ RowI w3 (.slice (some ⟨g30, 0, none⟩) fs.length fs.length) fs ∧ Below wb.heap.size wb w3) := ⟨T2.out.1.below b3, T2.out.2.1.below b3, t3, andThen T2.out.2.2.2 T2.out.2.2.2.size b3⟩
  clear t3 b3 T2
  go_wp2_with fail
  refine (HSP.out _ _ _ _ T3.out.1 T3.out.2.1 T3.out.2.2.1).mono ?_
  rintro e w4 ⟨v0, rfl, o0, b4⟩
  have T4 : Hid (Gt.Row w4 v0 l ∧ Below wb.heap.size wb w4) := ⟨o0.row, andThen T3.out.2.2.2 T3.out.2.2.2.size b4⟩
  obtain ⟨va, vc, rfl⟩ := o0.slice
  clear b4 T3 HSP
  have H7 : Hid (∀ W, Below (w4.alloc (.cells #[.int .i64 q, .int .i64 z, .string r, .slice va l.length vc] 30)).heap.size (w4.alloc (.cells #[.int .i64 q, .int .i64 z, .string r, .slice va l.length vc] 30)) W → (W.cell? ⟨w.heap.size, 0, none⟩ = some (.int .i64 tm) ∧ W.cell? ⟨w.heap.size, 1, none⟩ = some (.int .i64 nx) ∧ W.cell? ⟨w.heap.size, 2, none⟩ = some (.slice la ls.length lc) ∧ W.cell? ⟨w.heap.size, 3, none⟩ = some (.slice sa ss.length sc)) ∧ RowL W (.slice la ls.length lc) ls ∧ RowS W (.slice sa ss.length sc) ss ∧ RowI W (.slice ia fs.length ic) fs ∧ (W.cell? ⟨w4.heap.size, 0, none⟩ = some (.int .i64 q) ∧ W.cell? ⟨w4.heap.size, 1, none⟩ = some (.int .i64 z) ∧ W.cell? ⟨w4.heap.size, 2, none⟩ = some (.string r) ∧ W.cell? ⟨w4.heap.size, 3, none⟩ = some (.slice va l.length vc)) ∧ Gt.Row W (.slice va l.length vc) l ∧ Below w.heap.size w W) := fun W hW => by
    have h0 := (hW.block w4.heap.size (by simp)).trans (heap_alloc_new w4 _)
    have b := (Rg.bel_new w4 (.cells #[.int .i64 q, .int .i64 z, .string r, .slice va l.length vc] 30)).trans (hW.mono (by simp))
    obtain ⟨k1, k2, k3, k4, k5⟩ := HA0.out _ (andThen T4.out.2 T4.out.2.size b)
    exact ⟨k1, k2, k3, k4, ⟨(Rg.blk_cell h0 0 rfl).1, (Rg.blk_cell h0 1 rfl).1, (Rg.blk_cell h0 2 rfl).1, (Rg.blk_cell h0 3 rfl).1⟩, T4.out.1.below b, k5⟩
  clear HA0 T4 o0
  go_upto_region 8 with fail
  generalize w4.alloc (.cells #[.int .i64 q, .int .i64 z, .string r, .slice va l.length vc] 30) = w7 at H7 ⊢
  generalize w4.heap.size = b10 at H7 ⊢
  obtain ⟨⟨c0, c1, c2, c3⟩, r1, r2, _⟩ := H7.out _ (Below.refl _ _)
  have R7 : Hid (RowL w7 (.slice la ls.length lc) ls ∧ RowS w7 (.slice sa ss.length sc) ss) := ⟨r1, r2⟩
  clear r1 r2
  go_wp2_with fail
  refine (HTT.out _ R7.out.1 R7.out.2).mono ?_
  rintro e w8 ⟨gl, gs, rfl, t1, t2, tw, b8⟩
  have T8 : Hid (RowL w8 (.slice (some ⟨gl, 0, none⟩) ls.length ls.length) ls ∧ RowS w8 (.slice (some ⟨gs, 0, none⟩) ss.length ss.length) ss ∧ TabW w7.heap.size w8.heap.size w8 gl gs ls ss ∧ Below w7.heap.size w7 w8) := ⟨t1, t2, tw, b8⟩
  clear t1 t2 tw b8 c0 c1 c2 c3 R7
  have H8 : Hid (∀ W, Below (w8.alloc (.cells #[.int .i64 tm, .int .i64 nx, .slice (some ⟨gl, 0, none⟩) ls.length ls.length, .slice (some ⟨gs, 0, none⟩) ss.length ss.length] 36)).heap.size (w8.alloc (.cells #[.int .i64 tm, .int .i64 nx, .slice (some ⟨gl, 0, none⟩) ls.length ls.length, .slice (some ⟨gs, 0, none⟩) ss.length ss.length] 36)) W → (W.cell? ⟨w8.heap.size, 0, none⟩ = some (.int .i64 tm) ∧ W.cell? ⟨w8.heap.size, 1, none⟩ = some (.int .i64 nx) ∧ W.cell? ⟨w8.heap.size, 2, none⟩ = some (.slice (some ⟨gl, 0, none⟩) ls.length ls.length) ∧ W.cell? ⟨w8.heap.size, 3, none⟩ = some (.slice (some ⟨gs, 0, none⟩) ss.length ss.length)) ∧ RowL W (.slice (some ⟨gl, 0, none⟩) ls.length ls.length) ls ∧ RowS W (.slice (some ⟨gs, 0, none⟩) ss.length ss.length) ss ∧ TabW w7.heap.size w8.heap.size W gl gs ls ss ∧ Below w7.heap.size w7 W) := fun W hW => by
    have h0 := (hW.block w8.heap.size (by simp)).trans (heap_alloc_new w8 _)
    have b := (Rg.bel_new w8 (.cells #[.int .i64 tm, .int .i64 nx, .slice (some ⟨gl, 0, none⟩) ls.length ls.length, .slice (some ⟨gs, 0, none⟩) ss.length ss.length] 36)).trans (hW.mono (by simp))
    exact ⟨⟨(Rg.blk_cell h0 0 rfl).1, (Rg.blk_cell h0 1 rfl).1, (Rg.blk_cell h0 2 rfl).1, (Rg.blk_cell h0 3 rfl).1⟩, T8.out.1.below b, T8.out.2.1.below b, T8.out.2.2.1.below b, andThen T8.out.2.2.2 T8.out.2.2.2.size b⟩
  have HN8 : Hid (w7.heap.size ≤ w8.heap.size ∧ w8.heap.size < (w8.alloc (.cells #[.int .i64 tm, .int .i64 nx, .slice (some ⟨gl, 0, none⟩) ls.length ls.length, .slice (some ⟨gs, 0, none⟩) ss.length ss.length] 36)).heap.size) := ⟨T8.out.2.2.2.size, by simp⟩
  clear T8
  go_upto_region 9 with fail
  generalize w8.alloc (.cells #[.int .i64 tm, .int .i64 nx, .slice (some ⟨gl, 0, none⟩) ls.length ls.length, .slice (some ⟨gs, 0, none⟩) ss.length ss.length] 36) = w9 at H8 HN8 ⊢
  generalize w8.heap.size = b12 at H8 HN8 ⊢
  have B79 : Hid (Below w7.heap.size w7 w9) := (H8.out _ (Below.refl _ _)).2.2.2.2
  have R9 : Hid (RowI w9 (.slice ia fs.length ic) fs) := (H7.out _ B79.out).2.2.2.1
  go_wp2_with fail
  refine (HTI.out _ R9.out).mono ?_
  rintro e w10 ⟨g3, rfl, hg3, t3, t4, b10'⟩
  have T10 : Hid (Wr w10 g3 fs.length ∧ RowI w10 (.slice (some ⟨g3, 0, none⟩) fs.length fs.length) fs ∧ Below w9.heap.size w9 w10 ∧ w9.heap.size ≤ g3 ∧ g3 < w10.heap.size) := ⟨t3, t4, b10', hg3, t3.lt⟩
  clear hg3 t3 t4 b10' R9
  obtain ⟨⟨c0, c1, c2, c3⟩, r1, r2, _, r5⟩ := H8.out _ T10.out.2.2.1
  have R10 : Hid (RowL w10 (.slice (some ⟨gl, 0, none⟩) ls.length ls.length) ls ∧ RowS w10 (.slice (some ⟨gs, 0, none⟩) ss.length ss.length) ss ∧ Below w.heap.size w w10) := ⟨r1, r2, (H7.out _ r5).2.2.2.2.2.2⟩
  clear r1 r2 r5
  go_wp2_with fail
  refine (HIM.out _ _ _ _ R10.out.2.2 R10.out.1 R10.out.2.1 T10.out.2.1).mono ?_
  rintro e w11 ⟨v4, rfl, o4, b11⟩
  obtain ⟨wa, wc, rfl⟩ := o4.slice
  have T11 : Hid (OwnV w11 w10.heap.size (.slice wa l.length wc) l ∧ Below w10.heap.size w10 w11) := ⟨o4, b11⟩
  clear o4 b11 c0 c1 c2 c3 R10
  have H12 : Hid (∀ W, Below (w11.alloc (.cells #[.int .i64 q, .int .i64 z, .string r, .slice wa l.length wc] 30)).heap.size (w11.alloc (.cells #[.int .i64 q, .int .i64 z, .string r, .slice wa l.length wc] 30)) W → (W.cell? ⟨w11.heap.size, 0, none⟩ = some (.int .i64 q) ∧ W.cell? ⟨w11.heap.size, 1, none⟩ = some (.int .i64 z) ∧ W.cell? ⟨w11.heap.size, 2, none⟩ = some (.string r) ∧ W.cell? ⟨w11.heap.size, 3, none⟩ = some (.slice wa l.length wc)) ∧ W.heap[w11.heap.size]? = some (.cells #[.int .i64 q, .int .i64 z, .string r, .slice wa l.length wc] 30) ∧ OwnV W w10.heap.size (.slice wa l.length wc) l ∧ Below w10.heap.size w10 W) := fun W hW => by
    have h0 := (hW.block w11.heap.size (by simp)).trans (heap_alloc_new w11 _)
    have b := (Rg.bel_new w11 (.cells #[.int .i64 q, .int .i64 z, .string r, .slice wa l.length wc] 30)).trans (hW.mono (by simp))
    exact ⟨⟨(Rg.blk_cell h0 0 rfl).1, (Rg.blk_cell h0 1 rfl).1, (Rg.blk_cell h0 2 rfl).1, (Rg.blk_cell h0 3 rfl).1⟩, h0, T11.out.1.below b, andThen T11.out.2 T11.out.2.size b⟩
  have HN12 : Hid (w10.heap.size ≤ w11.heap.size ∧ w11.heap.size < (w11.alloc (.cells #[.int .i64 q, .int .i64 z, .string r, .slice wa l.length wc] 30)).heap.size) := ⟨T11.out.2.size, by simp⟩
  clear T11
  go_upto_region 11 with fail
  generalize w11.alloc (.cells #[.int .i64 q, .int .i64 z, .string r, .slice wa l.length wc] 30) = w12 at H12 HN12 ⊢
  generalize w11.heap.size = b14 at H12 HN12 ⊢
  have HALL : Hid (∀ W, Below w12.heap.size w12 W → (Below w10.heap.size w10 W ∧ Below w9.heap.size w9 W ∧ Below w7.heap.size w7 W)) := fun W hW => by
    obtain ⟨_, _, _, k1⟩ := H12.out _ hW
    have k2 := andThen T10.out.2.2.1 T10.out.2.2.1.size k1
    exact ⟨k1, k2, andThen B79.out B79.out.size k2⟩
  obtain ⟨⟨d0, d1, d2, d3⟩, _, o12, _⟩ := H12.out _ (Below.refl _ _)
  obtain ⟨_, _, _, _, ⟨e0, e1, e2, e3⟩, s12, _⟩ := H7.out _ (HALL.out _ (Below.refl _ _)).2.2
  have R12 : Hid (Gt.Row w12 (.slice wa l.length wc) l ∧ Gt.Row w12 (.slice va l.length vc) l) := ⟨o12.row, s12⟩
  clear o12 s12
  go_wp2_with fail
  refine (HES.out _ _ _ R12.out.1 R12.out.2).mono ?_
  rintro e w13 ⟨rfl, b13⟩
  have B13 : Hid (Below w12.heap.size w12 w13) := b13
  clear b13 d0 d1 d2 d3 e0 e1 e2 e3 R12
  go_upto_region 13 with fail
  obtain ⟨k10, k9, k7⟩ := HALL.out _ B13.out
  obtain ⟨⟨c0, c1, c2, c3⟩, r1, r2, _⟩ := H7.out _ k7
  obtain ⟨⟨x0, x1, x2, x3⟩, x4, x5, _⟩ := H8.out _ k9
  have HTT3 : Hid (Calls Tryz.prog 7 #[.agg #[.int .i64 tm, .int .i64 nx, .slice la ls.length lc, .slice sa ss.length sc]] w13.drew fun e w' => ∃ gl gs, e = .returned (.agg #[.int .i64 tm, .int .i64 nx, .slice (some ⟨gl, 0, none⟩) ls.length ls.length, .slice (some ⟨gs, 0, none⟩) ss.length ss.length]) ∧ (RowL w' (.slice (some ⟨gl, 0, none⟩) ls.length ls.length) ls ∧ RowS w' (.slice (some ⟨gs, 0, none⟩) ss.length ss.length) ss) ∧ Below w13.heap.size w13 w') := (HTT.out w13.drew (r1.below (Below.refl _ _).drew) (r2.below (Below.refl _ _).drew)).mono fun e w' ⟨gl, gs, h1, h2, h3, _, h5⟩ => ⟨gl, gs, h1, ⟨h2, h3⟩, ((Below.refl w13.heap.size w13).drew).trans h5⟩
  have HX13 : Hid (∀ W, Below w13.heap.size w13 W → (W.cell? ⟨b12, 0, none⟩ = some (.int .i64 tm) ∧ W.cell? ⟨b12, 1, none⟩ = some (.int .i64 nx) ∧ W.cell? ⟨b12, 2, none⟩ = some (.slice (some ⟨gl, 0, none⟩) ls.length ls.length) ∧ W.cell? ⟨b12, 3, none⟩ = some (.slice (some ⟨gs, 0, none⟩) ss.length ss.length)) ∧ RowL W (.slice (some ⟨gl, 0, none⟩) ls.length ls.length) ls ∧ RowS W (.slice (some ⟨gs, 0, none⟩) ss.length ss.length) ss ∧ Below w12.heap.size w12 W) := fun W hW => by
    have bb := andThen B13.out B13.out.size hW
    obtain ⟨j10, j9, j7⟩ := HALL.out _ bb
    obtain ⟨i1, i2, i3, _⟩ := H8.out _ j9
    exact ⟨i1, i2, i3, bb⟩
  clear r1 r2 x4 x5 k10 k9 k7
  go_region_law (first
    | (go_simp; go_at_call 7; (with_reducible refine HTT3.out.mono ?_); rintro e w14 ⟨gl9, gs9, rfl, ⟨y1, y2⟩, b14'⟩; obtain ⟨⟨f0, f1, f2, f3⟩, f4, f5, f6⟩ := HX13.out _ b14'; try go_simp)
    | (go_simp; go_at_call 11; (with_reducible refine (HET.out _ _ _ _ _ f4 f5 y1 y2).mono ?_); rintro e w15 ⟨rfl, b15⟩; try go_simp))
  all_goals
    have B15 : Hid (Below w12.heap.size w12 w15) := andThen f6 f6.size b15
    clear b15 f0 f1 f2 f3 f4 f5 f6 y1 y2 b14' HTT3 HX13 c0 c1 c2 c3 x0 x1 x2 x3 B13
    obtain ⟨k10, k9, k7⟩ := HALL.out _ B15.out
    have R15 : Hid (RowI w15 (.slice ia fs.length ic) fs ∧ RowI w15 (.slice (some ⟨g3, 0, none⟩) fs.length fs.length) fs) := ⟨(H7.out _ k7).2.2.2.1, T10.out.2.1.below k10⟩
    clear k10 k9 k7
    go_wp2_with fail
    refine (HTI.out _ R15.out.1).mono ?_
    rintro e w16 ⟨g9, rfl, _, _, t9, b16⟩
    have T16 : Hid (RowI w16 (.slice (some ⟨g9, 0, none⟩) fs.length fs.length) fs ∧ RowI w16 (.slice (some ⟨g3, 0, none⟩) fs.length fs.length) fs ∧ Below w12.heap.size w12 w16) := ⟨t9, R15.out.2.below b16, andThen B15.out B15.out.size b16⟩
    clear t9 b16 R15 B15
    go_wp2_with fail
    refine (HEI.out _ _ _ T16.out.2.1 T16.out.1).mono ?_
    rintro e w17 ⟨rfl, b17⟩
    have B17 : Hid (Below w12.heap.size w12 w17) := andThen T16.out.2.2 T16.out.2.2.size b17
    clear b17 T16
    obtain ⟨k10, k9, k7⟩ := HALL.out _ B17.out
    obtain ⟨⟨x0, x1, x2, x3⟩, _, _, xt, _⟩ := H8.out _ k9
    have XT : Hid (TabW w7.heap.size b12 w17 gl gs ls ss ∧ b12 ≤ w17.heap.size ∧ Wr w17 g3 fs.length ∧ Below w7.heap.size w7 w17) := ⟨xt, by have := HN8.out; have := k9.size; omega, T10.out.1.below k10, k7⟩
    clear xt k10 k9 k7
    go_wp2_with fail
    refine (HMT.out _ _ _ _ _ XT.out.1 XT.out.2.1).mono ?_
    rintro e w18 ⟨k1, rfl, hk1, m18⟩
    have HM18 : Hid (k1 ≤ 4000000000000 ∧ Mid w7.heap.size b12 w17 w18) := ⟨hk1, m18⟩
    have W18 : Hid (Wr w18 g3 fs.length) := wr_of (m18.block g3 XT.out.2.2.1.lt (.inr (by have := HN8.out; have := T10.out.2.2.2; omega))) XT.out.2.2.1
    clear hk1 m18 x0 x1 x2 x3
    go_wp2_with fail
    refine (HMI.out _ g3 k1 HM18.out.1 W18.out).mono ?_
    rintro e w19 ⟨rfl, m19⟩
    have hk2 : ¬ ((k1 + fs.length : Nat) : Int) < 0 := by omega
    generalize ((k1 + fs.length : Nat) : Int) = kk at hk2 ⊢
    have HOB : Hid (∀ k, b12 < k → k ≠ g3 → k < w17.heap.size → w19.heap[k]? = w17.heap[k]?) := fun k h1 h2 h3 => (m19.block k (by have := HM18.out.2.size; omega) (by omega)).trans (HM18.out.2.block k h3 (.inr (by omega)))
    have B719 : Hid (Below w7.heap.size w7 w19) := Mw.Mid.low (Mw.Mid.low XT.out.2.2.2 (Nat.le_refl _) HM18.out.2 (Nat.le_refl _)) (Nat.le_refl _) m19 (by have := HN8.out; have := T10.out.2.2.2; have := B79.out.size; omega)
    obtain ⟨_, h14, o14, k10⟩ := H12.out _ B17.out
    have H14 : Hid (w19.heap[b14]? = some (.cells #[.int .i64 q, .int .i64 z, .string r, .slice wa l.length wc] 30)) := (HOB.out b14 (by have := HN8.out; have := HN12.out; have := T10.out.2.2.2; omega) (by have := HN12.out; have := T10.out.2.2.2; omega) (Array.getElem?_eq_some_iff.1 h14).1).trans h14
    have O19 : Hid (OwnV w19 w10.heap.size (.slice wa l.length wc) l) := o14.kept (fun g hg => HOB.out g (by have := (o14.lt g hg).1; have := HN8.out; have := T10.out.2.2.2; omega) (by have := (o14.lt g hg).1; have := T10.out.2.2.2; omega) (o14.lt g hg).2)
    clear m19 h14 o14 k10 HM18 W18 HOB XT B17
    obtain ⟨_, _, _, _, ⟨e0, e1, e2, e3⟩, s19, _⟩ := H7.out _ B719.out
    obtain ⟨d0, d1, d2, d3⟩ := (show (w19.cell? ⟨b14, 0, none⟩ = some (.int .i64 q) ∧ w19.cell? ⟨b14, 1, none⟩ = some (.int .i64 z) ∧ w19.cell? ⟨b14, 2, none⟩ = some (.string r) ∧ w19.cell? ⟨b14, 3, none⟩ = some (.slice wa l.length wc)) from ⟨(Rg.blk_cell H14.out 0 rfl).1, (Rg.blk_cell H14.out 1 rfl).1, (Rg.blk_cell H14.out 2 rfl).1, (Rg.blk_cell H14.out 3 rfl).1⟩)
    have R19 : Hid (Gt.Row w19 (.slice wa l.length wc) l ∧ Gt.Row w19 (.slice va l.length vc) l) := ⟨O19.out.row, s19⟩
    clear s19
    go_wp2_with fail
    refine (HES.out _ _ _ R19.out.1 R19.out.2).mono ?_
    rintro e w20 ⟨rfl, b20⟩
    have O20 : Hid (OwnV w20 w10.heap.size (.slice wa l.length wc) l ∧ w20.heap[b14]? = some (.cells #[.int .i64 q, .int .i64 z, .string r, .slice wa l.length wc] 30) ∧ Below w7.heap.size w7 w20) := ⟨O19.out.below b20, (b20.block b14 (Array.getElem?_eq_some_iff.1 H14.out).1).trans H14.out, andThen B719.out B719.out.size b20⟩
    clear b20 d0 d1 d2 d3 e0 e1 e2 e3 R19 O19 H14 B719
    obtain ⟨d0, d1, d2, d3⟩ := (show (w20.cell? ⟨b14, 0, none⟩ = some (.int .i64 q) ∧ w20.cell? ⟨b14, 1, none⟩ = some (.int .i64 z) ∧ w20.cell? ⟨b14, 2, none⟩ = some (.string r) ∧ w20.cell? ⟨b14, 3, none⟩ = some (.slice wa l.length wc)) from ⟨(Rg.blk_cell O20.out.2.1 0 rfl).1, (Rg.blk_cell O20.out.2.1 1 rfl).1, (Rg.blk_cell O20.out.2.1 2 rfl).1, (Rg.blk_cell O20.out.2.1 3 rfl).1⟩)
    go_wp2_with fail
    refine (HMS.out _ _ _ O20.out.1).mono ?_
    rintro e w21 ⟨rfl, hh, kp⟩
    have T21 : Hid (HeldM w21 (.slice wa l.length wc) 1 l.length ∧ w21.heap[b14]? = some (.cells #[.int .i64 q, .int .i64 z, .string r, .slice wa l.length wc] 30) ∧ Below w7.heap.size w7 w21) := ⟨hh, (kp.block b14 (Array.getElem?_eq_some_iff.1 O20.out.2.1).1 (fun e => own_ne O20.out.1 O20.out.2.1 b14 e.symm rfl)).trans O20.out.2.1, Mw.Kp.low O20.out.2.2 (Nat.le_refl _) kp (fun g hg => by have := (O20.out.1.lt g hg).1; have := B79.out.size; have := T10.out.2.2.1.size; omega)⟩
    clear hh kp O20 d0 d1 d2 d3
    obtain ⟨d0, d1, d2, d3⟩ := (show (w21.cell? ⟨b14, 0, none⟩ = some (.int .i64 q) ∧ w21.cell? ⟨b14, 1, none⟩ = some (.int .i64 z) ∧ w21.cell? ⟨b14, 2, none⟩ = some (.string r) ∧ w21.cell? ⟨b14, 3, none⟩ = some (.slice wa l.length wc)) from ⟨(Rg.blk_cell T21.out.2.1 0 rfl).1, (Rg.blk_cell T21.out.2.1 1 rfl).1, (Rg.blk_cell T21.out.2.1 2 rfl).1, (Rg.blk_cell T21.out.2.1 3 rfl).1⟩)
    go_wp2_with fail
    refine (HHS.out _ _ T21.out.1).mono ?_
    rintro e w22 ⟨rfl, b22⟩
    have T22 : Hid (HeldM w22 (.slice wa l.length wc) 1 l.length ∧ w22.heap[b14]? = some (.cells #[.int .i64 q, .int .i64 z, .string r, .slice wa l.length wc] 30) ∧ Below w7.heap.size w7 w22) := ⟨T21.out.1.below b22, (b22.block b14 (Array.getElem?_eq_some_iff.1 T21.out.2.1).1).trans T21.out.2.1, andThen T21.out.2.2 T21.out.2.2.size b22⟩
    clear b22 T21 d0 d1 d2 d3
    obtain ⟨⟨c0, c1, c2, c3⟩, r1, r2, r3, _⟩ := H7.out _ T22.out.2.2
    have R22 : Hid (RowL w22 (.slice la ls.length lc) ls ∧ RowS w22 (.slice sa ss.length sc) ss ∧ RowI w22 (.slice ia fs.length ic) fs) := ⟨r1, r2, r3⟩
    clear r1 r2 r3
    go_wp2_with fail
    refine (HTT.out _ R22.out.1 R22.out.2.1).mono ?_
    rintro e w23 ⟨gl5, gs5, rfl, t1, t2, _, b23⟩
    have T23 : Hid (RowL w23 (.slice (some ⟨gl5, 0, none⟩) ls.length ls.length) ls ∧ RowS w23 (.slice (some ⟨gs5, 0, none⟩) ss.length ss.length) ss ∧ RowI w23 (.slice ia fs.length ic) fs ∧ Below w22.heap.size w22 w23) := ⟨t1, t2, R22.out.2.2.below b23, b23⟩
    clear t1 t2 b23 R22 c0 c1 c2 c3
    go_wp2_with fail
    refine (HTI.out _ T23.out.2.2.1).mono ?_
    rintro e w24 ⟨g35, rfl, _, _, t3, b24⟩
    have T24 : Hid (RowL w24 (.slice (some ⟨gl5, 0, none⟩) ls.length ls.length) ls ∧ RowS w24 (.slice (some ⟨gs5, 0, none⟩) ss.length ss.length) ss ∧ RowI w24 (.slice (some ⟨g35, 0, none⟩) fs.length fs.length) fs ∧ Below w22.heap.size w22 w24) := ⟨T23.out.1.below b24, T23.out.2.1.below b24, t3, andThen T23.out.2.2.2 T23.out.2.2.2.size b24⟩
    clear t3 b24 T23
    have G24 : Hid (Below w.heap.size w w24) := (H7.out _ (andThen T22.out.2.2 T22.out.2.2.size T24.out.2.2.2)).2.2.2.2.2.2
    go_wp2_with fail
    refine (HIM.out _ _ _ _ G24.out T24.out.1 T24.out.2.1 T24.out.2.2.1).mono ?_
    rintro e w25 ⟨v5, rfl, o5, b25⟩
    obtain ⟨za, zc, rfl⟩ := o5.slice
    have T25 : Hid (Gt.Row w25 (.slice za l.length zc) l ∧ Below w22.heap.size w22 w25) := ⟨o5.row, andThen T24.out.2.2.2 T24.out.2.2.2.size b25⟩
    clear o5 b25 T24 G24
    have H26 : Hid (∀ W, Below (w25.alloc (.cells #[.int .i64 q, .int .i64 z, .string r, .slice za l.length zc] 30)).heap.size (w25.alloc (.cells #[.int .i64 q, .int .i64 z, .string r, .slice za l.length zc] 30)) W → (W.cell? ⟨w25.heap.size, 0, none⟩ = some (.int .i64 q) ∧ W.cell? ⟨w25.heap.size, 1, none⟩ = some (.int .i64 z) ∧ W.cell? ⟨w25.heap.size, 2, none⟩ = some (.string r) ∧ W.cell? ⟨w25.heap.size, 3, none⟩ = some (.slice za l.length zc)) ∧ Gt.Row W (.slice za l.length zc) l ∧ Below w22.heap.size w22 W) := fun W hW => by
      have h0 := (hW.block w25.heap.size (by simp)).trans (heap_alloc_new w25 _)
      have b := (Rg.bel_new w25 (.cells #[.int .i64 q, .int .i64 z, .string r, .slice za l.length zc] 30)).trans (hW.mono (by simp))
      exact ⟨⟨(Rg.blk_cell h0 0 rfl).1, (Rg.blk_cell h0 1 rfl).1, (Rg.blk_cell h0 2 rfl).1, (Rg.blk_cell h0 3 rfl).1⟩, T25.out.1.below b, andThen T25.out.2 T25.out.2.size b⟩
    clear T25
    go_upto_region 31 with fail
    generalize w25.alloc (.cells #[.int .i64 q, .int .i64 z, .string r, .slice za l.length zc] 30) = w26 at H26 ⊢
    generalize w25.heap.size = b19 at H26 ⊢
    obtain ⟨⟨f0, f1, f2, f3⟩, s26, k22⟩ := H26.out _ (Below.refl _ _)
    have B726 : Hid (Below w7.heap.size w7 w26) := andThen T22.out.2.2 T22.out.2.2.size k22
    obtain ⟨_, _, _, _, ⟨e0, e1, e2, e3⟩, s7, _⟩ := H7.out _ B726.out
    have R26 : Hid (Gt.Row w26 (.slice za l.length zc) l ∧ Gt.Row w26 (.slice va l.length vc) l) := ⟨s26, s7⟩
    clear s26 s7 k22
    go_wp2_with fail
    refine (HES.out _ _ _ R26.out.1 R26.out.2).mono ?_
    rintro e w27 ⟨rfl, b27⟩
    have k27 := (H26.out _ b27).2.2
    have T27 : Hid (HeldM w27 (.slice wa l.length wc) 1 l.length ∧ w27.heap[b14]? = some (.cells #[.int .i64 q, .int .i64 z, .string r, .slice wa l.length wc] 30) ∧ Below w.heap.size w w27) := ⟨T22.out.1.below k27, (k27.block b14 (Array.getElem?_eq_some_iff.1 T22.out.2.1).1).trans T22.out.2.1, (H7.out _ (andThen T22.out.2.2 T22.out.2.2.size k27)).2.2.2.2.2.2⟩
    clear k27 b27 f0 f1 f2 f3 e0 e1 e2 e3 R26 B726 T22
    obtain ⟨d0, d1, d2, d3⟩ := (show (w27.cell? ⟨b14, 0, none⟩ = some (.int .i64 q) ∧ w27.cell? ⟨b14, 1, none⟩ = some (.int .i64 z) ∧ w27.cell? ⟨b14, 2, none⟩ = some (.string r) ∧ w27.cell? ⟨b14, 3, none⟩ = some (.slice wa l.length wc)) from ⟨(Rg.blk_cell T27.out.2.1 0 rfl).1, (Rg.blk_cell T27.out.2.1 1 rfl).1, (Rg.blk_cell T27.out.2.1 2 rfl).1, (Rg.blk_cell T27.out.2.1 3 rfl).1⟩)
    go_wp2_with fail
    refine (HHS.out _ _ T27.out.1).mono ?_
    rintro e w28 ⟨rfl, b28⟩
    have G28 : Hid (Below w.heap.size w w28) := andThen T27.out.2.2 T27.out.2.2.size b28
    clear b28 T27 d0 d1 d2 d3
    go_wp2_with fail
    go_ret
    exact ⟨rfl, G28.out⟩

set_option maxRecDepth 100000 in
theorem lifted (os : Os) (started : os.Started) (H : Type) (enc : TypeId × Value → H) :
    ReturnsInHanded {} Tryz.checked os 3 .any (fun w args => (Rows.fnExactMakeStableSpec.pre enc Tryz.prog Tryz.f3 [] false w args ∧ laidMetH Tryz.prog Rows.fnExactMakeStableRow.laid w) ∧ sizedMet enc Tryz.prog Tryz.f3 (OpenSpec.ofChange Rows.fnExactMakeStableSpec) false w args)
      (Rows.fnExactMakeStableSpec.post enc Tryz.prog Tryz.f3 false true false false) := by
  refine returnsInHanded_of_change_and (C := Tryz.checked) (X := fun w _ => laidMetH Tryz.prog Rows.fnExactMakeStableRow.laid w) (fun _ _ _ hh h => h.of_heap hh) own started (by kernel_rfl) Tryz.func3
    (ChangeSpec.witness_shaped (enc := enc) (C := Tryz.checked) (os := os) (X := fun w _ => laidMetH Tryz.prog Rows.fnExactMakeStableRow.laid w) false (World.doorLaid Tryz.prog 400 os) #[.int .i64 0, .int .i64 0, .agg #[.int .i64 0, .int .i64 0, .slice none 0 0, .slice none 0 0], .slice none 0 0] 8 rfl (World.shaped_of_RefB (by kernel_rfl) (by kernel_rfl)) (by kernel_rfl) (by kernel_rfl) (by kernel_rfl) (door_met os _)) ?_
  intro W base args ds gs before hval0 hW _ _ hL _
  have hval : ∀ (j : Nat) t v, Tryz.f3.params[j]? = some t → args[j]? = some v → Value.okWide Tryz.prog W .any base t v := hval0
  have hW' := hW
  obtain ⟨p, q, hA0, hV0, rfl, hfz, hnd⟩ := hW
  have hA : DataW.TrodAll enc Tryz.prog W 0 (fun _ => true) true Tryz.f3.params.toList args.toList ds p := hA0
  have hV : DataW.TrodVars enc Tryz.prog W (fun _ => true) ["loop.example/g00292/impl.errTooLong", "loop.example/g00292/impl.errOutside", "loop.example/g00292/impl.errNoQuorum", "loop.example/g00292/impl.errNotRight", "loop.example/g00292/impl.errNoTable", "loop.example/g00292/impl.errNoProof", "loop.example/g00292/impl.errOtherRoot", "loop.example/g00292/impl.errNotSigned", "loop.example/g00292/impl.roundWords"] gs q := hV0
  rw [Tryz.params3] at hA hval
  obtain ⟨v0, vs0, d0, ds0, p0, q0, hargs, rfl, rfl, h0, r0⟩ := trodAll_cons hA
  obtain ⟨v1, vs1, d1, ds1, p1, q1, rfl, rfl, rfl, h1, r1⟩ := trodAll_cons r0
  obtain ⟨v2, vs2, d2, ds2, p2, q2, rfl, rfl, rfl, h2, r2⟩ := trodAll_cons r1
  obtain ⟨v3, vs3, d3, ds3, p3, q3, rfl, rfl, rfl, h3, r3⟩ := trodAll_cons r2
  obtain ⟨rfl, rfl, rfl⟩ := trodAll_nil r3
  obtain rfl : args = #[v0, v1, v2, v3] := by cases args; simp_all
  obtain ⟨e1, gs1, qv1, rfl, hV1⟩ := Hl.tailV hV
  obtain ⟨e2, gs2, qv2, rfl, hV2⟩ := Hl.tailV hV1
  obtain ⟨e3, gs3, qv3, rfl, hV3⟩ := Hl.tailV hV2
  obtain ⟨e4, gs4, qv4, rfl, hV4⟩ := Hl.tailV hV3
  obtain ⟨e5, gs5, qv5, rfl, hV5⟩ := Hl.tailV hV4
  obtain ⟨e6, gs6, qv6, rfl, hV6⟩ := Hl.tailV hV5
  obtain ⟨e7, gs7, qv7, rfl, hV7⟩ := Hl.tailV hV6
  obtain ⟨e8, gs8, qv8, rfl, hV8⟩ := Hl.tailV hV7
  obtain ⟨_, _, _, _, dv, _, rfl, _⟩ := trodVars_one hV8
  have k00 := h0
  have lt0 : ∀ x ∈ p0, x.block < W.heap.size := by obtain ⟨m, hm⟩ := k00; exact DataW.trod_lt m _ _ _ hm
  obtain ⟨i0, rfl, rfl, rfl, z0⟩ := open_int Tryz.underlying3 (hval 0 3 v0 rfl rfl) h0
  have k10 := h1
  have lt1 : ∀ x ∈ p1, x.block < W.heap.size := by obtain ⟨m, hm⟩ := k10; exact DataW.trod_lt m _ _ _ hm
  obtain ⟨i1, rfl, rfl, rfl, z1⟩ := open_int Tryz.underlying3 (hval 1 3 v1 rfl rfl) h1
  have k20 := h2
  have lt2 : ∀ x ∈ p2, x.block < W.heap.size := by obtain ⟨m, hm⟩ := k20; exact DataW.trod_lt m _ _ _ hm
  obtain ⟨t2, vl2, vs2, rfl, wl2, ws2, y2, z2, m2⟩ := Op.open_table (hval 2 25 v2 rfl rfl) h2
  have k30 := h3
  have lt3 : ∀ x ∈ p3, x.block < W.heap.size := by obtain ⟨m, hm⟩ := k30; exact DataW.trod_lt m _ _ _ hm
  obtain ⟨xs3, w3⟩ := Op.open_ints (hval 3 26 v3 rfl rfl) h3 (fun _ => rfl)
  clear hA0 hval0 hV0
  obtain ⟨hT, A, hSe, hVa⟩ := Hl.tab_of hL
  have hread := Hl.readV enc hVa (sp := fun _ => true) hV8
  obtain ⟨eg, eq⟩ := hV.unique hread
  refine (walk i0 z0 i1 z1 t2 vl2 vs2 W wl2 ws2 y2 z2 m2 v3 xs3 w3 A hSe hT.1 hT.2).mono fun e W' ⟨he, bel⟩ => ?_
  subst he
  exact ⟨_, rfl, _, _, _, [], _, q, hW', trodAll_mk1 (shut_bool Tryz.underlying4 _), (trodAll_cons_mk (Below.trod laidOut (by kernel_rfl) (of_decide_eq_true (by kernel_rfl)) k00 bel lt0) (trodAll_cons_mk (Below.trod laidOut (by kernel_rfl) (of_decide_eq_true (by kernel_rfl)) k10 bel lt1) (trodAll_cons_mk (Below.trod laidOut (by kernel_rfl) (of_decide_eq_true (by kernel_rfl)) k20 bel lt2) (trodAll_cons_mk (Below.trod laidOut (by kernel_rfl) (of_decide_eq_true (by kernel_rfl)) k30 bel lt3) trodAll_mk0)))), (by rw [eg, eq]; exact Hl.readV enc (hVa.below bel) (Below.trodVars laidOut bel rowed hV8)), bel.frame _, fun h => by cases h⟩

theorem said : Rows.FnExactMakeStableSaid :=
  OpenClaim.holds_of_wide 3 Tryz.f3 rfl rfl rfl rfl rfl rfl rfl ⟨rfl, rfl, rfl, rfl, rfl⟩ rfl rfl rfl rfl rfl (by kernel_rfl) Tryz.func3 (by kernel_rfl)
    (of_decide_eq_true (by kernel_rfl)) (by unfold Func.isWrapper; first | (rw [if_pos (by decide +kernel)]; kernel_rfl) | (rw [if_neg (by decide +kernel)]; exact ⟨rfl, rfl⟩))
    (fun os started H enc _ => lifted os started H enc)

/-- No parameter wants a stand-in; the program's own looks are off. -/
theorem plain (f : FuncId) (fn : Func) (hf : Tryz.pinned.checked.prog.funcNamed "loop.example/g00292/laws.FnExactMakeStable" = some f) (hfn : Tryz.pinned.checked.prog.funcs[f]? = some fn) :
    true = Tryz.pinned.checked.prog.looks [] ∧ ∀ (j : Nat) t, fn.params[j]? = some t → Tryz.pinned.checked.prog.wantsStandIn t = false := by
  obtain rfl : f = 3 := Option.some.inj ((show Tryz.prog.funcNamed "loop.example/g00292/laws.FnExactMakeStable" = some 3 by kernel_rfl).symm.trans hf) |>.symm
  obtain rfl : fn = Tryz.f3 := (Option.some.inj (Tryz.func3.symm.trans hfn)).symm
  refine ⟨by kernel_rfl, fun j t ht => ?_⟩
  rw [Tryz.params3] at ht
  have hm := Array.mem_of_getElem? ht
  have hl : t ∈ [3, 3, 25, 26] := by simpa using hm
  have hall : ∀ x ∈ [3, 3, 25, 26], Tryz.prog.wantsStandIn x = false := by
    intro x hx
    simp only [List.mem_cons, List.not_mem_nil, or_false] at hx
    rcases hx with rfl | rfl | rfl | rfl <;> kernel_rfl
  exact hall t hl
end Go.Proofs.YtnebohdlndiejaaGreatDoor.fnExactMakeStable
namespace Go.Proofs.YtnebohdlndiejaaGreatDoor
/-- THE STATEMENT: the card. -/
theorem fnExactMakeStable_holds : Rows.FnExactMakeStableCardSaid :=
  Claim7.holds_tied_plain_at .later [] _ _ _ _ fnExactMakeStable.said (fun _ h => by cases h) (by kernel_rfl) (fun _ h => by cases h) fnExactMakeStable_row_tie rfl ⟨rfl, rfl⟩ (by kernel_rfl) rfl fnExactMakeStable.plain (by kernel_rfl)
end Go.Proofs.YtnebohdlndiejaaGreatDoor
