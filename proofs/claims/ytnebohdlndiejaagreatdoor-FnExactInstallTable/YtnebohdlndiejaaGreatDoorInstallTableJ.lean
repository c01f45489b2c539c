/-
  impl.InstallTable answers at every argument just what the specification's InstallTable answers; it writes into no argument, and its answer owns its memory.
  Conditions: none beyond the given row's own; the package variable that it reads starts as the program's text lays it (the card ties it).
-/
import Derived.Test.YtnebohdlndiejaaGreatDoorJInstallTable16
import Derived.Test.YtnebohdlndiejaaGreatDoorJInstallTable18
import Derived.Test.YtnebohdlndiejaaGreatDoorHn
import Derived.Test.YtnebohdlndiejaaGreatDoorOt
import Derived.WalkKit
namespace Go.Proofs.YtnebohdlndiejaaGreatDoor.fnExactInstallTable
open Go.ChangeShapes Go.WideShapes Go.ChangeAt Go.RowKit
open Go.ChangeMaps (open_string shut_string)
open Go.Proofs.YtnebohdlndiejaaGreatDoor.Hl (own laidOut rowed door_met)

open Go.Proofs.YtnebohdlndiejaaGreatDoor.Sl Go.Proofs.YtnebohdlndiejaaGreatDoor.Er Go.Proofs.YtnebohdlndiejaaGreatDoor.Xt
open Go.Proofs.YtnebohdlndiejaaGreatDoor.Sh (KTab)
open Go.Proofs.YtnebohdlndiejaaGreatDoor.Hs (stV)
open Go.Proofs.YtnebohdlndiejaaGreatDoor.Gt (Vo)
open Go.Proofs.YtnebohdlndiejaaGreatDoor.Tx (RowT RowT.below)
open Go.Proofs.YtnebohdlndiejaaGreatDoor.Tb (Lk Sn Tab RowL RowS RowL.below RowS.below tabV)
open Go.Proofs.YtnebohdlndiejaaGreatDoor.Ur (Mem Mem.rows Mem.kept)
open Go.Proofs.YtnebohdlndiejaaGreatDoor.Lo (LkA)
open Go.Proofs.YtnebohdlndiejaaGreatDoor.Um (HeldT HeldT.below TabK off markTable_any heldTable_any)
open Go.Proofs.YtnebohdlndiejaaGreatDoor.Mw (Wr Mid)
open Go.Proofs.YtnebohdlndiejaaGreatDoor.Xl (itC itT ItP implInstallTable_any specInstallTable_any)
theorem andThen {w w1 w2 : World} {N : Nat} (b1 : Below N w w1) (hN : N ≤ w1.heap.size) (b2 : Below w1.heap.size w1 w2) : Below N w w2 := b1.trans (b2.mono hN)
set_option maxRecDepth 100000 in
set_option maxHeartbeats 6400000 in
/-- THE WALK: both functions answer alike; the copies are as they were; the answer owns its memory. -/
theorem walk (n : Int) {q0 : Prop} (_z0 : q0) {w : World} (sq sz : Int) (rt : ByteArray) (vr : Value) (rs : List Vo) (h : Gt.Row w vr rs) (hl : rs.length ≤ maxLen) (hm : ∀ x ∈ rs, Gt.Tz maxLen x) (hn : rt.size ≤ maxLen) (up : Value) (ps : List ByteArray) (hP : RowT w up ps) (hpl : ps.length ≤ maxLen) (hpz : ∀ t ∈ ps, t.size ≤ maxLen) (uq : Value) (qs : List ByteArray) (hQ : RowT w uq qs) (hql : qs.length ≤ maxLen) (hqz : ∀ t ∈ qs, t.size ≤ maxLen) (A : Nat → Addr) (hSe : Sen w A) (hK : KTab w) (hp : 10 < w.heap.size) :
    Calls Tryz.prog 4 #[.int .i64 n, stV sq sz rt vr, up, uq] w fun e w' => e = .returned (.bool true) ∧ Below w.heap.size w w' := by
  have HSK : Hid (∀ W, Below w.heap.size w W → Sen W A ∧ KTab W ∧ 10 < W.heap.size) := fun W hW => ⟨hSe.below hW, hK.below hW hp, Nat.lt_of_lt_of_le hp hW.size⟩
  obtain ⟨a, cap, rfl⟩ := Rg.RowG.slice h
  have HSZ : Hid (∀ W, Gt.Row W (.slice a rs.length cap) rs → Calls Tryz.prog 17 #[stV sq sz rt (.slice a rs.length cap), .int .i64 (1048576 : Nat)] W fun e w' => (∃ r : Int, e = .returned (.int .i64 r) ∧ (r = -1 ∨ ∃ q : Nat, r = q ∧ q ≤ 1048576 ∧ rt.size ≤ 1048576 ∧ rs.length ≤ 1048576 ∧ ∀ x ∈ rs, Gt.Tz 1048576 x)) ∧ Below W.heap.size W w') := fun W hW => Hs.sz_any sq sz rt 1048576 _ rs W hW hm hl hn (Nat.le_refl _)
  have HSP1 : Hid (∀ W l, RowT W up ps → 0 ≤ l → l ≤ 1048576 → Calls Tryz.prog 18 #[up, .int .i64 l] W fun e w' => e = .returned (.int .i64 (Sv.lfT l ps)) ∧ W = w') := fun W l h1 h2 h3 => Sv.szStringS_any up ps l W h1 hpl hpz h2 h3
  have HSP2 : Hid (∀ W l, RowT W uq qs → 0 ≤ l → l ≤ 1048576 → Calls Tryz.prog 18 #[uq, .int .i64 l] W fun e w' => e = .returned (.int .i64 (Sv.lfT l qs)) ∧ W = w') := fun W l h1 h2 h3 => Sv.szStringS_any uq qs l W h1 hql hqz h2 h3
  have HA0 : Hid (∀ W, Below (w.alloc (.cells #[.int .i64 sq, .int .i64 sz, .string rt, .slice a rs.length cap] 48)).heap.size (w.alloc (.cells #[.int .i64 sq, .int .i64 sz, .string rt, .slice a rs.length cap] 48)) W → (W.cell? ⟨w.heap.size, 0, none⟩ = some (.int .i64 sq) ∧ W.cell? ⟨w.heap.size, 1, none⟩ = some (.int .i64 sz) ∧ W.cell? ⟨w.heap.size, 2, none⟩ = some (.string rt) ∧ W.cell? ⟨w.heap.size, 3, none⟩ = some (.slice a rs.length cap)) ∧ Gt.Row W (.slice a rs.length cap) rs ∧ RowT W up ps ∧ RowT W uq qs ∧ Below w.heap.size w W) := fun W hW => by
    have h0 := (hW.block w.heap.size (by simp)).trans (heap_alloc_new w _)
    have b := (Rg.bel_new w (.cells #[.int .i64 sq, .int .i64 sz, .string rt, .slice a rs.length cap] 48)).trans (hW.mono (by simp))
    exact ⟨⟨(Rg.blk_cell h0 0 rfl).1, (Rg.blk_cell h0 1 rfl).1, (Rg.blk_cell h0 2 rfl).1, (Rg.blk_cell h0 3 rfl).1⟩, h.below b, hP.below b, hQ.below b, b⟩
  clear h hm hl hn hP hpl hpz hQ hql hqz hSe hK hp
  unfold stV at HSZ ⊢
  go_enter Tryz.func4, Tryz.ntmps4
  go_upto_region 1 with fail
  generalize w.alloc (.cells #[.int .i64 sq, .int .i64 sz, .string rt, .slice a rs.length cap] 48) = wb at HA0 ⊢
  obtain ⟨⟨c0, c1, c2, c3⟩, r0, _⟩ := HA0.out _ (Below.refl _ _)
  have R0 : Hid (Gt.Row wb (.slice a rs.length cap) rs) := r0
  clear r0
  go_wp2_with fail
  refine (HSZ.out _ R0.out).mono ?_
  rintro e w1 ⟨⟨rr, rfl, hr⟩, b1⟩
  have B1 : Hid (Below wb.heap.size wb w1) := b1
  clear b1 R0 c0 c1 c2 c3 HSZ
  have G1 : Hid (Below w.heap.size w w1) := (HA0.out _ B1.out).2.2.2.2
  rcases hr with rfl | ⟨q, rfl, hq1, _, hq3, _⟩
  · clear HA0
    go_wp2_with fail
    go_ret
    exact ⟨rfl, G1.out⟩
  have hq0 : ¬ (q : Int) < 0 := by omega
  have hL1 := hq3
  have R1 : Hid (RowT w1 up ps ∧ RowT w1 uq qs) := ⟨(HA0.out _ B1.out).2.2.1, (HA0.out _ B1.out).2.2.2.1⟩
  have HS1 := HSP1.out w1 q R1.out.1 (by omega) (by omega)
  obtain ⟨l1, hl1⟩ : ∃ l1, Sv.lfT (q : Int) ps = l1 := ⟨_, rfl⟩
  rw [hl1] at HS1
  have HL1 : Hid (¬ l1 < 0 → 0 ≤ l1 ∧ l1 ≤ 1048576 ∧ ps.length ≤ 1048576 ∧ ∀ t ∈ ps, t.size ≤ 1048576) := fun hh => by rw [← hl1] at hh ⊢; exact lf_ok (by omega) hh
  clear hl1 HSP1 hq1 hq3
  go_wp2_with fail
  refine HS1.mono ?_
  rintro e w2 ⟨rfl, rfl⟩
  clear HS1 hq0
  by_cases hl1 : l1 < 0
  · clear HA0
    go_wp2_with fail
    go_ret
    exact ⟨rfl, G1.out⟩
  obtain ⟨z1, z2, hL2, _⟩ := HL1.out (by omega)
  have HS2 := HSP2.out w1 l1 R1.out.2 z1 z2
  obtain ⟨l2, hl2⟩ : ∃ l2, Sv.lfT l1 qs = l2 := ⟨_, rfl⟩
  rw [hl2] at HS2
  have HL2 : Hid (¬ l2 < 0 → qs.length ≤ 1048576 ∧ ∀ t ∈ qs, t.size ≤ 1048576) := fun hh => by rw [← hl2] at hh; exact (lf_ok z2 hh).2.2
  clear hl2 HSP2 z1 z2 R1 HL1
  go_wp2_with fail
  refine HS2.mono ?_
  rintro e w2 ⟨rfl, rfl⟩
  clear HS2 hl1
  by_cases hl2 : l2 < 0
  · clear HA0
    go_wp2_with fail
    go_ret
    exact ⟨rfl, G1.out⟩
  obtain ⟨hL3, hL4⟩ := HL2.out (by omega)
  have HLL : Hid (rs.length ≤ 1048576 ∧ ps.length ≤ 1048576 ∧ qs.length ≤ 1048576 ∧ ∀ t ∈ qs, t.size ≤ 1048576) := ⟨hL1, hL2, hL3, hL4⟩
  have GZ0 := it_small n sq sz rt rs ps qs
  have HSPC : Hid (∀ W vr' up' uq', Gt.Row W vr' rs → RowT W up' ps → RowT W uq' qs → Calls Tryz.prog 19 #[.int .i64 n, .agg #[.int .i64 sq, .int .i64 sz, .string rt, vr'], up', uq'] W fun e w' => ∃ u2 u3 ms, e = .returned (.tuple #[.agg #[.int .i64 (itT n sq sz rt rs ps qs).tm, .int .i64 (itT n sq sz rt rs ps qs).nx, u2, u3], .int .i64 (itC n sq sz rt rs ps qs)]) ∧ (ms.map (·.1) = (itT n sq sz rt rs ps qs).ls ∧ Mem w' W.heap.size u2 u3 ms (itT n sq sz rt rs ps qs).ss) ∧ Below W.heap.size W w') := fun W vr' up' uq' h1 h2 h3 => specInstallTable_any n sq sz rt vr' rs up' uq' ps qs W h1 HLL.out.1 h2 HLL.out.2.1 h3 HLL.out.2.2.1 HLL.out.2.2.2
  have HIMC : Hid (∀ W vr' up' uq', Below w.heap.size w W → Gt.Row W vr' rs → RowT W up' ps → RowT W uq' qs → Calls Tryz.prog 22 #[.int .i64 n, .agg #[.int .i64 sq, .int .i64 sz, .string rt, vr'], up', uq'] W fun e w' => ∃ u2 u3 ms, e = .returned (.tuple #[.agg #[.int .i64 (itT n sq sz rt rs ps qs).tm, .int .i64 (itT n sq sz rt rs ps qs).nx, u2, u3], .int .i64 (itC n sq sz rt rs ps qs)]) ∧ (ms.map (·.1) = (itT n sq sz rt rs ps qs).ls ∧ Mem w' W.heap.size u2 u3 ms (itT n sq sz rt rs ps qs).ss) ∧ Below W.heap.size W w') := fun W vr' up' uq' hb h1 h2 h3 => implInstallTable_any n sq sz rt vr' rs up' uq' ps qs W A h1 HLL.out.1 h2 HLL.out.2.1 h3 HLL.out.2.2.1 HLL.out.2.2.2 (HSK.out _ hb).1 (HSK.out _ hb).2.1 (HSK.out _ hb).2.2
  unfold tabV at HSPC HIMC
  generalize itC n sq sz rt rs ps qs = c at HSPC HIMC
  obtain ⟨⟨tm, nx, ls, ss⟩, HT⟩ : ∃ t, Hid (itT n sq sz rt rs ps qs = t) := ⟨_, rfl⟩
  rw [HT.out] at HSPC HIMC GZ0
  dsimp only at HSPC HIMC GZ0
  clear HT hL1 hL2 hL3 hL4 HL2 HSK
  have GZ : Hid (∀ _ : Unit, ls.length ≤ 4 ∧ ss.length ≤ 6 ∧ ∀ x ∈ ls, x.ws.length ≤ 4) := fun _ => GZ0
  clear GZ0
  have hcc : (c != c) = false := by simp
  have HEQ : Hid (∀ (W : World) (vl vs ul us : Value), RowL W vl ls → RowS W vs ss → RowL W ul ls → RowS W us ss → Calls Tryz.prog 11 #[.agg #[.int .i64 tm, .int .i64 nx, vl, vs], .agg #[.int .i64 tm, .int .i64 nx, ul, us]] W fun e w' => e = .returned (.bool true) ∧ Below W.heap.size W w') := fun W vl vs ul us h1 h2 h3 h4 =>
    Tw.eqTable_same tm nx vl vs ul us ls ss W h1 h2 h3 h4 (by have := (GZ.out ()).1; omega) (by have := (GZ.out ()).2.1; omega) (fun x hx => by have := (GZ.out ()).2.2 x hx; omega)
  have HTO : Hid (∀ W, Gt.Row W (.slice a rs.length cap) rs → Calls Tryz.prog 20 #[.agg #[.int .i64 sq, .int .i64 sz, .string rt, .slice a rs.length cap]] W fun e w' => ∃ g, e = .returned (.agg #[.int .i64 sq, .int .i64 sz, .string rt, .slice (some ⟨g, 0, none⟩) rs.length rs.length]) ∧ W.heap.size ≤ g ∧ Wr w' g (rs.length * 2) ∧ Gt.Row w' (.slice (some ⟨g, 0, none⟩) rs.length rs.length) rs ∧ Below W.heap.size W w') := fun W hW => (Hs.to_any sq sz rt _ rs W hW HLL.out.1).mono fun e w' ⟨g, h1, h2, h3, h4, h5, h6⟩ => ⟨g, h1, h2, h6, Gt.toS_row h3 h4, h5⟩
  have HTP : Hid (∀ W, RowT W up ps → Calls Tryz.prog 21 #[up] W fun e w' => ∃ g, e = .returned (.slice (some ⟨g, 0, none⟩) ps.length ps.length) ∧ W.heap.size ≤ g ∧ Wr w' g ps.length ∧ RowT w' (.slice (some ⟨g, 0, none⟩) ps.length ps.length) ps ∧ Below W.heap.size W w') := fun W hW => toStrW_any up ps W hW HLL.out.2.1
  have HTQ : Hid (∀ W, RowT W uq qs → Calls Tryz.prog 21 #[uq] W fun e w' => ∃ g, e = .returned (.slice (some ⟨g, 0, none⟩) qs.length qs.length) ∧ W.heap.size ≤ g ∧ Wr w' g qs.length ∧ RowT w' (.slice (some ⟨g, 0, none⟩) qs.length qs.length) qs ∧ Below W.heap.size W w') := fun W hW => toStrW_any uq qs W hW HLL.out.2.2.1
  have HES : Hid (∀ W v v', Gt.Row W v rs → Gt.Row W v' rs → Calls Tryz.prog 10 #[.agg #[.int .i64 sq, .int .i64 sz, .string rt, v], .agg #[.int .i64 sq, .int .i64 sz, .string rt, v']] W fun e w' => e = .returned (.bool true) ∧ Below W.heap.size W w') := fun W v v' h1 h2 => Hs.eq_same sq sz rt v v' rs W h1 h2 HLL.out.1
  have HEP : Hid (∀ W v v', RowT W v ps → RowT W v' ps → Calls Tryz.prog 23 #[v, v'] W fun e w' => e = .returned (.bool true) ∧ Below W.heap.size W w') := fun W v v' h1 h2 => Mk.eqStringS_same v v' ps W h1 h2 HLL.out.2.1
  have HEQS : Hid (∀ W v v', RowT W v qs → RowT W v' qs → Calls Tryz.prog 23 #[v, v'] W fun e w' => e = .returned (.bool true) ∧ Below W.heap.size W w') := fun W v v' h1 h2 => Mk.eqStringS_same v v' qs W h1 h2 HLL.out.2.2.1
  have HMST : Hid (∀ W g, Wr W g (rs.length * 2) → Calls Tryz.prog 15 #[.agg #[.int .i64 sq, .int .i64 sz, .string rt, .slice (some ⟨g, 0, none⟩) rs.length rs.length], .int .i64 1] W fun e w' => (∃ r : Nat, e = .returned (.int .i64 (r : Int)) ∧ 0 < r ∧ r ≤ 5000000) ∧ Mid g (g + 1) W w') := fun W g h => mark_bnd sq sz rt g rs.length W h HLL.out.1
  have HMP : Hid (∀ W g (k : Nat), 0 < k → k ≤ 5000000 → Wr W g ps.length → Calls Tryz.prog 24 #[.slice (some ⟨g, 0, none⟩) ps.length ps.length, .int .i64 k] W fun e w' => (∃ r : Nat, e = .returned (.int .i64 (r : Int)) ∧ 0 < r ∧ r ≤ 10000000) ∧ Mid g (g + 1) W w') := fun W g k h0 h1 h2 => (markStrW_any g ps.length k W h2 h0 (by omega) HLL.out.2.1).mono fun e w' ⟨h3, h4⟩ => ⟨⟨_, h3, by omega, by have := HLL.out.2.1; omega⟩, h4⟩
  have HMQ : Hid (∀ W g (k : Nat), 0 < k → k ≤ 10000000 → Wr W g qs.length → Calls Tryz.prog 24 #[.slice (some ⟨g, 0, none⟩) qs.length qs.length, .int .i64 k] W fun e w' => (∃ r : Nat, e = .returned (.int .i64 (r : Int))) ∧ Mid g (g + 1) W w') := fun W g k h0 h1 h2 => (markStrW_any g qs.length k W h2 h0 (by omega) HLL.out.2.2.1).mono fun e w' ⟨h3, h4⟩ => ⟨⟨_, h3⟩, h4⟩
  obtain ⟨⟨c0, c1, c2, c3⟩, r1, r2, r3, _⟩ := HA0.out _ B1.out
  have R1 : Hid (Gt.Row w1 (.slice a rs.length cap) rs ∧ RowT w1 up ps ∧ RowT w1 uq qs) := ⟨r1, r2, r3⟩
  clear r1 r2 r3 G1
  go_wp2_with fail
  refine (HTO.out _ R1.out.1).mono ?_
  rintro e w2 ⟨ga, rfl, _, _, t2, b2⟩
  have T2 : Hid (Gt.Row w2 (.slice (some ⟨ga, 0, none⟩) rs.length rs.length) rs ∧ RowT w2 up ps ∧ RowT w2 uq qs ∧ Below wb.heap.size wb w2) := ⟨t2, R1.out.2.1.below b2, R1.out.2.2.below b2, andThen B1.out B1.out.size b2⟩
  clear t2 b2 R1 B1 c0 c1 c2 c3 hl2
  go_wp2_with fail
  refine (HTP.out _ T2.out.2.1).mono ?_
  rintro e w3 ⟨gb, rfl, _, _, t3, b3⟩
  have T3 : Hid (Gt.Row w3 (.slice (some ⟨ga, 0, none⟩) rs.length rs.length) rs ∧ RowT w3 (.slice (some ⟨gb, 0, none⟩) ps.length ps.length) ps ∧ RowT w3 uq qs ∧ Below wb.heap.size wb w3) := ⟨T2.out.1.below b3, t3, T2.out.2.2.1.below b3, andThen T2.out.2.2.2 T2.out.2.2.2.size b3⟩
  clear t3 b3 T2
  go_wp2_with fail
  refine (HTQ.out _ T3.out.2.2.1).mono ?_
  rintro e w4 ⟨gc, rfl, _, _, t4, b4⟩
  have T4 : Hid (Gt.Row w4 (.slice (some ⟨ga, 0, none⟩) rs.length rs.length) rs ∧ RowT w4 (.slice (some ⟨gb, 0, none⟩) ps.length ps.length) ps ∧ RowT w4 (.slice (some ⟨gc, 0, none⟩) qs.length qs.length) qs ∧ Below wb.heap.size wb w4) := ⟨T3.out.1.below b4, T3.out.2.1.below b4, t4, andThen T3.out.2.2.2 T3.out.2.2.2.size b4⟩
  clear t4 b4 T3
  go_wp2_with fail
  refine (HSPC.out _ _ _ _ T4.out.1 T4.out.2.1 T4.out.2.2.1).mono ?_
  rintro e w5 ⟨u2, u3, m0, rfl, ⟨hm0, me0⟩, b5⟩
  obtain ⟨r2, s2⟩ := Mem.rows me0
  rw [hm0] at r2
  obtain ⟨la, lc, rfl⟩ := Tb.RowG.slice r2
  obtain ⟨sa, sc, rfl⟩ := Tb.RowG.slice s2
  obtain ⟨ln, HLN⟩ : ∃ n, Hid (ls.length = n) := ⟨_, rfl⟩
  obtain ⟨sn, HSN⟩ : ∃ n, Hid (ss.length = n) := ⟨_, rfl⟩
  rw [HLN.out] at r2
  rw [HSN.out] at s2
  rw [HLN.out, HSN.out]
  have T5 : Hid (RowL w5 (.slice la ln lc) ls ∧ RowS w5 (.slice sa sn sc) ss ∧ Below wb.heap.size wb w5) := ⟨r2, s2, andThen T4.out.2.2.2 T4.out.2.2.2.size b5⟩
  clear r2 s2 hm0 me0 b5 T4 HSPC
  have H7 : Hid (∀ W, Below (w5.alloc (.cells #[.int .i64 tm, .int .i64 nx, .slice la ln lc, .slice sa sn sc] 36)).heap.size (w5.alloc (.cells #[.int .i64 tm, .int .i64 nx, .slice la ln lc, .slice sa sn sc] 36)) W → (W.cell? ⟨w.heap.size, 0, none⟩ = some (.int .i64 sq) ∧ W.cell? ⟨w.heap.size, 1, none⟩ = some (.int .i64 sz) ∧ W.cell? ⟨w.heap.size, 2, none⟩ = some (.string rt) ∧ W.cell? ⟨w.heap.size, 3, none⟩ = some (.slice a rs.length cap)) ∧ Gt.Row W (.slice a rs.length cap) rs ∧ (RowT W up ps ∧ RowT W uq qs) ∧ Zc W w5.heap.size tm nx (.slice la ln lc) (.slice sa sn sc) ls ss ∧ Below w.heap.size w W) := fun W hW => by
    have h0 := (hW.block w5.heap.size (by simp)).trans (heap_alloc_new w5 _)
    have b := (Rg.bel_new w5 (.cells #[.int .i64 tm, .int .i64 nx, .slice la ln lc, .slice sa sn sc] 36)).trans (hW.mono (by simp))
    obtain ⟨k1, k2, k3, k4, k5⟩ := HA0.out _ (andThen T5.out.2.2 T5.out.2.2.size b)
    exact ⟨k1, k2, ⟨k3, k4⟩, ⟨h0, T5.out.1.below b, T5.out.2.1.below b⟩, k5⟩
  clear HA0 T5
  go_upto_region 12 with fail
  generalize w5.alloc (.cells #[.int .i64 tm, .int .i64 nx, .slice la ln lc, .slice sa sn sc] 36) = w6 at H7 ⊢
  generalize w5.heap.size = b10 at H7 ⊢
  obtain ⟨⟨c0, c1, c2, c3⟩, r1, _⟩ := H7.out _ (Below.refl _ _)
  have R6 : Hid (Gt.Row w6 (.slice a rs.length cap) rs) := r1
  clear r1
  go_wp2_with fail
  refine (HTO.out _ R6.out).mono ?_
  rintro e w7 ⟨g1, rfl, hg1, t1, t2, b7⟩
  have T7 : Hid (Wr w7 g1 (rs.length * 2) ∧ Gt.Row w7 (.slice (some ⟨g1, 0, none⟩) rs.length rs.length) rs ∧ Below w6.heap.size w6 w7 ∧ w6.heap.size ≤ g1 ∧ g1 < w7.heap.size) := ⟨t1, t2, b7, hg1, t1.lt⟩
  clear hg1 t1 t2 b7 R6 c0 c1 c2 c3
  have H8 : Hid (∀ W, Below (w7.alloc (.cells #[.int .i64 sq, .int .i64 sz, .string rt, .slice (some ⟨g1, 0, none⟩) rs.length rs.length] 30)).heap.size (w7.alloc (.cells #[.int .i64 sq, .int .i64 sz, .string rt, .slice (some ⟨g1, 0, none⟩) rs.length rs.length] 30)) W → (W.cell? ⟨w7.heap.size, 0, none⟩ = some (.int .i64 sq) ∧ W.cell? ⟨w7.heap.size, 1, none⟩ = some (.int .i64 sz) ∧ W.cell? ⟨w7.heap.size, 2, none⟩ = some (.string rt) ∧ W.cell? ⟨w7.heap.size, 3, none⟩ = some (.slice (some ⟨g1, 0, none⟩) rs.length rs.length)) ∧ Gt.Row W (.slice (some ⟨g1, 0, none⟩) rs.length rs.length) rs ∧ Wr W g1 (rs.length * 2) ∧ Below w6.heap.size w6 W) := fun W hW => by
    have h0 := (hW.block w7.heap.size (by simp)).trans (heap_alloc_new w7 _)
    have b := (Rg.bel_new w7 (.cells #[.int .i64 sq, .int .i64 sz, .string rt, .slice (some ⟨g1, 0, none⟩) rs.length rs.length] 30)).trans (hW.mono (by simp))
    exact ⟨⟨(Rg.blk_cell h0 0 rfl).1, (Rg.blk_cell h0 1 rfl).1, (Rg.blk_cell h0 2 rfl).1, (Rg.blk_cell h0 3 rfl).1⟩, T7.out.2.1.below b, T7.out.1.below b, andThen T7.out.2.2.1 T7.out.2.2.1.size b⟩
  have HG1 : Hid (w6.heap.size ≤ g1 ∧ g1 < (w7.alloc (.cells #[.int .i64 sq, .int .i64 sz, .string rt, .slice (some ⟨g1, 0, none⟩) rs.length rs.length] 30)).heap.size) := ⟨T7.out.2.2.2.1, by have := T7.out.2.2.2.2; rw [Rg.size_new]; omega⟩
  clear T7
  go_upto_region 13 with fail
  generalize w7.alloc (.cells #[.int .i64 sq, .int .i64 sz, .string rt, .slice (some ⟨g1, 0, none⟩) rs.length rs.length] 30) = w8 at H8 HG1 ⊢
  generalize w7.heap.size = b12 at H8 ⊢
  have R8 : Hid (RowT w8 up ps) := (H7.out _ (H8.out _ (Below.refl _ _)).2.2.2).2.2.1.1
  go_wp2_with fail
  refine (HTP.out _ R8.out).mono ?_
  rintro e w9 ⟨g2, rfl, hg2, t1, t2, b9⟩
  have T9 : Hid (Wr w9 g2 ps.length ∧ RowT w9 (.slice (some ⟨g2, 0, none⟩) ps.length ps.length) ps ∧ Below w8.heap.size w8 w9 ∧ w8.heap.size ≤ g2 ∧ g2 < w9.heap.size) := ⟨t1, t2, b9, hg2, t1.lt⟩
  clear hg2 t1 t2 b9 R8
  have R9 : Hid (RowT w9 uq qs) := (H7.out _ (H8.out _ T9.out.2.2.1).2.2.2).2.2.1.2
  go_wp2_with fail
  refine (HTQ.out _ R9.out).mono ?_
  rintro e w10 ⟨g3, rfl, hg3, t1, t2, b10'⟩
  have T10 : Hid (Wr w10 g3 qs.length ∧ RowT w10 (.slice (some ⟨g3, 0, none⟩) qs.length qs.length) qs ∧ Below w9.heap.size w9 w10 ∧ w9.heap.size ≤ g3 ∧ g3 < w10.heap.size) := ⟨t1, t2, b10', hg3, t1.lt⟩
  clear hg3 t1 t2 b10' R9
  have H10 : Hid (∀ W, Below w10.heap.size w10 W → (Wr W g2 ps.length ∧ RowT W (.slice (some ⟨g2, 0, none⟩) ps.length ps.length) ps ∧ Wr W g3 qs.length ∧ RowT W (.slice (some ⟨g3, 0, none⟩) qs.length qs.length) qs) ∧ Below w8.heap.size w8 W) := fun W hW => by
    have k9 := andThen T10.out.2.2.1 T10.out.2.2.1.size hW
    exact ⟨⟨T9.out.1.below k9, T9.out.2.1.below k9, T10.out.1.below hW, T10.out.2.1.below hW⟩, andThen T9.out.2.2.1 T9.out.2.2.1.size k9⟩
  have HGG : Hid ((w6.heap.size ≤ g1 ∧ g1 < g2 ∧ g2 < g3 ∧ g3 < w10.heap.size) ∧ w6.heap.size ≤ w10.heap.size) := by
    have h1 := HG1.out; have h2 := T9.out.2.2.2; have h3 := T10.out.2.2.2; have h4 := (H8.out _ (Below.refl _ _)).2.2.2.size; have h5 := T9.out.2.2.1.size; have h6 := T10.out.2.2.1.size
    exact ⟨⟨h1.1, by omega, by omega, h3.2⟩, by omega⟩
  clear T9 T10 HG1
  obtain ⟨⟨_, k2, _, k4⟩, k8⟩ := H10.out _ (Below.refl _ _)
  obtain ⟨⟨x0, x1, x2, x3⟩, x4, _, x6⟩ := H8.out _ k8
  have R10 : Hid (Gt.Row w10 (.slice (some ⟨g1, 0, none⟩) rs.length rs.length) rs ∧ RowT w10 (.slice (some ⟨g2, 0, none⟩) ps.length ps.length) ps ∧ RowT w10 (.slice (some ⟨g3, 0, none⟩) qs.length qs.length) qs ∧ Below w.heap.size w w10) := ⟨x4, k2, k4, (H7.out _ x6).2.2.2.2⟩
  clear k2 k4 k8 x4 x6
  go_wp2_with fail
  refine (HIMC.out _ _ _ _ R10.out.2.2.2 R10.out.1 R10.out.2.1 R10.out.2.2.1).mono ?_
  rintro e w11 ⟨v2, v3, ms, rfl, ⟨hm, me⟩, b11⟩
  obtain ⟨ya, yc, rfl⟩ := me.ol.slice
  obtain ⟨ea, ec, rfl⟩ := me.os.slice
  have hml2 : ms.length = ls.length := by have := congrArg List.length hm; rw [List.length_map] at this; exact this
  rw [hml2, HLN.out, HSN.out] at me
  rw [hml2, HLN.out, HSN.out]
  have HMM : Hid (ms.map (·.1) = ls) := hm
  have T11 : Hid (Mem w11 w10.heap.size (.slice ya ln yc) (.slice ea sn ec) ms ss ∧ Below w10.heap.size w10 w11) := ⟨me, b11⟩
  clear hm me b11 hml2 R10 x0 x1 x2 x3
  have H12 : Hid (∀ W, Below (w11.alloc (.cells #[.int .i64 tm, .int .i64 nx, .slice ya ln yc, .slice ea sn ec] 36)).heap.size (w11.alloc (.cells #[.int .i64 tm, .int .i64 nx, .slice ya ln yc, .slice ea sn ec] 36)) W → Zg W w11.heap.size w10.heap.size tm nx (.slice ya ln yc) (.slice ea sn ec) ms ss ∧ Below w10.heap.size w10 W) := fun W hW => by
    have h0 := (hW.block w11.heap.size (by simp)).trans (heap_alloc_new w11 _)
    have b := (Rg.bel_new w11 (.cells #[.int .i64 tm, .int .i64 nx, .slice ya ln yc, .slice ea sn ec] 36)).trans (hW.mono (by simp))
    exact ⟨⟨h0, T11.out.1.below b⟩, andThen T11.out.2 T11.out.2.size b⟩
  have HB15 : Hid (w10.heap.size ≤ w11.heap.size) := T11.out.2.size
  clear T11
  go_upto_region 16 with fail
  generalize w11.alloc (.cells #[.int .i64 tm, .int .i64 nx, .slice ya ln yc, .slice ea sn ec] 36) = w12 at H12 ⊢
  generalize w11.heap.size = b15 at H12 HB15 ⊢
  have HALL : Hid (∀ W, Below w12.heap.size w12 W → Zg W b15 w10.heap.size tm nx (.slice ya ln yc) (.slice ea sn ec) ms ss ∧ Below w10.heap.size w10 W ∧ Below w8.heap.size w8 W ∧ Below w6.heap.size w6 W) := fun W hW => by
    obtain ⟨k1, k2⟩ := H12.out _ hW
    have k3 := (H10.out _ k2).2
    exact ⟨k1, k2, k3, (H8.out _ k3).2.2.2⟩
  have HGR : Hid (∀ W, Zg W b15 w10.heap.size tm nx (.slice ya ln yc) (.slice ea sn ec) ms ss → RowL W (.slice ya ln yc) ls ∧ RowS W (.slice ea sn ec) ss) := fun W h => by
    obtain ⟨h1, h2⟩ := Mem.rows h.m
    rw [HMM.out] at h1
    exact ⟨h1, h2⟩
  obtain ⟨z12, _, _, k6⟩ := HALL.out _ (Below.refl _ _)
  obtain ⟨_, _, _, zc12, _⟩ := H7.out _ k6
  obtain ⟨y0, y1, y2, y3⟩ := z12.c
  obtain ⟨d0, d1, d2, d3⟩ := zc12.c
  have R12 : Hid ((RowL w12 (.slice ya ln yc) ls ∧ RowS w12 (.slice ea sn ec) ss) ∧ RowL w12 (.slice la ln lc) ls ∧ RowS w12 (.slice sa sn sc) ss) := ⟨HGR.out _ z12, zc12.l, zc12.s⟩
  clear z12 zc12 k6
  go_wp2_with fail
  refine (HEQ.out w12 _ _ _ _ R12.out.1.1 R12.out.1.2 R12.out.2.1 R12.out.2.2).mono ?_
  rintro e w13 ⟨rfl, b13⟩
  have B13 : Hid (Below w12.heap.size w12 w13) := b13
  clear b13 R12 y0 y1 y2 y3 d0 d1 d2 d3
  go_upto_region 18 with fail
  obtain ⟨_, _, k8, k6⟩ := HALL.out _ B13.out
  obtain ⟨⟨c0, c1, c2, c3⟩, r1, _⟩ := H7.out _ k6
  obtain ⟨⟨x0, x1, x2, x3⟩, _⟩ := H8.out _ k8
  have HTO5 : Hid (Calls Tryz.prog 20 #[.agg #[.int .i64 sq, .int .i64 sz, .string rt, .slice a rs.length cap]] w13.drew fun e w' => ∃ g, e = .returned (.agg #[.int .i64 sq, .int .i64 sz, .string rt, .slice (some ⟨g, 0, none⟩) rs.length rs.length]) ∧ (Gt.Row w' (.slice (some ⟨g, 0, none⟩) rs.length rs.length) rs ∧ Gt.Row w' (.slice (some ⟨g1, 0, none⟩) rs.length rs.length) rs) ∧ (w'.cell? ⟨b12, 0, none⟩ = some (.int .i64 sq) ∧ w'.cell? ⟨b12, 1, none⟩ = some (.int .i64 sz) ∧ w'.cell? ⟨b12, 2, none⟩ = some (.string rt) ∧ w'.cell? ⟨b12, 3, none⟩ = some (.slice (some ⟨g1, 0, none⟩) rs.length rs.length)) ∧ Below w12.heap.size w12 w') := (HTO.out w13.drew (r1.below (Below.refl _ _).drew)).mono fun e w' ⟨g, h1, _, _, h4, h5⟩ => by
    have b' : Below w12.heap.size w12 w' := andThen B13.out B13.out.size (((Below.refl w13.heap.size w13).drew).trans h5)
    obtain ⟨_, _, j8, _⟩ := HALL.out _ b'
    obtain ⟨j1, j2, _⟩ := H8.out _ j8
    exact ⟨g, h1, ⟨h4, j2⟩, j1, b'⟩
  clear r1 k8 k6
  go_region_law (first
    | (go_simp; go_at_call 20; (with_reducible refine HTO5.out.mono ?_); rintro e w14 ⟨g14, rfl, ⟨k1, k2⟩, ⟨f0, f1, f2, f3⟩, b14'⟩; try go_simp)
    | (go_simp; go_at_call 10; (with_reducible refine (HES.out _ _ _ k2 k1).mono ?_); rintro e w15 ⟨rfl, b15'⟩; try go_simp))
  all_goals
    have B15 : Hid (Below w12.heap.size w12 w15) := andThen b14' b14'.size b15'
    clear b15' b14' k1 k2 f0 f1 f2 f3 x0 x1 x2 x3 c0 c1 c2 c3 HTO5 B13
    obtain ⟨_, k10, _, k6⟩ := HALL.out _ B15.out
    have R15 : Hid (RowT w15 up ps ∧ RowT w15 uq qs ∧ RowT w15 (.slice (some ⟨g2, 0, none⟩) ps.length ps.length) ps) := ⟨(H7.out _ k6).2.2.1.1, (H7.out _ k6).2.2.1.2, (H10.out _ k10).1.2.1⟩
    clear k10 k6
    go_wp2_with fail
    refine (HTP.out _ R15.out.1).mono ?_
    rintro e w16 ⟨ge, rfl, _, _, t9, b16⟩
    have T16 : Hid (RowT w16 (.slice (some ⟨ge, 0, none⟩) ps.length ps.length) ps ∧ RowT w16 (.slice (some ⟨g2, 0, none⟩) ps.length ps.length) ps ∧ Below w12.heap.size w12 w16) := ⟨t9, R15.out.2.2.below b16, andThen B15.out B15.out.size b16⟩
    clear t9 b16 R15 B15
    go_wp2_with fail
    refine (HEP.out _ _ _ T16.out.2.1 T16.out.1).mono ?_
    rintro e w17 ⟨rfl, b17⟩
    have B17 : Hid (Below w12.heap.size w12 w17) := andThen T16.out.2.2 T16.out.2.2.size b17
    clear b17 T16
    obtain ⟨_, k10, _, k6⟩ := HALL.out _ B17.out
    have R17 : Hid (RowT w17 uq qs ∧ RowT w17 (.slice (some ⟨g3, 0, none⟩) qs.length qs.length) qs) := ⟨(H7.out _ k6).2.2.1.2, (H10.out _ k10).1.2.2.2⟩
    clear k10 k6
    go_wp2_with fail
    refine (HTQ.out _ R17.out.1).mono ?_
    rintro e w18 ⟨gf, rfl, _, _, t9, b18⟩
    have T18 : Hid (RowT w18 (.slice (some ⟨gf, 0, none⟩) qs.length qs.length) qs ∧ RowT w18 (.slice (some ⟨g3, 0, none⟩) qs.length qs.length) qs ∧ Below w12.heap.size w12 w18) := ⟨t9, R17.out.2.below b18, andThen B17.out B17.out.size b18⟩
    clear t9 b18 R17 B17
    go_wp2_with fail
    refine (HEQS.out _ _ _ T18.out.2.1 T18.out.1).mono ?_
    rintro e w19 ⟨rfl, b19⟩
    have B19 : Hid (Below w12.heap.size w12 w19) := andThen T18.out.2.2 T18.out.2.2.size b19
    clear b19 T18
    obtain ⟨z19, k10, k8, k6⟩ := HALL.out _ B19.out
    obtain ⟨⟨x0, x1, x2, x3⟩, _, xw, _⟩ := H8.out _ k8
    have XW : Hid (Wr w19 g1 (rs.length * 2) ∧ Wr w19 g2 ps.length ∧ Wr w19 g3 qs.length ∧ Below w6.heap.size w6 w19 ∧ Zg w19 b15 w10.heap.size tm nx (.slice ya ln yc) (.slice ea sn ec) ms ss) := ⟨xw, (H10.out _ k10).1.1, (H10.out _ k10).1.2.2.1, k6, z19⟩
    clear xw k10 k8 k6 z19
    go_wp2_with fail
    refine (HMST.out _ _ XW.out.1).mono ?_
    rintro e w20 ⟨⟨k1, rfl, hk1, hk2⟩, m20⟩
    have HM20 : Hid ((0 < k1 ∧ k1 ≤ 5000000) ∧ Mid g1 (g1 + 1) w19 w20) := ⟨⟨hk1, hk2⟩, m20⟩
    have W20 : Hid (Wr w20 g2 ps.length ∧ Wr w20 g3 qs.length) := ⟨wr_of (m20.block g2 XW.out.2.1.lt (.inr (by have := HGG.out; omega))) XW.out.2.1, wr_of (m20.block g3 XW.out.2.2.1.lt (.inr (by have := HGG.out; omega))) XW.out.2.2.1⟩
    clear hk1 hk2 m20 x0 x1 x2 x3
    go_wp2_with fail
    refine (HMP.out _ g2 k1 HM20.out.1.1 HM20.out.1.2 W20.out.1).mono ?_
    rintro e w21 ⟨⟨k2, rfl, hk1, hk2⟩, m21⟩
    have HM21 : Hid ((0 < k2 ∧ k2 ≤ 10000000) ∧ Mid g2 (g2 + 1) w20 w21) := ⟨⟨hk1, hk2⟩, m21⟩
    have W21 : Hid (Wr w21 g3 qs.length) := wr_of (m21.block g3 W20.out.2.lt (.inr (by have := HGG.out; omega))) W20.out.2
    clear hk1 hk2 m21 W20
    go_wp2_with fail
    refine (HMQ.out _ g3 k2 HM21.out.1.1 HM21.out.1.2 W21.out).mono ?_
    rintro e w22 ⟨⟨k3, rfl⟩, m22⟩
    have hk3 : ¬ ((k3 : Nat) : Int) < 0 := by omega
    generalize ((k3 : Nat) : Int) = kk at hk3 ⊢
    have HOB : Hid (∀ k, w10.heap.size ≤ k → k < w19.heap.size → w22.heap[k]? = w19.heap[k]?) := fun k h1 h2 => ((m22.block k (by have := HM20.out.2.size; have := HM21.out.2.size; omega) (.inr (by have := HGG.out; omega))).trans (HM21.out.2.block k (by have := HM20.out.2.size; omega) (.inr (by have := HGG.out; omega)))).trans (HM20.out.2.block k h2 (.inr (by have := HGG.out; omega)))
    have I22 : Hid (Zg w22 b15 w10.heap.size tm nx (.slice ya ln yc) (.slice ea sn ec) ms ss ∧ Below w6.heap.size w6 w22) := ⟨⟨(HOB.out b15 HB15.out (Array.getElem?_eq_some_iff.1 XW.out.2.2.2.2.k).1).trans XW.out.2.2.2.2.k, XW.out.2.2.2.2.m.kept fun g hg hl => HOB.out g hg hl⟩, mid_low (mid_low (mid_low XW.out.2.2.2.1 (Nat.le_refl _) HM20.out.2 (by have := HGG.out; omega)) (Nat.le_refl _) HM21.out.2 (by have := HGG.out; omega)) (Nat.le_refl _) m22 (by have := HGG.out; omega)⟩
    clear m22 HM20 HM21 W21 HOB XW B19
    obtain ⟨y0, y1, y2, y3⟩ := I22.out.1.c
    obtain ⟨_, _, _, zc22, _⟩ := H7.out _ I22.out.2
    obtain ⟨d0, d1, d2, d3⟩ := zc22.c
    have R22 : Hid ((RowL w22 (.slice ya ln yc) ls ∧ RowS w22 (.slice ea sn ec) ss) ∧ RowL w22 (.slice la ln lc) ls ∧ RowS w22 (.slice sa sn sc) ss) := ⟨HGR.out _ I22.out.1, zc22.l, zc22.s⟩
    clear zc22
    go_wp2_with fail
    refine (HEQ.out w22 _ _ _ _ R22.out.1.1 R22.out.1.2 R22.out.2.1 R22.out.2.2).mono ?_
    rintro e w23 ⟨rfl, b23⟩
    have I23 : Hid (Zg w23 b15 w10.heap.size tm nx (.slice ya ln yc) (.slice ea sn ec) ms ss ∧ Below w6.heap.size w6 w23) := ⟨I22.out.1.below b23, andThen I22.out.2 I22.out.2.size b23⟩
    clear b23 I22 R22 y0 y1 y2 y3 d0 d1 d2 d3
    have HW4 : Hid (ms.length ≤ 100 ∧ (∀ m ∈ ms, m.1.ws.length ≤ 1000) ∧ ss.length ≤ 100) := by
      have g := GZ.out ()
      have e := congrArg List.length HMM.out
      rw [List.length_map] at e
      refine ⟨by omega, fun m hm => ?_, by omega⟩
      have := g.2.2 m.1 (by rw [← HMM.out]; exact List.mem_map_of_mem hm)
      omega
    obtain ⟨o, HOO⟩ : ∃ o, Hid (off ms 1 ms.length + ss.length * 6 = o) := ⟨_, rfl⟩
    have HMK : Hid (Calls Tryz.prog 13 #[.agg #[.int .i64 tm, .int .i64 nx, .slice ya ln yc, .slice ea sn ec], .int .i64 1] w23 fun e w' => e = .returned (.int .i64 (o : Int)) ∧ HeldT w' (.slice ya ln yc) (.slice ea sn ec) ms ss 1 ∧ Below w10.heap.size w23 w' ∧ TabK w23 w') := by
      have := markTable_any tm nx _ _ ms ss w10.heap.size w23 I23.out.1.m (Nat.le_trans HB15.out (Nat.le_of_lt (Array.getElem?_eq_some_iff.1 I23.out.1.k).1)) HW4.out.1 HW4.out.2.1 HW4.out.2.2
      rw [HOO.out] at this
      exact this
    have HHD : Hid (∀ W, HeldT W (.slice ya ln yc) (.slice ea sn ec) ms ss 1 → Calls Tryz.prog 25 #[.agg #[.int .i64 tm, .int .i64 nx, .slice ya ln yc, .slice ea sn ec], .int .i64 1] W fun e w' => e = .returned (.int .i64 (o : Int)) ∧ Below W.heap.size W w') := fun W h => by
      have := heldTable_any tm nx _ _ ms ss W h HW4.out.1 HW4.out.2.1 HW4.out.2.2
      rw [HOO.out] at this
      exact this
    have hno : ¬ ((o : Int) < 0) := by omega
    have hoo : ((o : Int) != (o : Int)) = false := by simp
    obtain ⟨y0, y1, y2, y3⟩ := I23.out.1.c
    go_wp2_with fail
    refine HMK.out.mono ?_
    rintro e w24 ⟨rfl, h24, b24, k24⟩
    have J24 : Hid (HeldT w24 (.slice ya ln yc) (.slice ea sn ec) ms ss 1 ∧ Below w6.heap.size w6 w24 ∧ w24.heap[b15]? = some (.cells #[.int .i64 tm, .int .i64 nx, .slice ya ln yc, .slice ea sn ec] 36)) := ⟨h24, I23.out.2.trans (b24.mono HGG.out.2), k24 _ _ I23.out.1.k⟩
    clear h24 b24 k24 I23 y0 y1 y2 y3 HMK
    obtain ⟨y0, y1, y2, y3⟩ := (show (w24.cell? ⟨b15, 0, none⟩ = some (.int .i64 tm) ∧ w24.cell? ⟨b15, 1, none⟩ = some (.int .i64 nx) ∧ w24.cell? ⟨b15, 2, none⟩ = some (.slice ya ln yc) ∧ w24.cell? ⟨b15, 3, none⟩ = some (.slice ea sn ec)) from ⟨(Rg.blk_cell J24.out.2.2 0 rfl).1, (Rg.blk_cell J24.out.2.2 1 rfl).1, (Rg.blk_cell J24.out.2.2 2 rfl).1, (Rg.blk_cell J24.out.2.2 3 rfl).1⟩)
    go_wp2_with fail
    refine (HHD.out _ J24.out.1).mono ?_
    rintro e w25 ⟨rfl, b25⟩
    have J25 : Hid (HeldT w25 (.slice ya ln yc) (.slice ea sn ec) ms ss 1 ∧ Below w6.heap.size w6 w25 ∧ w25.heap[b15]? = some (.cells #[.int .i64 tm, .int .i64 nx, .slice ya ln yc, .slice ea sn ec] 36)) := ⟨J24.out.1.below b25, andThen J24.out.2.1 J24.out.2.1.size b25, (b25.block _ (Array.getElem?_eq_some_iff.1 J24.out.2.2).1).trans J24.out.2.2⟩
    clear b25 J24 y0 y1 y2 y3
    obtain ⟨⟨c0, c1, c2, c3⟩, r1, ⟨r2, r3⟩, _⟩ := H7.out _ J25.out.2.1
    have R25 : Hid (Gt.Row w25 (.slice a rs.length cap) rs ∧ RowT w25 up ps ∧ RowT w25 uq qs) := ⟨r1, r2, r3⟩
    clear r1 r2 r3
    go_wp2_with fail
    refine (HTO.out _ R25.out.1).mono ?_
    rintro e w26 ⟨gi, rfl, _, _, t1, b26⟩
    have T26 : Hid (Gt.Row w26 (.slice (some ⟨gi, 0, none⟩) rs.length rs.length) rs ∧ RowT w26 up ps ∧ RowT w26 uq qs ∧ Below w25.heap.size w25 w26) := ⟨t1, R25.out.2.1.below b26, R25.out.2.2.below b26, b26⟩
    clear t1 b26 R25 c0 c1 c2 c3
    go_wp2_with fail
    refine (HTP.out _ T26.out.2.1).mono ?_
    rintro e w27 ⟨gj, rfl, _, _, t1, b27⟩
    have T27 : Hid (Gt.Row w27 (.slice (some ⟨gi, 0, none⟩) rs.length rs.length) rs ∧ RowT w27 (.slice (some ⟨gj, 0, none⟩) ps.length ps.length) ps ∧ RowT w27 uq qs ∧ Below w25.heap.size w25 w27) := ⟨T26.out.1.below b27, t1, T26.out.2.2.1.below b27, andThen T26.out.2.2.2 T26.out.2.2.2.size b27⟩
    clear t1 b27 T26
    go_wp2_with fail
    refine (HTQ.out _ T27.out.2.2.1).mono ?_
    rintro e w28 ⟨gk, rfl, _, _, t1, b28⟩
    have T28 : Hid (Gt.Row w28 (.slice (some ⟨gi, 0, none⟩) rs.length rs.length) rs ∧ RowT w28 (.slice (some ⟨gj, 0, none⟩) ps.length ps.length) ps ∧ RowT w28 (.slice (some ⟨gk, 0, none⟩) qs.length qs.length) qs ∧ Below w25.heap.size w25 w28) := ⟨T27.out.1.below b28, T27.out.2.1.below b28, t1, andThen T27.out.2.2.2 T27.out.2.2.2.size b28⟩
    clear t1 b28 T27
    have G28 : Hid (Below w.heap.size w w28) := (H7.out _ (andThen J25.out.2.1 J25.out.2.1.size T28.out.2.2.2)).2.2.2.2
    go_wp2_with fail
    refine (HIMC.out _ _ _ _ G28.out T28.out.1 T28.out.2.1 T28.out.2.2.1).mono ?_
    rintro e w29 ⟨p2, p3, mp, rfl, ⟨hm, me⟩, b29⟩
    obtain ⟨r2, s2⟩ := Mem.rows me
    rw [hm] at r2
    obtain ⟨pa, pc, rfl⟩ := Tb.RowG.slice r2
    obtain ⟨qa, qc, rfl⟩ := Tb.RowG.slice s2
    rw [HLN.out] at r2
    rw [HSN.out] at s2
    rw [HLN.out, HSN.out]
    have T29 : Hid (RowL w29 (.slice pa ln pc) ls ∧ RowS w29 (.slice qa sn qc) ss ∧ Below w25.heap.size w25 w29) := ⟨r2, s2, andThen T28.out.2.2.2 T28.out.2.2.2.size b29⟩
    clear r2 s2 hm me b29 T28 G28
    have H30 : Hid (∀ W, Below (w29.alloc (.cells #[.int .i64 tm, .int .i64 nx, .slice pa ln pc, .slice qa sn qc] 36)).heap.size (w29.alloc (.cells #[.int .i64 tm, .int .i64 nx, .slice pa ln pc, .slice qa sn qc] 36)) W → Zc W w29.heap.size tm nx (.slice pa ln pc) (.slice qa sn qc) ls ss ∧ Below w25.heap.size w25 W) := fun W hW => by
      have h0 := (hW.block w29.heap.size (by simp)).trans (heap_alloc_new w29 _)
      have b := (Rg.bel_new w29 (.cells #[.int .i64 tm, .int .i64 nx, .slice pa ln pc, .slice qa sn qc] 36)).trans (hW.mono (by simp))
      exact ⟨⟨h0, T29.out.1.below b, T29.out.2.1.below b⟩, andThen T29.out.2.2 T29.out.2.2.size b⟩
    clear T29
    go_upto_region 39 with fail
    generalize w29.alloc (.cells #[.int .i64 tm, .int .i64 nx, .slice pa ln pc, .slice qa sn qc] 36) = w30 at H30 ⊢
    generalize w29.heap.size = b20 at H30 ⊢
    obtain ⟨z30, k25⟩ := H30.out _ (Below.refl _ _)
    obtain ⟨_, _, _, zc30, _⟩ := H7.out _ (andThen J25.out.2.1 J25.out.2.1.size k25)
    obtain ⟨y0, y1, y2, y3⟩ := z30.c
    obtain ⟨d0, d1, d2, d3⟩ := zc30.c
    have R30 : Hid ((RowL w30 (.slice pa ln pc) ls ∧ RowS w30 (.slice qa sn qc) ss) ∧ RowL w30 (.slice la ln lc) ls ∧ RowS w30 (.slice sa sn sc) ss) := ⟨⟨z30.l, z30.s⟩, zc30.l, zc30.s⟩
    clear z30 zc30 k25
    go_wp2_with fail
    refine (HEQ.out w30 _ _ _ _ R30.out.1.1 R30.out.1.2 R30.out.2.1 R30.out.2.2).mono ?_
    rintro e w31 ⟨rfl, b31⟩
    have k31 := (H30.out _ b31).2
    have T31 : Hid (HeldT w31 (.slice ya ln yc) (.slice ea sn ec) ms ss 1 ∧ w31.heap[b15]? = some (.cells #[.int .i64 tm, .int .i64 nx, .slice ya ln yc, .slice ea sn ec] 36) ∧ Below w.heap.size w w31) := ⟨J25.out.1.below k31, (k31.block _ (Array.getElem?_eq_some_iff.1 J25.out.2.2).1).trans J25.out.2.2, (H7.out _ (andThen J25.out.2.1 J25.out.2.1.size k31)).2.2.2.2⟩
    clear k31 b31 R30 J25 y0 y1 y2 y3 d0 d1 d2 d3
    obtain ⟨y0, y1, y2, y3⟩ := (show (w31.cell? ⟨b15, 0, none⟩ = some (.int .i64 tm) ∧ w31.cell? ⟨b15, 1, none⟩ = some (.int .i64 nx) ∧ w31.cell? ⟨b15, 2, none⟩ = some (.slice ya ln yc) ∧ w31.cell? ⟨b15, 3, none⟩ = some (.slice ea sn ec)) from ⟨(Rg.blk_cell T31.out.2.1 0 rfl).1, (Rg.blk_cell T31.out.2.1 1 rfl).1, (Rg.blk_cell T31.out.2.1 2 rfl).1, (Rg.blk_cell T31.out.2.1 3 rfl).1⟩)
    go_wp2_with fail
    refine (HHD.out _ T31.out.1).mono ?_
    rintro e w32 ⟨rfl, b32⟩
    have G32 : Hid (Below w.heap.size w w32) := andThen T31.out.2.2 T31.out.2.2.size b32
    clear b32 T31 y0 y1 y2 y3
    go_wp2_with fail
    go_ret
    exact ⟨rfl, G32.out⟩

set_option maxRecDepth 100000 in
theorem lifted (os : Os) (started : os.Started) (H : Type) (enc : TypeId × Value → H) :
    ReturnsInHanded {} Tryz.checked os 4 .any (fun w args => (Rows.fnExactInstallTableSpec.pre enc Tryz.prog Tryz.f4 [] false w args ∧ laidMetH Tryz.prog Rows.fnExactInstallTableRow.laid w) ∧ sizedMet enc Tryz.prog Tryz.f4 (OpenSpec.ofChange Rows.fnExactInstallTableSpec) false w args)
      (Rows.fnExactInstallTableSpec.post enc Tryz.prog Tryz.f4 false true false false) := by
  refine returnsInHanded_of_change_and (C := Tryz.checked) (X := fun w _ => laidMetH Tryz.prog Rows.fnExactInstallTableRow.laid w) (fun _ _ _ hh h => h.of_heap hh) own started (by kernel_rfl) Tryz.func4
    (ChangeSpec.witness_shaped (enc := enc) (C := Tryz.checked) (os := os) (X := fun w _ => laidMetH Tryz.prog Rows.fnExactInstallTableRow.laid w) false (World.doorLaid Tryz.prog 400 os) #[.int .i64 0, .agg #[.int .i64 0, .int .i64 0, .string ByteArray.empty, .slice none 0 0], .slice none 0 0, .slice none 0 0] 8 rfl (World.shaped_of_RefB (by kernel_rfl) (by kernel_rfl)) (by kernel_rfl) (by kernel_rfl) (by kernel_rfl) (door_met os _)) ?_
  intro W base args ds gs before hval0 hW _ _ hL _
  have hval : ∀ (j : Nat) t v, Tryz.f4.params[j]? = some t → args[j]? = some v → Value.okWide Tryz.prog W .any base t v := hval0
  have hW' := hW
  obtain ⟨p, q, hA0, hV0, rfl, hfz, hnd⟩ := hW
  have hA : DataW.TrodAll enc Tryz.prog W 0 (fun _ => true) true Tryz.f4.params.toList args.toList ds p := hA0
  have hV : DataW.TrodVars enc Tryz.prog W (fun _ => true) ["loop.example/g00292/impl.errTooLong", "loop.example/g00292/impl.errNotSigned", "loop.example/g00292/impl.errNotRight", "loop.example/g00292/impl.errNoTable", "loop.example/g00292/impl.errOutside", "loop.example/g00292/impl.errNoProof", "loop.example/g00292/impl.errOtherRoot", "loop.example/g00292/impl.errNoQuorum", "loop.example/g00292/impl.roundWords"] gs q := hV0
  rw [Tryz.params4] at hA hval
  obtain ⟨v0, vs0, d0, ds0, p0, q0, hargs, rfl, rfl, h0, r0⟩ := trodAll_cons hA
  obtain ⟨v1, vs1, d1, ds1, p1, q1, rfl, rfl, rfl, h1, r1⟩ := trodAll_cons r0
  obtain ⟨v2, vs2, d2, ds2, p2, q2, rfl, rfl, rfl, h2, r2⟩ := trodAll_cons r1
  obtain ⟨v3, vs3, d3, ds3, p3, q3, rfl, rfl, rfl, h3, r3⟩ := trodAll_cons r2
  obtain ⟨rfl, rfl, rfl⟩ := trodAll_nil r3
  obtain rfl : args = #[v0, v1, v2, v3] := by cases args; simp_all
  obtain ⟨e1, gs1, qv1, rfl, hV1⟩ := Hl.tailV hV
  obtain ⟨e2, gs2, qv2, rfl, hV2⟩ := Hl.tailV hV1
  obtain ⟨e3, gs3, qv3, rfl, hV3⟩ := Hl.tailV hV2
  obtain ⟨e4, gs4, qv4, rfl, hV4⟩ := Hl.tailV hV3
  obtain ⟨e5, gs5, qv5, rfl, hV5⟩ := Hl.tailV hV4
  obtain ⟨e6, gs6, qv6, rfl, hV6⟩ := Hl.tailV hV5
  obtain ⟨e7, gs7, qv7, rfl, hV7⟩ := Hl.tailV hV6
  obtain ⟨e8, gs8, qv8, rfl, hV8⟩ := Hl.tailV hV7
  obtain ⟨_, _, _, _, dv, _, rfl, _⟩ := trodVars_one hV8
  have k00 := h0
  have lt0 : ∀ x ∈ p0, x.block < W.heap.size := by obtain ⟨m, hm⟩ := k00; exact DataW.trod_lt m _ _ _ hm
  obtain ⟨i0, rfl, rfl, rfl, z0⟩ := open_int Tryz.underlying3 (hval 0 3 v0 rfl rfl) h0
  have k10 := h1
  have lt1 : ∀ x ∈ p1, x.block < W.heap.size := by obtain ⟨m, hm⟩ := k10; exact DataW.trod_lt m _ _ _ hm
  obtain ⟨sq1, sz1, rt1, vr1, rs1, rfl, w1, l1, m1, n1⟩ := Op.open_stable (hval 1 48 v1 rfl rfl) h1
  have k20 := h2
  have lt2 : ∀ x ∈ p2, x.block < W.heap.size := by obtain ⟨m, hm⟩ := k20; exact DataW.trod_lt m _ _ _ hm
  obtain ⟨ts2, w2, tl2, tz2⟩ := Op.open_strs (hval 2 49 v2 rfl rfl) h2 (fun _ => rfl)
  have k30 := h3
  have lt3 : ∀ x ∈ p3, x.block < W.heap.size := by obtain ⟨m, hm⟩ := k30; exact DataW.trod_lt m _ _ _ hm
  obtain ⟨ts3, w3, tl3, tz3⟩ := Op.open_strs (hval 3 49 v3 rfl rfl) h3 (fun _ => rfl)
  clear hA0 hval0 hV0
  obtain ⟨hT, A, hSe, hVa⟩ := Hl.tab_of hL
  have hread := Hl.readV enc hVa (sp := fun _ => true) hV8
  obtain ⟨eg, eq⟩ := hV.unique hread
  refine (walk i0 z0 sq1 sz1 rt1 vr1 rs1 w1 l1 m1 n1 v2 ts2 w2 tl2 tz2 v3 ts3 w3 tl3 tz3 A hSe hT.1 hT.2).mono fun e W' ⟨he, bel⟩ => ?_
  subst he
  exact ⟨_, rfl, _, _, _, [], _, q, hW', trodAll_mk1 (shut_bool Tryz.underlying4 _), (trodAll_cons_mk (Below.trod laidOut (by kernel_rfl) (of_decide_eq_true (by kernel_rfl)) k00 bel lt0) (trodAll_cons_mk (Below.trod laidOut (by kernel_rfl) (of_decide_eq_true (by kernel_rfl)) k10 bel lt1) (trodAll_cons_mk (Below.trod laidOut (by kernel_rfl) (of_decide_eq_true (by kernel_rfl)) k20 bel lt2) (trodAll_cons_mk (Below.trod laidOut (by kernel_rfl) (of_decide_eq_true (by kernel_rfl)) k30 bel lt3) trodAll_mk0)))), (by rw [eg, eq]; exact Hl.readV enc (hVa.below bel) (Below.trodVars laidOut bel rowed hV8)), bel.frame _, fun h => by cases h⟩

theorem said : Rows.FnExactInstallTableSaid :=
  OpenClaim.holds_of_wide 4 Tryz.f4 rfl rfl rfl rfl rfl rfl rfl ⟨rfl, rfl, rfl, rfl, rfl⟩ rfl rfl rfl rfl rfl (by kernel_rfl) Tryz.func4 (by kernel_rfl)
    (of_decide_eq_true (by kernel_rfl)) (by unfold Func.isWrapper; first | (rw [if_pos (by decide +kernel)]; kernel_rfl) | (rw [if_neg (by decide +kernel)]; exact ⟨rfl, rfl⟩))
    (fun os started H enc _ => lifted os started H enc)

/-- No parameter wants a stand-in; the program's own looks are off. -/
theorem plain (f : FuncId) (fn : Func) (hf : Tryz.pinned.checked.prog.funcNamed "loop.example/g00292/laws.FnExactInstallTable" = some f) (hfn : Tryz.pinned.checked.prog.funcs[f]? = some fn) :
    true = Tryz.pinned.checked.prog.looks [] ∧ ∀ (j : Nat) t, fn.params[j]? = some t → Tryz.pinned.checked.prog.wantsStandIn t = false := by
  obtain rfl : f = 4 := Option.some.inj ((show Tryz.prog.funcNamed "loop.example/g00292/laws.FnExactInstallTable" = some 4 by kernel_rfl).symm.trans hf) |>.symm
  obtain rfl : fn = Tryz.f4 := (Option.some.inj (Tryz.func4.symm.trans hfn)).symm
  refine ⟨by kernel_rfl, fun j t ht => ?_⟩
  rw [Tryz.params4] at ht
  have hm := Array.mem_of_getElem? ht
  have hl : t ∈ [3, 48, 49, 49] := by simpa using hm
  have hall : ∀ x ∈ [3, 48, 49, 49], Tryz.prog.wantsStandIn x = false := by
    intro x hx
    simp only [List.mem_cons, List.not_mem_nil, or_false] at hx
    rcases hx with rfl | rfl | rfl | rfl <;> kernel_rfl
  exact hall t hl
end Go.Proofs.YtnebohdlndiejaaGreatDoor.fnExactInstallTable
namespace Go.Proofs.YtnebohdlndiejaaGreatDoor
/-- THE STATEMENT: the card. -/
theorem fnExactInstallTable_holds : Rows.FnExactInstallTableCardSaid :=
  Claim7.holds_tied_plain_at .later [] _ _ _ _ fnExactInstallTable.said (fun _ h => by cases h) (by kernel_rfl) (fun _ h => by cases h) fnExactInstallTable_row_tie rfl ⟨rfl, rfl⟩ (by kernel_rfl) rfl fnExactInstallTable.plain (by kernel_rfl)
end Go.Proofs.YtnebohdlndiejaaGreatDoor
