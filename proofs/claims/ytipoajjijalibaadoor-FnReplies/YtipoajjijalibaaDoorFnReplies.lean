/-
  An answer that is counted was given by a node that does not lie, whatever f others say.
  Conditions: none beyond the given row's own; the package variable that it reads starts as the program's text lays it (the card ties it).
-/
import Derived.Test.YtipoajjijalibaaDoorHashLaid
import Derived.Test.YtipoajjijalibaaDoorRyl
import Derived.Test.YtipoajjijalibaaDoorRyr
import Derived.Test.YtipoajjijalibaaDoorLa
import Derived.Test.YtipoajjijalibaaDoorSlRow
import Derived.Test.YtipoajjijalibaaDoorOb
import Derived.WalkKit
namespace Go.Proofs.YtipoajjijalibaaDoor.fnReplies
open Go.ChangeShapes Go.WideShapes Go.ChangeAt Go.RowKit
open Go.ChangeMaps (open_string shut_string)
open Go.Proofs.YtipoajjijalibaaDoor.Hl (own laidOut rowed door_met)

open Go.Proofs.YtipoajjijalibaaDoor.Gy (Re)
open Go.Proofs.YtipoajjijalibaaDoor.Ry (mkR mkC rokB rmO rmC implMakeReply_any implReplyMac_any implReplyOK_any)
open Go.Proofs.YtipoajjijalibaaDoor.Rys (specMakeReply_any)
open Go.Proofs.YtipoajjijalibaaDoor.Rk (An anV ccA ccC ccR cc_cases implCountReplies_any specCountReplies_any guardA neqA eqlA foA)
open Go.Proofs.YtipoajjijalibaaDoor.Rl11 Go.Proofs.YtipoajjijalibaaDoor.Rr11
open Go.Proofs.YtipoajjijalibaaDoor.Sh (KTab KTab.below)
open Go.Proofs.YtipoajjijalibaaDoor.Sl (RowB)
open Go.Proofs.YtipoajjijalibaaDoor.Tm (fCode fOut)
theorem then_ {B : Nat} {w w1 w2 : World} (b1 : Below B w w1) (hB : B ≤ w.heap.size) (b2 : Below w1.heap.size w1 w2) : Below B w w2 := b1.trans (b2.mono (Nat.le_trans hB b1.size))
/-- What the counts tell at the end. -/
theorem ends {n : Int} {f : Nat} {T U : An} {L : List Re} (hf : f ≤ 2) (hn : fCode n = 0) (hfo : (fOut n).toNat = f) (hT : okA T = true) (hU : okA U = true) (hL : Said n f T U L) (hl : L.length = 12) :
    ccC n 1 3 L = 19 ∧ (ccC n 1 2 L = 19 ∨ (ccC n 1 2 L = 0 ∧ ccA n 1 2 L = T)) := by
  refine ⟨?_, ?_⟩
  · rcases cc_cases n 1 3 L with ⟨h, _⟩ | ⟨_, h, _⟩ | ⟨_, _, h, _⟩ | ⟨_, _, _, h⟩
    · omega
    · rw [hn] at h; cases h
    · omega
    · rcases h with ⟨_, _, h⟩ | ⟨a, h, _⟩
      · exact h
      · rw [none3 hn hT hU hL] at h; cases h
  · rcases cc_cases n 1 2 L with ⟨h, _⟩ | ⟨_, h, _⟩ | ⟨_, _, h, _⟩ | ⟨_, _, _, h⟩
    · omega
    · rw [hn] at h; cases h
    · omega
    · rcases h with ⟨_, _, h⟩ | ⟨a, h, h2, h3⟩
      · exact .inl h
      · refine .inr ⟨h3, ?_⟩
        rw [h2]
        unfold ccR at h
        rw [hfo] at h
        exact truth hf hn hT hU hL h
theorem if_ok {k f : Nat} {T U : An} (hT : okA T = true) (hU : okA U = true) : okA (if k < f then U else T) = true := by split <;> assumption
set_option maxRecDepth 100000 in
set_option maxHeartbeats 6400000 in
/-- THE WALK. -/
theorem walk (v0 : Value) (xs0 : List Int) {w : World} (r0 : RowB w v0 xs0) (v1 : Value) (xs1 : List Int) (r1 : RowB w v1 xs1) (hK : KTab w) (hp : 0 < w.heap.size) :
    Calls Tryd.prog 3 #[v0, v1] w fun e w' => e = .returned (.bool true) ∧ Below w.heap.size w w' := by
  have HKT : Hid (∀ W, Below w.heap.size w W → KTab W ∧ 0 < W.heap.size) := fun W hW => ⟨hK.below hW hp, Nat.lt_of_lt_of_le hp hW.size⟩
  have HR : Hid (∀ W, Below w.heap.size w W → RowB W v0 xs0 ∧ RowB W v1 xs1) := fun W hW => ⟨r0.below hW, r1.below hW⟩
  obtain ⟨a0, cA, rfl, _, _⟩ := r0
  obtain ⟨a1, cB, rfl, _, _⟩ := r1
  clear hK hp
  by_cases hb0 : (1048576 : Int) < (xs0.length : Int)
  · go_enter Tryd.func3, Tryd.ntmps3
    go_wp2
    go_ret
    exact ⟨rfl, Below.refl _ _⟩
  by_cases hb1 : (1048576 : Int) < (xs1.length : Int)
  · go_enter Tryd.func3, Tryd.ntmps3
    go_wp2
    go_ret
    exact ⟨rfl, Below.refl _ _⟩
  have HL : Hid (∀ _ : Unit, xs0.length ≤ 1048576 ∧ xs1.length ≤ 1048576) := fun _ => ⟨by omega, by omega⟩
  obtain ⟨i0, hi0, hz0, hz1, hz2⟩ := info_parts infoR
  have hgA := guardA
  have hgR := guardR
  go_enter Tryd.func3, Tryd.ntmps3
  go_wp2_with fail
  refine (La.at_any _ xs1 0 2 _ (HR.out _ (Rg.bel_new w _)).2 (HL.out ()).2 (by decide) (by decide) (by decide)).mono ?_
  rintro e w1 ⟨r, rfl, hr, b1⟩
  obtain ⟨N, f, HNF, hcn⟩ : ∃ N f : Nat, Hid ((N = 4 ∧ f = 1) ∨ (N = 7 ∧ f = 2)) ∧ w1.cell? ⟨w.heap.size, r, none⟩ = some (.int .i64 (N : Int)) := by
    have h1 := (b1.block w.heap.size (by simp)).trans (heap_alloc_new w _)
    by_cases hr0 : r = 0
    · subst hr0; exact ⟨4, 1, .inl ⟨rfl, rfl⟩, (Rg.blk_cell h1 0 rfl).1⟩
    · obtain rfl : r = 1 := by omega
      exact ⟨7, 2, .inr ⟨rfl, rfl⟩, (Rg.blk_cell h1 1 rfl).1⟩
  have B1 : Hid (Below w.heap.size w w1) := (Rg.bel_new w _).trans (b1.mono (Rg.bel_new w _).size)
  have hrI : (r : Int) < 2 := by omega
  have hq1 : ((N : Int) - 1).tdiv 3 = (f : Int) := by rcases HNF.out with ⟨rfl, rfl⟩ | ⟨rfl, rfl⟩ <;> decide
  have hwf : wrap64 (f : Int) = (f : Int) := by rcases HNF.out with ⟨rfl, rfl⟩ | ⟨rfl, rfl⟩ <;> (first | rfl | (unfold wrap64; omega) | simp [wrap64])
  have hN7 : N ≤ 7 ∧ 4 ≤ N := by rcases HNF.out with ⟨rfl, rfl⟩ | ⟨rfl, rfl⟩ <;> decide
  have HN0 : Hid (fCode (N : Int) = 0 ∧ (fOut (N : Int)).toNat = f ∧ f ≤ 2) := by rcases HNF.out with ⟨rfl, rfl⟩ | ⟨rfl, rfl⟩ <;> exact ⟨by decide, by decide, by decide⟩
  clear b1
  go_upto_region 5 with fail
  rw [hwf]
  clear hcn hq1 hrI hwf
  go_wp2_with fail
  refine (AnswerOf_any _ xs0 w1 (HR.out _ B1.out).1 (HL.out ()).1).mono ?_
  rintro e w2 ⟨T, rfl, hT, b2⟩
  have HT : Hid (okA T = true) := hT
  have B2 : Hid (Below w.heap.size w (w2.alloc (.cells #[.int .i64 T.1, .int .i64 T.2.1, .int .i64 T.2.2.1, .int .i64 T.2.2.2] 26))) := (B1.out.trans (b2.mono B1.out.size)).trans ((Rg.bel_new w2 _).mono (B1.out.trans (b2.mono B1.out.size)).size)
  have X2 : Hid ((w2.alloc (.cells #[.int .i64 T.1, .int .i64 T.2.1, .int .i64 T.2.2.1, .int .i64 T.2.2.2] 26)).heap[w2.heap.size]? = some (.cells #[.int .i64 T.1, .int .i64 T.2.1, .int .i64 T.2.2.1, .int .i64 T.2.2.2] 26 (0, 0))) := heap_alloc_new w2 _
  clear b2 B1 hT
  unfold anV
  go_upto_region 6 with fail
  generalize w2.alloc (.cells #[.int .i64 T.1, .int .i64 T.2.1, .int .i64 T.2.2.1, .int .i64 T.2.2.2] 26) = w3 at B2 X2 ⊢
  generalize w2.heap.size = bT at X2 ⊢
  go_wp2_with fail
  refine (AnswerOf_any _ xs1 w3 (HR.out _ B2.out).2 (HL.out ()).2).mono ?_
  rintro e w4 ⟨U, rfl, hU, b4⟩
  have HU : Hid (okA U = true) := hU
  have B4 : Hid (Below w.heap.size w w4) := B2.out.trans (b4.mono B2.out.size)
  have X4 : Hid (w4.heap[bT]? = some (.cells #[.int .i64 T.1, .int .i64 T.2.1, .int .i64 T.2.2.1, .int .i64 T.2.2.2] 26 (0, 0))) := (b4.block _ (Array.getElem?_eq_some_iff.1 X2.out).1).trans X2.out
  have HX : Hid (∀ W, Below (w4.alloc (.cells #[.int .i64 U.1, .int .i64 U.2.1, .int .i64 U.2.2.1, .int .i64 U.2.2.2] 26)).heap.size (w4.alloc (.cells #[.int .i64 U.1, .int .i64 U.2.1, .int .i64 U.2.2.1, .int .i64 U.2.2.2] 26)) W → ((W.cell? ⟨bT, 0, none⟩ = some (.int .i64 T.1) ∧ W.cell? ⟨bT, 1, none⟩ = some (.int .i64 T.2.1) ∧ W.cell? ⟨bT, 2, none⟩ = some (.int .i64 T.2.2.1) ∧ W.cell? ⟨bT, 3, none⟩ = some (.int .i64 T.2.2.2)) ∧ (W.cell? ⟨w4.heap.size, 0, none⟩ = some (.int .i64 U.1) ∧ W.cell? ⟨w4.heap.size, 1, none⟩ = some (.int .i64 U.2.1) ∧ W.cell? ⟨w4.heap.size, 2, none⟩ = some (.int .i64 U.2.2.1) ∧ W.cell? ⟨w4.heap.size, 3, none⟩ = some (.int .i64 U.2.2.2))) ∧ Below w.heap.size w W) := fun W hW => by
    have b0 := (Rg.bel_new w4 (.cells #[.int .i64 U.1, .int .i64 U.2.1, .int .i64 U.2.2.1, .int .i64 U.2.2.2] 26)).trans (hW.mono (by simp))
    have h1 := (hW.block w4.heap.size (by simp)).trans (heap_alloc_new w4 _)
    have h2 := (b0.block _ (Array.getElem?_eq_some_iff.1 X4.out).1).trans X4.out
    exact ⟨⟨⟨(Rg.blk_cell h2 0 rfl).1, (Rg.blk_cell h2 1 rfl).1, (Rg.blk_cell h2 2 rfl).1, (Rg.blk_cell h2 3 rfl).1⟩, ⟨(Rg.blk_cell h1 0 rfl).1, (Rg.blk_cell h1 1 rfl).1, (Rg.blk_cell h1 2 rfl).1, (Rg.blk_cell h1 3 rfl).1⟩⟩, B4.out.trans (b0.mono B4.out.size)⟩
  clear b4 hU X2 B2
  unfold anV
  go_upto_region 7 with fail
  generalize w4.alloc (.cells #[.int .i64 U.1, .int .i64 U.2.1, .int .i64 U.2.2.1, .int .i64 U.2.2.2] 26) = w6 at HX ⊢
  generalize w4.heap.size = bU at HX ⊢
  clear X4 B4
  obtain ⟨B, HBB⟩ : ∃ B, Hid (w6.heap.size = B) := ⟨_, rfl⟩
  have O0 : Hid (OwnR (w6.alloc (.cells #[] 30)) B (.slice (some ⟨w6.heap.size, 0, none⟩) 0 0) [] ∧ Below B w6 (w6.alloc (.cells #[] 30))) := ⟨OwnR.made w6 B (Nat.le_of_eq HBB.out.symm), by rw [← HBB.out]; exact Rg.bel_new _ _⟩
  rw [HBB.out] at HX
  go_upto_region 8 with fail
  generalize w6.alloc (.cells #[] 30) = w7 at O0 ⊢
  generalize w6.heap.size = z7 at O0 ⊢
  go_wp2_with fail
  go_loopw [9, 10] (fun b i wr => ∃ m : Nat, m ≤ 12 ∧ i = .int .i64 m ∧ Hid (∃ L, L.length = m ∧ Said (N : Int) f T U L ∧ OwnR wr B b L ∧ Below B w6 wr)) (fun _ i _ => 12 - (intOf i).toNat)
  case atStart => exact ⟨0, by omega, rfl, ⟨[], rfl, said_nil _ _ _ _, O0.out.1, O0.out.2⟩⟩
  case round =>
    clear O0
    obtain ⟨m, hm, rfl, HM⟩ := hrel
    obtain ⟨vl, rfl⟩ : ∃ vl, vl = u9 := ⟨_, rfl⟩
    obtain ⟨L, hL, hS, hO, hB⟩ := HM.out
    have HS : Hid (L.length = m ∧ Said (N : Int) f T U L) := ⟨hL, hS⟩
    have HO : Hid (OwnR wr B vl L ∧ Below B w6 wr) := ⟨hO, hB⟩
    have hBs : Hid (B ≤ wr.heap.size) := by show _ ≤ _; rw [← HBB.out]; exact hB.size
    clear HM hL hS hO hB
    by_cases hlt : m < 12
    · have hltI : (m : Int) < 12 := by omega
      have HAT : Hid (Calls Tryd.prog 8 #[.slice a1 xs1.length cB, .int .i64 ((m : Int) + 1), .int .i64 (N : Int)] wr fun e w' => ∃ r : Nat, e = .returned (.int .i64 r) ∧ r < N ∧ Below wr.heap.size wr w') := by
        have h := La.at_any _ xs1 (m + 1) N wr (HR.out _ (HX.out _ HO.out.2).2).2 (HL.out ()).2 (by omega) (by omega) (by omega)
        rw [show ((m + 1 : Nat) : Int) = (m : Int) + 1 by omega] at h
        exact h
      go_wp2_with fail
      refine HAT.out.mono ?_
      rintro e wa ⟨k, rfl, hk, ba⟩
      have HOA : Hid (OwnR wa B vl L ∧ Below B w6 wa ∧ B ≤ wa.heap.size) := ⟨HO.out.1.below ba, HO.out.2.trans (ba.mono hBs.out), Nat.le_trans hBs.out ba.size⟩
      clear ba HAT
      obtain ⟨⟨⟨p0, p1, p2, p3⟩, p4, p5, p6, p7⟩, _⟩ := HX.out _ HOA.out.2.1
      have HBA : Hid ((wa.alloc (.cells #[.int .i64 T.1, .int .i64 T.2.1, .int .i64 T.2.2.1, .int .i64 T.2.2.2] 26)).heap[wa.heap.size]? = some (.cells #[.int .i64 T.1, .int .i64 T.2.1, .int .i64 T.2.2.1, .int .i64 T.2.2.2] 26 (0, 0)) ∧ OwnR (wa.alloc (.cells #[.int .i64 T.1, .int .i64 T.2.1, .int .i64 T.2.2.1, .int .i64 T.2.2.2] 26)) B vl L ∧ Below B w6 (wa.alloc (.cells #[.int .i64 T.1, .int .i64 T.2.1, .int .i64 T.2.2.1, .int .i64 T.2.2.2] 26)) ∧ B ≤ wa.heap.size ∧ ∀ g, vl.ownBlock = some g → g ≠ wa.heap.size) := ⟨heap_alloc_new wa _, HOA.out.1.alloc _, HOA.out.2.1.trans ((Rg.bel_new wa _).mono HOA.out.2.2), HOA.out.2.2, fun g hg => by have := (HOA.out.1.lt g hg).2; omega⟩
      go_upto_region 13 with fail
      generalize wa.alloc (.cells #[.int .i64 T.1, .int .i64 T.2.1, .int .i64 T.2.2.1, .int .i64 T.2.2.2] 26) = wt at HBA ⊢
      generalize wa.heap.size = bA at HBA ⊢
      clear HOA p0 p1 p2 p3 p4 p5 p6 p7
      by_cases hkf : k < f
      · have HA : Hid ((if k < f then U else T) = U) := if_pos hkf
        have hkI : (k : Int) < (f : Int) := by omega
        obtain ⟨⟨⟨p0, p1, p2, p3⟩, p4, p5, p6, p7⟩, _⟩ := HX.out _ HBA.out.2.2.1
        obtain ⟨m0, n0⟩ := Rg.blk_cell HBA.out.1 0 (x := .int .i64 T.1) rfl
        obtain ⟨m1, n1⟩ := Rg.blk_cell HBA.out.1 1 (x := .int .i64 T.2.1) rfl
        obtain ⟨m2, n2⟩ := Rg.blk_cell HBA.out.1 2 (x := .int .i64 T.2.2.1) rfl
        obtain ⟨m3, n3⟩ := Rg.blk_cell HBA.out.1 3 (x := .int .i64 T.2.2.2) rfl
        have CA : Hid (((((wt.setCell ⟨bA, 0, none⟩ (.int .i64 U.1)).setCell ⟨bA, 1, none⟩ (.int .i64 U.2.1)).setCell ⟨bA, 2, none⟩ (.int .i64 U.2.2.1)).setCell ⟨bA, 3, none⟩ (.int .i64 U.2.2.2)).heap[bA]? = some (.cells #[.int .i64 U.1, .int .i64 U.2.1, .int .i64 U.2.2.1, .int .i64 U.2.2.2] 26 (0, 0)) ∧ OwnR ((((wt.setCell ⟨bA, 0, none⟩ (.int .i64 U.1)).setCell ⟨bA, 1, none⟩ (.int .i64 U.2.1)).setCell ⟨bA, 2, none⟩ (.int .i64 U.2.2.1)).setCell ⟨bA, 3, none⟩ (.int .i64 U.2.2.2)) B vl L ∧ Below B w6 ((((wt.setCell ⟨bA, 0, none⟩ (.int .i64 U.1)).setCell ⟨bA, 1, none⟩ (.int .i64 U.2.1)).setCell ⟨bA, 2, none⟩ (.int .i64 U.2.2.1)).setCell ⟨bA, 3, none⟩ (.int .i64 U.2.2.2))) := ⟨(Rg.blk_set (Rg.blk_set (Rg.blk_set (Rg.blk_set HBA.out.1 _ _) _ _) _ _) _ _), HBA.out.2.1.kept (fun g hg => ((Rg.blk_far (HBA.out.2.2.2.2 g hg) _ _).trans ((Rg.blk_far (HBA.out.2.2.2.2 g hg) _ _).trans ((Rg.blk_far (HBA.out.2.2.2.2 g hg) _ _).trans ((Rg.blk_far (HBA.out.2.2.2.2 g hg) _ _).trans rfl))))), (Below.setCell (Below.setCell (Below.setCell (Below.setCell HBA.out.2.2.1 (p := ⟨bA, 0, none⟩) HBA.out.2.2.2.1 (.int .i64 U.1)) (p := ⟨bA, 1, none⟩) HBA.out.2.2.2.1 (.int .i64 U.2.1)) (p := ⟨bA, 2, none⟩) HBA.out.2.2.2.1 (.int .i64 U.2.2.1)) (p := ⟨bA, 3, none⟩) HBA.out.2.2.2.1 (.int .i64 U.2.2.2))⟩
        go_upto_region 15 with fail
        generalize ((((wt.setCell ⟨bA, 0, none⟩ (.int .i64 U.1)).setCell ⟨bA, 1, none⟩ (.int .i64 U.2.1)).setCell ⟨bA, 2, none⟩ (.int .i64 U.2.2.1)).setCell ⟨bA, 3, none⟩ (.int .i64 U.2.2.2)) = wc at CA ⊢
        clear p0 p1 p2 p3 p4 p5 p6 p7 m0 m1 m2 m3 n0 n1 n2 n3 hkI
        clear HBA
        obtain ⟨x, HXX⟩ : ∃ x, Hid (rep k U = x) := ⟨_, rfl⟩
        have HMK : Hid (∀ W, Below w.heap.size w W → Calls Tryd.prog 10 #[.int .i64 (k : Int), .int .i64 1, .int .i64 2, .agg #[.int .i64 U.1, .int .i64 U.2.1, .int .i64 U.2.2.1, .int .i64 U.2.2.2]] W fun e w' => e = .returned (.tuple #[.agg #[.int .i64 x.nd, .int .i64 x.cl, .int .i64 x.st, .int .i64 x.kd, .int .i64 x.tk, .int .i64 x.hd, .int .i64 x.ex, .string x.mc], .int .i64 0]) ∧ Below W.heap.size W w') := fun W hW => by
          have h := implMakeReply_any (k : Int) 1 2 U.1 U.2.1 U.2.2.1 U.2.2.2 W (HKT.out W hW).1 (HKT.out W hW).2
          have e : mkR (k : Int) 1 2 U.1 U.2.1 U.2.2.1 U.2.2.2 = x := HXX.out
          rw [(rep_eq (k := k) (a := U) (by omega) HU.out).2, e] at h
          exact h
        have HSK : Hid (∀ W, Calls Tryd.prog 11 #[.int .i64 (k : Int), .int .i64 1, .int .i64 2, .agg #[.int .i64 U.1, .int .i64 U.2.1, .int .i64 U.2.2.1, .int .i64 U.2.2.2]] W fun e w' => e = .returned (.tuple #[.agg #[.int .i64 x.nd, .int .i64 x.cl, .int .i64 x.st, .int .i64 x.kd, .int .i64 x.tk, .int .i64 x.hd, .int .i64 x.ex, .string x.mc], .int .i64 0]) ∧ Below W.heap.size W w') := fun W => by
          have h := specMakeReply_any (k : Int) 1 2 U.1 U.2.1 U.2.2.1 U.2.2.2 W
          have e : mkR (k : Int) 1 2 U.1 U.2.1 U.2.2.1 U.2.2.2 = x := HXX.out
          rw [(rep_eq (k := k) (a := U) (by omega) HU.out).2, e] at h
          exact h
        have HRM : Hid (∀ W, Below w.heap.size w W → Calls Tryd.prog 12 #[.agg #[.int .i64 x.nd, .int .i64 x.cl, .int .i64 x.st, .int .i64 x.kd, .int .i64 x.tk, .int .i64 x.hd, .int .i64 x.ex, .string x.mc]] W fun e w' => e = .returned (.tuple #[.string x.mc, .int .i64 0]) ∧ Below W.heap.size W w') := fun W hW => by
          have h := implReplyMac_any x W (HKT.out W hW).1 (HKT.out W hW).2
          have e := rep_rm (k := k) (a := U) (by omega) HU.out
          rw [HXX.out] at e
          rw [e.1, e.2] at h
          exact h
        have HRO : Hid (∀ W, Below w.heap.size w W → Calls Tryd.prog 13 #[.int .i64 (N : Int), .agg #[.int .i64 x.nd, .int .i64 x.cl, .int .i64 x.st, .int .i64 x.kd, .int .i64 x.tk, .int .i64 x.hd, .int .i64 x.ex, .string x.mc]] W fun e w' => e = .returned (.bool true) ∧ Below W.heap.size W w') := fun W hW => by
          have h := implReplyOK_any (N : Int) x W (HKT.out W hW).1 (HKT.out W hW).2
          have e := (rep_ok (n := (N : Int)) (k := k) (a := U) HN0.out.1 (by omega) HU.out).2
          rw [HXX.out] at e
          rw [e] at h
          exact h
        obtain ⟨B', HB6⟩ : ∃ B', Hid (B' = w6.heap.size ∧ B = B') := ⟨_, rfl, HBB.out.symm⟩
        have HSZ : Hid (∀ W, Below B w6 W → B ≤ W.heap.size) := fun W hW => by rw [HB6.out.2, HB6.out.1]; exact hW.size
        clear HB6 hkf
        have c0 := (Rg.blk_cell CA.out.1 0 (x := .int .i64 U.1) rfl).1
        have c1 := (Rg.blk_cell CA.out.1 1 (x := .int .i64 U.2.1) rfl).1
        have c2 := (Rg.blk_cell CA.out.1 2 (x := .int .i64 U.2.2.1) rfl).1
        have c3 := (Rg.blk_cell CA.out.1 3 (x := .int .i64 U.2.2.2) rfl).1
        go_wp2_with fail
        refine (HMK.out _ (HX.out _ CA.out.2.2).2).mono ?_
        rintro e wd ⟨rfl, bd⟩
        have HR1 : Hid (∀ W, Below (wd.alloc (.cells #[.int .i64 x.nd, .int .i64 x.cl, .int .i64 x.st, .int .i64 x.kd, .int .i64 x.tk, .int .i64 x.hd, .int .i64 x.ex, .string x.mc] 30)).heap.size (wd.alloc (.cells #[.int .i64 x.nd, .int .i64 x.cl, .int .i64 x.st, .int .i64 x.kd, .int .i64 x.tk, .int .i64 x.hd, .int .i64 x.ex, .string x.mc] 30)) W → (W.cell? ⟨wd.heap.size, 0, none⟩ = some (.int .i64 x.nd) ∧ W.cell? ⟨wd.heap.size, 1, none⟩ = some (.int .i64 x.cl) ∧ W.cell? ⟨wd.heap.size, 2, none⟩ = some (.int .i64 x.st) ∧ W.cell? ⟨wd.heap.size, 3, none⟩ = some (.int .i64 x.kd) ∧ W.cell? ⟨wd.heap.size, 4, none⟩ = some (.int .i64 x.tk) ∧ W.cell? ⟨wd.heap.size, 5, none⟩ = some (.int .i64 x.hd) ∧ W.cell? ⟨wd.heap.size, 6, none⟩ = some (.int .i64 x.ex) ∧ W.cell? ⟨wd.heap.size, 7, none⟩ = some (.string x.mc)) ∧ W.heap[bA]? = some (.cells #[.int .i64 U.1, .int .i64 U.2.1, .int .i64 U.2.2.1, .int .i64 U.2.2.2] 26 (0, 0)) ∧ OwnR W B vl L ∧ Below B w6 W) := fun W hW => by
          have b0 := bd.trans (((Rg.bel_new wd (.cells #[.int .i64 x.nd, .int .i64 x.cl, .int .i64 x.st, .int .i64 x.kd, .int .i64 x.tk, .int .i64 x.hd, .int .i64 x.ex, .string x.mc] 30)).trans (hW.mono (by simp))).mono bd.size)
          have h1 := (hW.block wd.heap.size (by simp)).trans (heap_alloc_new wd _)
          exact ⟨⟨(Rg.blk_cell h1 0 rfl).1, (Rg.blk_cell h1 1 rfl).1, (Rg.blk_cell h1 2 rfl).1, (Rg.blk_cell h1 3 rfl).1, (Rg.blk_cell h1 4 rfl).1, (Rg.blk_cell h1 5 rfl).1, (Rg.blk_cell h1 6 rfl).1, (Rg.blk_cell h1 7 rfl).1⟩, (b0.block _ (Array.getElem?_eq_some_iff.1 CA.out.1).1).trans CA.out.1, CA.out.2.1.below b0, CA.out.2.2.trans (b0.mono (HSZ.out _ CA.out.2.2))⟩
        clear bd c0 c1 c2 c3
        go_upto_region 16 with fail
        generalize wd.alloc (.cells #[.int .i64 x.nd, .int .i64 x.cl, .int .i64 x.st, .int .i64 x.kd, .int .i64 x.tk, .int .i64 x.hd, .int .i64 x.ex, .string x.mc] 30) = we at HR1 ⊢
        generalize wd.heap.size = bR at HR1 ⊢
        have c0 := (Rg.blk_cell (HR1.out _ (Below.refl _ _)).2.1 0 (x := .int .i64 U.1) rfl).1
        have c1 := (Rg.blk_cell (HR1.out _ (Below.refl _ _)).2.1 1 (x := .int .i64 U.2.1) rfl).1
        have c2 := (Rg.blk_cell (HR1.out _ (Below.refl _ _)).2.1 2 (x := .int .i64 U.2.2.1) rfl).1
        have c3 := (Rg.blk_cell (HR1.out _ (Below.refl _ _)).2.1 3 (x := .int .i64 U.2.2.2) rfl).1
        go_wp2_with fail
        refine (HSK.out _).mono ?_
        rintro e wg ⟨rfl, bg⟩
        have HR2 : Hid (∀ W, Below (wg.alloc (.cells #[.int .i64 x.nd, .int .i64 x.cl, .int .i64 x.st, .int .i64 x.kd, .int .i64 x.tk, .int .i64 x.hd, .int .i64 x.ex, .string x.mc] 30)).heap.size (wg.alloc (.cells #[.int .i64 x.nd, .int .i64 x.cl, .int .i64 x.st, .int .i64 x.kd, .int .i64 x.tk, .int .i64 x.hd, .int .i64 x.ex, .string x.mc] 30)) W → (W.cell? ⟨wg.heap.size, 0, none⟩ = some (.int .i64 x.nd) ∧ W.cell? ⟨wg.heap.size, 1, none⟩ = some (.int .i64 x.cl) ∧ W.cell? ⟨wg.heap.size, 2, none⟩ = some (.int .i64 x.st) ∧ W.cell? ⟨wg.heap.size, 3, none⟩ = some (.int .i64 x.kd) ∧ W.cell? ⟨wg.heap.size, 4, none⟩ = some (.int .i64 x.tk) ∧ W.cell? ⟨wg.heap.size, 5, none⟩ = some (.int .i64 x.hd) ∧ W.cell? ⟨wg.heap.size, 6, none⟩ = some (.int .i64 x.ex) ∧ W.cell? ⟨wg.heap.size, 7, none⟩ = some (.string x.mc)) ∧ (W.cell? ⟨bR, 0, none⟩ = some (.int .i64 x.nd) ∧ W.cell? ⟨bR, 1, none⟩ = some (.int .i64 x.cl) ∧ W.cell? ⟨bR, 2, none⟩ = some (.int .i64 x.st) ∧ W.cell? ⟨bR, 3, none⟩ = some (.int .i64 x.kd) ∧ W.cell? ⟨bR, 4, none⟩ = some (.int .i64 x.tk) ∧ W.cell? ⟨bR, 5, none⟩ = some (.int .i64 x.hd) ∧ W.cell? ⟨bR, 6, none⟩ = some (.int .i64 x.ex) ∧ W.cell? ⟨bR, 7, none⟩ = some (.string x.mc)) ∧ OwnR W B vl L ∧ Below B w6 W) := fun W hW => by
          have b0 := bg.trans (((Rg.bel_new wg (.cells #[.int .i64 x.nd, .int .i64 x.cl, .int .i64 x.st, .int .i64 x.kd, .int .i64 x.tk, .int .i64 x.hd, .int .i64 x.ex, .string x.mc] 30)).trans (hW.mono (by simp))).mono bg.size)
          have h1 := (hW.block wg.heap.size (by simp)).trans (heap_alloc_new wg _)
          obtain ⟨h2, _, h3, h4⟩ := HR1.out _ b0
          exact ⟨⟨(Rg.blk_cell h1 0 rfl).1, (Rg.blk_cell h1 1 rfl).1, (Rg.blk_cell h1 2 rfl).1, (Rg.blk_cell h1 3 rfl).1, (Rg.blk_cell h1 4 rfl).1, (Rg.blk_cell h1 5 rfl).1, (Rg.blk_cell h1 6 rfl).1, (Rg.blk_cell h1 7 rfl).1⟩, h2, h3, h4⟩
        clear bg c0 c1 c2 c3
        go_upto_region 17 with fail
        generalize wg.alloc (.cells #[.int .i64 x.nd, .int .i64 x.cl, .int .i64 x.st, .int .i64 x.kd, .int .i64 x.tk, .int .i64 x.hd, .int .i64 x.ex, .string x.mc] 30) = wh at HR2 ⊢
        generalize wg.heap.size = bW at HR2 ⊢
        clear HMK HSK HR1 CA
        obtain ⟨_, ⟨d0, d1, d2, d3, d4, d5, d6, d7⟩, _, hB6⟩ := HR2.out _ (Below.refl _ _)
        have HH6 : Hid (Below w.heap.size w wh) := (HX.out _ hB6).2
        clear hB6
        go_wp2_with fail
        refine (HRM.out _ HH6.out).mono ?_
        rintro e wi ⟨rfl, bi⟩
        have BI : Hid (Below wh.heap.size wh wi) := bi
        clear bi d0 d1 d2 d3 d4 d5 d6 d7 HRM
        obtain ⟨⟨f0, f1, f2, f3, f4, f5, f6, f7⟩, ⟨d0, d1, d2, d3, d4, d5, d6, d7⟩, _, hBi⟩ := HR2.out _ BI.out
        have HI6 : Hid (Below w.heap.size w wi) := (HX.out _ hBi).2
        have hq := neqR x
        have hmq : (x.mc.toList != x.mc.toList) = false := by simp
        have hmq2 : (x.mc.toList == x.mc.toList) = true := by simp
        clear hBi
        go_upto_region 20 with (go_at_call 13; refine (HRO.out _ HI6.out).mono ?_; rintro e wj ⟨rfl, bj⟩)
        have BJ : Hid (Below wh.heap.size wh wj) := BI.out.trans (bj.mono BI.out.size)
        clear bj d0 d1 d2 d3 d4 d5 d6 d7 f0 f1 f2 f3 f4 f5 f6 f7 hq hmq hmq2 HRO
        obtain ⟨_, ⟨d0, d1, d2, d3, d4, d5, d6, d7⟩, oj, gj⟩ := HR2.out _ BJ.out
        have HOJ : Hid (OwnR wj B vl L ∧ Below B w6 wj ∧ B ≤ wj.heap.size ∧ L.length ≤ 1000000) := ⟨oj, gj, HSZ.out _ gj, by have := HS.out.1; omega⟩
        clear oj gj
        go_wp2_with (at_builtin; go_must (refine list_re (by rfl) _ _ 28 (by rfl) i0 Tryd.underlying28 hi0 hz0 hz1 hz2 B w6 _ _ _ x (by rfl) HOJ.out.1 HOJ.out.2.1 HOJ.out.2.2.1 (by rfl) HOJ.out.2.2.2 ?_; intro v9 w9 o9 g9))
        exact ⟨⟨m + 1, by omega, by go_num, ⟨L ++ [x], by rw [List.length_append, HS.out.1]; rfl, (by have hsm := said_more (k := k) HS.out.2 (by omega); rw [HA.out, HXX.out] at hsm; exact hsm), o9, g9⟩⟩, by simp [intOf]; omega⟩
      · have HA : Hid ((if k < f then U else T) = T) := if_neg hkf
        have hkI : ¬ (k : Int) < (f : Int) := by omega
        have CA : Hid (wt.heap[bA]? = some (.cells #[.int .i64 T.1, .int .i64 T.2.1, .int .i64 T.2.2.1, .int .i64 T.2.2.2] 26 (0, 0)) ∧ OwnR wt B vl L ∧ Below B w6 wt) := ⟨HBA.out.1, HBA.out.2.1, HBA.out.2.2.1⟩
        go_upto_region 15 with fail
        obtain ⟨wc, rfl⟩ : ∃ wc, wc = wt := ⟨_, rfl⟩
        clear hkI
        clear HBA
        obtain ⟨x, HXX⟩ : ∃ x, Hid (rep k T = x) := ⟨_, rfl⟩
        have HMK : Hid (∀ W, Below w.heap.size w W → Calls Tryd.prog 10 #[.int .i64 (k : Int), .int .i64 1, .int .i64 2, .agg #[.int .i64 T.1, .int .i64 T.2.1, .int .i64 T.2.2.1, .int .i64 T.2.2.2]] W fun e w' => e = .returned (.tuple #[.agg #[.int .i64 x.nd, .int .i64 x.cl, .int .i64 x.st, .int .i64 x.kd, .int .i64 x.tk, .int .i64 x.hd, .int .i64 x.ex, .string x.mc], .int .i64 0]) ∧ Below W.heap.size W w') := fun W hW => by
          have h := implMakeReply_any (k : Int) 1 2 T.1 T.2.1 T.2.2.1 T.2.2.2 W (HKT.out W hW).1 (HKT.out W hW).2
          have e : mkR (k : Int) 1 2 T.1 T.2.1 T.2.2.1 T.2.2.2 = x := HXX.out
          rw [(rep_eq (k := k) (a := T) (by omega) HT.out).2, e] at h
          exact h
        have HSK : Hid (∀ W, Calls Tryd.prog 11 #[.int .i64 (k : Int), .int .i64 1, .int .i64 2, .agg #[.int .i64 T.1, .int .i64 T.2.1, .int .i64 T.2.2.1, .int .i64 T.2.2.2]] W fun e w' => e = .returned (.tuple #[.agg #[.int .i64 x.nd, .int .i64 x.cl, .int .i64 x.st, .int .i64 x.kd, .int .i64 x.tk, .int .i64 x.hd, .int .i64 x.ex, .string x.mc], .int .i64 0]) ∧ Below W.heap.size W w') := fun W => by
          have h := specMakeReply_any (k : Int) 1 2 T.1 T.2.1 T.2.2.1 T.2.2.2 W
          have e : mkR (k : Int) 1 2 T.1 T.2.1 T.2.2.1 T.2.2.2 = x := HXX.out
          rw [(rep_eq (k := k) (a := T) (by omega) HT.out).2, e] at h
          exact h
        have HRM : Hid (∀ W, Below w.heap.size w W → Calls Tryd.prog 12 #[.agg #[.int .i64 x.nd, .int .i64 x.cl, .int .i64 x.st, .int .i64 x.kd, .int .i64 x.tk, .int .i64 x.hd, .int .i64 x.ex, .string x.mc]] W fun e w' => e = .returned (.tuple #[.string x.mc, .int .i64 0]) ∧ Below W.heap.size W w') := fun W hW => by
          have h := implReplyMac_any x W (HKT.out W hW).1 (HKT.out W hW).2
          have e := rep_rm (k := k) (a := T) (by omega) HT.out
          rw [HXX.out] at e
          rw [e.1, e.2] at h
          exact h
        have HRO : Hid (∀ W, Below w.heap.size w W → Calls Tryd.prog 13 #[.int .i64 (N : Int), .agg #[.int .i64 x.nd, .int .i64 x.cl, .int .i64 x.st, .int .i64 x.kd, .int .i64 x.tk, .int .i64 x.hd, .int .i64 x.ex, .string x.mc]] W fun e w' => e = .returned (.bool true) ∧ Below W.heap.size W w') := fun W hW => by
          have h := implReplyOK_any (N : Int) x W (HKT.out W hW).1 (HKT.out W hW).2
          have e := (rep_ok (n := (N : Int)) (k := k) (a := T) HN0.out.1 (by omega) HT.out).2
          rw [HXX.out] at e
          rw [e] at h
          exact h
        obtain ⟨B', HB6⟩ : ∃ B', Hid (B' = w6.heap.size ∧ B = B') := ⟨_, rfl, HBB.out.symm⟩
        have HSZ : Hid (∀ W, Below B w6 W → B ≤ W.heap.size) := fun W hW => by rw [HB6.out.2, HB6.out.1]; exact hW.size
        clear HB6 hkf
        have c0 := (Rg.blk_cell CA.out.1 0 (x := .int .i64 T.1) rfl).1
        have c1 := (Rg.blk_cell CA.out.1 1 (x := .int .i64 T.2.1) rfl).1
        have c2 := (Rg.blk_cell CA.out.1 2 (x := .int .i64 T.2.2.1) rfl).1
        have c3 := (Rg.blk_cell CA.out.1 3 (x := .int .i64 T.2.2.2) rfl).1
        go_wp2_with fail
        refine (HMK.out _ (HX.out _ CA.out.2.2).2).mono ?_
        rintro e wd ⟨rfl, bd⟩
        have HR1 : Hid (∀ W, Below (wd.alloc (.cells #[.int .i64 x.nd, .int .i64 x.cl, .int .i64 x.st, .int .i64 x.kd, .int .i64 x.tk, .int .i64 x.hd, .int .i64 x.ex, .string x.mc] 30)).heap.size (wd.alloc (.cells #[.int .i64 x.nd, .int .i64 x.cl, .int .i64 x.st, .int .i64 x.kd, .int .i64 x.tk, .int .i64 x.hd, .int .i64 x.ex, .string x.mc] 30)) W → (W.cell? ⟨wd.heap.size, 0, none⟩ = some (.int .i64 x.nd) ∧ W.cell? ⟨wd.heap.size, 1, none⟩ = some (.int .i64 x.cl) ∧ W.cell? ⟨wd.heap.size, 2, none⟩ = some (.int .i64 x.st) ∧ W.cell? ⟨wd.heap.size, 3, none⟩ = some (.int .i64 x.kd) ∧ W.cell? ⟨wd.heap.size, 4, none⟩ = some (.int .i64 x.tk) ∧ W.cell? ⟨wd.heap.size, 5, none⟩ = some (.int .i64 x.hd) ∧ W.cell? ⟨wd.heap.size, 6, none⟩ = some (.int .i64 x.ex) ∧ W.cell? ⟨wd.heap.size, 7, none⟩ = some (.string x.mc)) ∧ W.heap[bA]? = some (.cells #[.int .i64 T.1, .int .i64 T.2.1, .int .i64 T.2.2.1, .int .i64 T.2.2.2] 26 (0, 0)) ∧ OwnR W B vl L ∧ Below B w6 W) := fun W hW => by
          have b0 := bd.trans (((Rg.bel_new wd (.cells #[.int .i64 x.nd, .int .i64 x.cl, .int .i64 x.st, .int .i64 x.kd, .int .i64 x.tk, .int .i64 x.hd, .int .i64 x.ex, .string x.mc] 30)).trans (hW.mono (by simp))).mono bd.size)
          have h1 := (hW.block wd.heap.size (by simp)).trans (heap_alloc_new wd _)
          exact ⟨⟨(Rg.blk_cell h1 0 rfl).1, (Rg.blk_cell h1 1 rfl).1, (Rg.blk_cell h1 2 rfl).1, (Rg.blk_cell h1 3 rfl).1, (Rg.blk_cell h1 4 rfl).1, (Rg.blk_cell h1 5 rfl).1, (Rg.blk_cell h1 6 rfl).1, (Rg.blk_cell h1 7 rfl).1⟩, (b0.block _ (Array.getElem?_eq_some_iff.1 CA.out.1).1).trans CA.out.1, CA.out.2.1.below b0, CA.out.2.2.trans (b0.mono (HSZ.out _ CA.out.2.2))⟩
        clear bd c0 c1 c2 c3
        go_upto_region 16 with fail
        generalize wd.alloc (.cells #[.int .i64 x.nd, .int .i64 x.cl, .int .i64 x.st, .int .i64 x.kd, .int .i64 x.tk, .int .i64 x.hd, .int .i64 x.ex, .string x.mc] 30) = we at HR1 ⊢
        generalize wd.heap.size = bR at HR1 ⊢
        have c0 := (Rg.blk_cell (HR1.out _ (Below.refl _ _)).2.1 0 (x := .int .i64 T.1) rfl).1
        have c1 := (Rg.blk_cell (HR1.out _ (Below.refl _ _)).2.1 1 (x := .int .i64 T.2.1) rfl).1
        have c2 := (Rg.blk_cell (HR1.out _ (Below.refl _ _)).2.1 2 (x := .int .i64 T.2.2.1) rfl).1
        have c3 := (Rg.blk_cell (HR1.out _ (Below.refl _ _)).2.1 3 (x := .int .i64 T.2.2.2) rfl).1
        go_wp2_with fail
        refine (HSK.out _).mono ?_
        rintro e wg ⟨rfl, bg⟩
        have HR2 : Hid (∀ W, Below (wg.alloc (.cells #[.int .i64 x.nd, .int .i64 x.cl, .int .i64 x.st, .int .i64 x.kd, .int .i64 x.tk, .int .i64 x.hd, .int .i64 x.ex, .string x.mc] 30)).heap.size (wg.alloc (.cells #[.int .i64 x.nd, .int .i64 x.cl, .int .i64 x.st, .int .i64 x.kd, .int .i64 x.tk, .int .i64 x.hd, .int .i64 x.ex, .string x.mc] 30)) W → (W.cell? ⟨wg.heap.size, 0, none⟩ = some (.int .i64 x.nd) ∧ W.cell? ⟨wg.heap.size, 1, none⟩ = some (.int .i64 x.cl) ∧ W.cell? ⟨wg.heap.size, 2, none⟩ = some (.int .i64 x.st) ∧ W.cell? ⟨wg.heap.size, 3, none⟩ = some (.int .i64 x.kd) ∧ W.cell? ⟨wg.heap.size, 4, none⟩ = some (.int .i64 x.tk) ∧ W.cell? ⟨wg.heap.size, 5, none⟩ = some (.int .i64 x.hd) ∧ W.cell? ⟨wg.heap.size, 6, none⟩ = some (.int .i64 x.ex) ∧ W.cell? ⟨wg.heap.size, 7, none⟩ = some (.string x.mc)) ∧ (W.cell? ⟨bR, 0, none⟩ = some (.int .i64 x.nd) ∧ W.cell? ⟨bR, 1, none⟩ = some (.int .i64 x.cl) ∧ W.cell? ⟨bR, 2, none⟩ = some (.int .i64 x.st) ∧ W.cell? ⟨bR, 3, none⟩ = some (.int .i64 x.kd) ∧ W.cell? ⟨bR, 4, none⟩ = some (.int .i64 x.tk) ∧ W.cell? ⟨bR, 5, none⟩ = some (.int .i64 x.hd) ∧ W.cell? ⟨bR, 6, none⟩ = some (.int .i64 x.ex) ∧ W.cell? ⟨bR, 7, none⟩ = some (.string x.mc)) ∧ OwnR W B vl L ∧ Below B w6 W) := fun W hW => by
          have b0 := bg.trans (((Rg.bel_new wg (.cells #[.int .i64 x.nd, .int .i64 x.cl, .int .i64 x.st, .int .i64 x.kd, .int .i64 x.tk, .int .i64 x.hd, .int .i64 x.ex, .string x.mc] 30)).trans (hW.mono (by simp))).mono bg.size)
          have h1 := (hW.block wg.heap.size (by simp)).trans (heap_alloc_new wg _)
          obtain ⟨h2, _, h3, h4⟩ := HR1.out _ b0
          exact ⟨⟨(Rg.blk_cell h1 0 rfl).1, (Rg.blk_cell h1 1 rfl).1, (Rg.blk_cell h1 2 rfl).1, (Rg.blk_cell h1 3 rfl).1, (Rg.blk_cell h1 4 rfl).1, (Rg.blk_cell h1 5 rfl).1, (Rg.blk_cell h1 6 rfl).1, (Rg.blk_cell h1 7 rfl).1⟩, h2, h3, h4⟩
        clear bg c0 c1 c2 c3
        go_upto_region 17 with fail
        generalize wg.alloc (.cells #[.int .i64 x.nd, .int .i64 x.cl, .int .i64 x.st, .int .i64 x.kd, .int .i64 x.tk, .int .i64 x.hd, .int .i64 x.ex, .string x.mc] 30) = wh at HR2 ⊢
        generalize wg.heap.size = bW at HR2 ⊢
        clear HMK HSK HR1 CA
        obtain ⟨_, ⟨d0, d1, d2, d3, d4, d5, d6, d7⟩, _, hB6⟩ := HR2.out _ (Below.refl _ _)
        have HH6 : Hid (Below w.heap.size w wh) := (HX.out _ hB6).2
        clear hB6
        go_wp2_with fail
        refine (HRM.out _ HH6.out).mono ?_
        rintro e wi ⟨rfl, bi⟩
        have BI : Hid (Below wh.heap.size wh wi) := bi
        clear bi d0 d1 d2 d3 d4 d5 d6 d7 HRM
        obtain ⟨⟨f0, f1, f2, f3, f4, f5, f6, f7⟩, ⟨d0, d1, d2, d3, d4, d5, d6, d7⟩, _, hBi⟩ := HR2.out _ BI.out
        have HI6 : Hid (Below w.heap.size w wi) := (HX.out _ hBi).2
        have hq := neqR x
        have hmq : (x.mc.toList != x.mc.toList) = false := by simp
        have hmq2 : (x.mc.toList == x.mc.toList) = true := by simp
        clear hBi
        go_upto_region 20 with (go_at_call 13; refine (HRO.out _ HI6.out).mono ?_; rintro e wj ⟨rfl, bj⟩)
        have BJ : Hid (Below wh.heap.size wh wj) := BI.out.trans (bj.mono BI.out.size)
        clear bj d0 d1 d2 d3 d4 d5 d6 d7 f0 f1 f2 f3 f4 f5 f6 f7 hq hmq hmq2 HRO
        obtain ⟨_, ⟨d0, d1, d2, d3, d4, d5, d6, d7⟩, oj, gj⟩ := HR2.out _ BJ.out
        have HOJ : Hid (OwnR wj B vl L ∧ Below B w6 wj ∧ B ≤ wj.heap.size ∧ L.length ≤ 1000000) := ⟨oj, gj, HSZ.out _ gj, by have := HS.out.1; omega⟩
        clear oj gj
        go_wp2_with (at_builtin; go_must (refine list_re (by rfl) _ _ 28 (by rfl) i0 Tryd.underlying28 hi0 hz0 hz1 hz2 B w6 _ _ _ x (by rfl) HOJ.out.1 HOJ.out.2.1 HOJ.out.2.2.1 (by rfl) HOJ.out.2.2.2 ?_; intro v9 w9 o9 g9))
        exact ⟨⟨m + 1, by omega, by go_num, ⟨L ++ [x], by rw [List.length_append, HS.out.1]; rfl, (by have hsm := said_more (k := k) HS.out.2 (by omega); rw [HA.out, HXX.out] at hsm; exact hsm), o9, g9⟩⟩, by simp [intOf]; omega⟩
    · obtain rfl : m = 12 := by omega
      obtain ⟨E3, E2⟩ := ends HN0.out.2.2 HN0.out.1 HN0.out.2.1 HT.out HU.out HS.out.2 HS.out.1
      have HLN : Hid (L.length ≤ 1048576) := by show _ ≤ _; rw [HS.out.1]; decide
      have HC2 : Hid (∀ W, Below w.heap.size w W → Gy.Row W vl L → Calls Tryd.prog 14 #[.int .i64 (N : Int), .int .i64 1, .int .i64 2, vl] W fun e w' => e = .returned (.tuple #[anV (ccA (N : Int) 1 2 L), .int .i64 (ccC (N : Int) 1 2 L)]) ∧ Below W.heap.size W w') := fun W hW hr => implCountReplies_any (N : Int) 1 2 vl L W hr HLN.out (HKT.out W hW).1 (HKT.out W hW).2
      have HS2 : Hid (∀ W, Gy.Row W vl L → Calls Tryd.prog 15 #[.int .i64 (N : Int), .int .i64 1, .int .i64 2, vl] W fun e w' => e = .returned (.tuple #[anV (ccA (N : Int) 1 2 L), .int .i64 (ccC (N : Int) 1 2 L)]) ∧ Below W.heap.size W w') := fun W hr => specCountReplies_any (N : Int) 1 2 vl L W hr HLN.out
      have HC3 : Hid (∀ W, Below w.heap.size w W → Gy.Row W vl L → Calls Tryd.prog 14 #[.int .i64 (N : Int), .int .i64 1, .int .i64 3, vl] W fun e w' => e = .returned (.tuple #[anV (ccA (N : Int) 1 3 L), .int .i64 19]) ∧ Below W.heap.size W w') := fun W hW hr => by
        have h := implCountReplies_any (N : Int) 1 3 vl L W hr HLN.out (HKT.out W hW).1 (HKT.out W hW).2
        rw [E3] at h
        exact h
      generalize ccA (N : Int) 1 2 L = A2 at HC2 HS2 E2
      generalize ccC (N : Int) 1 2 L = cc at HC2 HS2 E2
      generalize ccA (N : Int) 1 3 L = A3 at HC3
      have HE2 : Hid (cc = 19 ∨ (cc = 0 ∧ A2 = T)) := E2
      clear E2 E3
      unfold anV at HC2 HS2 HC3
      have HY0 : Hid (∀ W, Below wr.heap.size wr W → (W.cell? ⟨bT, 0, none⟩ = some (.int .i64 T.1) ∧ W.cell? ⟨bT, 1, none⟩ = some (.int .i64 T.2.1) ∧ W.cell? ⟨bT, 2, none⟩ = some (.int .i64 T.2.2.1) ∧ W.cell? ⟨bT, 3, none⟩ = some (.int .i64 T.2.2.2)) ∧ Gy.Row W vl L ∧ Below w.heap.size w W) := fun W hW => by
        have h := HX.out W (HO.out.2.trans (hW.mono hBs.out))
        exact ⟨h.1.1, (HO.out.1.row).below hW, h.2⟩
      clear HX HO hBs HS HR
      go_wp2_with fail
      refine (HC2.out _ (HY0.out _ (Below.refl _ _)).2.2 (HY0.out _ (Below.refl _ _)).2.1).mono ?_
      rintro e we ⟨rfl, be⟩
      have HY1 : Hid (∀ W, Below (we.alloc (.cells #[.int .i64 A2.1, .int .i64 A2.2.1, .int .i64 A2.2.2.1, .int .i64 A2.2.2.2] 26)).heap.size (we.alloc (.cells #[.int .i64 A2.1, .int .i64 A2.2.1, .int .i64 A2.2.2.1, .int .i64 A2.2.2.2] 26)) W → (W.cell? ⟨we.heap.size, 0, none⟩ = some (.int .i64 A2.1) ∧ W.cell? ⟨we.heap.size, 1, none⟩ = some (.int .i64 A2.2.1) ∧ W.cell? ⟨we.heap.size, 2, none⟩ = some (.int .i64 A2.2.2.1) ∧ W.cell? ⟨we.heap.size, 3, none⟩ = some (.int .i64 A2.2.2.2)) ∧ (W.cell? ⟨bT, 0, none⟩ = some (.int .i64 T.1) ∧ W.cell? ⟨bT, 1, none⟩ = some (.int .i64 T.2.1) ∧ W.cell? ⟨bT, 2, none⟩ = some (.int .i64 T.2.2.1) ∧ W.cell? ⟨bT, 3, none⟩ = some (.int .i64 T.2.2.2)) ∧ Gy.Row W vl L ∧ Below w.heap.size w W) := fun W hW => by
        have b0 := be.trans (((Rg.bel_new we (.cells #[.int .i64 A2.1, .int .i64 A2.2.1, .int .i64 A2.2.2.1, .int .i64 A2.2.2.2] 26)).trans (hW.mono (by simp))).mono be.size)
        have h1 := (hW.block we.heap.size (by simp)).trans (heap_alloc_new we _)
        exact ⟨⟨(Rg.blk_cell h1 0 rfl).1, (Rg.blk_cell h1 1 rfl).1, (Rg.blk_cell h1 2 rfl).1, (Rg.blk_cell h1 3 rfl).1⟩, HY0.out _ b0⟩
      clear be HY0 HC2
      go_upto_region 22 with fail
      generalize we.alloc (.cells #[.int .i64 A2.1, .int .i64 A2.2.1, .int .i64 A2.2.2.1, .int .i64 A2.2.2.2] 26) = wf at HY1 ⊢
      generalize we.heap.size = b19 at HY1 ⊢
      go_wp2_with fail
      refine (HS2.out _ (HY1.out _ (Below.refl _ _)).2.2.1).mono ?_
      rintro e wg ⟨rfl, bg⟩
      have HY2 : Hid (∀ W, Below (wg.alloc (.cells #[.int .i64 A2.1, .int .i64 A2.2.1, .int .i64 A2.2.2.1, .int .i64 A2.2.2.2] 26)).heap.size (wg.alloc (.cells #[.int .i64 A2.1, .int .i64 A2.2.1, .int .i64 A2.2.2.1, .int .i64 A2.2.2.2] 26)) W → (W.cell? ⟨wg.heap.size, 0, none⟩ = some (.int .i64 A2.1) ∧ W.cell? ⟨wg.heap.size, 1, none⟩ = some (.int .i64 A2.2.1) ∧ W.cell? ⟨wg.heap.size, 2, none⟩ = some (.int .i64 A2.2.2.1) ∧ W.cell? ⟨wg.heap.size, 3, none⟩ = some (.int .i64 A2.2.2.2)) ∧ (W.cell? ⟨b19, 0, none⟩ = some (.int .i64 A2.1) ∧ W.cell? ⟨b19, 1, none⟩ = some (.int .i64 A2.2.1) ∧ W.cell? ⟨b19, 2, none⟩ = some (.int .i64 A2.2.2.1) ∧ W.cell? ⟨b19, 3, none⟩ = some (.int .i64 A2.2.2.2)) ∧ (W.cell? ⟨bT, 0, none⟩ = some (.int .i64 T.1) ∧ W.cell? ⟨bT, 1, none⟩ = some (.int .i64 T.2.1) ∧ W.cell? ⟨bT, 2, none⟩ = some (.int .i64 T.2.2.1) ∧ W.cell? ⟨bT, 3, none⟩ = some (.int .i64 T.2.2.2)) ∧ Gy.Row W vl L ∧ Below w.heap.size w W) := fun W hW => by
        have b0 := bg.trans (((Rg.bel_new wg (.cells #[.int .i64 A2.1, .int .i64 A2.2.1, .int .i64 A2.2.2.1, .int .i64 A2.2.2.2] 26)).trans (hW.mono (by simp))).mono bg.size)
        have h1 := (hW.block wg.heap.size (by simp)).trans (heap_alloc_new wg _)
        exact ⟨⟨(Rg.blk_cell h1 0 rfl).1, (Rg.blk_cell h1 1 rfl).1, (Rg.blk_cell h1 2 rfl).1, (Rg.blk_cell h1 3 rfl).1⟩, HY1.out _ b0⟩
      clear bg HY1 HS2
      go_upto_region 23 with fail
      generalize wg.alloc (.cells #[.int .i64 A2.1, .int .i64 A2.2.1, .int .i64 A2.2.2.1, .int .i64 A2.2.2.2] 26) = wh at HY2 ⊢
      generalize wg.heap.size = b21 at HY2 ⊢
      go_wp2_with fail
      refine (HC3.out _ (HY2.out _ (Below.refl _ _)).2.2.2.2 (HY2.out _ (Below.refl _ _)).2.2.2.1).mono ?_
      rintro e wi ⟨rfl, bi⟩
      have HB9 : Hid (Below wh.heap.size wh (wi.alloc (.cells #[.int .i64 A3.1, .int .i64 A3.2.1, .int .i64 A3.2.2.1, .int .i64 A3.2.2.2] 26))) := bi.trans ((Rg.bel_new wi _).mono bi.size)
      clear bi HC3
      obtain ⟨⟨c0, c1, c2, c3⟩, ⟨d0, d1, d2, d3⟩, ⟨t0, t1, t2, t3⟩, _, g9⟩ := HY2.out _ HB9.out
      have G9 : Hid (Below w.heap.size w (wi.alloc (.cells #[.int .i64 A3.1, .int .i64 A3.2.1, .int .i64 A3.2.2.1, .int .i64 A3.2.2.2] 26))) := g9
      clear g9 HB9 HY2
      have hq := neqA A2 A2
      rw [decide_eq_true rfl] at hq
      have hccc : (cc != cc) = false := by simp
      go_upto_region 26 with fail
      rcases HE2.out with rfl | ⟨rfl, hA⟩
      · go_wp2_with fail
        go_ret
        exact ⟨rfl, G9.out⟩
      · have hqe := eqlA A2 T
        rw [decide_eq_true hA] at hqe
        clear hA
        go_wp2_with fail
        go_ret
        exact ⟨rfl, G9.out⟩

set_option maxRecDepth 100000 in
theorem lifted (os : Os) (started : os.Started) (H : Type) (enc : TypeId × Value → H) :
    ReturnsInHanded {} Tryd.checked os 3 .any (fun w args => (Rows.fnRepliesSpec.pre enc Tryd.prog Tryd.f3 [] false w args ∧ laidMetH Tryd.prog Rows.fnRepliesRow.laid w) ∧ sizedMet enc Tryd.prog Tryd.f3 (OpenSpec.ofChange Rows.fnRepliesSpec) false w args)
      (Rows.fnRepliesSpec.post enc Tryd.prog Tryd.f3 false true false false) := by
  refine returnsInHanded_of_change_and (C := Tryd.checked) (X := fun w _ => laidMetH Tryd.prog Rows.fnRepliesRow.laid w) (fun _ _ _ hh h => h.of_heap hh) own started (by kernel_rfl) Tryd.func3
    (ChangeSpec.witness_shaped (enc := enc) (C := Tryd.checked) (os := os) (X := fun w _ => laidMetH Tryd.prog Rows.fnRepliesRow.laid w) false (World.doorLaid Tryd.prog 400 os) #[.slice none 0 0, .slice none 0 0] 8 rfl (World.shaped_of_RefB (by kernel_rfl) (by kernel_rfl)) (by kernel_rfl) (by kernel_rfl) (by kernel_rfl) (door_met os _)) ?_
  intro W base args ds gs before hval0 hW _ _ hL _
  have hval : ∀ (j : Nat) t v, Tryd.f3.params[j]? = some t → args[j]? = some v → Value.okWide Tryd.prog W .any base t v := hval0
  have hW' := hW
  obtain ⟨p, q, hA0, hV0, rfl, hfz, hnd⟩ := hW
  have hA : DataW.TrodAll enc Tryd.prog W 0 (fun _ => true) true Tryd.f3.params.toList args.toList ds p := hA0
  have hV : DataW.TrodVars enc Tryd.prog W (fun _ => true) ["loop.example/g00292/impl.roundWords"] gs q := hV0
  rw [Tryd.params3] at hA hval
  obtain ⟨v0, vs0, d0, ds0, p0, q0, hargs, rfl, rfl, h0, r0⟩ := trodAll_cons hA
  obtain ⟨v1, vs1, d1, ds1, p1, q1, rfl, rfl, rfl, h1, r1⟩ := trodAll_cons r0
  obtain ⟨rfl, rfl, rfl⟩ := trodAll_nil r1
  obtain rfl : args = #[v0, v1] := by cases args; simp_all
  obtain ⟨_, _, _, _, dv, _, rfl, _⟩ := trodVars_one hV
  have k00 := h0
  have lt0 : ∀ x ∈ p0, x.block < W.heap.size := by obtain ⟨m, hm⟩ := k00; exact DataW.trod_lt m _ _ _ hm
  obtain ⟨xs0, w0⟩ := Op.open_bytes (hval 0 22 v0 rfl rfl) h0 (fun _ => rfl)
  have k10 := h1
  have lt1 : ∀ x ∈ p1, x.block < W.heap.size := by obtain ⟨m, hm⟩ := k10; exact DataW.trod_lt m _ _ _ hm
  obtain ⟨xs1, w1⟩ := Op.open_bytes (hval 1 22 v1 rfl rfl) h1 (fun _ => rfl)
  clear hA0 hval0 hV0
  have hT := Hl.tab_of hL
  refine (walk v0 xs0 w0 v1 xs1 w1 hT.1 hT.2).mono fun e W' ⟨he, bel⟩ => ?_
  subst he
  exact ⟨_, rfl, _, _, _, [], _, q, hW', trodAll_mk1 (shut_bool Tryd.underlying4 _), (trodAll_cons_mk (Below.trod laidOut (by kernel_rfl) (of_decide_eq_true (by kernel_rfl)) k00 bel lt0) (trodAll_cons_mk (Below.trod laidOut (by kernel_rfl) (of_decide_eq_true (by kernel_rfl)) k10 bel lt1) trodAll_mk0)), Below.trodVars laidOut bel rowed hV, bel.frame _, fun h => by cases h⟩

theorem said : Rows.FnRepliesSaid :=
  OpenClaim.holds_of_wide 3 Tryd.f3 rfl rfl rfl rfl rfl rfl rfl ⟨rfl, rfl, rfl, rfl, rfl⟩ rfl rfl rfl rfl rfl (by kernel_rfl) Tryd.func3 (by kernel_rfl)
    (of_decide_eq_true (by kernel_rfl)) (by unfold Func.isWrapper; first | (rw [if_pos (by decide +kernel)]; kernel_rfl) | (rw [if_neg (by decide +kernel)]; exact ⟨rfl, rfl⟩))
    (fun os started H enc _ => lifted os started H enc)

/-- No parameter wants a stand-in; the program's own looks are off. -/
theorem plain (f : FuncId) (fn : Func) (hf : Tryd.pinned.checked.prog.funcNamed "loop.example/g00292/laws.FnReplies" = some f) (hfn : Tryd.pinned.checked.prog.funcs[f]? = some fn) :
    false = Tryd.pinned.checked.prog.looks [] ∧ ∀ (j : Nat) t, fn.params[j]? = some t → Tryd.pinned.checked.prog.wantsStandIn t = false := by
  obtain rfl : f = 3 := Option.some.inj ((show Tryd.prog.funcNamed "loop.example/g00292/laws.FnReplies" = some 3 by kernel_rfl).symm.trans hf) |>.symm
  obtain rfl : fn = Tryd.f3 := (Option.some.inj (Tryd.func3.symm.trans hfn)).symm
  refine ⟨by kernel_rfl, fun j t ht => ?_⟩
  rw [Tryd.params3] at ht
  have hm := Array.mem_of_getElem? ht
  have hl : t ∈ [22, 22] := by simpa using hm
  have hall : ∀ x ∈ [22, 22], Tryd.prog.wantsStandIn x = false := by
    intro x hx
    simp only [List.mem_cons, List.not_mem_nil, or_false] at hx
    rcases hx with rfl | rfl <;> kernel_rfl
  exact hall t hl
end Go.Proofs.YtipoajjijalibaaDoor.fnReplies
namespace Go.Proofs.YtipoajjijalibaaDoor
/-- THE STATEMENT: the card. -/
theorem fnReplies_holds : Rows.FnRepliesCardSaid :=
  Claim7.holds_tied_plain_at .later [] _ _ _ _ fnReplies.said (fun _ h => by cases h) (by kernel_rfl) (fun _ h => by cases h) fnReplies_row_tie rfl ⟨rfl, rfl⟩ (by kernel_rfl) rfl fnReplies.plain (by kernel_rfl)
end Go.Proofs.YtipoajjijalibaaDoor
