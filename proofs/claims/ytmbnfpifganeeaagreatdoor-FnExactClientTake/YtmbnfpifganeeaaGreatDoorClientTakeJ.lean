/-
  ClientTake answers as the specification does, for every number of nodes, every client and every reply; it writes into no argument, and its answer owns its memory.
  Conditions: none beyond the given row's own; the package variable that it reads starts as the program's text lays it (the card ties it).
-/
import Derived.Test.YtmbnfpifganeeaaGreatDoorHashLaid
import Derived.Test.YtmbnfpifganeeaaGreatDoorJClientTake2
import Derived.Test.YtmbnfpifganeeaaGreatDoorSlRow
import Derived.WalkKit
namespace Go.Proofs.YtmbnfpifganeeaaGreatDoor.fnExactClientTake
open Go.ChangeShapes Go.WideShapes Go.ChangeAt Go.RowKit
open Go.ChangeMaps (open_string shut_string)
open Go.Proofs.YtmbnfpifganeeaaGreatDoor.Hl (own laidOut rowed door_met)

open Go.Proofs.YtmbnfpifganeeaaGreatDoor.Gy (Re oneV Tz to1_any sz1_any)
open Go.Proofs.YtmbnfpifganeeaaGreatDoor.Rg (bel_new)
open Go.Proofs.YtmbnfpifganeeaaGreatDoor.Cl
open Go.Proofs.YtmbnfpifganeeaaGreatDoor.Sh (KTab KTab.below)
theorem Has.of_at {w : World} {c : Cd} {gr ga : Nat} (h1 : AtR w gr c.re) (h2 : AtA w ga c.ac) : Has w c (.slice (some ⟨gr, 0, none⟩) c.re.length c.re.length) (.slice (some ⟨ga, 0, none⟩) c.ac.length c.ac.length) := ⟨h1.row, h2.row⟩
theorem bel10 {B p : Nat} {w0 w : World} {v0 v1 v2 v3 v4 v5 v6 v7 v8 v9 : Value} (h : Below B w0 w) (hp : B ≤ p) : Below B w0 ((((((((((w.setCell ⟨p, 0, none⟩ v0).setCell ⟨p, 1, none⟩ v1).setCell ⟨p, 2, none⟩ v2).setCell ⟨p, 3, none⟩ v3).setCell ⟨p, 4, none⟩ v4).setCell ⟨p, 5, none⟩ v5).setCell ⟨p, 6, none⟩ v6).setCell ⟨p, 7, none⟩ v7).setCell ⟨p, 8, none⟩ v8).setCell ⟨p, 9, none⟩ v9) := (Below.setCell (Below.setCell (Below.setCell (Below.setCell (Below.setCell (Below.setCell (Below.setCell (Below.setCell (Below.setCell (Below.setCell h (p := ⟨p, 0, none⟩) hp v0) (p := ⟨p, 1, none⟩) hp v1) (p := ⟨p, 2, none⟩) hp v2) (p := ⟨p, 3, none⟩) hp v3) (p := ⟨p, 4, none⟩) hp v4) (p := ⟨p, 5, none⟩) hp v5) (p := ⟨p, 6, none⟩) hp v6) (p := ⟨p, 7, none⟩) hp v7) (p := ⟨p, 8, none⟩) hp v8) (p := ⟨p, 9, none⟩) hp v9)
theorem ok_ac {n : Int} {c : Cd} (h : okB n c = true) : (c.ac.length : Int) ≤ 65535 := by
  have h1 : Rm.inR c.st 0 65535 = true ∧ rgB n c = true := by
    unfold okB at h
    simp only [Bool.and_eq_true] at h
    exact ⟨h.2.2.1, h.2.2.2⟩
  have hs : c.st ≤ 65535 := by
    have h2 := h1.1
    unfold Rm.inR at h2
    simp at h2
    omega
  have ha : acB c 0 = true ∨ acB c 1 = true := by
    have h3 := h1.2
    unfold rgB waitB restB at h3
    split at h3
    · simp only [Bool.and_eq_true] at h3
      exact .inr h3.1
    · simp only [Bool.and_eq_true] at h3
      exact .inl h3.1
  rcases ha with ha | ha
  · unfold acB at ha
    simp only [Bool.and_eq_true, decide_eq_true_eq] at ha
    omega
  · unfold acB at ha
    simp only [Bool.and_eq_true, decide_eq_true_eq] at ha
    omega
theorem tk_small (n : Int) (c : Cd) (x : Re) : (tkR n c x).re.length ≤ 1048576 ∧ (tkR n c x).ac.length ≤ 1048576 := by
  by_cases h : okB n c = true
  · rw [(tk_ts h).1]
    have h1 := ts_len n c x
    have h2 := (ok_parts h).2
    have h3 := ok_ac h
    exact ⟨by omega, by omega⟩
  · have h' : okB n c = false := by simpa using h
    rw [(tk_bad h').1]
    exact ⟨Nat.zero_le _, Nat.zero_le _⟩
set_option maxRecDepth 100000 in
set_option maxHeartbeats 40000000 in
/-- THE WALK: both functions answer alike, and the answer owns its memory. -/
theorem walk (n : Int) {q0 : Prop} (_z0 : q0) (c : Cd) (vr va : Value) (w : World) (h : Has w c vr va) (hz : Tc maxLen c) (x : Re) (hm : Tz maxLen x) (hK : KTab w) (hp : 0 < w.heap.size) :
    Calls Tryz.prog 3 #[.int .i64 n, clV c vr va, oneV x] w fun e w' => e = .returned (.bool true) ∧ Below w.heap.size w w' := by
  have HR : Hid (∀ W, Below w.heap.size w W → Has W c vr va ∧ KTab W ∧ 0 < W.heap.size) := fun W hW => ⟨h.below hW, hK.below hW hp, Nat.lt_of_lt_of_le hp hW.size⟩
  have HZ0 : Hid (Tc maxLen c ∧ Tz maxLen x) := ⟨hz, hm⟩
  obtain ⟨ar, kr, rfl⟩ := Rg.RowG.slice h.1
  obtain ⟨aa, ka, rfl⟩ := Rg.RowG.slice h.2
  clear h hz hm hK hp
  have HL : Hid (∀ W, Below ((w.alloc (.cells #[.int .i64 c.id, .int .i64 c.st, .bool c.bu, .int .i64 c.rc, .int .i64 c.rs, .int .i64 c.rk, .int .i64 c.rl, .string c.rn, .slice ar c.re.length kr, .slice aa c.ac.length ka] 27)).alloc (.cells #[.int .i64 x.nd, .int .i64 x.cl, .int .i64 x.st, .int .i64 x.kd, .int .i64 x.tk, .int .i64 x.hd, .int .i64 x.ex, .string x.mc] 31)).heap.size ((w.alloc (.cells #[.int .i64 c.id, .int .i64 c.st, .bool c.bu, .int .i64 c.rc, .int .i64 c.rs, .int .i64 c.rk, .int .i64 c.rl, .string c.rn, .slice ar c.re.length kr, .slice aa c.ac.length ka] 27)).alloc (.cells #[.int .i64 x.nd, .int .i64 x.cl, .int .i64 x.st, .int .i64 x.kd, .int .i64 x.tk, .int .i64 x.hd, .int .i64 x.ex, .string x.mc] 31)) W → ((W.cell? ⟨w.heap.size, 0, none⟩ = some (.int .i64 c.id) ∧ W.cell? ⟨w.heap.size, 1, none⟩ = some (.int .i64 c.st) ∧ W.cell? ⟨w.heap.size, 2, none⟩ = some (.bool c.bu) ∧ W.cell? ⟨w.heap.size, 3, none⟩ = some (.int .i64 c.rc) ∧ W.cell? ⟨w.heap.size, 4, none⟩ = some (.int .i64 c.rs) ∧ W.cell? ⟨w.heap.size, 5, none⟩ = some (.int .i64 c.rk) ∧ W.cell? ⟨w.heap.size, 6, none⟩ = some (.int .i64 c.rl) ∧ W.cell? ⟨w.heap.size, 7, none⟩ = some (.string c.rn) ∧ W.cell? ⟨w.heap.size, 8, none⟩ = some (.slice ar c.re.length kr) ∧ W.cell? ⟨w.heap.size, 9, none⟩ = some (.slice aa c.ac.length ka)) ∧ (W.cell? ⟨w.heap.size + 1, 0, none⟩ = some (.int .i64 x.nd) ∧ W.cell? ⟨w.heap.size + 1, 1, none⟩ = some (.int .i64 x.cl) ∧ W.cell? ⟨w.heap.size + 1, 2, none⟩ = some (.int .i64 x.st) ∧ W.cell? ⟨w.heap.size + 1, 3, none⟩ = some (.int .i64 x.kd) ∧ W.cell? ⟨w.heap.size + 1, 4, none⟩ = some (.int .i64 x.tk) ∧ W.cell? ⟨w.heap.size + 1, 5, none⟩ = some (.int .i64 x.hd) ∧ W.cell? ⟨w.heap.size + 1, 6, none⟩ = some (.int .i64 x.ex) ∧ W.cell? ⟨w.heap.size + 1, 7, none⟩ = some (.string x.mc))) ∧ Below w.heap.size w W) := fun W hW => by
    obtain ⟨h1, h2, h3⟩ := Gy.two hW
    exact ⟨⟨⟨(Rg.blk_cell h1 0 rfl).1, (Rg.blk_cell h1 1 rfl).1, (Rg.blk_cell h1 2 rfl).1, (Rg.blk_cell h1 3 rfl).1, (Rg.blk_cell h1 4 rfl).1, (Rg.blk_cell h1 5 rfl).1, (Rg.blk_cell h1 6 rfl).1, (Rg.blk_cell h1 7 rfl).1, (Rg.blk_cell h1 8 rfl).1, (Rg.blk_cell h1 9 rfl).1⟩, ⟨(Rg.blk_cell h2 0 rfl).1, (Rg.blk_cell h2 1 rfl).1, (Rg.blk_cell h2 2 rfl).1, (Rg.blk_cell h2 3 rfl).1, (Rg.blk_cell h2 4 rfl).1, (Rg.blk_cell h2 5 rfl).1, (Rg.blk_cell h2 6 rfl).1, (Rg.blk_cell h2 7 rfl).1⟩⟩, h3⟩
  have HSZ : Hid (∀ W, Below w.heap.size w W → Calls Tryz.prog 4 #[.agg #[.int .i64 c.id, .int .i64 c.st, .bool c.bu, .int .i64 c.rc, .int .i64 c.rs, .int .i64 c.rk, .int .i64 c.rl, .string c.rn, .slice ar c.re.length kr, .slice aa c.ac.length ka], .int .i64 (1048576 : Nat)] W fun e w' => (∃ r : Int, e = .returned (.int .i64 r) ∧ (r = -1 ∨ ∃ q : Nat, r = q ∧ q ≤ 1048576 ∧ Tc 1048576 c)) ∧ Below W.heap.size W w') := fun W hW => szC_any c _ _ W (HR.out W hW).1 HZ0.out.1
  have HSR : Hid (∀ W (l : Nat), l ≤ 1048576 → Calls Tryz.prog 5 #[.agg #[.int .i64 x.nd, .int .i64 x.cl, .int .i64 x.st, .int .i64 x.kd, .int .i64 x.tk, .int .i64 x.hd, .int .i64 x.ex, .string x.mc], .int .i64 l] W fun e w' => (∃ r : Int, e = .returned (.int .i64 r) ∧ (r = -1 ∨ ∃ q : Nat, r = q ∧ q ≤ l ∧ Tz l x)) ∧ Below W.heap.size W w') := fun W l hl => sz1_any x l W hl HZ0.out.2
  have HTR : Hid (∀ W, Calls Tryz.prog 8 #[.agg #[.int .i64 x.nd, .int .i64 x.cl, .int .i64 x.st, .int .i64 x.kd, .int .i64 x.tk, .int .i64 x.hd, .int .i64 x.ex, .string x.mc]] W fun e w' => e = .returned (.agg #[.int .i64 x.nd, .int .i64 x.cl, .int .i64 x.st, .int .i64 x.kd, .int .i64 x.tk, .int .i64 x.hd, .int .i64 x.ex, .string x.mc]) ∧ Below W.heap.size W w') := fun W => to1_any x W
  unfold clV oneV
  go_enter Tryz.func3, Tryz.ntmps3
  go_upto_region 1 with fail
  generalize ((w.alloc (.cells #[.int .i64 c.id, .int .i64 c.st, .bool c.bu, .int .i64 c.rc, .int .i64 c.rs, .int .i64 c.rk, .int .i64 c.rl, .string c.rn, .slice ar c.re.length kr, .slice aa c.ac.length ka] 27)).alloc (.cells #[.int .i64 x.nd, .int .i64 x.cl, .int .i64 x.st, .int .i64 x.kd, .int .i64 x.tk, .int .i64 x.hd, .int .i64 x.ex, .string x.mc] 31)) = wb at HL ⊢
  obtain ⟨⟨⟨c0, c1, c2, c3, c4, c5, c6, c7, c8, c9⟩, ⟨e0, e1, e2, e3, e4, e5, e6, e7⟩⟩, g0⟩ := HL.out wb (Below.refl _ _)
  have HK := HSZ.out wb g0
  clear g0
  go_wp2_with fail
  refine HK.mono ?_
  rintro e w1 ⟨⟨r, rfl, hr⟩, b1⟩
  have B1 : Hid (Below wb.heap.size wb w1) := b1
  clear b1 HK HSZ c0 c1 c2 c3 c4 c5 c6 c7 c8 c9 e0 e1 e2 e3 e4 e5 e6 e7
  rcases hr with rfl | ⟨q, rfl, hq, hz⟩
  · have G1 : Hid (Below w.heap.size w w1) := (HL.out _ B1.out).2
    clear HL
    go_wp2_with fail
    go_ret
    exact ⟨rfl, G1.out⟩
  have hq0 : ¬ (q : Int) < 0 := by omega
  obtain ⟨⟨_, ⟨e0, e1, e2, e3, e4, e5, e6, e7⟩⟩, _⟩ := HL.out _ B1.out
  have HK := HSR.out w1 q hq
  have HZ : Hid (Tc 1048576 c) := hz
  clear hz HSR
  go_wp2_with fail
  refine HK.mono ?_
  rintro e w2 ⟨⟨r, rfl, hr⟩, b2⟩
  have B2 : Hid (Below wb.heap.size wb w2) := B1.out.trans (b2.mono B1.out.size)
  clear b2 HK e0 e1 e2 e3 e4 e5 e6 e7 hq hq0 B1
  rcases hr with rfl | ⟨q2, rfl, _, _⟩
  · have G1 : Hid (Below w.heap.size w w2) := (HL.out _ B2.out).2
    clear HL
    go_wp2_with fail
    go_ret
    exact ⟨rfl, G1.out⟩
  have hq0 : ¬ (q2 : Int) < 0 := by omega
  have HTC : Hid (∀ W, Below w.heap.size w W → Calls Tryz.prog 7 #[.agg #[.int .i64 c.id, .int .i64 c.st, .bool c.bu, .int .i64 c.rc, .int .i64 c.rs, .int .i64 c.rk, .int .i64 c.rl, .string c.rn, .slice ar c.re.length kr, .slice aa c.ac.length ka]] W fun e w' => ∃ gr ga, e = .returned (.agg #[.int .i64 c.id, .int .i64 c.st, .bool c.bu, .int .i64 c.rc, .int .i64 c.rs, .int .i64 c.rk, .int .i64 c.rl, .string c.rn, .slice (some ⟨gr, 0, none⟩) c.re.length c.re.length, .slice (some ⟨ga, 0, none⟩) c.ac.length c.ac.length]) ∧ Hid (W.heap.size ≤ gr ∧ W.heap.size ≤ ga ∧ gr ≠ ga ∧ AtR w' gr c.re ∧ AtA w' ga c.ac) ∧ Below W.heap.size W w') := fun W hW => toC2_any c _ _ W (HR.out W hW).1 HZ.out
  obtain ⟨d, HD⟩ : ∃ d, Hid (tkR n c x = d) := ⟨_, rfl⟩
  obtain ⟨kk, HKK⟩ : ∃ kk, Hid (tkC n c x = kk) := ⟨_, rfl⟩
  have HSP : Hid (∀ W a1 k1 a2 k2, Below w.heap.size w W → Has W c (.slice a1 c.re.length k1) (.slice a2 c.ac.length k2) → Calls Tryz.prog 6 #[.int .i64 n, .agg #[.int .i64 c.id, .int .i64 c.st, .bool c.bu, .int .i64 c.rc, .int .i64 c.rs, .int .i64 c.rk, .int .i64 c.rl, .string c.rn, .slice a1 c.re.length k1, .slice a2 c.ac.length k2], .agg #[.int .i64 x.nd, .int .i64 x.cl, .int .i64 x.st, .int .i64 x.kd, .int .i64 x.tk, .int .i64 x.hd, .int .i64 x.ex, .string x.mc]] W fun e w' => ∃ a1 k1 a2 k2, e = .returned (.tuple #[.agg #[.int .i64 d.id, .int .i64 d.st, .bool d.bu, .int .i64 d.rc, .int .i64 d.rs, .int .i64 d.rk, .int .i64 d.rl, .string d.rn, .slice a1 d.re.length k1, .slice a2 d.ac.length k2], .int .i64 kk]) ∧ Mine w' W.heap.size d (.slice a1 d.re.length k1) (.slice a2 d.ac.length k2) ∧ Below W.heap.size W w') := fun W a1 k1 a2 k2 hW hh => (specClientTake_any n c _ _ x W hh HZ.out).mono fun e w' ⟨vr', va', h1, h2, h3⟩ => by
    rw [HD.out, HKK.out] at h1
    rw [HD.out] at h2
    obtain ⟨a, k, rfl⟩ := h2.out.1.slice
    obtain ⟨b, l, rfl⟩ := h2.out.2.slice
    exact ⟨a, k, b, l, h1, h2.out, h3⟩
  have HIM : Hid (∀ W a1 k1 a2 k2, Below w.heap.size w W → Has W c (.slice a1 c.re.length k1) (.slice a2 c.ac.length k2) → Calls Tryz.prog 9 #[.int .i64 n, .agg #[.int .i64 c.id, .int .i64 c.st, .bool c.bu, .int .i64 c.rc, .int .i64 c.rs, .int .i64 c.rk, .int .i64 c.rl, .string c.rn, .slice a1 c.re.length k1, .slice a2 c.ac.length k2], .agg #[.int .i64 x.nd, .int .i64 x.cl, .int .i64 x.st, .int .i64 x.kd, .int .i64 x.tk, .int .i64 x.hd, .int .i64 x.ex, .string x.mc]] W fun e w' => ∃ a1 k1 a2 k2, e = .returned (.tuple #[.agg #[.int .i64 d.id, .int .i64 d.st, .bool d.bu, .int .i64 d.rc, .int .i64 d.rs, .int .i64 d.rk, .int .i64 d.rl, .string d.rn, .slice a1 d.re.length k1, .slice a2 d.ac.length k2], .int .i64 kk]) ∧ Mine w' W.heap.size d (.slice a1 d.re.length k1) (.slice a2 d.ac.length k2) ∧ Below W.heap.size W w') := fun W a1 k1 a2 k2 hW hh => (implClientTake_any n c _ _ x W hh HZ.out (HR.out W hW).2.1 (HR.out W hW).2.2).mono fun e w' ⟨vr', va', h1, h2, h3⟩ => by
    rw [HD.out, HKK.out] at h1
    rw [HD.out] at h2
    obtain ⟨a, k, rfl⟩ := h2.out.1.slice
    obtain ⟨b, l, rfl⟩ := h2.out.2.slice
    exact ⟨a, k, b, l, h1, h2.out, h3⟩
  have HLD : Hid (d.re.length ≤ 1048576 ∧ d.ac.length ≤ 1048576) := by
    have q1 := tk_small n c x
    rw [HD.out] at q1
    exact q1
  have HEQ : Hid (∀ W a1 k1 a2 k2 b1 l1 b2 l2, Has W d (.slice a1 d.re.length k1) (.slice a2 d.ac.length k2) → Has W d (.slice b1 d.re.length l1) (.slice b2 d.ac.length l2) → Calls Tryz.prog 10 #[.agg #[.int .i64 d.id, .int .i64 d.st, .bool d.bu, .int .i64 d.rc, .int .i64 d.rs, .int .i64 d.rk, .int .i64 d.rl, .string d.rn, .slice a1 d.re.length k1, .slice a2 d.ac.length k2], .agg #[.int .i64 d.id, .int .i64 d.st, .bool d.bu, .int .i64 d.rc, .int .i64 d.rs, .int .i64 d.rk, .int .i64 d.rl, .string d.rn, .slice b1 d.re.length l1, .slice b2 d.ac.length l2]] W fun e w' => e = .returned (.bool true) ∧ Below W.heap.size W w') := fun W a1 k1 a2 k2 b1 l1 b2 l2 h1 h2 => eqC_same d _ _ _ _ W h1 h2 HLD.out
  have HEC : Hid (∀ W a1 k1 a2 k2 b1 l1 b2 l2, Has W c (.slice a1 c.re.length k1) (.slice a2 c.ac.length k2) → Has W c (.slice b1 c.re.length l1) (.slice b2 c.ac.length l2) → Calls Tryz.prog 10 #[.agg #[.int .i64 c.id, .int .i64 c.st, .bool c.bu, .int .i64 c.rc, .int .i64 c.rs, .int .i64 c.rk, .int .i64 c.rl, .string c.rn, .slice a1 c.re.length k1, .slice a2 c.ac.length k2], .agg #[.int .i64 c.id, .int .i64 c.st, .bool c.bu, .int .i64 c.rc, .int .i64 c.rs, .int .i64 c.rk, .int .i64 c.rl, .string c.rn, .slice b1 c.re.length l1, .slice b2 c.ac.length l2]] W fun e w' => e = .returned (.bool true) ∧ Below W.heap.size W w') := fun W a1 k1 a2 k2 b1 l1 b2 l2 h1 h2 => eqC_same c _ _ _ _ W h1 h2 ⟨HZ.out.2.1, HZ.out.2.2.1⟩
  obtain ⟨mm, HMM⟩ : ∃ mm : Int, Hid (((1 + d.re.length * 8 + d.ac.length * 4 : Nat) : Int) = mm) := ⟨_, rfl⟩
  have HMO : Hid (∀ W B a1 k1 a2 k2, Mine W B d (.slice a1 d.re.length k1) (.slice a2 d.ac.length k2) → Calls Tryz.prog 11 #[.agg #[.int .i64 d.id, .int .i64 d.st, .bool d.bu, .int .i64 d.rc, .int .i64 d.rs, .int .i64 d.rk, .int .i64 d.rl, .string d.rn, .slice a1 d.re.length k1, .slice a2 d.ac.length k2], .int .i64 1] W fun e w' => e = .returned (.int .i64 mm) ∧ HeldC w' d (.slice a1 d.re.length k1) (.slice a2 d.ac.length k2) ∧ Kc W w' (.slice a1 d.re.length k1) (.slice a2 d.ac.length k2)) := fun W B a1 k1 a2 k2 h1 => by
    have h := markClient_own d _ _ B W h1 ⟨by have := HLD.out.1; omega, by have := HLD.out.2; omega⟩
    rw [HMM.out] at h
    exact h
  have HHO : Hid (∀ W a1 k1 a2 k2, HeldC W d (.slice a1 d.re.length k1) (.slice a2 d.ac.length k2) → Calls Tryz.prog 12 #[.agg #[.int .i64 d.id, .int .i64 d.st, .bool d.bu, .int .i64 d.rc, .int .i64 d.rs, .int .i64 d.rk, .int .i64 d.rl, .string d.rn, .slice a1 d.re.length k1, .slice a2 d.ac.length k2], .int .i64 1] W fun e w' => e = .returned (.int .i64 mm) ∧ Below W.heap.size W w') := fun W a1 k1 a2 k2 h1 => by
    have h := heldClient_own d _ _ W h1 ⟨by have := HLD.out.1; omega, by have := HLD.out.2; omega⟩
    rw [HMM.out] at h
    exact h
  have HMC : Hid (∀ W gr ga B C, AtR W gr c.re → AtA W ga c.ac → B ≤ gr → gr < C → B ≤ ga → ga < C → gr ≠ ga → Calls Tryz.prog 11 #[.agg #[.int .i64 c.id, .int .i64 c.st, .bool c.bu, .int .i64 c.rc, .int .i64 c.rs, .int .i64 c.rk, .int .i64 c.rl, .string c.rn, .slice (some ⟨gr, 0, none⟩) c.re.length c.re.length, .slice (some ⟨ga, 0, none⟩) c.ac.length c.ac.length], .int .i64 1] W fun e w' => (∃ r : Nat, e = .returned (.int .i64 (r : Int))) ∧ Rg.Mid B C W w') := fun W gr ga B C h1 h2 h3 h4 h5 h6 h7 => markC_any c gr ga B C W h1 h2 h3 h4 h5 h6 h7 ⟨HZ.out.2.1, HZ.out.2.2.1⟩
  have hmm0 : ¬ mm < 0 := by have := HMM.out; omega
  have hmm1 : (mm != mm) = false := by simp
  have hkk : (kk != kk) = false := by simp
  clear HMM
  clear HD HKK
  go_upto_region 8 with fail
  clear hq0
  refine cutL [29, 30, 31, 32, 33, 34, 28, 35, 36, 8, 9] (fun ts W => ∃ t1 t2 t3 t4 t5 t6 t7 t8 t9 p a1 k1 a2 k2, ts = [t1, t2, t3, t4, t5, t6, t7, t8, t9, .pointer (some ⟨p, 0, none⟩), .int .i64 kk] ∧ (W.heap[p]? = some (.cells #[.int .i64 d.id, .int .i64 d.st, .bool d.bu, .int .i64 d.rc, .int .i64 d.rs, .int .i64 d.rk, .int .i64 d.rl, .string d.rn, .slice a1 d.re.length k1, .slice a2 d.ac.length k2] 38) ∧ w2.heap.size ≤ p) ∧ Mine W w2.heap.size d (.slice a1 d.re.length k1) (.slice a2 d.ac.length k2) ∧ Below w2.heap.size w2 W) ?_ ?_
  · have HGG : Hid (∀ W W' : World, Below w2.heap.size w2 W → Below W.heap.size W W' → Below w2.heap.size w2 W') := fun W W' h1 h2 => h1.trans (h2.mono h1.size)
    have HLW : Hid (∀ W, Below w2.heap.size w2 W → Below w.heap.size w W) := fun W hW => (HL.out W (B2.out.trans (hW.mono B2.out.size))).2
    have HLS : Hid (∀ W, Below w2.heap.size w2 W → ((W.cell? ⟨w.heap.size, 0, none⟩ = some (.int .i64 c.id) ∧ W.cell? ⟨w.heap.size, 1, none⟩ = some (.int .i64 c.st) ∧ W.cell? ⟨w.heap.size, 2, none⟩ = some (.bool c.bu) ∧ W.cell? ⟨w.heap.size, 3, none⟩ = some (.int .i64 c.rc) ∧ W.cell? ⟨w.heap.size, 4, none⟩ = some (.int .i64 c.rs) ∧ W.cell? ⟨w.heap.size, 5, none⟩ = some (.int .i64 c.rk) ∧ W.cell? ⟨w.heap.size, 6, none⟩ = some (.int .i64 c.rl) ∧ W.cell? ⟨w.heap.size, 7, none⟩ = some (.string c.rn) ∧ W.cell? ⟨w.heap.size, 8, none⟩ = some (.slice ar c.re.length kr) ∧ W.cell? ⟨w.heap.size, 9, none⟩ = some (.slice aa c.ac.length ka)) ∧ (W.cell? ⟨w.heap.size + 1, 0, none⟩ = some (.int .i64 x.nd) ∧ W.cell? ⟨w.heap.size + 1, 1, none⟩ = some (.int .i64 x.cl) ∧ W.cell? ⟨w.heap.size + 1, 2, none⟩ = some (.int .i64 x.st) ∧ W.cell? ⟨w.heap.size + 1, 3, none⟩ = some (.int .i64 x.kd) ∧ W.cell? ⟨w.heap.size + 1, 4, none⟩ = some (.int .i64 x.tk) ∧ W.cell? ⟨w.heap.size + 1, 5, none⟩ = some (.int .i64 x.hd) ∧ W.cell? ⟨w.heap.size + 1, 6, none⟩ = some (.int .i64 x.ex) ∧ W.cell? ⟨w.heap.size + 1, 7, none⟩ = some (.string x.mc)))) := fun W hW => (HL.out W (B2.out.trans (hW.mono B2.out.size))).1
    have g0 : Below w2.heap.size w2 w2.drew := (Below.refl _ _).drew
    refine wp_region_noPanic ?_
    refine wp_region_held_drew (S := fun W => ((W.cell? ⟨w.heap.size, 0, none⟩ = some (.int .i64 c.id) ∧ W.cell? ⟨w.heap.size, 1, none⟩ = some (.int .i64 c.st) ∧ W.cell? ⟨w.heap.size, 2, none⟩ = some (.bool c.bu) ∧ W.cell? ⟨w.heap.size, 3, none⟩ = some (.int .i64 c.rc) ∧ W.cell? ⟨w.heap.size, 4, none⟩ = some (.int .i64 c.rs) ∧ W.cell? ⟨w.heap.size, 5, none⟩ = some (.int .i64 c.rk) ∧ W.cell? ⟨w.heap.size, 6, none⟩ = some (.int .i64 c.rl) ∧ W.cell? ⟨w.heap.size, 7, none⟩ = some (.string c.rn) ∧ W.cell? ⟨w.heap.size, 8, none⟩ = some (.slice ar c.re.length kr) ∧ W.cell? ⟨w.heap.size, 9, none⟩ = some (.slice aa c.ac.length ka)) ∧ (W.cell? ⟨w.heap.size + 1, 0, none⟩ = some (.int .i64 x.nd) ∧ W.cell? ⟨w.heap.size + 1, 1, none⟩ = some (.int .i64 x.cl) ∧ W.cell? ⟨w.heap.size + 1, 2, none⟩ = some (.int .i64 x.st) ∧ W.cell? ⟨w.heap.size + 1, 3, none⟩ = some (.int .i64 x.kd) ∧ W.cell? ⟨w.heap.size + 1, 4, none⟩ = some (.int .i64 x.tk) ∧ W.cell? ⟨w.heap.size + 1, 5, none⟩ = some (.int .i64 x.hd) ∧ W.cell? ⟨w.heap.size + 1, 6, none⟩ = some (.int .i64 x.ex) ∧ W.cell? ⟨w.heap.size + 1, 7, none⟩ = some (.string x.mc)))) (by kernel_rfl) (HLS.out _ g0) (fun hHeld => ?_)
    refine wpAnyH_take (i := 0) (oi := { dst := some 29, op := Go.Op.move (Go.Operand.tmp 0), type := 3, pos := "exact.go:6047", after := #[], guard := none }) (v := ?v38) rfl (by kernel_rfl) (by kernel_rfl) (by kernel_rfl) (fun _ _ _ h => h) (Or.inl ⟨by rfl, ?h38⟩) hHeld ?r38
    case h38 => (intro wz hz; (try dsimp only at hz); obtain ⟨⟨c0, c1, c2, c3, c4, c5, c6, c7, c8, c9⟩, ⟨e0, e1, e2, e3, e4, e5, e6, e7⟩⟩ := hz; go_simp; try (with_reducible rfl))
    simp only [Act.put, List.setIfInBounds_toArray, List.set_cons_zero, List.set_cons_succ]
    refine wpAnyH_take (i := 1) (oi := { dst := some 30, op := Go.Op.load 27 (Go.Operand.tmp 4), type := 27, pos := "exact.go:6047", after := #[], guard := none }) (v := ?v39) rfl (by kernel_rfl) (by kernel_rfl) (by kernel_rfl) (fun _ _ _ h => h) (Or.inl ⟨by rfl, ?h39⟩) hHeld ?r39
    case h39 => (intro wz hz; (try dsimp only at hz); obtain ⟨⟨c0, c1, c2, c3, c4, c5, c6, c7, c8, c9⟩, ⟨e0, e1, e2, e3, e4, e5, e6, e7⟩⟩ := hz; go_simp; try (with_reducible rfl))
    simp only [Act.put, List.setIfInBounds_toArray, List.set_cons_zero, List.set_cons_succ]
    refine wpAnyH_take (i := 3) (oi := { dst := some 32, op := Go.Op.load 31 (Go.Operand.tmp 5), type := 31, pos := "exact.go:6047", after := #[], guard := none }) (v := ?v40) rfl (by kernel_rfl) (by kernel_rfl) (by kernel_rfl) (fun _ _ _ h => h) (Or.inl ⟨by rfl, ?h40⟩) hHeld ?r40
    case h40 => (intro wz hz; (try dsimp only at hz); obtain ⟨⟨c0, c1, c2, c3, c4, c5, c6, c7, c8, c9⟩, ⟨e0, e1, e2, e3, e4, e5, e6, e7⟩⟩ := hz; go_simp; try (with_reducible rfl))
    simp only [Act.put, List.setIfInBounds_toArray, List.set_cons_zero, List.set_cons_succ]
    refine wpAnyH_ready (rs := [2, 9]) (by kernel_rfl) (by simp) ?_
    refine (AllReadyH.cons (o := { dst := some 31, op := Go.Op.call { callee := Go.Callee.value (Go.Operand.func 7), args := #[Go.Operand.tmp 30], argTypes := #[27] }, type := 38, pos := "exact.go:6047", after := #[{ on := 1, ground := Go.Ground.data }], guard := none }) rfl (fun K hK => ?_) (AllReadyH.cons (o := { dst := some 8, op := Go.Op.alloc 38, type := 0, pos := "exact.go:6047", after := #[], guard := none }) rfl (fun K hK => ?_) AllReadyH.nil))
    · go_simp
      go_at_call 7
      refine (HTC.out _ (HLW.out _ g0)).mono ?_
      rintro e wn ⟨gr, ga, rfl, hn, bn⟩
      have hs := Has.of_at hn.out.2.2.2.1 hn.out.2.2.2.2
      have gn := HGG.out _ _ g0 bn
      try go_simp
      refine hK.out _ _ ?_ (fun hHeld => ?_)
      · exact HLS.out _ gn
      clear hK K
      (try simp only [Act.put, List.setIfInBounds_toArray, List.set_cons_zero, List.set_cons_succ])
      refine wpAnyH_ready (rs := [4, 9]) (by kernel_rfl) (by simp) ?_
      refine (AllReadyH.cons (o := { dst := some 33, op := Go.Op.call { callee := Go.Callee.value (Go.Operand.func 8), args := #[Go.Operand.tmp 32], argTypes := #[31] }, type := 44, pos := "exact.go:6047", after := #[{ on := 3, ground := Go.Ground.data }, { on := 2, ground := Go.Ground.chain }], guard := none }) rfl (fun K hK => ?_) (AllReadyH.cons (o := { dst := some 8, op := Go.Op.alloc 38, type := 0, pos := "exact.go:6047", after := #[], guard := none }) rfl (fun K hK => ?_) AllReadyH.nil))
      · go_simp
        go_at_call 8
        refine (HTR.out _).mono ?_
        rintro e wm ⟨rfl, bm⟩
        have hs2 := Has.below hs bm
        have gm := HGG.out _ _ gn bm
        try go_simp
        refine hK.out _ _ ?_ (fun hHeld => ?_)
        · exact HLS.out _ gm
        clear hK K
        (try simp only [Act.put, List.setIfInBounds_toArray, List.set_cons_zero, List.set_cons_succ])
        refine wpAnyH_ready (rs := [5, 9]) (by kernel_rfl) (by simp) ?_
        refine (AllReadyH.cons (o := { dst := some 34, op := Go.Op.call { callee := Go.Callee.value (Go.Operand.func 6), args := #[Go.Operand.tmp 29, Go.Operand.tmp 31, Go.Operand.tmp 33], argTypes := #[3, 38, 44] }, type := 39, pos := "exact.go:6047", after := #[{ on := 0, ground := Go.Ground.data }, { on := 2, ground := Go.Ground.data }, { on := 4, ground := Go.Ground.data }, { on := 4, ground := Go.Ground.chain }], guard := none }) rfl (fun K hK => ?_) (AllReadyH.cons (o := { dst := some 8, op := Go.Op.alloc 38, type := 0, pos := "exact.go:6047", after := #[], guard := none }) rfl (fun K hK => ?_) AllReadyH.nil))
        · go_simp
          go_at_call 6
          refine (HSP.out _ _ _ _ _ (HLW.out _ gm) hs2).mono ?_
          rintro e wo ⟨a1, k1, a2, k2, rfl, ho, bo⟩
          have go := HGG.out _ _ gm bo
          try go_simp
          refine hK.out _ _ ?_ (fun hHeld => ?_)
          · exact HLS.out _ go
          clear hK K
          (try simp only [Act.put, List.setIfInBounds_toArray, List.set_cons_zero, List.set_cons_succ])
          refine wpAnyH_take (i := 6) (oi := { dst := some 28, op := Go.Op.move (Go.Operand.tmp 34), type := 39, pos := "exact.go:6047", after := #[{ on := 5, ground := Go.Ground.data }], guard := none }) (v := ?v41) rfl (by kernel_rfl) (by kernel_rfl) (by kernel_rfl) (fun _ _ _ h => h) (Or.inl ⟨by rfl, ?h41⟩) hHeld ?r41
          case h41 => (intro wz hz; (try dsimp only at hz); obtain ⟨⟨c0, c1, c2, c3, c4, c5, c6, c7, c8, c9⟩, ⟨e0, e1, e2, e3, e4, e5, e6, e7⟩⟩ := hz; go_simp; try (with_reducible rfl))
          simp only [Act.put, List.setIfInBounds_toArray, List.set_cons_zero, List.set_cons_succ]
          refine wpAnyH_take (i := 7) (oi := { dst := some 35, op := Go.Op.extract (Go.Operand.tmp 28) 0, type := 38, pos := "exact.go:6047", after := #[{ on := 6, ground := Go.Ground.data }], guard := none }) (v := ?v42) rfl (by kernel_rfl) (by kernel_rfl) (by kernel_rfl) (fun _ _ _ h => h) (Or.inl ⟨by rfl, ?h42⟩) hHeld ?r42
          case h42 => (intro wz hz; (try dsimp only at hz); obtain ⟨⟨c0, c1, c2, c3, c4, c5, c6, c7, c8, c9⟩, ⟨e0, e1, e2, e3, e4, e5, e6, e7⟩⟩ := hz; go_simp; try (with_reducible rfl))
          simp only [Act.put, List.setIfInBounds_toArray, List.set_cons_zero, List.set_cons_succ]
          refine wpAnyH_take (i := 8) (oi := { dst := some 36, op := Go.Op.extract (Go.Operand.tmp 28) 1, type := 3, pos := "exact.go:6047", after := #[{ on := 6, ground := Go.Ground.data }, { on := 10, ground := Go.Ground.gcOnly Go.Departure.lateStores }], guard := none }) (v := ?v43) rfl (by kernel_rfl) (by kernel_rfl) (by kernel_rfl) (fun _ _ _ h => h) (Or.inl ⟨by rfl, ?h43⟩) hHeld ?r43
          case h43 => (intro wz hz; (try dsimp only at hz); obtain ⟨⟨c0, c1, c2, c3, c4, c5, c6, c7, c8, c9⟩, ⟨e0, e1, e2, e3, e4, e5, e6, e7⟩⟩ := hz; go_simp; try (with_reducible rfl))
          simp only [Act.put, List.setIfInBounds_toArray, List.set_cons_zero, List.set_cons_succ]
          refine wpAnyH_ready (rs := [9]) (by kernel_rfl) (by simp) ?_
          refine (AllReadyH.cons (o := { dst := some 8, op := Go.Op.alloc 38, type := 0, pos := "exact.go:6047", after := #[], guard := none }) rfl (fun K hK => ?_) AllReadyH.nil)
          go_simp
          refine hK.out _ _ ?_ (fun hHeld => ?_)
          · exact HLS.out _ (go.alloc go.size _)
          clear hK K
          (try simp only [Act.put, List.setIfInBounds_toArray, List.set_cons_zero, List.set_cons_succ])
          refine wpAnyH_ready (rs := [10]) (by kernel_rfl) (by simp) ?_
          refine (AllReadyH.cons (o := { dst := none, op := Go.Op.store 38 (Go.Operand.tmp 8) (Go.Operand.tmp 35), type := 0, pos := "exact.go:6047", after := #[{ on := 9, ground := Go.Ground.data }, { on := 7, ground := Go.Ground.data }, { on := 5, ground := Go.Ground.chain }, { on := 0, ground := Go.Ground.phase }, { on := 1, ground := Go.Ground.phase }, { on := 2, ground := Go.Ground.phase }, { on := 3, ground := Go.Ground.phase }, { on := 4, ground := Go.Ground.phase }, { on := 5, ground := Go.Ground.phase }, { on := 6, ground := Go.Ground.phase }, { on := 7, ground := Go.Ground.phase }, { on := 8, ground := Go.Ground.textOnly Go.Departure.lateStores }, { on := 9, ground := Go.Ground.phase }], guard := none }) rfl (fun K hK => ?_) AllReadyH.nil)
          go_simp
          refine hK.out _ _ ?_ (fun hHeld => ?_)
          · exact HLS.out _ (go.alloc go.size _)
          clear hK K
          (try simp only [Act.put, List.setIfInBounds_toArray, List.set_cons_zero, List.set_cons_succ])
          refine wpAnyH_take (i := 11) (oi := { dst := some 9, op := Go.Op.assign (Go.Operand.tmp 36), type := 3, pos := "exact.go:6047", after := #[{ on := 8, ground := Go.Ground.data }, { on := 10, ground := Go.Ground.chain }, { on := 0, ground := Go.Ground.phase }, { on := 1, ground := Go.Ground.phase }, { on := 2, ground := Go.Ground.phase }, { on := 3, ground := Go.Ground.phase }, { on := 4, ground := Go.Ground.phase }, { on := 5, ground := Go.Ground.phase }, { on := 6, ground := Go.Ground.phase }, { on := 7, ground := Go.Ground.phase }, { on := 8, ground := Go.Ground.phase }, { on := 9, ground := Go.Ground.phase }, { on := 10, ground := Go.Ground.phase }], guard := none }) (v := ?v44) rfl (by kernel_rfl) (by kernel_rfl) (by kernel_rfl) (fun _ _ _ h => h) (Or.inl ⟨by rfl, ?h44⟩) hHeld ?r44
          case h44 => (intro wz hz; (try dsimp only at hz); obtain ⟨⟨c0, c1, c2, c3, c4, c5, c6, c7, c8, c9⟩, ⟨e0, e1, e2, e3, e4, e5, e6, e7⟩⟩ := hz; go_simp; try (with_reducible rfl))
          simp only [Act.put, List.setIfInBounds_toArray, List.set_cons_zero, List.set_cons_succ]
          refine wpAnyH_done (by kernel_rfl) ?_ _
          refine NoPanic.normal ?_
          dsimp only
          have hWc := gm.size
          refine ⟨_, ?_, ?_, ?_, ?_, ?_, ?_, ?_, ?_, ?_, ?_, wo.heap.size, a1, k1, a2, k2, rfl, ⟨heap_alloc_new _ _, go.size⟩, (ho.below (bel_new _ _)).mono hWc, go.alloc go.size _⟩
          · simp only [putAll, Act.put, List.setIfInBounds_toArray, List.set_cons_zero, List.set_cons_succ]
            exact rfl
        · go_simp
          refine hK.out _ _ ?_ (fun hHeld => ?_)
          · exact HLS.out _ (gm.alloc gm.size _)
          clear hK K
          (try simp only [Act.put, List.setIfInBounds_toArray, List.set_cons_zero, List.set_cons_succ])
          refine wpAnyH_ready (rs := [5]) (by kernel_rfl) (by simp) ?_
          refine (AllReadyH.cons (o := { dst := some 34, op := Go.Op.call { callee := Go.Callee.value (Go.Operand.func 6), args := #[Go.Operand.tmp 29, Go.Operand.tmp 31, Go.Operand.tmp 33], argTypes := #[3, 38, 44] }, type := 39, pos := "exact.go:6047", after := #[{ on := 0, ground := Go.Ground.data }, { on := 2, ground := Go.Ground.data }, { on := 4, ground := Go.Ground.data }, { on := 4, ground := Go.Ground.chain }], guard := none }) rfl (fun K hK => ?_) AllReadyH.nil)
          go_simp
          go_at_call 6
          have hpl : wm.heap.size < (wm.alloc (.cells #[.int .i64 0, .int .i64 0, .bool false, .int .i64 0, .int .i64 0, .int .i64 0, .int .i64 0, .string ⟨#[]⟩, .slice none 0 0, .slice none 0 0] 38)).heap.size := by simp
          refine (HSP.out _ _ _ _ _ (HLW.out _ (gm.alloc gm.size _)) (hs2.below (bel_new _ _))).mono ?_
          rintro e wo ⟨a1, k1, a2, k2, rfl, ho, bo⟩
          have go := HGG.out _ _ (gm.alloc gm.size _) bo
          have zq : wo.heap[wm.heap.size]? = some (.cells #[.int .i64 0, .int .i64 0, .bool false, .int .i64 0, .int .i64 0, .int .i64 0, .int .i64 0, .string ⟨#[]⟩, .slice none 0 0, .slice none 0 0] 38) := (bo.block _ (by simp)).trans (heap_alloc_new _ _)
          try go_simp
          refine hK.out _ _ ?_ (fun hHeld => ?_)
          · exact HLS.out _ go
          clear hK K
          (try simp only [Act.put, List.setIfInBounds_toArray, List.set_cons_zero, List.set_cons_succ])
          refine wpAnyH_take (i := 6) (oi := { dst := some 28, op := Go.Op.move (Go.Operand.tmp 34), type := 39, pos := "exact.go:6047", after := #[{ on := 5, ground := Go.Ground.data }], guard := none }) (v := ?v45) rfl (by kernel_rfl) (by kernel_rfl) (by kernel_rfl) (fun _ _ _ h => h) (Or.inl ⟨by rfl, ?h45⟩) hHeld ?r45
          case h45 => (intro wz hz; (try dsimp only at hz); obtain ⟨⟨c0, c1, c2, c3, c4, c5, c6, c7, c8, c9⟩, ⟨e0, e1, e2, e3, e4, e5, e6, e7⟩⟩ := hz; go_simp; try (with_reducible rfl))
          simp only [Act.put, List.setIfInBounds_toArray, List.set_cons_zero, List.set_cons_succ]
          refine wpAnyH_take (i := 7) (oi := { dst := some 35, op := Go.Op.extract (Go.Operand.tmp 28) 0, type := 38, pos := "exact.go:6047", after := #[{ on := 6, ground := Go.Ground.data }], guard := none }) (v := ?v46) rfl (by kernel_rfl) (by kernel_rfl) (by kernel_rfl) (fun _ _ _ h => h) (Or.inl ⟨by rfl, ?h46⟩) hHeld ?r46
          case h46 => (intro wz hz; (try dsimp only at hz); obtain ⟨⟨c0, c1, c2, c3, c4, c5, c6, c7, c8, c9⟩, ⟨e0, e1, e2, e3, e4, e5, e6, e7⟩⟩ := hz; go_simp; try (with_reducible rfl))
          simp only [Act.put, List.setIfInBounds_toArray, List.set_cons_zero, List.set_cons_succ]
          refine wpAnyH_take (i := 8) (oi := { dst := some 36, op := Go.Op.extract (Go.Operand.tmp 28) 1, type := 3, pos := "exact.go:6047", after := #[{ on := 6, ground := Go.Ground.data }, { on := 10, ground := Go.Ground.gcOnly Go.Departure.lateStores }], guard := none }) (v := ?v47) rfl (by kernel_rfl) (by kernel_rfl) (by kernel_rfl) (fun _ _ _ h => h) (Or.inl ⟨by rfl, ?h47⟩) hHeld ?r47
          case h47 => (intro wz hz; (try dsimp only at hz); obtain ⟨⟨c0, c1, c2, c3, c4, c5, c6, c7, c8, c9⟩, ⟨e0, e1, e2, e3, e4, e5, e6, e7⟩⟩ := hz; go_simp; try (with_reducible rfl))
          simp only [Act.put, List.setIfInBounds_toArray, List.set_cons_zero, List.set_cons_succ]
          refine wpAnyH_ready (rs := [10]) (by kernel_rfl) (by simp) ?_
          refine (AllReadyH.cons (o := { dst := none, op := Go.Op.store 38 (Go.Operand.tmp 8) (Go.Operand.tmp 35), type := 0, pos := "exact.go:6047", after := #[{ on := 9, ground := Go.Ground.data }, { on := 7, ground := Go.Ground.data }, { on := 5, ground := Go.Ground.chain }, { on := 0, ground := Go.Ground.phase }, { on := 1, ground := Go.Ground.phase }, { on := 2, ground := Go.Ground.phase }, { on := 3, ground := Go.Ground.phase }, { on := 4, ground := Go.Ground.phase }, { on := 5, ground := Go.Ground.phase }, { on := 6, ground := Go.Ground.phase }, { on := 7, ground := Go.Ground.phase }, { on := 8, ground := Go.Ground.textOnly Go.Departure.lateStores }, { on := 9, ground := Go.Ground.phase }], guard := none }) rfl (fun K hK => ?_) AllReadyH.nil)
          obtain ⟨z0, fz0⟩ := Rg.blk_cell zq 0 (x := .int .i64 0) rfl
          obtain ⟨z1, fz1⟩ := Rg.blk_cell zq 1 (x := .int .i64 0) rfl
          obtain ⟨z2, fz2⟩ := Rg.blk_cell zq 2 (x := .bool false) rfl
          obtain ⟨z3, fz3⟩ := Rg.blk_cell zq 3 (x := .int .i64 0) rfl
          obtain ⟨z4, fz4⟩ := Rg.blk_cell zq 4 (x := .int .i64 0) rfl
          obtain ⟨z5, fz5⟩ := Rg.blk_cell zq 5 (x := .int .i64 0) rfl
          obtain ⟨z6, fz6⟩ := Rg.blk_cell zq 6 (x := .int .i64 0) rfl
          obtain ⟨z7, fz7⟩ := Rg.blk_cell zq 7 (x := .string ⟨#[]⟩) rfl
          obtain ⟨z8, fz8⟩ := Rg.blk_cell zq 8 (x := .slice none 0 0) rfl
          obtain ⟨z9, fz9⟩ := Rg.blk_cell zq 9 (x := .slice none 0 0) rfl
          go_simp
          refine hK.out _ _ ?_ (fun hHeld => ?_)
          · exact HLS.out _ (bel10 go gm.size)
          clear hK K
          (try simp only [Act.put, List.setIfInBounds_toArray, List.set_cons_zero, List.set_cons_succ])
          refine wpAnyH_take (i := 11) (oi := { dst := some 9, op := Go.Op.assign (Go.Operand.tmp 36), type := 3, pos := "exact.go:6047", after := #[{ on := 8, ground := Go.Ground.data }, { on := 10, ground := Go.Ground.chain }, { on := 0, ground := Go.Ground.phase }, { on := 1, ground := Go.Ground.phase }, { on := 2, ground := Go.Ground.phase }, { on := 3, ground := Go.Ground.phase }, { on := 4, ground := Go.Ground.phase }, { on := 5, ground := Go.Ground.phase }, { on := 6, ground := Go.Ground.phase }, { on := 7, ground := Go.Ground.phase }, { on := 8, ground := Go.Ground.phase }, { on := 9, ground := Go.Ground.phase }, { on := 10, ground := Go.Ground.phase }], guard := none }) (v := ?v48) rfl (by kernel_rfl) (by kernel_rfl) (by kernel_rfl) (fun _ _ _ h => h) (Or.inl ⟨by rfl, ?h48⟩) hHeld ?r48
          case h48 => (intro wz hz; (try dsimp only at hz); obtain ⟨⟨c0, c1, c2, c3, c4, c5, c6, c7, c8, c9⟩, ⟨e0, e1, e2, e3, e4, e5, e6, e7⟩⟩ := hz; go_simp; try (with_reducible rfl))
          simp only [Act.put, List.setIfInBounds_toArray, List.set_cons_zero, List.set_cons_succ]
          refine wpAnyH_done (by kernel_rfl) ?_ _
          refine NoPanic.normal ?_
          dsimp only
          obtain ⟨AF, HFB, GF0⟩ := set10 (.int .i64 0) (.int .i64 0) (.bool false) (.int .i64 0) (.int .i64 0) (.int .i64 0) (.int .i64 0) (.string ⟨#[]⟩) (.slice none 0 0) (.slice none 0 0) (.int .i64 d.id) (.int .i64 d.st) (.bool d.bu) (.int .i64 d.rc) (.int .i64 d.rs) (.int .i64 d.rk) (.int .i64 d.rl) (.string d.rn) (.slice a1 d.re.length k1) (.slice a2 d.ac.length k2) zq
          have hWc := (gm.alloc gm.size (.cells #[.int .i64 0, .int .i64 0, .bool false, .int .i64 0, .int .i64 0, .int .i64 0, .int .i64 0, .string ⟨#[]⟩, .slice none 0 0, .slice none 0 0] 38)).size
          refine ⟨_, ?_, ?_, ?_, ?_, ?_, ?_, ?_, ?_, ?_, ?_, wm.heap.size, a1, k1, a2, k2, rfl, ⟨AF, gm.size⟩, (ho.kept (fun g hg _ => HFB g (by omega))).mono hWc, GF0 go gm.size⟩
          · simp only [putAll, Act.put, List.setIfInBounds_toArray, List.set_cons_zero, List.set_cons_succ]
            exact rfl
      · go_simp
        refine hK.out _ _ ?_ (fun hHeld => ?_)
        · exact HLS.out _ (gn.alloc gn.size _)
        clear hK K
        (try simp only [Act.put, List.setIfInBounds_toArray, List.set_cons_zero, List.set_cons_succ])
        refine wpAnyH_ready (rs := [4]) (by kernel_rfl) (by simp) ?_
        refine (AllReadyH.cons (o := { dst := some 33, op := Go.Op.call { callee := Go.Callee.value (Go.Operand.func 8), args := #[Go.Operand.tmp 32], argTypes := #[31] }, type := 44, pos := "exact.go:6047", after := #[{ on := 3, ground := Go.Ground.data }, { on := 2, ground := Go.Ground.chain }], guard := none }) rfl (fun K hK => ?_) AllReadyH.nil)
        go_simp
        go_at_call 8
        refine (HTR.out _).mono ?_
        rintro e wm ⟨rfl, bm⟩
        have hs2 := Has.below (hs.below (bel_new _ _)) bm
        have gm := HGG.out _ _ (gn.alloc gn.size _) bm
        have zq : wm.heap[wn.heap.size]? = some (.cells #[.int .i64 0, .int .i64 0, .bool false, .int .i64 0, .int .i64 0, .int .i64 0, .int .i64 0, .string ⟨#[]⟩, .slice none 0 0, .slice none 0 0] 38) := (bm.block _ (by simp)).trans (heap_alloc_new _ _)
        try go_simp
        refine hK.out _ _ ?_ (fun hHeld => ?_)
        · exact HLS.out _ gm
        clear hK K
        (try simp only [Act.put, List.setIfInBounds_toArray, List.set_cons_zero, List.set_cons_succ])
        refine wpAnyH_ready (rs := [5]) (by kernel_rfl) (by simp) ?_
        refine (AllReadyH.cons (o := { dst := some 34, op := Go.Op.call { callee := Go.Callee.value (Go.Operand.func 6), args := #[Go.Operand.tmp 29, Go.Operand.tmp 31, Go.Operand.tmp 33], argTypes := #[3, 38, 44] }, type := 39, pos := "exact.go:6047", after := #[{ on := 0, ground := Go.Ground.data }, { on := 2, ground := Go.Ground.data }, { on := 4, ground := Go.Ground.data }, { on := 4, ground := Go.Ground.chain }], guard := none }) rfl (fun K hK => ?_) AllReadyH.nil)
        go_simp
        go_at_call 6
        have hpl := (Array.getElem?_eq_some_iff.1 zq).1
        refine (HSP.out _ _ _ _ _ (HLW.out _ gm) hs2).mono ?_
        rintro e wo ⟨a1, k1, a2, k2, rfl, ho, bo⟩
        have go := HGG.out _ _ gm bo
        have zq := (bo.block _ (Array.getElem?_eq_some_iff.1 zq).1).trans zq
        try go_simp
        refine hK.out _ _ ?_ (fun hHeld => ?_)
        · exact HLS.out _ go
        clear hK K
        (try simp only [Act.put, List.setIfInBounds_toArray, List.set_cons_zero, List.set_cons_succ])
        refine wpAnyH_take (i := 6) (oi := { dst := some 28, op := Go.Op.move (Go.Operand.tmp 34), type := 39, pos := "exact.go:6047", after := #[{ on := 5, ground := Go.Ground.data }], guard := none }) (v := ?v49) rfl (by kernel_rfl) (by kernel_rfl) (by kernel_rfl) (fun _ _ _ h => h) (Or.inl ⟨by rfl, ?h49⟩) hHeld ?r49
        case h49 => (intro wz hz; (try dsimp only at hz); obtain ⟨⟨c0, c1, c2, c3, c4, c5, c6, c7, c8, c9⟩, ⟨e0, e1, e2, e3, e4, e5, e6, e7⟩⟩ := hz; go_simp; try (with_reducible rfl))
        simp only [Act.put, List.setIfInBounds_toArray, List.set_cons_zero, List.set_cons_succ]
        refine wpAnyH_take (i := 7) (oi := { dst := some 35, op := Go.Op.extract (Go.Operand.tmp 28) 0, type := 38, pos := "exact.go:6047", after := #[{ on := 6, ground := Go.Ground.data }], guard := none }) (v := ?v50) rfl (by kernel_rfl) (by kernel_rfl) (by kernel_rfl) (fun _ _ _ h => h) (Or.inl ⟨by rfl, ?h50⟩) hHeld ?r50
        case h50 => (intro wz hz; (try dsimp only at hz); obtain ⟨⟨c0, c1, c2, c3, c4, c5, c6, c7, c8, c9⟩, ⟨e0, e1, e2, e3, e4, e5, e6, e7⟩⟩ := hz; go_simp; try (with_reducible rfl))
        simp only [Act.put, List.setIfInBounds_toArray, List.set_cons_zero, List.set_cons_succ]
        refine wpAnyH_take (i := 8) (oi := { dst := some 36, op := Go.Op.extract (Go.Operand.tmp 28) 1, type := 3, pos := "exact.go:6047", after := #[{ on := 6, ground := Go.Ground.data }, { on := 10, ground := Go.Ground.gcOnly Go.Departure.lateStores }], guard := none }) (v := ?v51) rfl (by kernel_rfl) (by kernel_rfl) (by kernel_rfl) (fun _ _ _ h => h) (Or.inl ⟨by rfl, ?h51⟩) hHeld ?r51
        case h51 => (intro wz hz; (try dsimp only at hz); obtain ⟨⟨c0, c1, c2, c3, c4, c5, c6, c7, c8, c9⟩, ⟨e0, e1, e2, e3, e4, e5, e6, e7⟩⟩ := hz; go_simp; try (with_reducible rfl))
        simp only [Act.put, List.setIfInBounds_toArray, List.set_cons_zero, List.set_cons_succ]
        refine wpAnyH_ready (rs := [10]) (by kernel_rfl) (by simp) ?_
        refine (AllReadyH.cons (o := { dst := none, op := Go.Op.store 38 (Go.Operand.tmp 8) (Go.Operand.tmp 35), type := 0, pos := "exact.go:6047", after := #[{ on := 9, ground := Go.Ground.data }, { on := 7, ground := Go.Ground.data }, { on := 5, ground := Go.Ground.chain }, { on := 0, ground := Go.Ground.phase }, { on := 1, ground := Go.Ground.phase }, { on := 2, ground := Go.Ground.phase }, { on := 3, ground := Go.Ground.phase }, { on := 4, ground := Go.Ground.phase }, { on := 5, ground := Go.Ground.phase }, { on := 6, ground := Go.Ground.phase }, { on := 7, ground := Go.Ground.phase }, { on := 8, ground := Go.Ground.textOnly Go.Departure.lateStores }, { on := 9, ground := Go.Ground.phase }], guard := none }) rfl (fun K hK => ?_) AllReadyH.nil)
        obtain ⟨z0, fz0⟩ := Rg.blk_cell zq 0 (x := .int .i64 0) rfl
        obtain ⟨z1, fz1⟩ := Rg.blk_cell zq 1 (x := .int .i64 0) rfl
        obtain ⟨z2, fz2⟩ := Rg.blk_cell zq 2 (x := .bool false) rfl
        obtain ⟨z3, fz3⟩ := Rg.blk_cell zq 3 (x := .int .i64 0) rfl
        obtain ⟨z4, fz4⟩ := Rg.blk_cell zq 4 (x := .int .i64 0) rfl
        obtain ⟨z5, fz5⟩ := Rg.blk_cell zq 5 (x := .int .i64 0) rfl
        obtain ⟨z6, fz6⟩ := Rg.blk_cell zq 6 (x := .int .i64 0) rfl
        obtain ⟨z7, fz7⟩ := Rg.blk_cell zq 7 (x := .string ⟨#[]⟩) rfl
        obtain ⟨z8, fz8⟩ := Rg.blk_cell zq 8 (x := .slice none 0 0) rfl
        obtain ⟨z9, fz9⟩ := Rg.blk_cell zq 9 (x := .slice none 0 0) rfl
        go_simp
        refine hK.out _ _ ?_ (fun hHeld => ?_)
        · exact HLS.out _ (bel10 go gn.size)
        clear hK K
        (try simp only [Act.put, List.setIfInBounds_toArray, List.set_cons_zero, List.set_cons_succ])
        refine wpAnyH_take (i := 11) (oi := { dst := some 9, op := Go.Op.assign (Go.Operand.tmp 36), type := 3, pos := "exact.go:6047", after := #[{ on := 8, ground := Go.Ground.data }, { on := 10, ground := Go.Ground.chain }, { on := 0, ground := Go.Ground.phase }, { on := 1, ground := Go.Ground.phase }, { on := 2, ground := Go.Ground.phase }, { on := 3, ground := Go.Ground.phase }, { on := 4, ground := Go.Ground.phase }, { on := 5, ground := Go.Ground.phase }, { on := 6, ground := Go.Ground.phase }, { on := 7, ground := Go.Ground.phase }, { on := 8, ground := Go.Ground.phase }, { on := 9, ground := Go.Ground.phase }, { on := 10, ground := Go.Ground.phase }], guard := none }) (v := ?v52) rfl (by kernel_rfl) (by kernel_rfl) (by kernel_rfl) (fun _ _ _ h => h) (Or.inl ⟨by rfl, ?h52⟩) hHeld ?r52
        case h52 => (intro wz hz; (try dsimp only at hz); obtain ⟨⟨c0, c1, c2, c3, c4, c5, c6, c7, c8, c9⟩, ⟨e0, e1, e2, e3, e4, e5, e6, e7⟩⟩ := hz; go_simp; try (with_reducible rfl))
        simp only [Act.put, List.setIfInBounds_toArray, List.set_cons_zero, List.set_cons_succ]
        refine wpAnyH_done (by kernel_rfl) ?_ _
        refine NoPanic.normal ?_
        dsimp only
        obtain ⟨AF, HFB, GF0⟩ := set10 (.int .i64 0) (.int .i64 0) (.bool false) (.int .i64 0) (.int .i64 0) (.int .i64 0) (.int .i64 0) (.string ⟨#[]⟩) (.slice none 0 0) (.slice none 0 0) (.int .i64 d.id) (.int .i64 d.st) (.bool d.bu) (.int .i64 d.rc) (.int .i64 d.rs) (.int .i64 d.rk) (.int .i64 d.rl) (.string d.rn) (.slice a1 d.re.length k1) (.slice a2 d.ac.length k2) zq
        have hWc := gm.size
        refine ⟨_, ?_, ?_, ?_, ?_, ?_, ?_, ?_, ?_, ?_, ?_, wn.heap.size, a1, k1, a2, k2, rfl, ⟨AF, gn.size⟩, (ho.kept (fun g hg _ => HFB g (by omega))).mono hWc, GF0 go gn.size⟩
        · simp only [putAll, Act.put, List.setIfInBounds_toArray, List.set_cons_zero, List.set_cons_succ]
          exact rfl
    · go_simp
      refine hK.out _ _ ?_ (fun hHeld => ?_)
      · exact HLS.out _ (g0.alloc g0.size _)
      clear hK K
      (try simp only [Act.put, List.setIfInBounds_toArray, List.set_cons_zero, List.set_cons_succ])
      refine wpAnyH_ready (rs := [2]) (by kernel_rfl) (by simp) ?_
      refine (AllReadyH.cons (o := { dst := some 31, op := Go.Op.call { callee := Go.Callee.value (Go.Operand.func 7), args := #[Go.Operand.tmp 30], argTypes := #[27] }, type := 38, pos := "exact.go:6047", after := #[{ on := 1, ground := Go.Ground.data }], guard := none }) rfl (fun K hK => ?_) AllReadyH.nil)
      go_simp
      go_at_call 7
      refine (HTC.out _ (HLW.out _ (g0.alloc g0.size _))).mono ?_
      rintro e wn ⟨gr, ga, rfl, hn, bn⟩
      have hs := Has.of_at hn.out.2.2.2.1 hn.out.2.2.2.2
      have gn := HGG.out _ _ (g0.alloc g0.size _) bn
      have zq : wn.heap[w2.heap.size]? = some (.cells #[.int .i64 0, .int .i64 0, .bool false, .int .i64 0, .int .i64 0, .int .i64 0, .int .i64 0, .string ⟨#[]⟩, .slice none 0 0, .slice none 0 0] 38) := (bn.block _ (by simp)).trans (heap_alloc_new _ _)
      try go_simp
      refine hK.out _ _ ?_ (fun hHeld => ?_)
      · exact HLS.out _ gn
      clear hK K
      (try simp only [Act.put, List.setIfInBounds_toArray, List.set_cons_zero, List.set_cons_succ])
      refine wpAnyH_ready (rs := [4]) (by kernel_rfl) (by simp) ?_
      refine (AllReadyH.cons (o := { dst := some 33, op := Go.Op.call { callee := Go.Callee.value (Go.Operand.func 8), args := #[Go.Operand.tmp 32], argTypes := #[31] }, type := 44, pos := "exact.go:6047", after := #[{ on := 3, ground := Go.Ground.data }, { on := 2, ground := Go.Ground.chain }], guard := none }) rfl (fun K hK => ?_) AllReadyH.nil)
      go_simp
      go_at_call 8
      refine (HTR.out _).mono ?_
      rintro e wm ⟨rfl, bm⟩
      have hs2 := Has.below hs bm
      have gm := HGG.out _ _ gn bm
      have zq := (bm.block _ (Array.getElem?_eq_some_iff.1 zq).1).trans zq
      try go_simp
      refine hK.out _ _ ?_ (fun hHeld => ?_)
      · exact HLS.out _ gm
      clear hK K
      (try simp only [Act.put, List.setIfInBounds_toArray, List.set_cons_zero, List.set_cons_succ])
      refine wpAnyH_ready (rs := [5]) (by kernel_rfl) (by simp) ?_
      refine (AllReadyH.cons (o := { dst := some 34, op := Go.Op.call { callee := Go.Callee.value (Go.Operand.func 6), args := #[Go.Operand.tmp 29, Go.Operand.tmp 31, Go.Operand.tmp 33], argTypes := #[3, 38, 44] }, type := 39, pos := "exact.go:6047", after := #[{ on := 0, ground := Go.Ground.data }, { on := 2, ground := Go.Ground.data }, { on := 4, ground := Go.Ground.data }, { on := 4, ground := Go.Ground.chain }], guard := none }) rfl (fun K hK => ?_) AllReadyH.nil)
      go_simp
      go_at_call 6
      have hpl := (Array.getElem?_eq_some_iff.1 zq).1
      refine (HSP.out _ _ _ _ _ (HLW.out _ gm) hs2).mono ?_
      rintro e wo ⟨a1, k1, a2, k2, rfl, ho, bo⟩
      have go := HGG.out _ _ gm bo
      have zq := (bo.block _ (Array.getElem?_eq_some_iff.1 zq).1).trans zq
      try go_simp
      refine hK.out _ _ ?_ (fun hHeld => ?_)
      · exact HLS.out _ go
      clear hK K
      (try simp only [Act.put, List.setIfInBounds_toArray, List.set_cons_zero, List.set_cons_succ])
      refine wpAnyH_take (i := 6) (oi := { dst := some 28, op := Go.Op.move (Go.Operand.tmp 34), type := 39, pos := "exact.go:6047", after := #[{ on := 5, ground := Go.Ground.data }], guard := none }) (v := ?v53) rfl (by kernel_rfl) (by kernel_rfl) (by kernel_rfl) (fun _ _ _ h => h) (Or.inl ⟨by rfl, ?h53⟩) hHeld ?r53
      case h53 => (intro wz hz; (try dsimp only at hz); obtain ⟨⟨c0, c1, c2, c3, c4, c5, c6, c7, c8, c9⟩, ⟨e0, e1, e2, e3, e4, e5, e6, e7⟩⟩ := hz; go_simp; try (with_reducible rfl))
      simp only [Act.put, List.setIfInBounds_toArray, List.set_cons_zero, List.set_cons_succ]
      refine wpAnyH_take (i := 7) (oi := { dst := some 35, op := Go.Op.extract (Go.Operand.tmp 28) 0, type := 38, pos := "exact.go:6047", after := #[{ on := 6, ground := Go.Ground.data }], guard := none }) (v := ?v54) rfl (by kernel_rfl) (by kernel_rfl) (by kernel_rfl) (fun _ _ _ h => h) (Or.inl ⟨by rfl, ?h54⟩) hHeld ?r54
      case h54 => (intro wz hz; (try dsimp only at hz); obtain ⟨⟨c0, c1, c2, c3, c4, c5, c6, c7, c8, c9⟩, ⟨e0, e1, e2, e3, e4, e5, e6, e7⟩⟩ := hz; go_simp; try (with_reducible rfl))
      simp only [Act.put, List.setIfInBounds_toArray, List.set_cons_zero, List.set_cons_succ]
      refine wpAnyH_take (i := 8) (oi := { dst := some 36, op := Go.Op.extract (Go.Operand.tmp 28) 1, type := 3, pos := "exact.go:6047", after := #[{ on := 6, ground := Go.Ground.data }, { on := 10, ground := Go.Ground.gcOnly Go.Departure.lateStores }], guard := none }) (v := ?v55) rfl (by kernel_rfl) (by kernel_rfl) (by kernel_rfl) (fun _ _ _ h => h) (Or.inl ⟨by rfl, ?h55⟩) hHeld ?r55
      case h55 => (intro wz hz; (try dsimp only at hz); obtain ⟨⟨c0, c1, c2, c3, c4, c5, c6, c7, c8, c9⟩, ⟨e0, e1, e2, e3, e4, e5, e6, e7⟩⟩ := hz; go_simp; try (with_reducible rfl))
      simp only [Act.put, List.setIfInBounds_toArray, List.set_cons_zero, List.set_cons_succ]
      refine wpAnyH_ready (rs := [10]) (by kernel_rfl) (by simp) ?_
      refine (AllReadyH.cons (o := { dst := none, op := Go.Op.store 38 (Go.Operand.tmp 8) (Go.Operand.tmp 35), type := 0, pos := "exact.go:6047", after := #[{ on := 9, ground := Go.Ground.data }, { on := 7, ground := Go.Ground.data }, { on := 5, ground := Go.Ground.chain }, { on := 0, ground := Go.Ground.phase }, { on := 1, ground := Go.Ground.phase }, { on := 2, ground := Go.Ground.phase }, { on := 3, ground := Go.Ground.phase }, { on := 4, ground := Go.Ground.phase }, { on := 5, ground := Go.Ground.phase }, { on := 6, ground := Go.Ground.phase }, { on := 7, ground := Go.Ground.phase }, { on := 8, ground := Go.Ground.textOnly Go.Departure.lateStores }, { on := 9, ground := Go.Ground.phase }], guard := none }) rfl (fun K hK => ?_) AllReadyH.nil)
      obtain ⟨z0, fz0⟩ := Rg.blk_cell zq 0 (x := .int .i64 0) rfl
      obtain ⟨z1, fz1⟩ := Rg.blk_cell zq 1 (x := .int .i64 0) rfl
      obtain ⟨z2, fz2⟩ := Rg.blk_cell zq 2 (x := .bool false) rfl
      obtain ⟨z3, fz3⟩ := Rg.blk_cell zq 3 (x := .int .i64 0) rfl
      obtain ⟨z4, fz4⟩ := Rg.blk_cell zq 4 (x := .int .i64 0) rfl
      obtain ⟨z5, fz5⟩ := Rg.blk_cell zq 5 (x := .int .i64 0) rfl
      obtain ⟨z6, fz6⟩ := Rg.blk_cell zq 6 (x := .int .i64 0) rfl
      obtain ⟨z7, fz7⟩ := Rg.blk_cell zq 7 (x := .string ⟨#[]⟩) rfl
      obtain ⟨z8, fz8⟩ := Rg.blk_cell zq 8 (x := .slice none 0 0) rfl
      obtain ⟨z9, fz9⟩ := Rg.blk_cell zq 9 (x := .slice none 0 0) rfl
      go_simp
      refine hK.out _ _ ?_ (fun hHeld => ?_)
      · exact HLS.out _ (bel10 go (Nat.le_refl _))
      clear hK K
      (try simp only [Act.put, List.setIfInBounds_toArray, List.set_cons_zero, List.set_cons_succ])
      refine wpAnyH_take (i := 11) (oi := { dst := some 9, op := Go.Op.assign (Go.Operand.tmp 36), type := 3, pos := "exact.go:6047", after := #[{ on := 8, ground := Go.Ground.data }, { on := 10, ground := Go.Ground.chain }, { on := 0, ground := Go.Ground.phase }, { on := 1, ground := Go.Ground.phase }, { on := 2, ground := Go.Ground.phase }, { on := 3, ground := Go.Ground.phase }, { on := 4, ground := Go.Ground.phase }, { on := 5, ground := Go.Ground.phase }, { on := 6, ground := Go.Ground.phase }, { on := 7, ground := Go.Ground.phase }, { on := 8, ground := Go.Ground.phase }, { on := 9, ground := Go.Ground.phase }, { on := 10, ground := Go.Ground.phase }], guard := none }) (v := ?v56) rfl (by kernel_rfl) (by kernel_rfl) (by kernel_rfl) (fun _ _ _ h => h) (Or.inl ⟨by rfl, ?h56⟩) hHeld ?r56
      case h56 => (intro wz hz; (try dsimp only at hz); obtain ⟨⟨c0, c1, c2, c3, c4, c5, c6, c7, c8, c9⟩, ⟨e0, e1, e2, e3, e4, e5, e6, e7⟩⟩ := hz; go_simp; try (with_reducible rfl))
      simp only [Act.put, List.setIfInBounds_toArray, List.set_cons_zero, List.set_cons_succ]
      refine wpAnyH_done (by kernel_rfl) ?_ _
      refine NoPanic.normal ?_
      dsimp only
      obtain ⟨AF, HFB, GF0⟩ := set10 (.int .i64 0) (.int .i64 0) (.bool false) (.int .i64 0) (.int .i64 0) (.int .i64 0) (.int .i64 0) (.string ⟨#[]⟩) (.slice none 0 0) (.slice none 0 0) (.int .i64 d.id) (.int .i64 d.st) (.bool d.bu) (.int .i64 d.rc) (.int .i64 d.rs) (.int .i64 d.rk) (.int .i64 d.rl) (.string d.rn) (.slice a1 d.re.length k1) (.slice a2 d.ac.length k2) zq
      have hWc := gm.size
      refine ⟨_, ?_, ?_, ?_, ?_, ?_, ?_, ?_, ?_, ?_, ?_, w2.heap.size, a1, k1, a2, k2, rfl, ⟨AF, (Nat.le_refl _)⟩, (ho.kept (fun g hg _ => HFB g (by omega))).mono hWc, GF0 go (Nat.le_refl _)⟩
      · simp only [putAll, Act.put, List.setIfInBounds_toArray, List.set_cons_zero, List.set_cons_succ]
        exact rfl
  · rintro ts u8 ⟨t1, t2, t3, t4, t5, t6, t7, t8, t9, p8, a1, k1, a2, k2, rfl, ⟨hp8, _⟩, hm8, hb8⟩
    simp only [putAll, Act.put, List.setIfInBounds_toArray, List.set_cons_zero, List.set_cons_succ]
    have H8 : Hid (∀ W, Below u8.heap.size u8 W → W.heap[p8]? = some (.cells #[.int .i64 d.id, .int .i64 d.st, .bool d.bu, .int .i64 d.rc, .int .i64 d.rs, .int .i64 d.rk, .int .i64 d.rl, .string d.rn, .slice a1 d.re.length k1, .slice a2 d.ac.length k2] 38) ∧ Has W d (.slice a1 d.re.length k1) (.slice a2 d.ac.length k2) ∧ Below wb.heap.size wb W) := fun W hW => ⟨(hW.block _ (Array.getElem?_eq_some_iff.1 hp8).1).trans hp8, hm8.has.below hW, (B2.out.trans (hb8.mono B2.out.size)).trans (hW.mono (B2.out.trans (hb8.mono B2.out.size)).size)⟩
    clear hp8 hm8 hb8 B2
    obtain ⟨⟨⟨c0, c1, c2, c3, c4, c5, c6, c7, c8, c9⟩, _⟩, g0⟩ := HL.out _ (H8.out u8 (Below.refl _ _)).2.2
    have HK := HTC.out u8 g0
    clear g0
    go_wp2_with fail
    refine HK.mono ?_
    rintro e w9 ⟨gr, ga, rfl, hc9, b9⟩
    have H9 : Hid (∀ W, Below (w9.alloc (.cells #[.int .i64 c.id, .int .i64 c.st, .bool c.bu, .int .i64 c.rc, .int .i64 c.rs, .int .i64 c.rk, .int .i64 c.rl, .string c.rn, .slice (some ⟨gr, 0, none⟩) c.re.length c.re.length, .slice (some ⟨ga, 0, none⟩) c.ac.length c.ac.length] 38)).heap.size (w9.alloc (.cells #[.int .i64 c.id, .int .i64 c.st, .bool c.bu, .int .i64 c.rc, .int .i64 c.rs, .int .i64 c.rk, .int .i64 c.rl, .string c.rn, .slice (some ⟨gr, 0, none⟩) c.re.length c.re.length, .slice (some ⟨ga, 0, none⟩) c.ac.length c.ac.length] 38)) W → W.heap[w9.heap.size]? = some (.cells #[.int .i64 c.id, .int .i64 c.st, .bool c.bu, .int .i64 c.rc, .int .i64 c.rs, .int .i64 c.rk, .int .i64 c.rl, .string c.rn, .slice (some ⟨gr, 0, none⟩) c.re.length c.re.length, .slice (some ⟨ga, 0, none⟩) c.ac.length c.ac.length] 38) ∧ (AtR W gr c.re ∧ AtA W ga c.ac) ∧ Below u8.heap.size u8 W) := fun W hW => by
      have b := (bel_new w9 (.cells #[.int .i64 c.id, .int .i64 c.st, .bool c.bu, .int .i64 c.rc, .int .i64 c.rs, .int .i64 c.rk, .int .i64 c.rl, .string c.rn, .slice (some ⟨gr, 0, none⟩) c.re.length c.re.length, .slice (some ⟨ga, 0, none⟩) c.ac.length c.ac.length] 38)).trans (hW.mono (by simp))
      exact ⟨(hW.block _ (by simp)).trans (heap_alloc_new _ _), ⟨hc9.out.2.2.2.1.keep (b.block _ hc9.out.2.2.2.1.lt), hc9.out.2.2.2.2.keep (b.block _ hc9.out.2.2.2.2.lt)⟩, b9.trans (b.mono b9.size)⟩
    have HN9 : Hid ((u8.heap.size ≤ gr ∧ gr < w9.heap.size ∧ u8.heap.size ≤ ga ∧ ga < w9.heap.size ∧ gr ≠ ga) ∧ w9.heap.size < (w9.alloc (.cells #[.int .i64 c.id, .int .i64 c.st, .bool c.bu, .int .i64 c.rc, .int .i64 c.rs, .int .i64 c.rk, .int .i64 c.rl, .string c.rn, .slice (some ⟨gr, 0, none⟩) c.re.length c.re.length, .slice (some ⟨ga, 0, none⟩) c.ac.length c.ac.length] 38)).heap.size ∧ u8.heap.size ≤ w9.heap.size) := ⟨⟨hc9.out.1, hc9.out.2.2.2.1.lt, hc9.out.2.1, hc9.out.2.2.2.2.lt, hc9.out.2.2.1⟩, by simp, b9.size⟩
    clear HK hc9 b9 c0 c1 c2 c3 c4 c5 c6 c7 c8 c9
    go_upto_region 10 with fail
    generalize w9.alloc (.cells #[.int .i64 c.id, .int .i64 c.st, .bool c.bu, .int .i64 c.rc, .int .i64 c.rs, .int .i64 c.rk, .int .i64 c.rl, .string c.rn, .slice (some ⟨gr, 0, none⟩) c.re.length c.re.length, .slice (some ⟨ga, 0, none⟩) c.ac.length c.ac.length] 38) = u9 at H9 HN9 ⊢
    generalize w9.heap.size = p10 at H9 HN9 ⊢
    have HL10 : Hid (∀ W, Below u9.heap.size u9 W → ((W.cell? ⟨p10, 0, none⟩ = some (.int .i64 c.id) ∧ W.cell? ⟨p10, 1, none⟩ = some (.int .i64 c.st) ∧ W.cell? ⟨p10, 2, none⟩ = some (.bool c.bu) ∧ W.cell? ⟨p10, 3, none⟩ = some (.int .i64 c.rc) ∧ W.cell? ⟨p10, 4, none⟩ = some (.int .i64 c.rs) ∧ W.cell? ⟨p10, 5, none⟩ = some (.int .i64 c.rk) ∧ W.cell? ⟨p10, 6, none⟩ = some (.int .i64 c.rl) ∧ W.cell? ⟨p10, 7, none⟩ = some (.string c.rn) ∧ W.cell? ⟨p10, 8, none⟩ = some (.slice (some ⟨gr, 0, none⟩) c.re.length c.re.length) ∧ W.cell? ⟨p10, 9, none⟩ = some (.slice (some ⟨ga, 0, none⟩) c.ac.length c.ac.length)) ∧ (W.cell? ⟨w.heap.size + 1, 0, none⟩ = some (.int .i64 x.nd) ∧ W.cell? ⟨w.heap.size + 1, 1, none⟩ = some (.int .i64 x.cl) ∧ W.cell? ⟨w.heap.size + 1, 2, none⟩ = some (.int .i64 x.st) ∧ W.cell? ⟨w.heap.size + 1, 3, none⟩ = some (.int .i64 x.kd) ∧ W.cell? ⟨w.heap.size + 1, 4, none⟩ = some (.int .i64 x.tk) ∧ W.cell? ⟨w.heap.size + 1, 5, none⟩ = some (.int .i64 x.hd) ∧ W.cell? ⟨w.heap.size + 1, 6, none⟩ = some (.int .i64 x.ex) ∧ W.cell? ⟨w.heap.size + 1, 7, none⟩ = some (.string x.mc))) ∧ Below w.heap.size w W) := fun W hW => by
      obtain ⟨q10, _, b9⟩ := H9.out _ hW
      have q := HL.out _ (H8.out _ b9).2.2
      exact ⟨⟨⟨(Rg.blk_cell q10 0 rfl).1, (Rg.blk_cell q10 1 rfl).1, (Rg.blk_cell q10 2 rfl).1, (Rg.blk_cell q10 3 rfl).1, (Rg.blk_cell q10 4 rfl).1, (Rg.blk_cell q10 5 rfl).1, (Rg.blk_cell q10 6 rfl).1, (Rg.blk_cell q10 7 rfl).1, (Rg.blk_cell q10 8 rfl).1, (Rg.blk_cell q10 9 rfl).1⟩, q.1.2⟩, q.2⟩
    refine cutL [40, 41, 42, 43, 44, 39, 45, 46, 11, 12] (fun ts W => ∃ t1 t2 t3 t4 t5 t6 t7 t8 p a1 k1 a2 k2, ts = [t1, t2, t3, t4, t5, t6, t7, t8, .pointer (some ⟨p, 0, none⟩), .int .i64 kk] ∧ (W.heap[p]? = some (.cells #[.int .i64 d.id, .int .i64 d.st, .bool d.bu, .int .i64 d.rc, .int .i64 d.rs, .int .i64 d.rk, .int .i64 d.rl, .string d.rn, .slice a1 d.re.length k1, .slice a2 d.ac.length k2] 38) ∧ u9.heap.size ≤ p) ∧ Mine W u9.heap.size d (.slice a1 d.re.length k1) (.slice a2 d.ac.length k2) ∧ Below u9.heap.size u9 W) ?_ ?_
    · have HGG : Hid (∀ W W' : World, Below u9.heap.size u9 W → Below W.heap.size W W' → Below u9.heap.size u9 W') := fun W W' h1 h2 => h1.trans (h2.mono h1.size)
      have HLW : Hid (∀ W, Below u9.heap.size u9 W → Below w.heap.size w W) := fun W hW => (HL10.out W hW).2
      have HLS : Hid (∀ W, Below u9.heap.size u9 W → ((W.cell? ⟨p10, 0, none⟩ = some (.int .i64 c.id) ∧ W.cell? ⟨p10, 1, none⟩ = some (.int .i64 c.st) ∧ W.cell? ⟨p10, 2, none⟩ = some (.bool c.bu) ∧ W.cell? ⟨p10, 3, none⟩ = some (.int .i64 c.rc) ∧ W.cell? ⟨p10, 4, none⟩ = some (.int .i64 c.rs) ∧ W.cell? ⟨p10, 5, none⟩ = some (.int .i64 c.rk) ∧ W.cell? ⟨p10, 6, none⟩ = some (.int .i64 c.rl) ∧ W.cell? ⟨p10, 7, none⟩ = some (.string c.rn) ∧ W.cell? ⟨p10, 8, none⟩ = some (.slice (some ⟨gr, 0, none⟩) c.re.length c.re.length) ∧ W.cell? ⟨p10, 9, none⟩ = some (.slice (some ⟨ga, 0, none⟩) c.ac.length c.ac.length)) ∧ (W.cell? ⟨w.heap.size + 1, 0, none⟩ = some (.int .i64 x.nd) ∧ W.cell? ⟨w.heap.size + 1, 1, none⟩ = some (.int .i64 x.cl) ∧ W.cell? ⟨w.heap.size + 1, 2, none⟩ = some (.int .i64 x.st) ∧ W.cell? ⟨w.heap.size + 1, 3, none⟩ = some (.int .i64 x.kd) ∧ W.cell? ⟨w.heap.size + 1, 4, none⟩ = some (.int .i64 x.tk) ∧ W.cell? ⟨w.heap.size + 1, 5, none⟩ = some (.int .i64 x.hd) ∧ W.cell? ⟨w.heap.size + 1, 6, none⟩ = some (.int .i64 x.ex) ∧ W.cell? ⟨w.heap.size + 1, 7, none⟩ = some (.string x.mc)))) := fun W hW => (HL10.out W hW).1
      have g0 : Below u9.heap.size u9 u9.drew := (Below.refl _ _).drew
      have hs := Has.of_at (H9.out u9 (Below.refl _ _)).2.1.1 (H9.out u9 (Below.refl _ _)).2.1.2
      have hs := hs.below (Below.refl _ _).drew
      refine wp_region_noPanic ?_
      refine wp_region_held_drew (S := fun W => ((W.cell? ⟨p10, 0, none⟩ = some (.int .i64 c.id) ∧ W.cell? ⟨p10, 1, none⟩ = some (.int .i64 c.st) ∧ W.cell? ⟨p10, 2, none⟩ = some (.bool c.bu) ∧ W.cell? ⟨p10, 3, none⟩ = some (.int .i64 c.rc) ∧ W.cell? ⟨p10, 4, none⟩ = some (.int .i64 c.rs) ∧ W.cell? ⟨p10, 5, none⟩ = some (.int .i64 c.rk) ∧ W.cell? ⟨p10, 6, none⟩ = some (.int .i64 c.rl) ∧ W.cell? ⟨p10, 7, none⟩ = some (.string c.rn) ∧ W.cell? ⟨p10, 8, none⟩ = some (.slice (some ⟨gr, 0, none⟩) c.re.length c.re.length) ∧ W.cell? ⟨p10, 9, none⟩ = some (.slice (some ⟨ga, 0, none⟩) c.ac.length c.ac.length)) ∧ (W.cell? ⟨w.heap.size + 1, 0, none⟩ = some (.int .i64 x.nd) ∧ W.cell? ⟨w.heap.size + 1, 1, none⟩ = some (.int .i64 x.cl) ∧ W.cell? ⟨w.heap.size + 1, 2, none⟩ = some (.int .i64 x.st) ∧ W.cell? ⟨w.heap.size + 1, 3, none⟩ = some (.int .i64 x.kd) ∧ W.cell? ⟨w.heap.size + 1, 4, none⟩ = some (.int .i64 x.tk) ∧ W.cell? ⟨w.heap.size + 1, 5, none⟩ = some (.int .i64 x.hd) ∧ W.cell? ⟨w.heap.size + 1, 6, none⟩ = some (.int .i64 x.ex) ∧ W.cell? ⟨w.heap.size + 1, 7, none⟩ = some (.string x.mc)))) (by kernel_rfl) (HLS.out _ g0) (fun hHeld => ?_)
      refine wpAnyH_take (i := 0) (oi := { dst := some 40, op := Go.Op.move (Go.Operand.tmp 0), type := 3, pos := "exact.go:6049", after := #[], guard := none }) (v := ?v1) rfl (by kernel_rfl) (by kernel_rfl) (by kernel_rfl) (fun _ _ _ h => h) (Or.inl ⟨by rfl, ?h1⟩) hHeld ?r1
      case h1 => (intro wz hz; (try dsimp only at hz); obtain ⟨⟨c0, c1, c2, c3, c4, c5, c6, c7, c8, c9⟩, ⟨e0, e1, e2, e3, e4, e5, e6, e7⟩⟩ := hz; go_simp; try (with_reducible rfl))
      simp only [Act.put, List.setIfInBounds_toArray, List.set_cons_zero, List.set_cons_succ]
      refine wpAnyH_take (i := 1) (oi := { dst := some 41, op := Go.Op.load 38 (Go.Operand.tmp 10), type := 38, pos := "exact.go:6049", after := #[], guard := none }) (v := ?v2) rfl (by kernel_rfl) (by kernel_rfl) (by kernel_rfl) (fun _ _ _ h => h) (Or.inl ⟨by rfl, ?h2⟩) hHeld ?r2
      case h2 => (intro wz hz; (try dsimp only at hz); obtain ⟨⟨c0, c1, c2, c3, c4, c5, c6, c7, c8, c9⟩, ⟨e0, e1, e2, e3, e4, e5, e6, e7⟩⟩ := hz; go_simp; try (with_reducible rfl))
      simp only [Act.put, List.setIfInBounds_toArray, List.set_cons_zero, List.set_cons_succ]
      refine wpAnyH_take (i := 2) (oi := { dst := some 42, op := Go.Op.load 31 (Go.Operand.tmp 5), type := 31, pos := "exact.go:6049", after := #[], guard := none }) (v := ?v3) rfl (by kernel_rfl) (by kernel_rfl) (by kernel_rfl) (fun _ _ _ h => h) (Or.inl ⟨by rfl, ?h3⟩) hHeld ?r3
      case h3 => (intro wz hz; (try dsimp only at hz); obtain ⟨⟨c0, c1, c2, c3, c4, c5, c6, c7, c8, c9⟩, ⟨e0, e1, e2, e3, e4, e5, e6, e7⟩⟩ := hz; go_simp; try (with_reducible rfl))
      simp only [Act.put, List.setIfInBounds_toArray, List.set_cons_zero, List.set_cons_succ]
      refine wpAnyH_ready (rs := [3, 8]) (by kernel_rfl) (by simp) ?_
      refine (AllReadyH.cons (o := { dst := some 43, op := Go.Op.call { callee := Go.Callee.value (Go.Operand.func 8), args := #[Go.Operand.tmp 42], argTypes := #[31] }, type := 44, pos := "exact.go:6049", after := #[{ on := 2, ground := Go.Ground.data }], guard := none }) rfl (fun K hK => ?_) (AllReadyH.cons (o := { dst := some 11, op := Go.Op.alloc 38, type := 0, pos := "exact.go:6049", after := #[], guard := none }) rfl (fun K hK => ?_) AllReadyH.nil))
      · go_simp
        go_at_call 8
        refine (HTR.out _).mono ?_
        rintro e wm ⟨rfl, bm⟩
        have hs2 := Has.below hs bm
        have gm := HGG.out _ _ g0 bm
        try go_simp
        refine hK.out _ _ ?_ (fun hHeld => ?_)
        · exact HLS.out _ gm
        clear hK K
        (try simp only [Act.put, List.setIfInBounds_toArray, List.set_cons_zero, List.set_cons_succ])
        refine wpAnyH_ready (rs := [4, 8]) (by kernel_rfl) (by simp) ?_
        refine (AllReadyH.cons (o := { dst := some 44, op := Go.Op.call { callee := Go.Callee.value (Go.Operand.func 9), args := #[Go.Operand.tmp 40, Go.Operand.tmp 41, Go.Operand.tmp 43], argTypes := #[3, 38, 44] }, type := 39, pos := "exact.go:6049", after := #[{ on := 0, ground := Go.Ground.data }, { on := 1, ground := Go.Ground.data }, { on := 3, ground := Go.Ground.data }, { on := 3, ground := Go.Ground.chain }], guard := none }) rfl (fun K hK => ?_) (AllReadyH.cons (o := { dst := some 11, op := Go.Op.alloc 38, type := 0, pos := "exact.go:6049", after := #[], guard := none }) rfl (fun K hK => ?_) AllReadyH.nil))
        · go_simp
          go_at_call 9
          refine (HIM.out _ _ _ _ _ (HLW.out _ gm) hs2).mono ?_
          rintro e wo ⟨a1, k1, a2, k2, rfl, ho, bo⟩
          have go := HGG.out _ _ gm bo
          try go_simp
          refine hK.out _ _ ?_ (fun hHeld => ?_)
          · exact HLS.out _ go
          clear hK K
          (try simp only [Act.put, List.setIfInBounds_toArray, List.set_cons_zero, List.set_cons_succ])
          refine wpAnyH_take (i := 5) (oi := { dst := some 39, op := Go.Op.move (Go.Operand.tmp 44), type := 39, pos := "exact.go:6049", after := #[{ on := 4, ground := Go.Ground.data }], guard := none }) (v := ?v4) rfl (by kernel_rfl) (by kernel_rfl) (by kernel_rfl) (fun _ _ _ h => h) (Or.inl ⟨by rfl, ?h4⟩) hHeld ?r4
          case h4 => (intro wz hz; (try dsimp only at hz); obtain ⟨⟨c0, c1, c2, c3, c4, c5, c6, c7, c8, c9⟩, ⟨e0, e1, e2, e3, e4, e5, e6, e7⟩⟩ := hz; go_simp; try (with_reducible rfl))
          simp only [Act.put, List.setIfInBounds_toArray, List.set_cons_zero, List.set_cons_succ]
          refine wpAnyH_take (i := 6) (oi := { dst := some 45, op := Go.Op.extract (Go.Operand.tmp 39) 0, type := 38, pos := "exact.go:6049", after := #[{ on := 5, ground := Go.Ground.data }], guard := none }) (v := ?v5) rfl (by kernel_rfl) (by kernel_rfl) (by kernel_rfl) (fun _ _ _ h => h) (Or.inl ⟨by rfl, ?h5⟩) hHeld ?r5
          case h5 => (intro wz hz; (try dsimp only at hz); obtain ⟨⟨c0, c1, c2, c3, c4, c5, c6, c7, c8, c9⟩, ⟨e0, e1, e2, e3, e4, e5, e6, e7⟩⟩ := hz; go_simp; try (with_reducible rfl))
          simp only [Act.put, List.setIfInBounds_toArray, List.set_cons_zero, List.set_cons_succ]
          refine wpAnyH_take (i := 7) (oi := { dst := some 46, op := Go.Op.extract (Go.Operand.tmp 39) 1, type := 3, pos := "exact.go:6049", after := #[{ on := 5, ground := Go.Ground.data }, { on := 9, ground := Go.Ground.gcOnly Go.Departure.lateStores }], guard := none }) (v := ?v6) rfl (by kernel_rfl) (by kernel_rfl) (by kernel_rfl) (fun _ _ _ h => h) (Or.inl ⟨by rfl, ?h6⟩) hHeld ?r6
          case h6 => (intro wz hz; (try dsimp only at hz); obtain ⟨⟨c0, c1, c2, c3, c4, c5, c6, c7, c8, c9⟩, ⟨e0, e1, e2, e3, e4, e5, e6, e7⟩⟩ := hz; go_simp; try (with_reducible rfl))
          simp only [Act.put, List.setIfInBounds_toArray, List.set_cons_zero, List.set_cons_succ]
          refine wpAnyH_ready (rs := [8]) (by kernel_rfl) (by simp) ?_
          refine (AllReadyH.cons (o := { dst := some 11, op := Go.Op.alloc 38, type := 0, pos := "exact.go:6049", after := #[], guard := none }) rfl (fun K hK => ?_) AllReadyH.nil)
          go_simp
          refine hK.out _ _ ?_ (fun hHeld => ?_)
          · exact HLS.out _ (go.alloc go.size _)
          clear hK K
          (try simp only [Act.put, List.setIfInBounds_toArray, List.set_cons_zero, List.set_cons_succ])
          refine wpAnyH_ready (rs := [9]) (by kernel_rfl) (by simp) ?_
          refine (AllReadyH.cons (o := { dst := none, op := Go.Op.store 38 (Go.Operand.tmp 11) (Go.Operand.tmp 45), type := 0, pos := "exact.go:6049", after := #[{ on := 8, ground := Go.Ground.data }, { on := 6, ground := Go.Ground.data }, { on := 4, ground := Go.Ground.chain }, { on := 0, ground := Go.Ground.phase }, { on := 1, ground := Go.Ground.phase }, { on := 2, ground := Go.Ground.phase }, { on := 3, ground := Go.Ground.phase }, { on := 4, ground := Go.Ground.phase }, { on := 5, ground := Go.Ground.phase }, { on := 6, ground := Go.Ground.phase }, { on := 7, ground := Go.Ground.textOnly Go.Departure.lateStores }, { on := 8, ground := Go.Ground.phase }], guard := none }) rfl (fun K hK => ?_) AllReadyH.nil)
          go_simp
          refine hK.out _ _ ?_ (fun hHeld => ?_)
          · exact HLS.out _ (go.alloc go.size _)
          clear hK K
          (try simp only [Act.put, List.setIfInBounds_toArray, List.set_cons_zero, List.set_cons_succ])
          refine wpAnyH_take (i := 10) (oi := { dst := some 12, op := Go.Op.assign (Go.Operand.tmp 46), type := 3, pos := "exact.go:6049", after := #[{ on := 7, ground := Go.Ground.data }, { on := 9, ground := Go.Ground.chain }, { on := 0, ground := Go.Ground.phase }, { on := 1, ground := Go.Ground.phase }, { on := 2, ground := Go.Ground.phase }, { on := 3, ground := Go.Ground.phase }, { on := 4, ground := Go.Ground.phase }, { on := 5, ground := Go.Ground.phase }, { on := 6, ground := Go.Ground.phase }, { on := 7, ground := Go.Ground.phase }, { on := 8, ground := Go.Ground.phase }, { on := 9, ground := Go.Ground.phase }], guard := none }) (v := ?v7) rfl (by kernel_rfl) (by kernel_rfl) (by kernel_rfl) (fun _ _ _ h => h) (Or.inl ⟨by rfl, ?h7⟩) hHeld ?r7
          case h7 => (intro wz hz; (try dsimp only at hz); obtain ⟨⟨c0, c1, c2, c3, c4, c5, c6, c7, c8, c9⟩, ⟨e0, e1, e2, e3, e4, e5, e6, e7⟩⟩ := hz; go_simp; try (with_reducible rfl))
          simp only [Act.put, List.setIfInBounds_toArray, List.set_cons_zero, List.set_cons_succ]
          refine wpAnyH_done (by kernel_rfl) ?_ _
          refine NoPanic.normal ?_
          dsimp only
          have hWc := gm.size
          refine ⟨_, ?_, ?_, ?_, ?_, ?_, ?_, ?_, ?_, ?_, wo.heap.size, a1, k1, a2, k2, rfl, ⟨heap_alloc_new _ _, go.size⟩, (ho.below (bel_new _ _)).mono hWc, go.alloc go.size _⟩
          · simp only [putAll, Act.put, List.setIfInBounds_toArray, List.set_cons_zero, List.set_cons_succ]
            exact rfl
        · go_simp
          refine hK.out _ _ ?_ (fun hHeld => ?_)
          · exact HLS.out _ (gm.alloc gm.size _)
          clear hK K
          (try simp only [Act.put, List.setIfInBounds_toArray, List.set_cons_zero, List.set_cons_succ])
          refine wpAnyH_ready (rs := [4]) (by kernel_rfl) (by simp) ?_
          refine (AllReadyH.cons (o := { dst := some 44, op := Go.Op.call { callee := Go.Callee.value (Go.Operand.func 9), args := #[Go.Operand.tmp 40, Go.Operand.tmp 41, Go.Operand.tmp 43], argTypes := #[3, 38, 44] }, type := 39, pos := "exact.go:6049", after := #[{ on := 0, ground := Go.Ground.data }, { on := 1, ground := Go.Ground.data }, { on := 3, ground := Go.Ground.data }, { on := 3, ground := Go.Ground.chain }], guard := none }) rfl (fun K hK => ?_) AllReadyH.nil)
          go_simp
          go_at_call 9
          have hpl : wm.heap.size < (wm.alloc (.cells #[.int .i64 0, .int .i64 0, .bool false, .int .i64 0, .int .i64 0, .int .i64 0, .int .i64 0, .string ⟨#[]⟩, .slice none 0 0, .slice none 0 0] 38)).heap.size := by simp
          refine (HIM.out _ _ _ _ _ (HLW.out _ (gm.alloc gm.size _)) (hs2.below (bel_new _ _))).mono ?_
          rintro e wo ⟨a1, k1, a2, k2, rfl, ho, bo⟩
          have go := HGG.out _ _ (gm.alloc gm.size _) bo
          have zq : wo.heap[wm.heap.size]? = some (.cells #[.int .i64 0, .int .i64 0, .bool false, .int .i64 0, .int .i64 0, .int .i64 0, .int .i64 0, .string ⟨#[]⟩, .slice none 0 0, .slice none 0 0] 38) := (bo.block _ (by simp)).trans (heap_alloc_new _ _)
          try go_simp
          refine hK.out _ _ ?_ (fun hHeld => ?_)
          · exact HLS.out _ go
          clear hK K
          (try simp only [Act.put, List.setIfInBounds_toArray, List.set_cons_zero, List.set_cons_succ])
          refine wpAnyH_take (i := 5) (oi := { dst := some 39, op := Go.Op.move (Go.Operand.tmp 44), type := 39, pos := "exact.go:6049", after := #[{ on := 4, ground := Go.Ground.data }], guard := none }) (v := ?v8) rfl (by kernel_rfl) (by kernel_rfl) (by kernel_rfl) (fun _ _ _ h => h) (Or.inl ⟨by rfl, ?h8⟩) hHeld ?r8
          case h8 => (intro wz hz; (try dsimp only at hz); obtain ⟨⟨c0, c1, c2, c3, c4, c5, c6, c7, c8, c9⟩, ⟨e0, e1, e2, e3, e4, e5, e6, e7⟩⟩ := hz; go_simp; try (with_reducible rfl))
          simp only [Act.put, List.setIfInBounds_toArray, List.set_cons_zero, List.set_cons_succ]
          refine wpAnyH_take (i := 6) (oi := { dst := some 45, op := Go.Op.extract (Go.Operand.tmp 39) 0, type := 38, pos := "exact.go:6049", after := #[{ on := 5, ground := Go.Ground.data }], guard := none }) (v := ?v9) rfl (by kernel_rfl) (by kernel_rfl) (by kernel_rfl) (fun _ _ _ h => h) (Or.inl ⟨by rfl, ?h9⟩) hHeld ?r9
          case h9 => (intro wz hz; (try dsimp only at hz); obtain ⟨⟨c0, c1, c2, c3, c4, c5, c6, c7, c8, c9⟩, ⟨e0, e1, e2, e3, e4, e5, e6, e7⟩⟩ := hz; go_simp; try (with_reducible rfl))
          simp only [Act.put, List.setIfInBounds_toArray, List.set_cons_zero, List.set_cons_succ]
          refine wpAnyH_take (i := 7) (oi := { dst := some 46, op := Go.Op.extract (Go.Operand.tmp 39) 1, type := 3, pos := "exact.go:6049", after := #[{ on := 5, ground := Go.Ground.data }, { on := 9, ground := Go.Ground.gcOnly Go.Departure.lateStores }], guard := none }) (v := ?v10) rfl (by kernel_rfl) (by kernel_rfl) (by kernel_rfl) (fun _ _ _ h => h) (Or.inl ⟨by rfl, ?h10⟩) hHeld ?r10
          case h10 => (intro wz hz; (try dsimp only at hz); obtain ⟨⟨c0, c1, c2, c3, c4, c5, c6, c7, c8, c9⟩, ⟨e0, e1, e2, e3, e4, e5, e6, e7⟩⟩ := hz; go_simp; try (with_reducible rfl))
          simp only [Act.put, List.setIfInBounds_toArray, List.set_cons_zero, List.set_cons_succ]
          refine wpAnyH_ready (rs := [9]) (by kernel_rfl) (by simp) ?_
          refine (AllReadyH.cons (o := { dst := none, op := Go.Op.store 38 (Go.Operand.tmp 11) (Go.Operand.tmp 45), type := 0, pos := "exact.go:6049", after := #[{ on := 8, ground := Go.Ground.data }, { on := 6, ground := Go.Ground.data }, { on := 4, ground := Go.Ground.chain }, { on := 0, ground := Go.Ground.phase }, { on := 1, ground := Go.Ground.phase }, { on := 2, ground := Go.Ground.phase }, { on := 3, ground := Go.Ground.phase }, { on := 4, ground := Go.Ground.phase }, { on := 5, ground := Go.Ground.phase }, { on := 6, ground := Go.Ground.phase }, { on := 7, ground := Go.Ground.textOnly Go.Departure.lateStores }, { on := 8, ground := Go.Ground.phase }], guard := none }) rfl (fun K hK => ?_) AllReadyH.nil)
          obtain ⟨z0, fz0⟩ := Rg.blk_cell zq 0 (x := .int .i64 0) rfl
          obtain ⟨z1, fz1⟩ := Rg.blk_cell zq 1 (x := .int .i64 0) rfl
          obtain ⟨z2, fz2⟩ := Rg.blk_cell zq 2 (x := .bool false) rfl
          obtain ⟨z3, fz3⟩ := Rg.blk_cell zq 3 (x := .int .i64 0) rfl
          obtain ⟨z4, fz4⟩ := Rg.blk_cell zq 4 (x := .int .i64 0) rfl
          obtain ⟨z5, fz5⟩ := Rg.blk_cell zq 5 (x := .int .i64 0) rfl
          obtain ⟨z6, fz6⟩ := Rg.blk_cell zq 6 (x := .int .i64 0) rfl
          obtain ⟨z7, fz7⟩ := Rg.blk_cell zq 7 (x := .string ⟨#[]⟩) rfl
          obtain ⟨z8, fz8⟩ := Rg.blk_cell zq 8 (x := .slice none 0 0) rfl
          obtain ⟨z9, fz9⟩ := Rg.blk_cell zq 9 (x := .slice none 0 0) rfl
          go_simp
          refine hK.out _ _ ?_ (fun hHeld => ?_)
          · exact HLS.out _ (bel10 go gm.size)
          clear hK K
          (try simp only [Act.put, List.setIfInBounds_toArray, List.set_cons_zero, List.set_cons_succ])
          refine wpAnyH_take (i := 10) (oi := { dst := some 12, op := Go.Op.assign (Go.Operand.tmp 46), type := 3, pos := "exact.go:6049", after := #[{ on := 7, ground := Go.Ground.data }, { on := 9, ground := Go.Ground.chain }, { on := 0, ground := Go.Ground.phase }, { on := 1, ground := Go.Ground.phase }, { on := 2, ground := Go.Ground.phase }, { on := 3, ground := Go.Ground.phase }, { on := 4, ground := Go.Ground.phase }, { on := 5, ground := Go.Ground.phase }, { on := 6, ground := Go.Ground.phase }, { on := 7, ground := Go.Ground.phase }, { on := 8, ground := Go.Ground.phase }, { on := 9, ground := Go.Ground.phase }], guard := none }) (v := ?v11) rfl (by kernel_rfl) (by kernel_rfl) (by kernel_rfl) (fun _ _ _ h => h) (Or.inl ⟨by rfl, ?h11⟩) hHeld ?r11
          case h11 => (intro wz hz; (try dsimp only at hz); obtain ⟨⟨c0, c1, c2, c3, c4, c5, c6, c7, c8, c9⟩, ⟨e0, e1, e2, e3, e4, e5, e6, e7⟩⟩ := hz; go_simp; try (with_reducible rfl))
          simp only [Act.put, List.setIfInBounds_toArray, List.set_cons_zero, List.set_cons_succ]
          refine wpAnyH_done (by kernel_rfl) ?_ _
          refine NoPanic.normal ?_
          dsimp only
          obtain ⟨AF, HFB, GF0⟩ := set10 (.int .i64 0) (.int .i64 0) (.bool false) (.int .i64 0) (.int .i64 0) (.int .i64 0) (.int .i64 0) (.string ⟨#[]⟩) (.slice none 0 0) (.slice none 0 0) (.int .i64 d.id) (.int .i64 d.st) (.bool d.bu) (.int .i64 d.rc) (.int .i64 d.rs) (.int .i64 d.rk) (.int .i64 d.rl) (.string d.rn) (.slice a1 d.re.length k1) (.slice a2 d.ac.length k2) zq
          have hWc := (gm.alloc gm.size (.cells #[.int .i64 0, .int .i64 0, .bool false, .int .i64 0, .int .i64 0, .int .i64 0, .int .i64 0, .string ⟨#[]⟩, .slice none 0 0, .slice none 0 0] 38)).size
          refine ⟨_, ?_, ?_, ?_, ?_, ?_, ?_, ?_, ?_, ?_, wm.heap.size, a1, k1, a2, k2, rfl, ⟨AF, gm.size⟩, (ho.kept (fun g hg _ => HFB g (by omega))).mono hWc, GF0 go gm.size⟩
          · simp only [putAll, Act.put, List.setIfInBounds_toArray, List.set_cons_zero, List.set_cons_succ]
            exact rfl
      · go_simp
        refine hK.out _ _ ?_ (fun hHeld => ?_)
        · exact HLS.out _ (g0.alloc g0.size _)
        clear hK K
        (try simp only [Act.put, List.setIfInBounds_toArray, List.set_cons_zero, List.set_cons_succ])
        refine wpAnyH_ready (rs := [3]) (by kernel_rfl) (by simp) ?_
        refine (AllReadyH.cons (o := { dst := some 43, op := Go.Op.call { callee := Go.Callee.value (Go.Operand.func 8), args := #[Go.Operand.tmp 42], argTypes := #[31] }, type := 44, pos := "exact.go:6049", after := #[{ on := 2, ground := Go.Ground.data }], guard := none }) rfl (fun K hK => ?_) AllReadyH.nil)
        go_simp
        go_at_call 8
        refine (HTR.out _).mono ?_
        rintro e wm ⟨rfl, bm⟩
        have hs2 := Has.below (hs.below (bel_new _ _)) bm
        have gm := HGG.out _ _ (g0.alloc g0.size _) bm
        have zq : wm.heap[u9.heap.size]? = some (.cells #[.int .i64 0, .int .i64 0, .bool false, .int .i64 0, .int .i64 0, .int .i64 0, .int .i64 0, .string ⟨#[]⟩, .slice none 0 0, .slice none 0 0] 38) := (bm.block _ (by simp)).trans (heap_alloc_new _ _)
        try go_simp
        refine hK.out _ _ ?_ (fun hHeld => ?_)
        · exact HLS.out _ gm
        clear hK K
        (try simp only [Act.put, List.setIfInBounds_toArray, List.set_cons_zero, List.set_cons_succ])
        refine wpAnyH_ready (rs := [4]) (by kernel_rfl) (by simp) ?_
        refine (AllReadyH.cons (o := { dst := some 44, op := Go.Op.call { callee := Go.Callee.value (Go.Operand.func 9), args := #[Go.Operand.tmp 40, Go.Operand.tmp 41, Go.Operand.tmp 43], argTypes := #[3, 38, 44] }, type := 39, pos := "exact.go:6049", after := #[{ on := 0, ground := Go.Ground.data }, { on := 1, ground := Go.Ground.data }, { on := 3, ground := Go.Ground.data }, { on := 3, ground := Go.Ground.chain }], guard := none }) rfl (fun K hK => ?_) AllReadyH.nil)
        go_simp
        go_at_call 9
        have hpl := (Array.getElem?_eq_some_iff.1 zq).1
        refine (HIM.out _ _ _ _ _ (HLW.out _ gm) hs2).mono ?_
        rintro e wo ⟨a1, k1, a2, k2, rfl, ho, bo⟩
        have go := HGG.out _ _ gm bo
        have zq := (bo.block _ (Array.getElem?_eq_some_iff.1 zq).1).trans zq
        try go_simp
        refine hK.out _ _ ?_ (fun hHeld => ?_)
        · exact HLS.out _ go
        clear hK K
        (try simp only [Act.put, List.setIfInBounds_toArray, List.set_cons_zero, List.set_cons_succ])
        refine wpAnyH_take (i := 5) (oi := { dst := some 39, op := Go.Op.move (Go.Operand.tmp 44), type := 39, pos := "exact.go:6049", after := #[{ on := 4, ground := Go.Ground.data }], guard := none }) (v := ?v12) rfl (by kernel_rfl) (by kernel_rfl) (by kernel_rfl) (fun _ _ _ h => h) (Or.inl ⟨by rfl, ?h12⟩) hHeld ?r12
        case h12 => (intro wz hz; (try dsimp only at hz); obtain ⟨⟨c0, c1, c2, c3, c4, c5, c6, c7, c8, c9⟩, ⟨e0, e1, e2, e3, e4, e5, e6, e7⟩⟩ := hz; go_simp; try (with_reducible rfl))
        simp only [Act.put, List.setIfInBounds_toArray, List.set_cons_zero, List.set_cons_succ]
        refine wpAnyH_take (i := 6) (oi := { dst := some 45, op := Go.Op.extract (Go.Operand.tmp 39) 0, type := 38, pos := "exact.go:6049", after := #[{ on := 5, ground := Go.Ground.data }], guard := none }) (v := ?v13) rfl (by kernel_rfl) (by kernel_rfl) (by kernel_rfl) (fun _ _ _ h => h) (Or.inl ⟨by rfl, ?h13⟩) hHeld ?r13
        case h13 => (intro wz hz; (try dsimp only at hz); obtain ⟨⟨c0, c1, c2, c3, c4, c5, c6, c7, c8, c9⟩, ⟨e0, e1, e2, e3, e4, e5, e6, e7⟩⟩ := hz; go_simp; try (with_reducible rfl))
        simp only [Act.put, List.setIfInBounds_toArray, List.set_cons_zero, List.set_cons_succ]
        refine wpAnyH_take (i := 7) (oi := { dst := some 46, op := Go.Op.extract (Go.Operand.tmp 39) 1, type := 3, pos := "exact.go:6049", after := #[{ on := 5, ground := Go.Ground.data }, { on := 9, ground := Go.Ground.gcOnly Go.Departure.lateStores }], guard := none }) (v := ?v14) rfl (by kernel_rfl) (by kernel_rfl) (by kernel_rfl) (fun _ _ _ h => h) (Or.inl ⟨by rfl, ?h14⟩) hHeld ?r14
        case h14 => (intro wz hz; (try dsimp only at hz); obtain ⟨⟨c0, c1, c2, c3, c4, c5, c6, c7, c8, c9⟩, ⟨e0, e1, e2, e3, e4, e5, e6, e7⟩⟩ := hz; go_simp; try (with_reducible rfl))
        simp only [Act.put, List.setIfInBounds_toArray, List.set_cons_zero, List.set_cons_succ]
        refine wpAnyH_ready (rs := [9]) (by kernel_rfl) (by simp) ?_
        refine (AllReadyH.cons (o := { dst := none, op := Go.Op.store 38 (Go.Operand.tmp 11) (Go.Operand.tmp 45), type := 0, pos := "exact.go:6049", after := #[{ on := 8, ground := Go.Ground.data }, { on := 6, ground := Go.Ground.data }, { on := 4, ground := Go.Ground.chain }, { on := 0, ground := Go.Ground.phase }, { on := 1, ground := Go.Ground.phase }, { on := 2, ground := Go.Ground.phase }, { on := 3, ground := Go.Ground.phase }, { on := 4, ground := Go.Ground.phase }, { on := 5, ground := Go.Ground.phase }, { on := 6, ground := Go.Ground.phase }, { on := 7, ground := Go.Ground.textOnly Go.Departure.lateStores }, { on := 8, ground := Go.Ground.phase }], guard := none }) rfl (fun K hK => ?_) AllReadyH.nil)
        obtain ⟨z0, fz0⟩ := Rg.blk_cell zq 0 (x := .int .i64 0) rfl
        obtain ⟨z1, fz1⟩ := Rg.blk_cell zq 1 (x := .int .i64 0) rfl
        obtain ⟨z2, fz2⟩ := Rg.blk_cell zq 2 (x := .bool false) rfl
        obtain ⟨z3, fz3⟩ := Rg.blk_cell zq 3 (x := .int .i64 0) rfl
        obtain ⟨z4, fz4⟩ := Rg.blk_cell zq 4 (x := .int .i64 0) rfl
        obtain ⟨z5, fz5⟩ := Rg.blk_cell zq 5 (x := .int .i64 0) rfl
        obtain ⟨z6, fz6⟩ := Rg.blk_cell zq 6 (x := .int .i64 0) rfl
        obtain ⟨z7, fz7⟩ := Rg.blk_cell zq 7 (x := .string ⟨#[]⟩) rfl
        obtain ⟨z8, fz8⟩ := Rg.blk_cell zq 8 (x := .slice none 0 0) rfl
        obtain ⟨z9, fz9⟩ := Rg.blk_cell zq 9 (x := .slice none 0 0) rfl
        go_simp
        refine hK.out _ _ ?_ (fun hHeld => ?_)
        · exact HLS.out _ (bel10 go (Nat.le_refl _))
        clear hK K
        (try simp only [Act.put, List.setIfInBounds_toArray, List.set_cons_zero, List.set_cons_succ])
        refine wpAnyH_take (i := 10) (oi := { dst := some 12, op := Go.Op.assign (Go.Operand.tmp 46), type := 3, pos := "exact.go:6049", after := #[{ on := 7, ground := Go.Ground.data }, { on := 9, ground := Go.Ground.chain }, { on := 0, ground := Go.Ground.phase }, { on := 1, ground := Go.Ground.phase }, { on := 2, ground := Go.Ground.phase }, { on := 3, ground := Go.Ground.phase }, { on := 4, ground := Go.Ground.phase }, { on := 5, ground := Go.Ground.phase }, { on := 6, ground := Go.Ground.phase }, { on := 7, ground := Go.Ground.phase }, { on := 8, ground := Go.Ground.phase }, { on := 9, ground := Go.Ground.phase }], guard := none }) (v := ?v15) rfl (by kernel_rfl) (by kernel_rfl) (by kernel_rfl) (fun _ _ _ h => h) (Or.inl ⟨by rfl, ?h15⟩) hHeld ?r15
        case h15 => (intro wz hz; (try dsimp only at hz); obtain ⟨⟨c0, c1, c2, c3, c4, c5, c6, c7, c8, c9⟩, ⟨e0, e1, e2, e3, e4, e5, e6, e7⟩⟩ := hz; go_simp; try (with_reducible rfl))
        simp only [Act.put, List.setIfInBounds_toArray, List.set_cons_zero, List.set_cons_succ]
        refine wpAnyH_done (by kernel_rfl) ?_ _
        refine NoPanic.normal ?_
        dsimp only
        obtain ⟨AF, HFB, GF0⟩ := set10 (.int .i64 0) (.int .i64 0) (.bool false) (.int .i64 0) (.int .i64 0) (.int .i64 0) (.int .i64 0) (.string ⟨#[]⟩) (.slice none 0 0) (.slice none 0 0) (.int .i64 d.id) (.int .i64 d.st) (.bool d.bu) (.int .i64 d.rc) (.int .i64 d.rs) (.int .i64 d.rk) (.int .i64 d.rl) (.string d.rn) (.slice a1 d.re.length k1) (.slice a2 d.ac.length k2) zq
        have hWc := gm.size
        refine ⟨_, ?_, ?_, ?_, ?_, ?_, ?_, ?_, ?_, ?_, u9.heap.size, a1, k1, a2, k2, rfl, ⟨AF, (Nat.le_refl _)⟩, (ho.kept (fun g hg _ => HFB g (by omega))).mono hWc, GF0 go (Nat.le_refl _)⟩
        · simp only [putAll, Act.put, List.setIfInBounds_toArray, List.set_cons_zero, List.set_cons_succ]
          exact rfl
    · rintro ts u10 ⟨t1', t2', t3', t4', t5', t6', t7', t8', p11, b1, l1, b2, l2, rfl, ⟨hp11, hq11⟩, hm11, hb11⟩
      simp only [putAll, Act.put, List.setIfInBounds_toArray, List.set_cons_zero, List.set_cons_succ]
      have H10 : Hid (∀ W, Below u10.heap.size u10 W → W.heap[p11]? = some (.cells #[.int .i64 d.id, .int .i64 d.st, .bool d.bu, .int .i64 d.rc, .int .i64 d.rs, .int .i64 d.rk, .int .i64 d.rl, .string d.rn, .slice b1 d.re.length l1, .slice b2 d.ac.length l2] 38) ∧ Mine W u9.heap.size d (.slice b1 d.re.length l1) (.slice b2 d.ac.length l2) ∧ Below u9.heap.size u9 W) := fun W hW => ⟨(hW.block _ (Array.getElem?_eq_some_iff.1 hp11).1).trans hp11, hm11.below hW, hb11.trans (hW.mono hb11.size)⟩
      have HN10 : Hid (u9.heap.size ≤ p11) := hq11
      clear hp11 hq11 hm11 hb11
      obtain ⟨q11, m11, b11⟩ := H10.out _ (Below.refl _ _)
      obtain ⟨_, _, b9⟩ := H9.out _ b11
      obtain ⟨q8, h8, _⟩ := H8.out _ b9
      have g0 := (Rg.blk_cell q11 0 (x := .int .i64 d.id) rfl).1
      have g1 := (Rg.blk_cell q11 1 (x := .int .i64 d.st) rfl).1
      have g2 := (Rg.blk_cell q11 2 (x := .bool d.bu) rfl).1
      have g3 := (Rg.blk_cell q11 3 (x := .int .i64 d.rc) rfl).1
      have g4 := (Rg.blk_cell q11 4 (x := .int .i64 d.rs) rfl).1
      have g5 := (Rg.blk_cell q11 5 (x := .int .i64 d.rk) rfl).1
      have g6 := (Rg.blk_cell q11 6 (x := .int .i64 d.rl) rfl).1
      have g7 := (Rg.blk_cell q11 7 (x := .string d.rn) rfl).1
      have g8 := (Rg.blk_cell q11 8 (x := .slice b1 d.re.length l1) rfl).1
      have g9 := (Rg.blk_cell q11 9 (x := .slice b2 d.ac.length l2) rfl).1
      have c0 := (Rg.blk_cell q8 0 (x := .int .i64 d.id) rfl).1
      have c1 := (Rg.blk_cell q8 1 (x := .int .i64 d.st) rfl).1
      have c2 := (Rg.blk_cell q8 2 (x := .bool d.bu) rfl).1
      have c3 := (Rg.blk_cell q8 3 (x := .int .i64 d.rc) rfl).1
      have c4 := (Rg.blk_cell q8 4 (x := .int .i64 d.rs) rfl).1
      have c5 := (Rg.blk_cell q8 5 (x := .int .i64 d.rk) rfl).1
      have c6 := (Rg.blk_cell q8 6 (x := .int .i64 d.rl) rfl).1
      have c7 := (Rg.blk_cell q8 7 (x := .string d.rn) rfl).1
      have c8 := (Rg.blk_cell q8 8 (x := .slice a1 d.re.length k1) rfl).1
      have c9 := (Rg.blk_cell q8 9 (x := .slice a2 d.ac.length k2) rfl).1
      have HK := HEQ.out u10 _ _ _ _ _ _ _ _ m11.has h8
      clear q11 m11 b11 b9 q8 h8
      go_wp2_with fail
      refine HK.mono ?_
      rintro e w11 ⟨rfl, b11⟩
      have B11 : Hid (Below u10.heap.size u10 w11) := b11
      clear HK b11 c0 c1 c2 c3 c4 c5 c6 c7 c8 c9 g0 g1 g2 g3 g4 g5 g6 g7 g8 g9
      go_upto_region 13 with fail
      refine cutL [56, 57, 58, 59, 60] (fun ts W => ∃ t1 t2 t3 t4, ts = [t1, t2, t3, t4, .bool false] ∧ Below u10.heap.size u10 W) ?_ ?_
      · have g0 : Below w11.heap.size w11 w11.drew := (Below.refl _ _).drew
        have HL13 : Hid (∀ W, Below w11.heap.size w11 W → ((W.cell? ⟨p10, 0, none⟩ = some (.int .i64 c.id) ∧ W.cell? ⟨p10, 1, none⟩ = some (.int .i64 c.st) ∧ W.cell? ⟨p10, 2, none⟩ = some (.bool c.bu) ∧ W.cell? ⟨p10, 3, none⟩ = some (.int .i64 c.rc) ∧ W.cell? ⟨p10, 4, none⟩ = some (.int .i64 c.rs) ∧ W.cell? ⟨p10, 5, none⟩ = some (.int .i64 c.rk) ∧ W.cell? ⟨p10, 6, none⟩ = some (.int .i64 c.rl) ∧ W.cell? ⟨p10, 7, none⟩ = some (.string c.rn) ∧ W.cell? ⟨p10, 8, none⟩ = some (.slice (some ⟨gr, 0, none⟩) c.re.length c.re.length) ∧ W.cell? ⟨p10, 9, none⟩ = some (.slice (some ⟨ga, 0, none⟩) c.ac.length c.ac.length)) ∧ (W.cell? ⟨w.heap.size, 0, none⟩ = some (.int .i64 c.id) ∧ W.cell? ⟨w.heap.size, 1, none⟩ = some (.int .i64 c.st) ∧ W.cell? ⟨w.heap.size, 2, none⟩ = some (.bool c.bu) ∧ W.cell? ⟨w.heap.size, 3, none⟩ = some (.int .i64 c.rc) ∧ W.cell? ⟨w.heap.size, 4, none⟩ = some (.int .i64 c.rs) ∧ W.cell? ⟨w.heap.size, 5, none⟩ = some (.int .i64 c.rk) ∧ W.cell? ⟨w.heap.size, 6, none⟩ = some (.int .i64 c.rl) ∧ W.cell? ⟨w.heap.size, 7, none⟩ = some (.string c.rn) ∧ W.cell? ⟨w.heap.size, 8, none⟩ = some (.slice ar c.re.length kr) ∧ W.cell? ⟨w.heap.size, 9, none⟩ = some (.slice aa c.ac.length ka))) ∧ Below w.heap.size w W ∧ Has W c (.slice (some ⟨gr, 0, none⟩) c.re.length c.re.length) (.slice (some ⟨ga, 0, none⟩) c.ac.length c.ac.length) ∧ Below u10.heap.size u10 W) := fun W hW => by
          have b11 := B11.out.trans (hW.mono B11.out.size)
          obtain ⟨_, _, b10⟩ := H10.out _ b11
          obtain ⟨q10, ⟨ar9, aa9⟩, b9⟩ := H9.out _ b10
          have q := HL.out _ (H8.out _ b9).2.2
          exact ⟨⟨⟨(Rg.blk_cell q10 0 rfl).1, (Rg.blk_cell q10 1 rfl).1, (Rg.blk_cell q10 2 rfl).1, (Rg.blk_cell q10 3 rfl).1, (Rg.blk_cell q10 4 rfl).1, (Rg.blk_cell q10 5 rfl).1, (Rg.blk_cell q10 6 rfl).1, (Rg.blk_cell q10 7 rfl).1, (Rg.blk_cell q10 8 rfl).1, (Rg.blk_cell q10 9 rfl).1⟩, q.1.1⟩, q.2, Has.of_at ar9 aa9, b11⟩
        refine wp_region_noPanic ?_
        refine wp_region_held_drew (S := fun W => ((W.cell? ⟨p10, 0, none⟩ = some (.int .i64 c.id) ∧ W.cell? ⟨p10, 1, none⟩ = some (.int .i64 c.st) ∧ W.cell? ⟨p10, 2, none⟩ = some (.bool c.bu) ∧ W.cell? ⟨p10, 3, none⟩ = some (.int .i64 c.rc) ∧ W.cell? ⟨p10, 4, none⟩ = some (.int .i64 c.rs) ∧ W.cell? ⟨p10, 5, none⟩ = some (.int .i64 c.rk) ∧ W.cell? ⟨p10, 6, none⟩ = some (.int .i64 c.rl) ∧ W.cell? ⟨p10, 7, none⟩ = some (.string c.rn) ∧ W.cell? ⟨p10, 8, none⟩ = some (.slice (some ⟨gr, 0, none⟩) c.re.length c.re.length) ∧ W.cell? ⟨p10, 9, none⟩ = some (.slice (some ⟨ga, 0, none⟩) c.ac.length c.ac.length)) ∧ (W.cell? ⟨w.heap.size, 0, none⟩ = some (.int .i64 c.id) ∧ W.cell? ⟨w.heap.size, 1, none⟩ = some (.int .i64 c.st) ∧ W.cell? ⟨w.heap.size, 2, none⟩ = some (.bool c.bu) ∧ W.cell? ⟨w.heap.size, 3, none⟩ = some (.int .i64 c.rc) ∧ W.cell? ⟨w.heap.size, 4, none⟩ = some (.int .i64 c.rs) ∧ W.cell? ⟨w.heap.size, 5, none⟩ = some (.int .i64 c.rk) ∧ W.cell? ⟨w.heap.size, 6, none⟩ = some (.int .i64 c.rl) ∧ W.cell? ⟨w.heap.size, 7, none⟩ = some (.string c.rn) ∧ W.cell? ⟨w.heap.size, 8, none⟩ = some (.slice ar c.re.length kr) ∧ W.cell? ⟨w.heap.size, 9, none⟩ = some (.slice aa c.ac.length ka)))) (by kernel_rfl) (HL13.out _ g0).1 (fun hHeld => ?_)
        refine wpAnyH_take (i := 0) (oi := { dst := some 56, op := Go.Op.load 38 (Go.Operand.tmp 10), type := 38, pos := "exact.go:6053", after := #[], guard := none }) (v := ?v16) rfl (by kernel_rfl) (by kernel_rfl) (by kernel_rfl) (fun _ _ _ h => h) (Or.inl ⟨by rfl, ?h16⟩) hHeld ?r16
        case h16 => (intro wz hz; (try dsimp only at hz); obtain ⟨⟨c0, c1, c2, c3, c4, c5, c6, c7, c8, c9⟩, ⟨e0, e1, e2, e3, e4, e5, e6, e7, e8, e9⟩⟩ := hz; go_simp; try (with_reducible rfl))
        simp only [Act.put, List.setIfInBounds_toArray, List.set_cons_zero, List.set_cons_succ]
        refine wpAnyH_take (i := 1) (oi := { dst := some 57, op := Go.Op.load 27 (Go.Operand.tmp 4), type := 27, pos := "exact.go:6053", after := #[], guard := none }) (v := ?v17) rfl (by kernel_rfl) (by kernel_rfl) (by kernel_rfl) (fun _ _ _ h => h) (Or.inl ⟨by rfl, ?h17⟩) hHeld ?r17
        case h17 => (intro wz hz; (try dsimp only at hz); obtain ⟨⟨c0, c1, c2, c3, c4, c5, c6, c7, c8, c9⟩, ⟨e0, e1, e2, e3, e4, e5, e6, e7, e8, e9⟩⟩ := hz; go_simp; try (with_reducible rfl))
        simp only [Act.put, List.setIfInBounds_toArray, List.set_cons_zero, List.set_cons_succ]
        refine wpAnyH_ready (rs := [2]) (by kernel_rfl) (by simp) ?_
        refine AllReadyH.cons (o := { dst := some 58, op := Go.Op.call { callee := Go.Callee.value (Go.Operand.func 7), args := #[Go.Operand.tmp 57], argTypes := #[27] }, type := 38, pos := "exact.go:6053", after := #[{ on := 1, ground := Go.Ground.data }], guard := none }) rfl (fun K hK => ?_) AllReadyH.nil
        go_simp
        go_at_call 7
        refine (HTC.out _ (HL13.out _ g0).2.1).mono ?_
        rintro e wn ⟨gr9, ga9, rfl, hn, bn⟩
        have gn := g0.trans (bn.mono g0.size)
        try go_simp
        refine hK.out _ _ ?_ (fun hHeld => ?_)
        · exact (HL13.out _ gn).1
        clear hK K
        (try simp only [Act.put, List.setIfInBounds_toArray, List.set_cons_zero, List.set_cons_succ])
        refine wpAnyH_ready (rs := [3]) (by kernel_rfl) (by simp) ?_
        refine AllReadyH.cons (o := { dst := some 59, op := Go.Op.call { callee := Go.Callee.value (Go.Operand.func 10), args := #[Go.Operand.tmp 56, Go.Operand.tmp 58], argTypes := #[38, 38] }, type := 4, pos := "exact.go:6053", after := #[{ on := 0, ground := Go.Ground.data }, { on := 2, ground := Go.Ground.data }, { on := 2, ground := Go.Ground.chain }], guard := none }) rfl (fun K hK => ?_) AllReadyH.nil
        go_simp
        go_at_call 10
        refine (HEC.out _ _ _ _ _ _ _ _ _ (HL13.out _ gn).2.2.1 (Has.of_at hn.out.2.2.2.1 hn.out.2.2.2.2)).mono ?_
        rintro e wm ⟨rfl, bm⟩
        have gm := gn.trans (bm.mono gn.size)
        try go_simp
        refine hK.out _ _ ?_ (fun hHeld => ?_)
        · exact (HL13.out _ gm).1
        clear hK K
        (try simp only [Act.put, List.setIfInBounds_toArray, List.set_cons_zero, List.set_cons_succ])
        refine wpAnyH_take (i := 4) (oi := { dst := some 60, op := Go.Op.unOp Go.UnOp.not 4 (Go.Operand.tmp 59), type := 4, pos := "exact.go:6053", after := #[{ on := 3, ground := Go.Ground.data }], guard := none }) (v := ?v18) rfl (by kernel_rfl) (by kernel_rfl) (by kernel_rfl) (fun _ _ _ h => h) (Or.inl ⟨by rfl, ?h18⟩) hHeld ?r18
        case h18 => (intro wz hz; (try dsimp only at hz); obtain ⟨⟨c0, c1, c2, c3, c4, c5, c6, c7, c8, c9⟩, ⟨e0, e1, e2, e3, e4, e5, e6, e7, e8, e9⟩⟩ := hz; go_simp; try (with_reducible rfl))
        simp only [Act.put, List.setIfInBounds_toArray, List.set_cons_zero, List.set_cons_succ]
        refine wpAnyH_done (by kernel_rfl) ?_ _
        refine NoPanic.normal ?_
        dsimp only
        refine ⟨_, ?_, ?_, ?_, ?_, ?_, rfl, (HL13.out _ gm).2.2.2⟩
        · simp only [putAll, Act.put, List.setIfInBounds_toArray, List.set_cons_zero, List.set_cons_succ]
          exact rfl
      · rintro ts u13 ⟨t1'', t2'', t3'', t4'', rfl, hb13⟩
        simp only [putAll, Act.put, List.setIfInBounds_toArray, List.set_cons_zero, List.set_cons_succ]
        have B13 : Hid (Below u10.heap.size u10 u13) := hb13
        clear hb13 B11
        obtain ⟨_, _, b10⟩ := H10.out _ B13.out
        obtain ⟨q10, ⟨ar9, aa9⟩, _⟩ := H9.out _ b10
        have g0 := (Rg.blk_cell q10 0 (x := .int .i64 c.id) rfl).1
        have g1 := (Rg.blk_cell q10 1 (x := .int .i64 c.st) rfl).1
        have g2 := (Rg.blk_cell q10 2 (x := .bool c.bu) rfl).1
        have g3 := (Rg.blk_cell q10 3 (x := .int .i64 c.rc) rfl).1
        have g4 := (Rg.blk_cell q10 4 (x := .int .i64 c.rs) rfl).1
        have g5 := (Rg.blk_cell q10 5 (x := .int .i64 c.rk) rfl).1
        have g6 := (Rg.blk_cell q10 6 (x := .int .i64 c.rl) rfl).1
        have g7 := (Rg.blk_cell q10 7 (x := .string c.rn) rfl).1
        have g8 := (Rg.blk_cell q10 8 (x := .slice (some ⟨gr, 0, none⟩) c.re.length c.re.length) rfl).1
        have g9 := (Rg.blk_cell q10 9 (x := .slice (some ⟨ga, 0, none⟩) c.ac.length c.ac.length) rfl).1
        have HK := HMC.out u13 gr ga u8.heap.size p10 ar9 aa9 HN9.out.1.1 HN9.out.1.2.1 HN9.out.1.2.2.1 HN9.out.1.2.2.2.1 HN9.out.1.2.2.2.2
        clear b10 q10 ar9 aa9
        go_wp2_with fail
        refine HK.mono ?_
        rintro e w16 ⟨⟨r16, rfl⟩, m16⟩
        have hr16 : ¬ (r16 : Int) < 0 := by omega
        have H16 : Hid (w16.heap[p11]? = some (.cells #[.int .i64 d.id, .int .i64 d.st, .bool d.bu, .int .i64 d.rc, .int .i64 d.rs, .int .i64 d.rk, .int .i64 d.rl, .string d.rn, .slice b1 d.re.length l1, .slice b2 d.ac.length l2] 38) ∧ Mine w16 u9.heap.size d (.slice b1 d.re.length l1) (.slice b2 d.ac.length l2) ∧ Below u8.heap.size u8 w16 ∧ u9.heap.size ≤ w16.heap.size) := by
          obtain ⟨q11, mm11, bb10⟩ := H10.out _ B13.out
          obtain ⟨_, _, bb9⟩ := H9.out _ bb10
          have hlt : p10 < u9.heap.size := HN9.out.2.1
          refine ⟨(m16.block _ (Array.getElem?_eq_some_iff.1 q11).1 (.inr (by have := HN10.out; omega))).trans q11, mm11.kept (fun g hg hgl => m16.block g hgl (.inr (by omega))), bb9.trans (m16.below bb9.size), Nat.le_trans bb10.size m16.size⟩
        clear HK m16 g0 g1 g2 g3 g4 g5 g6 g7 g8 g9
        obtain ⟨q8, h8, _⟩ := H8.out _ H16.out.2.2.1
        have g0 := (Rg.blk_cell H16.out.1 0 (x := .int .i64 d.id) rfl).1
        have g1 := (Rg.blk_cell H16.out.1 1 (x := .int .i64 d.st) rfl).1
        have g2 := (Rg.blk_cell H16.out.1 2 (x := .bool d.bu) rfl).1
        have g3 := (Rg.blk_cell H16.out.1 3 (x := .int .i64 d.rc) rfl).1
        have g4 := (Rg.blk_cell H16.out.1 4 (x := .int .i64 d.rs) rfl).1
        have g5 := (Rg.blk_cell H16.out.1 5 (x := .int .i64 d.rk) rfl).1
        have g6 := (Rg.blk_cell H16.out.1 6 (x := .int .i64 d.rl) rfl).1
        have g7 := (Rg.blk_cell H16.out.1 7 (x := .string d.rn) rfl).1
        have g8 := (Rg.blk_cell H16.out.1 8 (x := .slice b1 d.re.length l1) rfl).1
        have g9 := (Rg.blk_cell H16.out.1 9 (x := .slice b2 d.ac.length l2) rfl).1
        have c0 := (Rg.blk_cell q8 0 (x := .int .i64 d.id) rfl).1
        have c1 := (Rg.blk_cell q8 1 (x := .int .i64 d.st) rfl).1
        have c2 := (Rg.blk_cell q8 2 (x := .bool d.bu) rfl).1
        have c3 := (Rg.blk_cell q8 3 (x := .int .i64 d.rc) rfl).1
        have c4 := (Rg.blk_cell q8 4 (x := .int .i64 d.rs) rfl).1
        have c5 := (Rg.blk_cell q8 5 (x := .int .i64 d.rk) rfl).1
        have c6 := (Rg.blk_cell q8 6 (x := .int .i64 d.rl) rfl).1
        have c7 := (Rg.blk_cell q8 7 (x := .string d.rn) rfl).1
        have c8 := (Rg.blk_cell q8 8 (x := .slice a1 d.re.length k1) rfl).1
        have c9 := (Rg.blk_cell q8 9 (x := .slice a2 d.ac.length k2) rfl).1
        have HK := HEQ.out w16 _ _ _ _ _ _ _ _ H16.out.2.1.has h8
        clear q8 h8
        go_wp2_with fail
        refine HK.mono ?_
        rintro e w17 ⟨rfl, b17⟩
        have H17 : Hid (w17.heap[p11]? = some (.cells #[.int .i64 d.id, .int .i64 d.st, .bool d.bu, .int .i64 d.rc, .int .i64 d.rs, .int .i64 d.rk, .int .i64 d.rl, .string d.rn, .slice b1 d.re.length l1, .slice b2 d.ac.length l2] 38) ∧ Mine w17 u9.heap.size d (.slice b1 d.re.length l1) (.slice b2 d.ac.length l2) ∧ Below u8.heap.size u8 w17 ∧ u9.heap.size ≤ w17.heap.size) := ⟨(b17.block _ (Array.getElem?_eq_some_iff.1 H16.out.1).1).trans H16.out.1, H16.out.2.1.below b17, H16.out.2.2.1.trans (b17.mono H16.out.2.2.1.size), Nat.le_trans H16.out.2.2.2 b17.size⟩
        clear HK b17 H16 c0 c1 c2 c3 c4 c5 c6 c7 c8 c9 g0 g1 g2 g3 g4 g5 g6 g7 g8 g9
        have g0 := (Rg.blk_cell H17.out.1 0 (x := .int .i64 d.id) rfl).1
        have g1 := (Rg.blk_cell H17.out.1 1 (x := .int .i64 d.st) rfl).1
        have g2 := (Rg.blk_cell H17.out.1 2 (x := .bool d.bu) rfl).1
        have g3 := (Rg.blk_cell H17.out.1 3 (x := .int .i64 d.rc) rfl).1
        have g4 := (Rg.blk_cell H17.out.1 4 (x := .int .i64 d.rs) rfl).1
        have g5 := (Rg.blk_cell H17.out.1 5 (x := .int .i64 d.rk) rfl).1
        have g6 := (Rg.blk_cell H17.out.1 6 (x := .int .i64 d.rl) rfl).1
        have g7 := (Rg.blk_cell H17.out.1 7 (x := .string d.rn) rfl).1
        have g8 := (Rg.blk_cell H17.out.1 8 (x := .slice b1 d.re.length l1) rfl).1
        have g9 := (Rg.blk_cell H17.out.1 9 (x := .slice b2 d.ac.length l2) rfl).1
        have HK := HMO.out w17 u9.heap.size _ _ _ _ H17.out.2.1
        go_wp2_with fail
        refine HK.mono ?_
        rintro e w20 ⟨rfl, hh20, k20⟩
        have H20 : Hid (w20.heap[p11]? = some (.cells #[.int .i64 d.id, .int .i64 d.st, .bool d.bu, .int .i64 d.rc, .int .i64 d.rs, .int .i64 d.rk, .int .i64 d.rl, .string d.rn, .slice b1 d.re.length l1, .slice b2 d.ac.length l2] 38) ∧ HeldC w20 d (.slice b1 d.re.length l1) (.slice b2 d.ac.length l2) ∧ Below u8.heap.size u8 w20) := ⟨k20.at H17.out.2.1 H17.out.1 (by decide) (by decide), hh20, H17.out.2.2.1.trans ((k20.below H17.out.2.1 H17.out.2.2.2).mono (Nat.le_trans HN9.out.2.2 (Nat.le_of_lt HN9.out.2.1)))⟩
        clear HK hh20 k20 H17 g0 g1 g2 g3 g4 g5 g6 g7 g8 g9
        have g0 := (Rg.blk_cell H20.out.1 0 (x := .int .i64 d.id) rfl).1
        have g1 := (Rg.blk_cell H20.out.1 1 (x := .int .i64 d.st) rfl).1
        have g2 := (Rg.blk_cell H20.out.1 2 (x := .bool d.bu) rfl).1
        have g3 := (Rg.blk_cell H20.out.1 3 (x := .int .i64 d.rc) rfl).1
        have g4 := (Rg.blk_cell H20.out.1 4 (x := .int .i64 d.rs) rfl).1
        have g5 := (Rg.blk_cell H20.out.1 5 (x := .int .i64 d.rk) rfl).1
        have g6 := (Rg.blk_cell H20.out.1 6 (x := .int .i64 d.rl) rfl).1
        have g7 := (Rg.blk_cell H20.out.1 7 (x := .string d.rn) rfl).1
        have g8 := (Rg.blk_cell H20.out.1 8 (x := .slice b1 d.re.length l1) rfl).1
        have g9 := (Rg.blk_cell H20.out.1 9 (x := .slice b2 d.ac.length l2) rfl).1
        have HK := HHO.out w20 _ _ _ _ H20.out.2.1
        go_wp2_with fail
        refine HK.mono ?_
        rintro e w22 ⟨rfl, b22⟩
        have H22 : Hid (∀ W, Below w22.heap.size w22 W → W.heap[p11]? = some (.cells #[.int .i64 d.id, .int .i64 d.st, .bool d.bu, .int .i64 d.rc, .int .i64 d.rs, .int .i64 d.rk, .int .i64 d.rl, .string d.rn, .slice b1 d.re.length l1, .slice b2 d.ac.length l2] 38) ∧ HeldC W d (.slice b1 d.re.length l1) (.slice b2 d.ac.length l2) ∧ Below u8.heap.size u8 W) := fun W hW => by
          have b := b22.trans (hW.mono b22.size)
          exact ⟨(b.block _ (Array.getElem?_eq_some_iff.1 H20.out.1).1).trans H20.out.1, H20.out.2.1.below b, H20.out.2.2.trans (b.mono H20.out.2.2.size)⟩
        clear HK b22 H20 g0 g1 g2 g3 g4 g5 g6 g7 g8 g9
        go_upto_region 27 with fail
        have HL27 : Hid (∀ W, Below w22.heap.size w22 W → ((W.cell? ⟨w.heap.size, 0, none⟩ = some (.int .i64 c.id) ∧ W.cell? ⟨w.heap.size, 1, none⟩ = some (.int .i64 c.st) ∧ W.cell? ⟨w.heap.size, 2, none⟩ = some (.bool c.bu) ∧ W.cell? ⟨w.heap.size, 3, none⟩ = some (.int .i64 c.rc) ∧ W.cell? ⟨w.heap.size, 4, none⟩ = some (.int .i64 c.rs) ∧ W.cell? ⟨w.heap.size, 5, none⟩ = some (.int .i64 c.rk) ∧ W.cell? ⟨w.heap.size, 6, none⟩ = some (.int .i64 c.rl) ∧ W.cell? ⟨w.heap.size, 7, none⟩ = some (.string c.rn) ∧ W.cell? ⟨w.heap.size, 8, none⟩ = some (.slice ar c.re.length kr) ∧ W.cell? ⟨w.heap.size, 9, none⟩ = some (.slice aa c.ac.length ka)) ∧ (W.cell? ⟨w.heap.size + 1, 0, none⟩ = some (.int .i64 x.nd) ∧ W.cell? ⟨w.heap.size + 1, 1, none⟩ = some (.int .i64 x.cl) ∧ W.cell? ⟨w.heap.size + 1, 2, none⟩ = some (.int .i64 x.st) ∧ W.cell? ⟨w.heap.size + 1, 3, none⟩ = some (.int .i64 x.kd) ∧ W.cell? ⟨w.heap.size + 1, 4, none⟩ = some (.int .i64 x.tk) ∧ W.cell? ⟨w.heap.size + 1, 5, none⟩ = some (.int .i64 x.hd) ∧ W.cell? ⟨w.heap.size + 1, 6, none⟩ = some (.int .i64 x.ex) ∧ W.cell? ⟨w.heap.size + 1, 7, none⟩ = some (.string x.mc))) ∧ Below w.heap.size w W) := fun W hW => HL.out _ (H8.out _ (H22.out _ hW).2.2).2.2
        refine cutL [89, 90, 91, 92, 93, 94, 88, 95, 96, 16, 17] (fun ts W => ∃ t1 t2 t3 t4 t5 t6 t7 t8 t9 p a1 k1 a2 k2, ts = [t1, t2, t3, t4, t5, t6, t7, t8, t9, .pointer (some ⟨p, 0, none⟩), .int .i64 kk] ∧ (W.heap[p]? = some (.cells #[.int .i64 d.id, .int .i64 d.st, .bool d.bu, .int .i64 d.rc, .int .i64 d.rs, .int .i64 d.rk, .int .i64 d.rl, .string d.rn, .slice a1 d.re.length k1, .slice a2 d.ac.length k2] 38) ∧ w22.heap.size ≤ p) ∧ Mine W w22.heap.size d (.slice a1 d.re.length k1) (.slice a2 d.ac.length k2) ∧ Below w22.heap.size w22 W) ?_ ?_
        · have HGG : Hid (∀ W W' : World, Below w22.heap.size w22 W → Below W.heap.size W W' → Below w22.heap.size w22 W') := fun W W' h1 h2 => h1.trans (h2.mono h1.size)
          have HLW : Hid (∀ W, Below w22.heap.size w22 W → Below w.heap.size w W) := fun W hW => (HL27.out W hW).2
          have HLS : Hid (∀ W, Below w22.heap.size w22 W → ((W.cell? ⟨w.heap.size, 0, none⟩ = some (.int .i64 c.id) ∧ W.cell? ⟨w.heap.size, 1, none⟩ = some (.int .i64 c.st) ∧ W.cell? ⟨w.heap.size, 2, none⟩ = some (.bool c.bu) ∧ W.cell? ⟨w.heap.size, 3, none⟩ = some (.int .i64 c.rc) ∧ W.cell? ⟨w.heap.size, 4, none⟩ = some (.int .i64 c.rs) ∧ W.cell? ⟨w.heap.size, 5, none⟩ = some (.int .i64 c.rk) ∧ W.cell? ⟨w.heap.size, 6, none⟩ = some (.int .i64 c.rl) ∧ W.cell? ⟨w.heap.size, 7, none⟩ = some (.string c.rn) ∧ W.cell? ⟨w.heap.size, 8, none⟩ = some (.slice ar c.re.length kr) ∧ W.cell? ⟨w.heap.size, 9, none⟩ = some (.slice aa c.ac.length ka)) ∧ (W.cell? ⟨w.heap.size + 1, 0, none⟩ = some (.int .i64 x.nd) ∧ W.cell? ⟨w.heap.size + 1, 1, none⟩ = some (.int .i64 x.cl) ∧ W.cell? ⟨w.heap.size + 1, 2, none⟩ = some (.int .i64 x.st) ∧ W.cell? ⟨w.heap.size + 1, 3, none⟩ = some (.int .i64 x.kd) ∧ W.cell? ⟨w.heap.size + 1, 4, none⟩ = some (.int .i64 x.tk) ∧ W.cell? ⟨w.heap.size + 1, 5, none⟩ = some (.int .i64 x.hd) ∧ W.cell? ⟨w.heap.size + 1, 6, none⟩ = some (.int .i64 x.ex) ∧ W.cell? ⟨w.heap.size + 1, 7, none⟩ = some (.string x.mc)))) := fun W hW => (HL27.out W hW).1
          have g0 : Below w22.heap.size w22 w22.drew := (Below.refl _ _).drew
          refine wp_region_noPanic ?_
          refine wp_region_held_drew (S := fun W => ((W.cell? ⟨w.heap.size, 0, none⟩ = some (.int .i64 c.id) ∧ W.cell? ⟨w.heap.size, 1, none⟩ = some (.int .i64 c.st) ∧ W.cell? ⟨w.heap.size, 2, none⟩ = some (.bool c.bu) ∧ W.cell? ⟨w.heap.size, 3, none⟩ = some (.int .i64 c.rc) ∧ W.cell? ⟨w.heap.size, 4, none⟩ = some (.int .i64 c.rs) ∧ W.cell? ⟨w.heap.size, 5, none⟩ = some (.int .i64 c.rk) ∧ W.cell? ⟨w.heap.size, 6, none⟩ = some (.int .i64 c.rl) ∧ W.cell? ⟨w.heap.size, 7, none⟩ = some (.string c.rn) ∧ W.cell? ⟨w.heap.size, 8, none⟩ = some (.slice ar c.re.length kr) ∧ W.cell? ⟨w.heap.size, 9, none⟩ = some (.slice aa c.ac.length ka)) ∧ (W.cell? ⟨w.heap.size + 1, 0, none⟩ = some (.int .i64 x.nd) ∧ W.cell? ⟨w.heap.size + 1, 1, none⟩ = some (.int .i64 x.cl) ∧ W.cell? ⟨w.heap.size + 1, 2, none⟩ = some (.int .i64 x.st) ∧ W.cell? ⟨w.heap.size + 1, 3, none⟩ = some (.int .i64 x.kd) ∧ W.cell? ⟨w.heap.size + 1, 4, none⟩ = some (.int .i64 x.tk) ∧ W.cell? ⟨w.heap.size + 1, 5, none⟩ = some (.int .i64 x.hd) ∧ W.cell? ⟨w.heap.size + 1, 6, none⟩ = some (.int .i64 x.ex) ∧ W.cell? ⟨w.heap.size + 1, 7, none⟩ = some (.string x.mc)))) (by kernel_rfl) (HLS.out _ g0) (fun hHeld => ?_)
          refine wpAnyH_take (i := 0) (oi := { dst := some 89, op := Go.Op.move (Go.Operand.tmp 0), type := 3, pos := "exact.go:6071", after := #[], guard := none }) (v := ?v19) rfl (by kernel_rfl) (by kernel_rfl) (by kernel_rfl) (fun _ _ _ h => h) (Or.inl ⟨by rfl, ?h19⟩) hHeld ?r19
          case h19 => (intro wz hz; (try dsimp only at hz); obtain ⟨⟨c0, c1, c2, c3, c4, c5, c6, c7, c8, c9⟩, ⟨e0, e1, e2, e3, e4, e5, e6, e7⟩⟩ := hz; go_simp; try (with_reducible rfl))
          simp only [Act.put, List.setIfInBounds_toArray, List.set_cons_zero, List.set_cons_succ]
          refine wpAnyH_take (i := 1) (oi := { dst := some 90, op := Go.Op.load 27 (Go.Operand.tmp 4), type := 27, pos := "exact.go:6071", after := #[], guard := none }) (v := ?v20) rfl (by kernel_rfl) (by kernel_rfl) (by kernel_rfl) (fun _ _ _ h => h) (Or.inl ⟨by rfl, ?h20⟩) hHeld ?r20
          case h20 => (intro wz hz; (try dsimp only at hz); obtain ⟨⟨c0, c1, c2, c3, c4, c5, c6, c7, c8, c9⟩, ⟨e0, e1, e2, e3, e4, e5, e6, e7⟩⟩ := hz; go_simp; try (with_reducible rfl))
          simp only [Act.put, List.setIfInBounds_toArray, List.set_cons_zero, List.set_cons_succ]
          refine wpAnyH_take (i := 3) (oi := { dst := some 92, op := Go.Op.load 31 (Go.Operand.tmp 5), type := 31, pos := "exact.go:6071", after := #[], guard := none }) (v := ?v21) rfl (by kernel_rfl) (by kernel_rfl) (by kernel_rfl) (fun _ _ _ h => h) (Or.inl ⟨by rfl, ?h21⟩) hHeld ?r21
          case h21 => (intro wz hz; (try dsimp only at hz); obtain ⟨⟨c0, c1, c2, c3, c4, c5, c6, c7, c8, c9⟩, ⟨e0, e1, e2, e3, e4, e5, e6, e7⟩⟩ := hz; go_simp; try (with_reducible rfl))
          simp only [Act.put, List.setIfInBounds_toArray, List.set_cons_zero, List.set_cons_succ]
          refine wpAnyH_ready (rs := [2, 9]) (by kernel_rfl) (by simp) ?_
          refine (AllReadyH.cons (o := { dst := some 91, op := Go.Op.call { callee := Go.Callee.value (Go.Operand.func 7), args := #[Go.Operand.tmp 90], argTypes := #[27] }, type := 38, pos := "exact.go:6071", after := #[{ on := 1, ground := Go.Ground.data }], guard := none }) rfl (fun K hK => ?_) (AllReadyH.cons (o := { dst := some 16, op := Go.Op.alloc 38, type := 0, pos := "exact.go:6071", after := #[], guard := none }) rfl (fun K hK => ?_) AllReadyH.nil))
          · go_simp
            go_at_call 7
            refine (HTC.out _ (HLW.out _ g0)).mono ?_
            rintro e wn ⟨gr, ga, rfl, hn, bn⟩
            have hs := Has.of_at hn.out.2.2.2.1 hn.out.2.2.2.2
            have gn := HGG.out _ _ g0 bn
            try go_simp
            refine hK.out _ _ ?_ (fun hHeld => ?_)
            · exact HLS.out _ gn
            clear hK K
            (try simp only [Act.put, List.setIfInBounds_toArray, List.set_cons_zero, List.set_cons_succ])
            refine wpAnyH_ready (rs := [4, 9]) (by kernel_rfl) (by simp) ?_
            refine (AllReadyH.cons (o := { dst := some 93, op := Go.Op.call { callee := Go.Callee.value (Go.Operand.func 8), args := #[Go.Operand.tmp 92], argTypes := #[31] }, type := 44, pos := "exact.go:6071", after := #[{ on := 3, ground := Go.Ground.data }, { on := 2, ground := Go.Ground.chain }], guard := none }) rfl (fun K hK => ?_) (AllReadyH.cons (o := { dst := some 16, op := Go.Op.alloc 38, type := 0, pos := "exact.go:6071", after := #[], guard := none }) rfl (fun K hK => ?_) AllReadyH.nil))
            · go_simp
              go_at_call 8
              refine (HTR.out _).mono ?_
              rintro e wm ⟨rfl, bm⟩
              have hs2 := Has.below hs bm
              have gm := HGG.out _ _ gn bm
              try go_simp
              refine hK.out _ _ ?_ (fun hHeld => ?_)
              · exact HLS.out _ gm
              clear hK K
              (try simp only [Act.put, List.setIfInBounds_toArray, List.set_cons_zero, List.set_cons_succ])
              refine wpAnyH_ready (rs := [5, 9]) (by kernel_rfl) (by simp) ?_
              refine (AllReadyH.cons (o := { dst := some 94, op := Go.Op.call { callee := Go.Callee.value (Go.Operand.func 9), args := #[Go.Operand.tmp 89, Go.Operand.tmp 91, Go.Operand.tmp 93], argTypes := #[3, 38, 44] }, type := 39, pos := "exact.go:6071", after := #[{ on := 0, ground := Go.Ground.data }, { on := 2, ground := Go.Ground.data }, { on := 4, ground := Go.Ground.data }, { on := 4, ground := Go.Ground.chain }], guard := none }) rfl (fun K hK => ?_) (AllReadyH.cons (o := { dst := some 16, op := Go.Op.alloc 38, type := 0, pos := "exact.go:6071", after := #[], guard := none }) rfl (fun K hK => ?_) AllReadyH.nil))
              · go_simp
                go_at_call 9
                refine (HIM.out _ _ _ _ _ (HLW.out _ gm) hs2).mono ?_
                rintro e wo ⟨a1, k1, a2, k2, rfl, ho, bo⟩
                have go := HGG.out _ _ gm bo
                try go_simp
                refine hK.out _ _ ?_ (fun hHeld => ?_)
                · exact HLS.out _ go
                clear hK K
                (try simp only [Act.put, List.setIfInBounds_toArray, List.set_cons_zero, List.set_cons_succ])
                refine wpAnyH_take (i := 6) (oi := { dst := some 88, op := Go.Op.move (Go.Operand.tmp 94), type := 39, pos := "exact.go:6071", after := #[{ on := 5, ground := Go.Ground.data }], guard := none }) (v := ?v22) rfl (by kernel_rfl) (by kernel_rfl) (by kernel_rfl) (fun _ _ _ h => h) (Or.inl ⟨by rfl, ?h22⟩) hHeld ?r22
                case h22 => (intro wz hz; (try dsimp only at hz); obtain ⟨⟨c0, c1, c2, c3, c4, c5, c6, c7, c8, c9⟩, ⟨e0, e1, e2, e3, e4, e5, e6, e7⟩⟩ := hz; go_simp; try (with_reducible rfl))
                simp only [Act.put, List.setIfInBounds_toArray, List.set_cons_zero, List.set_cons_succ]
                refine wpAnyH_take (i := 7) (oi := { dst := some 95, op := Go.Op.extract (Go.Operand.tmp 88) 0, type := 38, pos := "exact.go:6071", after := #[{ on := 6, ground := Go.Ground.data }], guard := none }) (v := ?v23) rfl (by kernel_rfl) (by kernel_rfl) (by kernel_rfl) (fun _ _ _ h => h) (Or.inl ⟨by rfl, ?h23⟩) hHeld ?r23
                case h23 => (intro wz hz; (try dsimp only at hz); obtain ⟨⟨c0, c1, c2, c3, c4, c5, c6, c7, c8, c9⟩, ⟨e0, e1, e2, e3, e4, e5, e6, e7⟩⟩ := hz; go_simp; try (with_reducible rfl))
                simp only [Act.put, List.setIfInBounds_toArray, List.set_cons_zero, List.set_cons_succ]
                refine wpAnyH_take (i := 8) (oi := { dst := some 96, op := Go.Op.extract (Go.Operand.tmp 88) 1, type := 3, pos := "exact.go:6071", after := #[{ on := 6, ground := Go.Ground.data }, { on := 10, ground := Go.Ground.gcOnly Go.Departure.lateStores }], guard := none }) (v := ?v24) rfl (by kernel_rfl) (by kernel_rfl) (by kernel_rfl) (fun _ _ _ h => h) (Or.inl ⟨by rfl, ?h24⟩) hHeld ?r24
                case h24 => (intro wz hz; (try dsimp only at hz); obtain ⟨⟨c0, c1, c2, c3, c4, c5, c6, c7, c8, c9⟩, ⟨e0, e1, e2, e3, e4, e5, e6, e7⟩⟩ := hz; go_simp; try (with_reducible rfl))
                simp only [Act.put, List.setIfInBounds_toArray, List.set_cons_zero, List.set_cons_succ]
                refine wpAnyH_ready (rs := [9]) (by kernel_rfl) (by simp) ?_
                refine (AllReadyH.cons (o := { dst := some 16, op := Go.Op.alloc 38, type := 0, pos := "exact.go:6071", after := #[], guard := none }) rfl (fun K hK => ?_) AllReadyH.nil)
                go_simp
                refine hK.out _ _ ?_ (fun hHeld => ?_)
                · exact HLS.out _ (go.alloc go.size _)
                clear hK K
                (try simp only [Act.put, List.setIfInBounds_toArray, List.set_cons_zero, List.set_cons_succ])
                refine wpAnyH_ready (rs := [10]) (by kernel_rfl) (by simp) ?_
                refine (AllReadyH.cons (o := { dst := none, op := Go.Op.store 38 (Go.Operand.tmp 16) (Go.Operand.tmp 95), type := 0, pos := "exact.go:6071", after := #[{ on := 9, ground := Go.Ground.data }, { on := 7, ground := Go.Ground.data }, { on := 5, ground := Go.Ground.chain }, { on := 0, ground := Go.Ground.phase }, { on := 1, ground := Go.Ground.phase }, { on := 2, ground := Go.Ground.phase }, { on := 3, ground := Go.Ground.phase }, { on := 4, ground := Go.Ground.phase }, { on := 5, ground := Go.Ground.phase }, { on := 6, ground := Go.Ground.phase }, { on := 7, ground := Go.Ground.phase }, { on := 8, ground := Go.Ground.textOnly Go.Departure.lateStores }, { on := 9, ground := Go.Ground.phase }], guard := none }) rfl (fun K hK => ?_) AllReadyH.nil)
                go_simp
                refine hK.out _ _ ?_ (fun hHeld => ?_)
                · exact HLS.out _ (go.alloc go.size _)
                clear hK K
                (try simp only [Act.put, List.setIfInBounds_toArray, List.set_cons_zero, List.set_cons_succ])
                refine wpAnyH_take (i := 11) (oi := { dst := some 17, op := Go.Op.assign (Go.Operand.tmp 96), type := 3, pos := "exact.go:6071", after := #[{ on := 8, ground := Go.Ground.data }, { on := 10, ground := Go.Ground.chain }, { on := 0, ground := Go.Ground.phase }, { on := 1, ground := Go.Ground.phase }, { on := 2, ground := Go.Ground.phase }, { on := 3, ground := Go.Ground.phase }, { on := 4, ground := Go.Ground.phase }, { on := 5, ground := Go.Ground.phase }, { on := 6, ground := Go.Ground.phase }, { on := 7, ground := Go.Ground.phase }, { on := 8, ground := Go.Ground.phase }, { on := 9, ground := Go.Ground.phase }, { on := 10, ground := Go.Ground.phase }], guard := none }) (v := ?v25) rfl (by kernel_rfl) (by kernel_rfl) (by kernel_rfl) (fun _ _ _ h => h) (Or.inl ⟨by rfl, ?h25⟩) hHeld ?r25
                case h25 => (intro wz hz; (try dsimp only at hz); obtain ⟨⟨c0, c1, c2, c3, c4, c5, c6, c7, c8, c9⟩, ⟨e0, e1, e2, e3, e4, e5, e6, e7⟩⟩ := hz; go_simp; try (with_reducible rfl))
                simp only [Act.put, List.setIfInBounds_toArray, List.set_cons_zero, List.set_cons_succ]
                refine wpAnyH_done (by kernel_rfl) ?_ _
                refine NoPanic.normal ?_
                dsimp only
                have hWc := gm.size
                refine ⟨_, ?_, ?_, ?_, ?_, ?_, ?_, ?_, ?_, ?_, ?_, wo.heap.size, a1, k1, a2, k2, rfl, ⟨heap_alloc_new _ _, go.size⟩, (ho.below (bel_new _ _)).mono hWc, go.alloc go.size _⟩
                · simp only [putAll, Act.put, List.setIfInBounds_toArray, List.set_cons_zero, List.set_cons_succ]
                  exact rfl
              · go_simp
                refine hK.out _ _ ?_ (fun hHeld => ?_)
                · exact HLS.out _ (gm.alloc gm.size _)
                clear hK K
                (try simp only [Act.put, List.setIfInBounds_toArray, List.set_cons_zero, List.set_cons_succ])
                refine wpAnyH_ready (rs := [5]) (by kernel_rfl) (by simp) ?_
                refine (AllReadyH.cons (o := { dst := some 94, op := Go.Op.call { callee := Go.Callee.value (Go.Operand.func 9), args := #[Go.Operand.tmp 89, Go.Operand.tmp 91, Go.Operand.tmp 93], argTypes := #[3, 38, 44] }, type := 39, pos := "exact.go:6071", after := #[{ on := 0, ground := Go.Ground.data }, { on := 2, ground := Go.Ground.data }, { on := 4, ground := Go.Ground.data }, { on := 4, ground := Go.Ground.chain }], guard := none }) rfl (fun K hK => ?_) AllReadyH.nil)
                go_simp
                go_at_call 9
                have hpl : wm.heap.size < (wm.alloc (.cells #[.int .i64 0, .int .i64 0, .bool false, .int .i64 0, .int .i64 0, .int .i64 0, .int .i64 0, .string ⟨#[]⟩, .slice none 0 0, .slice none 0 0] 38)).heap.size := by simp
                refine (HIM.out _ _ _ _ _ (HLW.out _ (gm.alloc gm.size _)) (hs2.below (bel_new _ _))).mono ?_
                rintro e wo ⟨a1, k1, a2, k2, rfl, ho, bo⟩
                have go := HGG.out _ _ (gm.alloc gm.size _) bo
                have zq : wo.heap[wm.heap.size]? = some (.cells #[.int .i64 0, .int .i64 0, .bool false, .int .i64 0, .int .i64 0, .int .i64 0, .int .i64 0, .string ⟨#[]⟩, .slice none 0 0, .slice none 0 0] 38) := (bo.block _ (by simp)).trans (heap_alloc_new _ _)
                try go_simp
                refine hK.out _ _ ?_ (fun hHeld => ?_)
                · exact HLS.out _ go
                clear hK K
                (try simp only [Act.put, List.setIfInBounds_toArray, List.set_cons_zero, List.set_cons_succ])
                refine wpAnyH_take (i := 6) (oi := { dst := some 88, op := Go.Op.move (Go.Operand.tmp 94), type := 39, pos := "exact.go:6071", after := #[{ on := 5, ground := Go.Ground.data }], guard := none }) (v := ?v26) rfl (by kernel_rfl) (by kernel_rfl) (by kernel_rfl) (fun _ _ _ h => h) (Or.inl ⟨by rfl, ?h26⟩) hHeld ?r26
                case h26 => (intro wz hz; (try dsimp only at hz); obtain ⟨⟨c0, c1, c2, c3, c4, c5, c6, c7, c8, c9⟩, ⟨e0, e1, e2, e3, e4, e5, e6, e7⟩⟩ := hz; go_simp; try (with_reducible rfl))
                simp only [Act.put, List.setIfInBounds_toArray, List.set_cons_zero, List.set_cons_succ]
                refine wpAnyH_take (i := 7) (oi := { dst := some 95, op := Go.Op.extract (Go.Operand.tmp 88) 0, type := 38, pos := "exact.go:6071", after := #[{ on := 6, ground := Go.Ground.data }], guard := none }) (v := ?v27) rfl (by kernel_rfl) (by kernel_rfl) (by kernel_rfl) (fun _ _ _ h => h) (Or.inl ⟨by rfl, ?h27⟩) hHeld ?r27
                case h27 => (intro wz hz; (try dsimp only at hz); obtain ⟨⟨c0, c1, c2, c3, c4, c5, c6, c7, c8, c9⟩, ⟨e0, e1, e2, e3, e4, e5, e6, e7⟩⟩ := hz; go_simp; try (with_reducible rfl))
                simp only [Act.put, List.setIfInBounds_toArray, List.set_cons_zero, List.set_cons_succ]
                refine wpAnyH_take (i := 8) (oi := { dst := some 96, op := Go.Op.extract (Go.Operand.tmp 88) 1, type := 3, pos := "exact.go:6071", after := #[{ on := 6, ground := Go.Ground.data }, { on := 10, ground := Go.Ground.gcOnly Go.Departure.lateStores }], guard := none }) (v := ?v28) rfl (by kernel_rfl) (by kernel_rfl) (by kernel_rfl) (fun _ _ _ h => h) (Or.inl ⟨by rfl, ?h28⟩) hHeld ?r28
                case h28 => (intro wz hz; (try dsimp only at hz); obtain ⟨⟨c0, c1, c2, c3, c4, c5, c6, c7, c8, c9⟩, ⟨e0, e1, e2, e3, e4, e5, e6, e7⟩⟩ := hz; go_simp; try (with_reducible rfl))
                simp only [Act.put, List.setIfInBounds_toArray, List.set_cons_zero, List.set_cons_succ]
                refine wpAnyH_ready (rs := [10]) (by kernel_rfl) (by simp) ?_
                refine (AllReadyH.cons (o := { dst := none, op := Go.Op.store 38 (Go.Operand.tmp 16) (Go.Operand.tmp 95), type := 0, pos := "exact.go:6071", after := #[{ on := 9, ground := Go.Ground.data }, { on := 7, ground := Go.Ground.data }, { on := 5, ground := Go.Ground.chain }, { on := 0, ground := Go.Ground.phase }, { on := 1, ground := Go.Ground.phase }, { on := 2, ground := Go.Ground.phase }, { on := 3, ground := Go.Ground.phase }, { on := 4, ground := Go.Ground.phase }, { on := 5, ground := Go.Ground.phase }, { on := 6, ground := Go.Ground.phase }, { on := 7, ground := Go.Ground.phase }, { on := 8, ground := Go.Ground.textOnly Go.Departure.lateStores }, { on := 9, ground := Go.Ground.phase }], guard := none }) rfl (fun K hK => ?_) AllReadyH.nil)
                obtain ⟨z0, fz0⟩ := Rg.blk_cell zq 0 (x := .int .i64 0) rfl
                obtain ⟨z1, fz1⟩ := Rg.blk_cell zq 1 (x := .int .i64 0) rfl
                obtain ⟨z2, fz2⟩ := Rg.blk_cell zq 2 (x := .bool false) rfl
                obtain ⟨z3, fz3⟩ := Rg.blk_cell zq 3 (x := .int .i64 0) rfl
                obtain ⟨z4, fz4⟩ := Rg.blk_cell zq 4 (x := .int .i64 0) rfl
                obtain ⟨z5, fz5⟩ := Rg.blk_cell zq 5 (x := .int .i64 0) rfl
                obtain ⟨z6, fz6⟩ := Rg.blk_cell zq 6 (x := .int .i64 0) rfl
                obtain ⟨z7, fz7⟩ := Rg.blk_cell zq 7 (x := .string ⟨#[]⟩) rfl
                obtain ⟨z8, fz8⟩ := Rg.blk_cell zq 8 (x := .slice none 0 0) rfl
                obtain ⟨z9, fz9⟩ := Rg.blk_cell zq 9 (x := .slice none 0 0) rfl
                go_simp
                refine hK.out _ _ ?_ (fun hHeld => ?_)
                · exact HLS.out _ (bel10 go gm.size)
                clear hK K
                (try simp only [Act.put, List.setIfInBounds_toArray, List.set_cons_zero, List.set_cons_succ])
                refine wpAnyH_take (i := 11) (oi := { dst := some 17, op := Go.Op.assign (Go.Operand.tmp 96), type := 3, pos := "exact.go:6071", after := #[{ on := 8, ground := Go.Ground.data }, { on := 10, ground := Go.Ground.chain }, { on := 0, ground := Go.Ground.phase }, { on := 1, ground := Go.Ground.phase }, { on := 2, ground := Go.Ground.phase }, { on := 3, ground := Go.Ground.phase }, { on := 4, ground := Go.Ground.phase }, { on := 5, ground := Go.Ground.phase }, { on := 6, ground := Go.Ground.phase }, { on := 7, ground := Go.Ground.phase }, { on := 8, ground := Go.Ground.phase }, { on := 9, ground := Go.Ground.phase }, { on := 10, ground := Go.Ground.phase }], guard := none }) (v := ?v29) rfl (by kernel_rfl) (by kernel_rfl) (by kernel_rfl) (fun _ _ _ h => h) (Or.inl ⟨by rfl, ?h29⟩) hHeld ?r29
                case h29 => (intro wz hz; (try dsimp only at hz); obtain ⟨⟨c0, c1, c2, c3, c4, c5, c6, c7, c8, c9⟩, ⟨e0, e1, e2, e3, e4, e5, e6, e7⟩⟩ := hz; go_simp; try (with_reducible rfl))
                simp only [Act.put, List.setIfInBounds_toArray, List.set_cons_zero, List.set_cons_succ]
                refine wpAnyH_done (by kernel_rfl) ?_ _
                refine NoPanic.normal ?_
                dsimp only
                obtain ⟨AF, HFB, GF0⟩ := set10 (.int .i64 0) (.int .i64 0) (.bool false) (.int .i64 0) (.int .i64 0) (.int .i64 0) (.int .i64 0) (.string ⟨#[]⟩) (.slice none 0 0) (.slice none 0 0) (.int .i64 d.id) (.int .i64 d.st) (.bool d.bu) (.int .i64 d.rc) (.int .i64 d.rs) (.int .i64 d.rk) (.int .i64 d.rl) (.string d.rn) (.slice a1 d.re.length k1) (.slice a2 d.ac.length k2) zq
                have hWc := (gm.alloc gm.size (.cells #[.int .i64 0, .int .i64 0, .bool false, .int .i64 0, .int .i64 0, .int .i64 0, .int .i64 0, .string ⟨#[]⟩, .slice none 0 0, .slice none 0 0] 38)).size
                refine ⟨_, ?_, ?_, ?_, ?_, ?_, ?_, ?_, ?_, ?_, ?_, wm.heap.size, a1, k1, a2, k2, rfl, ⟨AF, gm.size⟩, (ho.kept (fun g hg _ => HFB g (by omega))).mono hWc, GF0 go gm.size⟩
                · simp only [putAll, Act.put, List.setIfInBounds_toArray, List.set_cons_zero, List.set_cons_succ]
                  exact rfl
            · go_simp
              refine hK.out _ _ ?_ (fun hHeld => ?_)
              · exact HLS.out _ (gn.alloc gn.size _)
              clear hK K
              (try simp only [Act.put, List.setIfInBounds_toArray, List.set_cons_zero, List.set_cons_succ])
              refine wpAnyH_ready (rs := [4]) (by kernel_rfl) (by simp) ?_
              refine (AllReadyH.cons (o := { dst := some 93, op := Go.Op.call { callee := Go.Callee.value (Go.Operand.func 8), args := #[Go.Operand.tmp 92], argTypes := #[31] }, type := 44, pos := "exact.go:6071", after := #[{ on := 3, ground := Go.Ground.data }, { on := 2, ground := Go.Ground.chain }], guard := none }) rfl (fun K hK => ?_) AllReadyH.nil)
              go_simp
              go_at_call 8
              refine (HTR.out _).mono ?_
              rintro e wm ⟨rfl, bm⟩
              have hs2 := Has.below (hs.below (bel_new _ _)) bm
              have gm := HGG.out _ _ (gn.alloc gn.size _) bm
              have zq : wm.heap[wn.heap.size]? = some (.cells #[.int .i64 0, .int .i64 0, .bool false, .int .i64 0, .int .i64 0, .int .i64 0, .int .i64 0, .string ⟨#[]⟩, .slice none 0 0, .slice none 0 0] 38) := (bm.block _ (by simp)).trans (heap_alloc_new _ _)
              try go_simp
              refine hK.out _ _ ?_ (fun hHeld => ?_)
              · exact HLS.out _ gm
              clear hK K
              (try simp only [Act.put, List.setIfInBounds_toArray, List.set_cons_zero, List.set_cons_succ])
              refine wpAnyH_ready (rs := [5]) (by kernel_rfl) (by simp) ?_
              refine (AllReadyH.cons (o := { dst := some 94, op := Go.Op.call { callee := Go.Callee.value (Go.Operand.func 9), args := #[Go.Operand.tmp 89, Go.Operand.tmp 91, Go.Operand.tmp 93], argTypes := #[3, 38, 44] }, type := 39, pos := "exact.go:6071", after := #[{ on := 0, ground := Go.Ground.data }, { on := 2, ground := Go.Ground.data }, { on := 4, ground := Go.Ground.data }, { on := 4, ground := Go.Ground.chain }], guard := none }) rfl (fun K hK => ?_) AllReadyH.nil)
              go_simp
              go_at_call 9
              have hpl := (Array.getElem?_eq_some_iff.1 zq).1
              refine (HIM.out _ _ _ _ _ (HLW.out _ gm) hs2).mono ?_
              rintro e wo ⟨a1, k1, a2, k2, rfl, ho, bo⟩
              have go := HGG.out _ _ gm bo
              have zq := (bo.block _ (Array.getElem?_eq_some_iff.1 zq).1).trans zq
              try go_simp
              refine hK.out _ _ ?_ (fun hHeld => ?_)
              · exact HLS.out _ go
              clear hK K
              (try simp only [Act.put, List.setIfInBounds_toArray, List.set_cons_zero, List.set_cons_succ])
              refine wpAnyH_take (i := 6) (oi := { dst := some 88, op := Go.Op.move (Go.Operand.tmp 94), type := 39, pos := "exact.go:6071", after := #[{ on := 5, ground := Go.Ground.data }], guard := none }) (v := ?v30) rfl (by kernel_rfl) (by kernel_rfl) (by kernel_rfl) (fun _ _ _ h => h) (Or.inl ⟨by rfl, ?h30⟩) hHeld ?r30
              case h30 => (intro wz hz; (try dsimp only at hz); obtain ⟨⟨c0, c1, c2, c3, c4, c5, c6, c7, c8, c9⟩, ⟨e0, e1, e2, e3, e4, e5, e6, e7⟩⟩ := hz; go_simp; try (with_reducible rfl))
              simp only [Act.put, List.setIfInBounds_toArray, List.set_cons_zero, List.set_cons_succ]
              refine wpAnyH_take (i := 7) (oi := { dst := some 95, op := Go.Op.extract (Go.Operand.tmp 88) 0, type := 38, pos := "exact.go:6071", after := #[{ on := 6, ground := Go.Ground.data }], guard := none }) (v := ?v31) rfl (by kernel_rfl) (by kernel_rfl) (by kernel_rfl) (fun _ _ _ h => h) (Or.inl ⟨by rfl, ?h31⟩) hHeld ?r31
              case h31 => (intro wz hz; (try dsimp only at hz); obtain ⟨⟨c0, c1, c2, c3, c4, c5, c6, c7, c8, c9⟩, ⟨e0, e1, e2, e3, e4, e5, e6, e7⟩⟩ := hz; go_simp; try (with_reducible rfl))
              simp only [Act.put, List.setIfInBounds_toArray, List.set_cons_zero, List.set_cons_succ]
              refine wpAnyH_take (i := 8) (oi := { dst := some 96, op := Go.Op.extract (Go.Operand.tmp 88) 1, type := 3, pos := "exact.go:6071", after := #[{ on := 6, ground := Go.Ground.data }, { on := 10, ground := Go.Ground.gcOnly Go.Departure.lateStores }], guard := none }) (v := ?v32) rfl (by kernel_rfl) (by kernel_rfl) (by kernel_rfl) (fun _ _ _ h => h) (Or.inl ⟨by rfl, ?h32⟩) hHeld ?r32
              case h32 => (intro wz hz; (try dsimp only at hz); obtain ⟨⟨c0, c1, c2, c3, c4, c5, c6, c7, c8, c9⟩, ⟨e0, e1, e2, e3, e4, e5, e6, e7⟩⟩ := hz; go_simp; try (with_reducible rfl))
              simp only [Act.put, List.setIfInBounds_toArray, List.set_cons_zero, List.set_cons_succ]
              refine wpAnyH_ready (rs := [10]) (by kernel_rfl) (by simp) ?_
              refine (AllReadyH.cons (o := { dst := none, op := Go.Op.store 38 (Go.Operand.tmp 16) (Go.Operand.tmp 95), type := 0, pos := "exact.go:6071", after := #[{ on := 9, ground := Go.Ground.data }, { on := 7, ground := Go.Ground.data }, { on := 5, ground := Go.Ground.chain }, { on := 0, ground := Go.Ground.phase }, { on := 1, ground := Go.Ground.phase }, { on := 2, ground := Go.Ground.phase }, { on := 3, ground := Go.Ground.phase }, { on := 4, ground := Go.Ground.phase }, { on := 5, ground := Go.Ground.phase }, { on := 6, ground := Go.Ground.phase }, { on := 7, ground := Go.Ground.phase }, { on := 8, ground := Go.Ground.textOnly Go.Departure.lateStores }, { on := 9, ground := Go.Ground.phase }], guard := none }) rfl (fun K hK => ?_) AllReadyH.nil)
              obtain ⟨z0, fz0⟩ := Rg.blk_cell zq 0 (x := .int .i64 0) rfl
              obtain ⟨z1, fz1⟩ := Rg.blk_cell zq 1 (x := .int .i64 0) rfl
              obtain ⟨z2, fz2⟩ := Rg.blk_cell zq 2 (x := .bool false) rfl
              obtain ⟨z3, fz3⟩ := Rg.blk_cell zq 3 (x := .int .i64 0) rfl
              obtain ⟨z4, fz4⟩ := Rg.blk_cell zq 4 (x := .int .i64 0) rfl
              obtain ⟨z5, fz5⟩ := Rg.blk_cell zq 5 (x := .int .i64 0) rfl
              obtain ⟨z6, fz6⟩ := Rg.blk_cell zq 6 (x := .int .i64 0) rfl
              obtain ⟨z7, fz7⟩ := Rg.blk_cell zq 7 (x := .string ⟨#[]⟩) rfl
              obtain ⟨z8, fz8⟩ := Rg.blk_cell zq 8 (x := .slice none 0 0) rfl
              obtain ⟨z9, fz9⟩ := Rg.blk_cell zq 9 (x := .slice none 0 0) rfl
              go_simp
              refine hK.out _ _ ?_ (fun hHeld => ?_)
              · exact HLS.out _ (bel10 go gn.size)
              clear hK K
              (try simp only [Act.put, List.setIfInBounds_toArray, List.set_cons_zero, List.set_cons_succ])
              refine wpAnyH_take (i := 11) (oi := { dst := some 17, op := Go.Op.assign (Go.Operand.tmp 96), type := 3, pos := "exact.go:6071", after := #[{ on := 8, ground := Go.Ground.data }, { on := 10, ground := Go.Ground.chain }, { on := 0, ground := Go.Ground.phase }, { on := 1, ground := Go.Ground.phase }, { on := 2, ground := Go.Ground.phase }, { on := 3, ground := Go.Ground.phase }, { on := 4, ground := Go.Ground.phase }, { on := 5, ground := Go.Ground.phase }, { on := 6, ground := Go.Ground.phase }, { on := 7, ground := Go.Ground.phase }, { on := 8, ground := Go.Ground.phase }, { on := 9, ground := Go.Ground.phase }, { on := 10, ground := Go.Ground.phase }], guard := none }) (v := ?v33) rfl (by kernel_rfl) (by kernel_rfl) (by kernel_rfl) (fun _ _ _ h => h) (Or.inl ⟨by rfl, ?h33⟩) hHeld ?r33
              case h33 => (intro wz hz; (try dsimp only at hz); obtain ⟨⟨c0, c1, c2, c3, c4, c5, c6, c7, c8, c9⟩, ⟨e0, e1, e2, e3, e4, e5, e6, e7⟩⟩ := hz; go_simp; try (with_reducible rfl))
              simp only [Act.put, List.setIfInBounds_toArray, List.set_cons_zero, List.set_cons_succ]
              refine wpAnyH_done (by kernel_rfl) ?_ _
              refine NoPanic.normal ?_
              dsimp only
              obtain ⟨AF, HFB, GF0⟩ := set10 (.int .i64 0) (.int .i64 0) (.bool false) (.int .i64 0) (.int .i64 0) (.int .i64 0) (.int .i64 0) (.string ⟨#[]⟩) (.slice none 0 0) (.slice none 0 0) (.int .i64 d.id) (.int .i64 d.st) (.bool d.bu) (.int .i64 d.rc) (.int .i64 d.rs) (.int .i64 d.rk) (.int .i64 d.rl) (.string d.rn) (.slice a1 d.re.length k1) (.slice a2 d.ac.length k2) zq
              have hWc := gm.size
              refine ⟨_, ?_, ?_, ?_, ?_, ?_, ?_, ?_, ?_, ?_, ?_, wn.heap.size, a1, k1, a2, k2, rfl, ⟨AF, gn.size⟩, (ho.kept (fun g hg _ => HFB g (by omega))).mono hWc, GF0 go gn.size⟩
              · simp only [putAll, Act.put, List.setIfInBounds_toArray, List.set_cons_zero, List.set_cons_succ]
                exact rfl
          · go_simp
            refine hK.out _ _ ?_ (fun hHeld => ?_)
            · exact HLS.out _ (g0.alloc g0.size _)
            clear hK K
            (try simp only [Act.put, List.setIfInBounds_toArray, List.set_cons_zero, List.set_cons_succ])
            refine wpAnyH_ready (rs := [2]) (by kernel_rfl) (by simp) ?_
            refine (AllReadyH.cons (o := { dst := some 91, op := Go.Op.call { callee := Go.Callee.value (Go.Operand.func 7), args := #[Go.Operand.tmp 90], argTypes := #[27] }, type := 38, pos := "exact.go:6071", after := #[{ on := 1, ground := Go.Ground.data }], guard := none }) rfl (fun K hK => ?_) AllReadyH.nil)
            go_simp
            go_at_call 7
            refine (HTC.out _ (HLW.out _ (g0.alloc g0.size _))).mono ?_
            rintro e wn ⟨gr, ga, rfl, hn, bn⟩
            have hs := Has.of_at hn.out.2.2.2.1 hn.out.2.2.2.2
            have gn := HGG.out _ _ (g0.alloc g0.size _) bn
            have zq : wn.heap[w22.heap.size]? = some (.cells #[.int .i64 0, .int .i64 0, .bool false, .int .i64 0, .int .i64 0, .int .i64 0, .int .i64 0, .string ⟨#[]⟩, .slice none 0 0, .slice none 0 0] 38) := (bn.block _ (by simp)).trans (heap_alloc_new _ _)
            try go_simp
            refine hK.out _ _ ?_ (fun hHeld => ?_)
            · exact HLS.out _ gn
            clear hK K
            (try simp only [Act.put, List.setIfInBounds_toArray, List.set_cons_zero, List.set_cons_succ])
            refine wpAnyH_ready (rs := [4]) (by kernel_rfl) (by simp) ?_
            refine (AllReadyH.cons (o := { dst := some 93, op := Go.Op.call { callee := Go.Callee.value (Go.Operand.func 8), args := #[Go.Operand.tmp 92], argTypes := #[31] }, type := 44, pos := "exact.go:6071", after := #[{ on := 3, ground := Go.Ground.data }, { on := 2, ground := Go.Ground.chain }], guard := none }) rfl (fun K hK => ?_) AllReadyH.nil)
            go_simp
            go_at_call 8
            refine (HTR.out _).mono ?_
            rintro e wm ⟨rfl, bm⟩
            have hs2 := Has.below hs bm
            have gm := HGG.out _ _ gn bm
            have zq := (bm.block _ (Array.getElem?_eq_some_iff.1 zq).1).trans zq
            try go_simp
            refine hK.out _ _ ?_ (fun hHeld => ?_)
            · exact HLS.out _ gm
            clear hK K
            (try simp only [Act.put, List.setIfInBounds_toArray, List.set_cons_zero, List.set_cons_succ])
            refine wpAnyH_ready (rs := [5]) (by kernel_rfl) (by simp) ?_
            refine (AllReadyH.cons (o := { dst := some 94, op := Go.Op.call { callee := Go.Callee.value (Go.Operand.func 9), args := #[Go.Operand.tmp 89, Go.Operand.tmp 91, Go.Operand.tmp 93], argTypes := #[3, 38, 44] }, type := 39, pos := "exact.go:6071", after := #[{ on := 0, ground := Go.Ground.data }, { on := 2, ground := Go.Ground.data }, { on := 4, ground := Go.Ground.data }, { on := 4, ground := Go.Ground.chain }], guard := none }) rfl (fun K hK => ?_) AllReadyH.nil)
            go_simp
            go_at_call 9
            have hpl := (Array.getElem?_eq_some_iff.1 zq).1
            refine (HIM.out _ _ _ _ _ (HLW.out _ gm) hs2).mono ?_
            rintro e wo ⟨a1, k1, a2, k2, rfl, ho, bo⟩
            have go := HGG.out _ _ gm bo
            have zq := (bo.block _ (Array.getElem?_eq_some_iff.1 zq).1).trans zq
            try go_simp
            refine hK.out _ _ ?_ (fun hHeld => ?_)
            · exact HLS.out _ go
            clear hK K
            (try simp only [Act.put, List.setIfInBounds_toArray, List.set_cons_zero, List.set_cons_succ])
            refine wpAnyH_take (i := 6) (oi := { dst := some 88, op := Go.Op.move (Go.Operand.tmp 94), type := 39, pos := "exact.go:6071", after := #[{ on := 5, ground := Go.Ground.data }], guard := none }) (v := ?v34) rfl (by kernel_rfl) (by kernel_rfl) (by kernel_rfl) (fun _ _ _ h => h) (Or.inl ⟨by rfl, ?h34⟩) hHeld ?r34
            case h34 => (intro wz hz; (try dsimp only at hz); obtain ⟨⟨c0, c1, c2, c3, c4, c5, c6, c7, c8, c9⟩, ⟨e0, e1, e2, e3, e4, e5, e6, e7⟩⟩ := hz; go_simp; try (with_reducible rfl))
            simp only [Act.put, List.setIfInBounds_toArray, List.set_cons_zero, List.set_cons_succ]
            refine wpAnyH_take (i := 7) (oi := { dst := some 95, op := Go.Op.extract (Go.Operand.tmp 88) 0, type := 38, pos := "exact.go:6071", after := #[{ on := 6, ground := Go.Ground.data }], guard := none }) (v := ?v35) rfl (by kernel_rfl) (by kernel_rfl) (by kernel_rfl) (fun _ _ _ h => h) (Or.inl ⟨by rfl, ?h35⟩) hHeld ?r35
            case h35 => (intro wz hz; (try dsimp only at hz); obtain ⟨⟨c0, c1, c2, c3, c4, c5, c6, c7, c8, c9⟩, ⟨e0, e1, e2, e3, e4, e5, e6, e7⟩⟩ := hz; go_simp; try (with_reducible rfl))
            simp only [Act.put, List.setIfInBounds_toArray, List.set_cons_zero, List.set_cons_succ]
            refine wpAnyH_take (i := 8) (oi := { dst := some 96, op := Go.Op.extract (Go.Operand.tmp 88) 1, type := 3, pos := "exact.go:6071", after := #[{ on := 6, ground := Go.Ground.data }, { on := 10, ground := Go.Ground.gcOnly Go.Departure.lateStores }], guard := none }) (v := ?v36) rfl (by kernel_rfl) (by kernel_rfl) (by kernel_rfl) (fun _ _ _ h => h) (Or.inl ⟨by rfl, ?h36⟩) hHeld ?r36
            case h36 => (intro wz hz; (try dsimp only at hz); obtain ⟨⟨c0, c1, c2, c3, c4, c5, c6, c7, c8, c9⟩, ⟨e0, e1, e2, e3, e4, e5, e6, e7⟩⟩ := hz; go_simp; try (with_reducible rfl))
            simp only [Act.put, List.setIfInBounds_toArray, List.set_cons_zero, List.set_cons_succ]
            refine wpAnyH_ready (rs := [10]) (by kernel_rfl) (by simp) ?_
            refine (AllReadyH.cons (o := { dst := none, op := Go.Op.store 38 (Go.Operand.tmp 16) (Go.Operand.tmp 95), type := 0, pos := "exact.go:6071", after := #[{ on := 9, ground := Go.Ground.data }, { on := 7, ground := Go.Ground.data }, { on := 5, ground := Go.Ground.chain }, { on := 0, ground := Go.Ground.phase }, { on := 1, ground := Go.Ground.phase }, { on := 2, ground := Go.Ground.phase }, { on := 3, ground := Go.Ground.phase }, { on := 4, ground := Go.Ground.phase }, { on := 5, ground := Go.Ground.phase }, { on := 6, ground := Go.Ground.phase }, { on := 7, ground := Go.Ground.phase }, { on := 8, ground := Go.Ground.textOnly Go.Departure.lateStores }, { on := 9, ground := Go.Ground.phase }], guard := none }) rfl (fun K hK => ?_) AllReadyH.nil)
            obtain ⟨z0, fz0⟩ := Rg.blk_cell zq 0 (x := .int .i64 0) rfl
            obtain ⟨z1, fz1⟩ := Rg.blk_cell zq 1 (x := .int .i64 0) rfl
            obtain ⟨z2, fz2⟩ := Rg.blk_cell zq 2 (x := .bool false) rfl
            obtain ⟨z3, fz3⟩ := Rg.blk_cell zq 3 (x := .int .i64 0) rfl
            obtain ⟨z4, fz4⟩ := Rg.blk_cell zq 4 (x := .int .i64 0) rfl
            obtain ⟨z5, fz5⟩ := Rg.blk_cell zq 5 (x := .int .i64 0) rfl
            obtain ⟨z6, fz6⟩ := Rg.blk_cell zq 6 (x := .int .i64 0) rfl
            obtain ⟨z7, fz7⟩ := Rg.blk_cell zq 7 (x := .string ⟨#[]⟩) rfl
            obtain ⟨z8, fz8⟩ := Rg.blk_cell zq 8 (x := .slice none 0 0) rfl
            obtain ⟨z9, fz9⟩ := Rg.blk_cell zq 9 (x := .slice none 0 0) rfl
            go_simp
            refine hK.out _ _ ?_ (fun hHeld => ?_)
            · exact HLS.out _ (bel10 go (Nat.le_refl _))
            clear hK K
            (try simp only [Act.put, List.setIfInBounds_toArray, List.set_cons_zero, List.set_cons_succ])
            refine wpAnyH_take (i := 11) (oi := { dst := some 17, op := Go.Op.assign (Go.Operand.tmp 96), type := 3, pos := "exact.go:6071", after := #[{ on := 8, ground := Go.Ground.data }, { on := 10, ground := Go.Ground.chain }, { on := 0, ground := Go.Ground.phase }, { on := 1, ground := Go.Ground.phase }, { on := 2, ground := Go.Ground.phase }, { on := 3, ground := Go.Ground.phase }, { on := 4, ground := Go.Ground.phase }, { on := 5, ground := Go.Ground.phase }, { on := 6, ground := Go.Ground.phase }, { on := 7, ground := Go.Ground.phase }, { on := 8, ground := Go.Ground.phase }, { on := 9, ground := Go.Ground.phase }, { on := 10, ground := Go.Ground.phase }], guard := none }) (v := ?v37) rfl (by kernel_rfl) (by kernel_rfl) (by kernel_rfl) (fun _ _ _ h => h) (Or.inl ⟨by rfl, ?h37⟩) hHeld ?r37
            case h37 => (intro wz hz; (try dsimp only at hz); obtain ⟨⟨c0, c1, c2, c3, c4, c5, c6, c7, c8, c9⟩, ⟨e0, e1, e2, e3, e4, e5, e6, e7⟩⟩ := hz; go_simp; try (with_reducible rfl))
            simp only [Act.put, List.setIfInBounds_toArray, List.set_cons_zero, List.set_cons_succ]
            refine wpAnyH_done (by kernel_rfl) ?_ _
            refine NoPanic.normal ?_
            dsimp only
            obtain ⟨AF, HFB, GF0⟩ := set10 (.int .i64 0) (.int .i64 0) (.bool false) (.int .i64 0) (.int .i64 0) (.int .i64 0) (.int .i64 0) (.string ⟨#[]⟩) (.slice none 0 0) (.slice none 0 0) (.int .i64 d.id) (.int .i64 d.st) (.bool d.bu) (.int .i64 d.rc) (.int .i64 d.rs) (.int .i64 d.rk) (.int .i64 d.rl) (.string d.rn) (.slice a1 d.re.length k1) (.slice a2 d.ac.length k2) zq
            have hWc := gm.size
            refine ⟨_, ?_, ?_, ?_, ?_, ?_, ?_, ?_, ?_, ?_, ?_, w22.heap.size, a1, k1, a2, k2, rfl, ⟨AF, (Nat.le_refl _)⟩, (ho.kept (fun g hg _ => HFB g (by omega))).mono hWc, GF0 go (Nat.le_refl _)⟩
            · simp only [putAll, Act.put, List.setIfInBounds_toArray, List.set_cons_zero, List.set_cons_succ]
              exact rfl
        · rintro ts u27 ⟨s1, s2, s3, s4, s5, s6, s7, s8, s9, p16, z1, y1, z2, y2, rfl, ⟨hp16, _⟩, hm16, hb16⟩
          simp only [putAll, Act.put, List.setIfInBounds_toArray, List.set_cons_zero, List.set_cons_succ]
          obtain ⟨_, _, bb8⟩ := H22.out _ hb16
          obtain ⟨q8, h8, _⟩ := H8.out _ bb8
          have H27 : Hid (Below w22.heap.size w22 u27) := hb16
          have f0 := (Rg.blk_cell hp16 0 (x := .int .i64 d.id) rfl).1
          have f1 := (Rg.blk_cell hp16 1 (x := .int .i64 d.st) rfl).1
          have f2 := (Rg.blk_cell hp16 2 (x := .bool d.bu) rfl).1
          have f3 := (Rg.blk_cell hp16 3 (x := .int .i64 d.rc) rfl).1
          have f4 := (Rg.blk_cell hp16 4 (x := .int .i64 d.rs) rfl).1
          have f5 := (Rg.blk_cell hp16 5 (x := .int .i64 d.rk) rfl).1
          have f6 := (Rg.blk_cell hp16 6 (x := .int .i64 d.rl) rfl).1
          have f7 := (Rg.blk_cell hp16 7 (x := .string d.rn) rfl).1
          have f8 := (Rg.blk_cell hp16 8 (x := .slice z1 d.re.length y1) rfl).1
          have f9 := (Rg.blk_cell hp16 9 (x := .slice z2 d.ac.length y2) rfl).1
          have c0 := (Rg.blk_cell q8 0 (x := .int .i64 d.id) rfl).1
          have c1 := (Rg.blk_cell q8 1 (x := .int .i64 d.st) rfl).1
          have c2 := (Rg.blk_cell q8 2 (x := .bool d.bu) rfl).1
          have c3 := (Rg.blk_cell q8 3 (x := .int .i64 d.rc) rfl).1
          have c4 := (Rg.blk_cell q8 4 (x := .int .i64 d.rs) rfl).1
          have c5 := (Rg.blk_cell q8 5 (x := .int .i64 d.rk) rfl).1
          have c6 := (Rg.blk_cell q8 6 (x := .int .i64 d.rl) rfl).1
          have c7 := (Rg.blk_cell q8 7 (x := .string d.rn) rfl).1
          have c8 := (Rg.blk_cell q8 8 (x := .slice a1 d.re.length k1) rfl).1
          have c9 := (Rg.blk_cell q8 9 (x := .slice a2 d.ac.length k2) rfl).1
          have HK := HEQ.out u27 _ _ _ _ _ _ _ _ hm16.has h8
          clear q8 h8 bb8 hp16 hm16 hb16
          go_wp2_with fail
          refine HK.mono ?_
          rintro e w28 ⟨rfl, b28⟩
          have H28 : Hid (Below w22.heap.size w22 w28) := H27.out.trans (b28.mono H27.out.size)
          clear HK b28 H27 c0 c1 c2 c3 c4 c5 c6 c7 c8 c9 f0 f1 f2 f3 f4 f5 f6 f7 f8 f9
          obtain ⟨q11, hh, _⟩ := H22.out _ H28.out
          have g0 := (Rg.blk_cell q11 0 (x := .int .i64 d.id) rfl).1
          have g1 := (Rg.blk_cell q11 1 (x := .int .i64 d.st) rfl).1
          have g2 := (Rg.blk_cell q11 2 (x := .bool d.bu) rfl).1
          have g3 := (Rg.blk_cell q11 3 (x := .int .i64 d.rc) rfl).1
          have g4 := (Rg.blk_cell q11 4 (x := .int .i64 d.rs) rfl).1
          have g5 := (Rg.blk_cell q11 5 (x := .int .i64 d.rk) rfl).1
          have g6 := (Rg.blk_cell q11 6 (x := .int .i64 d.rl) rfl).1
          have g7 := (Rg.blk_cell q11 7 (x := .string d.rn) rfl).1
          have g8 := (Rg.blk_cell q11 8 (x := .slice b1 d.re.length l1) rfl).1
          have g9 := (Rg.blk_cell q11 9 (x := .slice b2 d.ac.length l2) rfl).1
          have HK := HHO.out w28 _ _ _ _ hh
          clear q11 hh
          go_wp2_with fail
          refine HK.mono ?_
          rintro e w31 ⟨rfl, b31⟩
          have G31 : Hid (Below w.heap.size w w31) := (HL.out _ (H8.out _ (H22.out _ (H28.out.trans (b31.mono H28.out.size))).2.2).2.2).2
          clear HK b31 g0 g1 g2 g3 g4 g5 g6 g7 g8 g9
          go_wp2_with fail
          go_ret
          exact ⟨rfl, G31.out⟩

set_option maxRecDepth 100000 in
theorem lifted (os : Os) (started : os.Started) (H : Type) (enc : TypeId × Value → H) :
    ReturnsInHanded {} Tryz.checked os 3 .any (fun w args => (Rows.fnExactClientTakeSpec.pre enc Tryz.prog Tryz.f3 [] false w args ∧ laidMetH Tryz.prog Rows.fnExactClientTakeRow.laid w) ∧ sizedMet enc Tryz.prog Tryz.f3 (OpenSpec.ofChange Rows.fnExactClientTakeSpec) false w args)
      (Rows.fnExactClientTakeSpec.post enc Tryz.prog Tryz.f3 false true false false) := by
  refine returnsInHanded_of_change_and (C := Tryz.checked) (X := fun w _ => laidMetH Tryz.prog Rows.fnExactClientTakeRow.laid w) (fun _ _ _ hh h => h.of_heap hh) own started (by kernel_rfl) Tryz.func3
    (ChangeSpec.witness_shaped (enc := enc) (C := Tryz.checked) (os := os) (X := fun w _ => laidMetH Tryz.prog Rows.fnExactClientTakeRow.laid w) false (World.doorLaid Tryz.prog 400 os) #[.int .i64 0, .agg #[.int .i64 0, .int .i64 0, .bool false, .int .i64 0, .int .i64 0, .int .i64 0, .int .i64 0, .string ByteArray.empty, .slice none 0 0, .slice none 0 0], .agg #[.int .i64 0, .int .i64 0, .int .i64 0, .int .i64 0, .int .i64 0, .int .i64 0, .int .i64 0, .string ByteArray.empty]] 8 rfl (World.shaped_of_RefB (by kernel_rfl) (by kernel_rfl)) (by kernel_rfl) (by kernel_rfl) (by kernel_rfl) (door_met os _)) ?_
  intro W base args ds gs before hval0 hW _ _ hL _
  have hval : ∀ (j : Nat) t v, Tryz.f3.params[j]? = some t → args[j]? = some v → Value.okWide Tryz.prog W .any base t v := hval0
  have hW' := hW
  obtain ⟨p, q, hA0, hV0, rfl, hfz, hnd⟩ := hW
  have hA : DataW.TrodAll enc Tryz.prog W 0 (fun _ => true) true Tryz.f3.params.toList args.toList ds p := hA0
  have hV : DataW.TrodVars enc Tryz.prog W (fun _ => true) ["loop.example/g00292/impl.roundWords"] gs q := hV0
  rw [Tryz.params3] at hA hval
  obtain ⟨v0, vs0, d0, ds0, p0, q0, hargs, rfl, rfl, h0, r0⟩ := trodAll_cons hA
  obtain ⟨v1, vs1, d1, ds1, p1, q1, rfl, rfl, rfl, h1, r1⟩ := trodAll_cons r0
  obtain ⟨v2, vs2, d2, ds2, p2, q2, rfl, rfl, rfl, h2, r2⟩ := trodAll_cons r1
  obtain ⟨rfl, rfl, rfl⟩ := trodAll_nil r2
  obtain rfl : args = #[v0, v1, v2] := by cases args; simp_all
  obtain ⟨_, _, _, _, dv, _, rfl, _⟩ := trodVars_one hV
  have k00 := h0
  have lt0 : ∀ x ∈ p0, x.block < W.heap.size := by obtain ⟨m, hm⟩ := k00; exact DataW.trod_lt m _ _ _ hm
  obtain ⟨i0, rfl, rfl, rfl, z0⟩ := open_int Tryz.underlying3 (hval 0 3 v0 rfl rfl) h0
  have k10 := h1
  have lt1 : ∀ x ∈ p1, x.block < W.heap.size := by obtain ⟨m, hm⟩ := k10; exact DataW.trod_lt m _ _ _ hm
  obtain ⟨c1, vr1, va1, rfl, w1, m1⟩ := Op.open_client (hval 1 27 v1 rfl rfl) h1
  have k20 := h2
  have lt2 : ∀ x ∈ p2, x.block < W.heap.size := by obtain ⟨m, hm⟩ := k20; exact DataW.trod_lt m _ _ _ hm
  obtain ⟨x2, rfl, m2⟩ := Op.open_reply (hval 2 31 v2 rfl rfl) h2
  clear hA0 hval0 hV0
  have hT := Hl.tab_of hL
  refine (walk i0 z0 c1 vr1 va1 W w1 m1 x2 m2 hT.1 hT.2).mono fun e W' ⟨he, bel⟩ => ?_
  subst he
  exact ⟨_, rfl, _, _, _, [], _, q, hW', trodAll_mk1 (shut_bool Tryz.underlying4 _), (trodAll_cons_mk (Below.trod laidOut (by kernel_rfl) (of_decide_eq_true (by kernel_rfl)) k00 bel lt0) (trodAll_cons_mk (Below.trod laidOut (by kernel_rfl) (of_decide_eq_true (by kernel_rfl)) k10 bel lt1) (trodAll_cons_mk (Below.trod laidOut (by kernel_rfl) (of_decide_eq_true (by kernel_rfl)) k20 bel lt2) trodAll_mk0))), Below.trodVars laidOut bel rowed hV, bel.frame _, fun h => by cases h⟩

theorem said : Rows.FnExactClientTakeSaid :=
  OpenClaim.holds_of_wide 3 Tryz.f3 rfl rfl rfl rfl rfl rfl rfl ⟨rfl, rfl, rfl, rfl, rfl⟩ rfl rfl rfl rfl rfl (by kernel_rfl) Tryz.func3 (by kernel_rfl)
    (of_decide_eq_true (by kernel_rfl)) (by unfold Func.isWrapper; first | (rw [if_pos (by decide +kernel)]; kernel_rfl) | (rw [if_neg (by decide +kernel)]; exact ⟨rfl, rfl⟩))
    (fun os started H enc _ => lifted os started H enc)

/-- No parameter wants a stand-in; the program's own looks are off. -/
theorem plain (f : FuncId) (fn : Func) (hf : Tryz.pinned.checked.prog.funcNamed "loop.example/g00292/laws.FnExactClientTake" = some f) (hfn : Tryz.pinned.checked.prog.funcs[f]? = some fn) :
    false = Tryz.pinned.checked.prog.looks [] ∧ ∀ (j : Nat) t, fn.params[j]? = some t → Tryz.pinned.checked.prog.wantsStandIn t = false := by
  obtain rfl : f = 3 := Option.some.inj ((show Tryz.prog.funcNamed "loop.example/g00292/laws.FnExactClientTake" = some 3 by kernel_rfl).symm.trans hf) |>.symm
  obtain rfl : fn = Tryz.f3 := (Option.some.inj (Tryz.func3.symm.trans hfn)).symm
  refine ⟨by kernel_rfl, fun j t ht => ?_⟩
  rw [Tryz.params3] at ht
  have hm := Array.mem_of_getElem? ht
  have hl : t ∈ [3, 27, 31] := by simpa using hm
  have hall : ∀ x ∈ [3, 27, 31], Tryz.prog.wantsStandIn x = false := by
    intro x hx
    simp only [List.mem_cons, List.not_mem_nil, or_false] at hx
    rcases hx with rfl | rfl | rfl <;> kernel_rfl
  exact hall t hl
end Go.Proofs.YtmbnfpifganeeaaGreatDoor.fnExactClientTake
namespace Go.Proofs.YtmbnfpifganeeaaGreatDoor
/-- THE STATEMENT: the card. -/
theorem fnExactClientTake_holds : Rows.FnExactClientTakeCardSaid :=
  Claim7.holds_tied_plain_at .later [] _ _ _ _ fnExactClientTake.said (fun _ h => by cases h) (by kernel_rfl) (fun _ h => by cases h) fnExactClientTake_row_tie rfl ⟨rfl, rfl⟩ (by kernel_rfl) rfl fnExactClientTake.plain (by kernel_rfl)
end Go.Proofs.YtmbnfpifganeeaaGreatDoor
